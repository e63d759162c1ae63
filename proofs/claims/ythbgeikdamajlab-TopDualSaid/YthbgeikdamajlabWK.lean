/- What the run of the shed's closed example asks of the functions: which only look. -/
import Derived.Test.YthbgeikdamajlabEV16
import Derived.Test.YthbgeikdamajlabProg
namespace Go.Proofs.Ythbgeikdamajlab
open Go.RowKit

def wkX (f : Nat) : Bool := false
theorem wkX_ok : Ev.ExtOk Try.prog wkX := Ev.ExtOk.none _
def wkQ : List Nat := [12, 19, 23, 26, 27, 28, 31, 33, 34, 35, 38, 41, 45, 47, 49, 51, 60, 63, 64, 68]
theorem wkQ_ok : wkQ.all (Ev.quietFn Try.prog (Ev.listQ wkQ)) = true := by kernel_rfl
end Go.Proofs.Ythbgeikdamajlab
