/- What the run of press's closed example asks of the functions: which only look. -/
import Derived.Test.YthbgeikdamajlabEV16
import Derived.Test.YthbgeikdamajlabProg
namespace Go.Proofs.Ythbgeikdamajlab
open Go.RowKit

def paX (f : Nat) : Bool := false
theorem paX_ok : Ev.ExtOk Try.prog paX := Ev.ExtOk.none _
def paQ : List Nat := [23, 27, 45, 38, 49, 47]
theorem paQ_ok : paQ.all (Ev.quietFn Try.prog (Ev.listQ paQ)) = true := by kernel_rfl
end Go.Proofs.Ythbgeikdamajlab
