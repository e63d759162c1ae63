/- What the run of press's closed example asks of the functions: which only look. -/
import Derived.Test.YthbgeikdamajlaaEV16
import Derived.Test.YthbgeikdamajlaaProg
namespace Go.Proofs.Ythbgeikdamajlaa
open Go.RowKit

def paX (f : Nat) : Bool := false
theorem paX_ok : Ev.ExtOk Try.prog paX := Ev.ExtOk.none _
def paQ : List Nat := [40, 63, 82, 102, 120, 131, 137]
theorem paQ_ok : paQ.all (Ev.quietFn Try.prog (Ev.listQ paQ)) = true := by kernel_rfl
end Go.Proofs.Ythbgeikdamajlaa
