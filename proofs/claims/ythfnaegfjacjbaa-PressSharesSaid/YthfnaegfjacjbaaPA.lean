/- What the run of press's closed example asks of the functions: which only look. -/
import Derived.Test.YthfnaegfjacjbaaEV16
import Derived.Test.YthfnaegfjacjbaaProg
namespace Go.Proofs.Ythfnaegfjacjbaa
open Go.RowKit

def paX (f : Nat) : Bool := false
theorem paX_ok : Ev.ExtOk Try.prog paX := Ev.ExtOk.none _
def paQ : List Nat := [19, 32, 33, 36, 44, 45, 50, 51, 52, 56, 58, 59, 61, 62, 65, 68, 69, 70, 71, 73, 75, 85, 88, 89, 93]
theorem paQ_ok : paQ.all (Ev.quietFn Try.prog (Ev.listQ paQ)) = true := by kernel_rfl
end Go.Proofs.Ythfnaegfjacjbaa
