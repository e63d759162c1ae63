/- What the run of room's closed example asks of the functions: which only look. -/
import Derived.Test.YtaioaahacgfpcaaEV16
import Derived.Test.YtaioaahacgfpcaaProg
namespace Go.Proofs.Ytaioaahacgfpcaa
open Go.RowKit

def rmX (f : Nat) : Bool := false
theorem rmX_ok : Ev.ExtOk Try.prog rmX := Ev.ExtOk.none _
def rmQ : List Nat := [14, 23, 24, 27, 32, 33, 61, 62, 65, 69, 70, 71, 72, 73, 74, 75, 88, 91, 105, 111, 138]
theorem rmQ_ok : rmQ.all (Ev.quietFn Try.prog (Ev.listQ rmQ)) = true := by kernel_rfl
end Go.Proofs.Ytaioaahacgfpcaa
