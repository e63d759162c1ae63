/- What the runs of room's closed example and of RoomFull ask of the functions: which only look. -/
import Derived.Test.YtaioaahacgfpcabEV16
import Derived.Test.YtaioaahacgfpcabProg
namespace Go.Proofs.Ytaioaahacgfpcab
open Go.RowKit

def rmX (_ : Nat) : Bool := false
theorem rmX_ok : Ev.ExtOk Try.prog rmX := Ev.ExtOk.none _
def rmQ : List Nat := [6, 10, 16, 23, 25, 26, 27, 30, 31, 32, 33, 35, 39, 45, 50, 51, 55, 56, 65, 69, 74, 75]
theorem rmQ_ok : rmQ.all (Ev.quietFn Try.prog (Ev.listQ rmQ)) = true := by kernel_rfl
end Go.Proofs.Ytaioaahacgfpcab
