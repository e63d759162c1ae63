/- What the run of classing's closed example asks of the functions: which compares bytes, which only look. -/
import Derived.Test.YtlfffobfcledcaaEV16
import Derived.Test.YtlfffobfcledcaaProg
namespace Go.Proofs.Ytlfffobfcledcaa
open Go.RowKit

def clX (f : Nat) : Bool := Nat.beq f 114
theorem clX_ok : Ev.ExtOk Try.prog clX := by
  intro g h
  have := Nat.eq_of_beq_eq_true h
  subst this
  exact ⟨_, Try.func114, by kernel_rfl, by kernel_rfl, by kernel_rfl, by kernel_rfl⟩
def clQ : List Nat := [11, 12, 31, 36, 55, 63, 66, 71, 72, 74, 80, 81, 86, 88, 95, 98, 100, 109, 112, 113, 117, 118, 119, 123, 127, 128]
theorem clQ_ok : clQ.all (Ev.quietFn Try.prog (Ev.listQ clQ)) = true := by kernel_rfl
end Go.Proofs.Ytlfffobfcledcaa
