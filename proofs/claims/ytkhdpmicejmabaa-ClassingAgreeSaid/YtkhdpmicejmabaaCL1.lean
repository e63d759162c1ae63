/- What the run of classing's closed example asks of the functions: which compares bytes, which only look. -/
import Derived.Test.YtkhdpmicejmabaaEV16
import Derived.Test.YtkhdpmicejmabaaProg
namespace Go.Proofs.Ytkhdpmicejmabaa
open Go.RowKit

def clX (f : Nat) : Bool := Nat.beq f 66
theorem clX_ok : Ev.ExtOk Try.prog clX := by
  intro g h
  have := Nat.eq_of_beq_eq_true h
  subst this
  exact ⟨_, Try.func66, by kernel_rfl, by kernel_rfl, by kernel_rfl, by kernel_rfl⟩
def clQ : List Nat := [35, 42, 43, 45, 82, 59, 61, 63, 64, 80, 81, 70, 83, 84, 87, 93]
theorem clQ_ok : clQ.all (Ev.quietFn Try.prog (Ev.listQ clQ)) = true := by kernel_rfl
end Go.Proofs.Ytkhdpmicejmabaa
