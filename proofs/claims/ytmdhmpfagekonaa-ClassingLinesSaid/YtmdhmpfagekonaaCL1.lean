/- What the run of classing's closed example asks of the functions: which compares bytes, which only look. -/
import Derived.Test.YtmdhmpfagekonaaEV16
import Derived.Test.YtmdhmpfagekonaaProg
namespace Go.Proofs.Ytmdhmpfagekonaa
open Go.RowKit

def clX (f : Nat) : Bool := Nat.beq f 56
theorem clX_ok : Ev.ExtOk Try.prog clX := by
  intro g h
  have := Nat.eq_of_beq_eq_true h
  subst this
  exact ⟨_, Try.func56, by kernel_rfl, by kernel_rfl, by kernel_rfl, by kernel_rfl⟩
def clQ : List Nat := [35, 51, 52, 54, 62, 64, 65, 72, 60, 69, 70, 68, 73]
theorem clQ_ok : clQ.all (Ev.quietFn Try.prog (Ev.listQ clQ)) = true := by kernel_rfl
end Go.Proofs.Ytmdhmpfagekonaa
