/- RoomFull: what is known beside: the closed example. -/
import Derived.Test.YtaioaahacgfpcabRBA
namespace Go.Proofs.Ytaioaahacgfpcab
open Go.RowKit

def rmK (f : Nat) : Bool := Nat.beq f 7
theorem rmK_ok : Ev.KnownOk Try.prog rmK := by
  intro g h
  have := Nat.eq_of_beq_eq_true h
  subst this
  exact ⟨⟨_, _, Try.func7, by kernel_rfl, rfl⟩, alive_any⟩
end Go.Proofs.Ytaioaahacgfpcab
