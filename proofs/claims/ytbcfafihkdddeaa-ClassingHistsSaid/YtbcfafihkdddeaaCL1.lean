/- What the run of classing's closed example asks of the functions: which compares bytes, which only look. -/
import Derived.Test.YtbcfafihkdddeaaEV16
import Derived.Test.YtbcfafihkdddeaaProg
namespace Go.Proofs.Ytbcfafihkdddeaa
open Go.RowKit

def clX (f : Nat) : Bool := Nat.beq f 162
theorem clX_ok : Ev.ExtOk Try.prog clX := by
  intro g h
  have := Nat.eq_of_beq_eq_true h
  subst this
  exact ⟨_, Try.func162, by kernel_rfl, by kernel_rfl, by kernel_rfl, by kernel_rfl⟩
def clQ : List Nat := [125, 107, 108, 110, 119, 147, 149, 151, 152, 166, 167, 170, 168, 169, 183, 182]
theorem clQ_ok : clQ.all (Ev.quietFn Try.prog (Ev.listQ clQ)) = true := by kernel_rfl
end Go.Proofs.Ytbcfafihkdddeaa
