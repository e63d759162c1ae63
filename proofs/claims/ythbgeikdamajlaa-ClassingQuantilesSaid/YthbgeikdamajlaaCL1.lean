/- What the run of classing's closed example asks of the functions: which compares bytes, which only look. -/
import Derived.Test.YthbgeikdamajlaaEV16
import Derived.Test.YthbgeikdamajlaaProg
namespace Go.Proofs.Ythbgeikdamajlaa
open Go.RowKit

def clX (f : Nat) : Bool := Nat.beq f 161
theorem clX_ok : Ev.ExtOk Try.prog clX := by
  intro g h
  have := Nat.eq_of_beq_eq_true h
  subst this
  exact ⟨_, Try.func161, by kernel_rfl, by kernel_rfl, by kernel_rfl, by kernel_rfl⟩
def clQ : List Nat := [112, 114, 115, 117, 118, 128, 144, 146, 147, 149, 150, 164, 166, 167, 175, 176]
theorem clQ_ok : clQ.all (Ev.quietFn Try.prog (Ev.listQ clQ)) = true := by kernel_rfl
end Go.Proofs.Ythbgeikdamajlaa
