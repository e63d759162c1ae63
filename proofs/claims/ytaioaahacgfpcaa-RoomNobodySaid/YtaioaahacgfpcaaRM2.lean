/- The law RoomNobody, run at an act of which nothing is known. -/
import Derived.Test.YtaioaahacgfpcaaRAA
namespace Go.Proofs.Ytaioaahacgfpcaa
open Go.RowKit
set_option linter.unusedVariables false

def rmK (f : Nat) : Bool := Nat.beq f 15
theorem rmK_ok : Ev.KnownOk Try.prog rmK := by
  intro g h
  have := Nat.eq_of_beq_eq_true h
  subst this
  exact ⟨⟨_, _, Try.func15, by kernel_rfl, rfl⟩, alive_any⟩
/-- A value of which nothing is known. -/
def hole : Value := .complex .f64 0 0
def holes (n : Nat) : Value := .agg (Array.replicate n hole)
theorem nobody_run0 : Ev.allTrue (Ev.callOf Try.prog rmX (Ev.evM Try.prog rmX (Ev.listQ rmQ) rmK [] 500) 6 [.agg #[hole, hole, hole, hole, hole, hole, hole, hole, hole, hole, hole, hole, hole, hole, hole], .bool false] .nil 0) = true := by kernel_rfl
theorem nobody_run1 : Ev.allTrue (Ev.callOf Try.prog rmX (Ev.evM Try.prog rmX (Ev.listQ rmQ) rmK [] 500) 6 [.agg #[hole, hole, hole, hole, hole, hole, hole, hole, hole, hole, hole, hole, hole, hole, hole], .bool true] .nil 0) = true := by kernel_rfl
end Go.Proofs.Ytaioaahacgfpcaa
