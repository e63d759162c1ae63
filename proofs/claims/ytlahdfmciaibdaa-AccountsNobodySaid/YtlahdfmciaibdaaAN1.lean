/- The law AccountsNobody, run at an act of which nothing is known. -/
import Derived.Test.YtlahdfmciaibdaaABA
namespace Go.Proofs.Ytlahdfmciaibdaa
open Go.RowKit
set_option linter.unusedVariables false

def aaK (f : Nat) : Bool := Nat.beq f 15
theorem aaK_ok : Ev.KnownOk Try.prog aaK := by
  intro g h
  have := Nat.eq_of_beq_eq_true h
  subst this
  exact ⟨⟨_, _, Try.func15, by kernel_rfl, rfl⟩, alive_any⟩
/-- A value of which nothing is known. -/
def hole : Value := .complex .f64 0 0
theorem nobody_run0 : Ev.allTrue (Ev.callOf Try.prog aaX (Ev.evM Try.prog aaX (Ev.listQ aaQ) aaK [] 500) 7 [.agg #[hole, hole, hole, hole, hole], .bool false] .nil 0) = true := by kernel_rfl
theorem nobody_run1 : Ev.allTrue (Ev.callOf Try.prog aaX (Ev.evM Try.prog aaX (Ev.listQ aaQ) aaK [] 500) 7 [.agg #[hole, hole, hole, hole, hole], .bool true] .nil 0) = true := by kernel_rfl
end Go.Proofs.Ytlahdfmciaibdaa
