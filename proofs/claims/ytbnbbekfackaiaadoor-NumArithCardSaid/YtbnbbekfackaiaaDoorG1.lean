/- The four operations for every two operands, by what the results are. -/
import Derived.Test.YtbnbbekfackaiaaDoorB7
namespace Go.Proofs.YtbnbbekfackaiaaDoor
open Go.RowKit
set_option linter.unusedVariables false
set_option linter.unusedSimpArgs false

/-- A result of an operation on two operands, which are both valid (v) or not. -/
def OpR (v : Bool) (n d V D E : Int) : Prop := (v = true ∧ IsFrac n d V D E) ∨ (v = false ∧ V = 0 ∧ D = 0 ∧ E = 2)

theorem and_false_cases {a b : Bool} (h : (a && b) = false) : a = false ∨ b = false := by cases a <;> cases b <;> simp_all

theorem Add_all (an ad bn bd : Int) (x1 : -9223372036854775808 ≤ an) (x2 : an ≤ 9223372036854775807) (x3 : -9223372036854775808 ≤ bn) (x4 : bn ≤ 9223372036854775807) (w : World) :
    Calls Tryd.prog 58 #[.agg #[.int .i64 an, .int .i64 ad], .agg #[.int .i64 bn, .int .i64 bd]] w (Res (OpR (vldB an ad && vldB bn bd) (an * bd + bn * ad) (ad * bd)) w) := by
  cases h : (vldB an ad && vldB bn bd)
  · exact (Add_bad an ad bn bd x1 x2 x3 x4 (and_false_cases h) w).mono fun _ _ ⟨a, b⟩ => ⟨0, 0, 2, Or.inr ⟨rfl, rfl, rfl, rfl⟩, a, b⟩
  · rw [Bool.and_eq_true] at h
    exact (Add_ok an ad bn bd h.1 h.2 w).mono fun _ _ ⟨V, D, E, r, a, b⟩ => ⟨V, D, E, Or.inl ⟨rfl, r⟩, a, b⟩
theorem Sub_all (an ad bn bd : Int) (x1 : -9223372036854775808 ≤ an) (x2 : an ≤ 9223372036854775807) (x3 : -9223372036854775808 ≤ bn) (x4 : bn ≤ 9223372036854775807) (w : World) :
    Calls Tryd.prog 59 #[.agg #[.int .i64 an, .int .i64 ad], .agg #[.int .i64 bn, .int .i64 bd]] w (Res (OpR (vldB an ad && vldB bn bd) (an * bd + -bn * ad) (ad * bd)) w) := by
  cases hb : vldB bn bd
  · rw [Bool.and_false]
    exact (Sub_bad1 an ad bn bd x3 x4 hb w).mono fun _ _ ⟨a, b⟩ => ⟨0, 0, 2, Or.inr ⟨rfl, rfl, rfl, rfl⟩, a, b⟩
  · cases ha : vldB an ad
    · exact (Sub_bad2 an ad bn bd x1 x2 hb ha w).mono fun _ _ ⟨a, b⟩ => ⟨0, 0, 2, Or.inr ⟨rfl, rfl, rfl, rfl⟩, a, b⟩
    · exact (Sub_ok an ad bn bd ha hb w).mono fun _ _ ⟨V, D, E, r, a, b⟩ => ⟨V, D, E, Or.inl ⟨rfl, r⟩, a, b⟩
theorem Mul_all (an ad bn bd : Int) (x1 : -9223372036854775808 ≤ an) (x2 : an ≤ 9223372036854775807) (x3 : -9223372036854775808 ≤ bn) (x4 : bn ≤ 9223372036854775807) (w : World) :
    Calls Tryd.prog 60 #[.agg #[.int .i64 an, .int .i64 ad], .agg #[.int .i64 bn, .int .i64 bd]] w (Res (OpR (vldB an ad && vldB bn bd) (an * bn) (ad * bd)) w) := by
  cases h : (vldB an ad && vldB bn bd)
  · exact (Mul_bad an ad bn bd x1 x2 x3 x4 (and_false_cases h) w).mono fun _ _ ⟨a, b⟩ => ⟨0, 0, 2, Or.inr ⟨rfl, rfl, rfl, rfl⟩, a, b⟩
  · rw [Bool.and_eq_true] at h
    exact (Mul_ok an ad bn bd h.1 h.2 w).mono fun _ _ ⟨V, D, E, r, a, b⟩ => ⟨V, D, E, Or.inl ⟨rfl, r⟩, a, b⟩
/-- Div: also by zero. -/
def DivR (v : Bool) (an ad bn bd V D E : Int) : Prop := (v = true ∧ bn ≠ 0 ∧ IsFrac (an * bd) (ad * bn) V D E) ∨ (v = true ∧ bn = 0 ∧ V = 0 ∧ D = 0 ∧ E = 5) ∨ (v = false ∧ V = 0 ∧ D = 0 ∧ E = 2)
theorem Div_all (an ad bn bd : Int) (x1 : -9223372036854775808 ≤ an) (x2 : an ≤ 9223372036854775807) (x3 : -9223372036854775808 ≤ bn) (x4 : bn ≤ 9223372036854775807) (w : World) :
    Calls Tryd.prog 61 #[.agg #[.int .i64 an, .int .i64 ad], .agg #[.int .i64 bn, .int .i64 bd]] w (Res (DivR (vldB an ad && vldB bn bd) an ad bn bd) w) := by
  cases h : (vldB an ad && vldB bn bd)
  · exact (Div_bad an ad bn bd x1 x2 x3 x4 (and_false_cases h) w).mono fun _ _ ⟨a, b⟩ => ⟨0, 0, 2, Or.inr (Or.inr ⟨rfl, rfl, rfl, rfl⟩), a, b⟩
  · rw [Bool.and_eq_true] at h
    by_cases h0 : bn = 0
    · subst h0
      exact (Div_zero an ad bd h.1 h.2 w).mono fun _ _ ⟨a, b⟩ => ⟨0, 0, 5, Or.inr (Or.inl ⟨rfl, rfl, rfl, rfl, rfl⟩), a, b⟩
    · exact (Div_ok an ad bn bd h.1 h.2 h0 w).mono fun _ _ ⟨V, D, E, r, a, b⟩ => ⟨V, D, E, Or.inl ⟨rfl, h0, r⟩, a, b⟩
end Go.Proofs.YtbnbbekfackaiaaDoor
