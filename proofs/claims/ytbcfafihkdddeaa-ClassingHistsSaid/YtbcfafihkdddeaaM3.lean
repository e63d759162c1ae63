/- Knuth's division of two digits to the base 2^32: plain facts. -/
import Derived.Test.YtbcfafihkdddeaaB1
namespace Go.Proofs.Ytbcfafihkdddeaa
open Go.RowKit
set_option linter.unusedVariables false
set_option linter.unusedSimpArgs false

/-- A divisor of two digits, its high one at least half the base; a numerator of three digits below the divisor times the base. -/
structure Dig (Y y1 y0 u c : Int) : Prop where
  hY : Y = y1 * 4294967296 + y0
  a1 : 2147483648 ≤ y1
  a2 : y1 < 4294967296
  b1 : 0 ≤ y0
  b2 : y0 < 4294967296
  u1 : 0 ≤ u
  u2 : u < Y
  c1 : 0 ≤ c
  c2 : c < 4294967296

theorem Dig.quo_nonneg {Y y1 y0 u c : Int} (h : Dig Y y1 y0 u c) : 0 ≤ (u * 4294967296 + c) / Y := Int.ediv_nonneg (by have := h.u1; have := h.c1; omega) (by have := h.u1; have := h.u2; omega)
theorem Dig.quo_lt {Y y1 y0 u c : Int} (h : Dig Y y1 y0 u c) : (u * 4294967296 + c) / Y < 4294967296 := by
  obtain ⟨hY, a1, a2, b1, b2, u1, u2, c1, c2⟩ := h
  rw [Int.ediv_lt_iff_lt_mul (by omega)]
  omega
/-- What is left when q times the divisor is taken away. -/
theorem Dig.left {Y y1 y0 u c : Int} (h : Dig Y y1 y0 u c) {q r : Int} (e : q * y1 + r = u) : u * 4294967296 + c - q * Y = r * 4294967296 + c - q * y0 := by
  have e1 : q * Y = q * y1 * 4294967296 + q * y0 := by rw [h.hY, Int.mul_add, Int.mul_assoc]
  omega
/-- The first guess is not too small, and too large by at most what the loop mends. -/
theorem Dig.guess {Y y1 y0 u c : Int} (h : Dig Y y1 y0 u c) : (u * 4294967296 + c) / Y ≤ u / y1 ∧ u / y1 ≤ 4294967297 ∧ (u / y1) * y1 + u % y1 = u ∧ 0 ≤ u % y1 ∧ u % y1 < 4294967296 ∧ 0 ≤ u / y1 := by
  have hq := h.quo_nonneg
  obtain ⟨hY, a1, a2, b1, b2, u1, u2, c1, c2⟩ := h
  refine ⟨?_, ?_, by rw [Int.mul_comm]; exact Int.mul_ediv_add_emod _ _, Int.emod_nonneg _ (by omega), by have := Int.emod_lt_of_pos u (show 0 < y1 by omega); omega, Int.ediv_nonneg u1 (by omega)⟩
  · rw [Int.le_ediv_iff_mul_le (by omega)]
    have k : (u * 4294967296 + c) / Y * Y ≤ u * 4294967296 + c := Int.ediv_mul_le _ (by omega)
    generalize (u * 4294967296 + c) / Y = q at *
    have e1 : q * Y = q * y1 * 4294967296 + q * y0 := by rw [hY, Int.mul_add, Int.mul_assoc]
    have e2 : 0 ≤ q * y0 := Int.mul_nonneg hq b1
    omega
  · have : u / y1 < 4294967298 := by rw [Int.ediv_lt_iff_lt_mul (by omega)]; omega
    omega
/-- The loop's test says that q is too large. -/
theorem Dig.over {Y y1 y0 u c : Int} (h : Dig Y y1 y0 u c) {q r : Int} (e : q * y1 + r = u) (t : 4294967296 ≤ q ∨ 4294967296 * r + c < q * y0) : (u * 4294967296 + c) / Y < q := by
  rcases t with t | t
  · have := h.quo_lt; omega
  · have l := h.left e
    rw [Int.ediv_lt_iff_lt_mul (by have := h.u1; have := h.u2; omega)]
    omega
/-- The two ways out: q is the quotient. -/
theorem Dig.done {Y y1 y0 u c : Int} (h : Dig Y y1 y0 u c) {q r : Int} (e : q * y1 + r = u) (hq : (u * 4294967296 + c) / Y ≤ q) (t : q * y0 ≤ 4294967296 * r + c ∨ (4294967296 ≤ r ∧ q ≤ 4294967296 ∧ 0 ≤ q)) : q = (u * 4294967296 + c) / Y := by
  have l := h.left e
  obtain ⟨hY, a1, a2, b1, b2, u1, u2, c1, c2⟩ := h
  have : q ≤ (u * 4294967296 + c) / Y := by
    rw [Int.le_ediv_iff_mul_le (by omega)]
    rcases t with t | ⟨t1, t2, t3⟩
    · omega
    · have k : q * y0 ≤ 4294967296 * 4294967295 := by
        have k1 : q * y0 ≤ 4294967296 * y0 := Int.mul_le_mul_of_nonneg_right t2 b1
        omega
      omega
  omega
theorem Dig.step {y1 u q r : Int} (e : q * y1 + r = u) : (q - 1) * y1 + (r + y1) = u := by
  have : (q - 1) * y1 = q * y1 - y1 := by rw [Int.sub_mul, Int.one_mul]
  omega
end Go.Proofs.Ytbcfafihkdddeaa
