/- The reference's pairs. -/
import Derived.Test.YtblaakjldpcjlaaDoorV3
namespace Go.Proofs.YtblaakjldpcjlaaDoor
open Go.RowKit
set_option linter.unusedVariables false
set_option linter.unusedSimpArgs false

theorem pair_parts {a b : Int} (hb : 0 ≤ b) (ha : 0 ≤ a) : a / 67108864 * b + a % 67108864 * b / 67108864 = a * b / 67108864 ∧ a % 67108864 * b % 67108864 = a * b % 67108864 := by
  have e := Int.emod_add_mul_ediv a 67108864
  have e2 : a * b = a % 67108864 * b + 67108864 * (a / 67108864 * b) := by
    conv => lhs; rw [← e]
    rw [Int.add_mul, Int.mul_assoc]
  generalize a % 67108864 * b = y at *
  generalize a / 67108864 * b = z at *
  rw [e2]
  omega
theorem pair_lt {x y : Int} : (x / 67108864 < y / 67108864 ∨ (x / 67108864 = y / 67108864 ∧ x % 67108864 < y % 67108864)) ↔ x < y := by omega

set_option maxRecDepth 100000 in
set_option maxHeartbeats 1000000 in
theorem product_any (a b : Int) (a0 : 0 ≤ a) (a1 : a ≤ 4503599627370496) (b0 : 0 ≤ b) (b1 : b ≤ 2147483648) (w : World) :
    Calls Tryd.prog 58 #[.int .i64 a, .int .i64 b] w fun e w' => e = .returned (.agg #[.int .i64 (a * b / 67108864), .int .i64 (a * b % 67108864)]) ∧ Below w.heap.size w w' := by
  obtain ⟨p1, p2⟩ := pair_parts (a := a) b0 a0
  have r0 : 0 ≤ a % 67108864 := by omega
  have r1 : a % 67108864 < 67108864 := by omega
  have q0 : 0 ≤ a / 67108864 := by omega
  have q1 : a / 67108864 ≤ 67108864 := by omega
  have u0 : 0 ≤ a % 67108864 * b := Int.mul_nonneg r0 b0
  have u1 : a % 67108864 * b ≤ 67108864 * 2147483648 := Int.mul_le_mul (by omega) b1 b0 (by omega)
  have v0 : 0 ≤ a / 67108864 * b := Int.mul_nonneg q0 b0
  have v1 : a / 67108864 * b ≤ 67108864 * 2147483648 := Int.mul_le_mul (by omega) b1 b0 (by omega)
  have P1 := Lib.hid p1
  have P2 := Lib.hid p2
  clear p1 p2
  generalize a * b / 67108864 = H at *
  generalize a * b % 67108864 = L at *
  go_enter Tryd.func58, Tryd.ntmps58
  go_wp2_with fail
  rw [← P1.out, ← P2.out]
  exact bodyPost_ret (v := .agg #[.int .i64 (a / 67108864 * b + a % 67108864 * b / 67108864), .int .i64 (a % 67108864 * b % 67108864)]) (by simp [results, Tryd.results58, go_sem]) rfl ⟨rfl, by go_grown⟩

set_option maxRecDepth 100000 in
set_option maxHeartbeats 1000000 in
theorem pless_any (h1 l1 h2 l2 : Int) (b : Bool) (hb : b = true ↔ (h1 < h2 ∨ (h1 = h2 ∧ l1 < l2))) (w : World) :
    Calls Tryd.prog 57 #[.agg #[.int .i64 h1, .int .i64 l1], .agg #[.int .i64 h2, .int .i64 l2]] w fun e w' => e = .returned (.bool b) ∧ Below w.heap.size w w' := by
  rcases (by omega : h1 < h2 ∨ (¬ h1 < h2 ∧ h1 = h2) ∨ (¬ h1 < h2 ∧ h1 ≠ h2)) with c | ⟨c, c'⟩ | ⟨c, c'⟩
  · obtain rfl : b = true := hb.2 (.inl c)
    clear hb
    go_enter Tryd.func57, Tryd.ntmps57
    go_wp2_with fail
    go_ret
    exact ⟨rfl, by go_grown⟩
  · subst c'
    by_cases d : l1 < l2
    · obtain rfl : b = true := hb.2 (.inr ⟨rfl, d⟩)
      clear hb c
      go_enter Tryd.func57, Tryd.ntmps57
      go_wp2_with fail
      go_ret
      exact ⟨rfl, by go_grown⟩
    · obtain rfl : b = false := by
        cases b
        · rfl
        · exact absurd (hb.1 rfl) (by omega)
      clear hb c
      go_enter Tryd.func57, Tryd.ntmps57
      go_wp2_with fail
      go_ret
      exact ⟨rfl, by go_grown⟩
  · obtain rfl : b = false := by
      cases b
      · rfl
      · exact absurd (hb.1 rfl) (by omega)
    have d : (h1 == h2) = false := by simpa using c'
    clear hb c'
    go_enter Tryd.func57, Tryd.ntmps57
    go_wp2_with fail
    go_ret
    exact ⟨rfl, by go_grown⟩
end Go.Proofs.YtblaakjldpcjlaaDoor
