/- Rounding by the floor and what is left over is rounding by size and sign. -/
import Derived.Test.YtblaakjldpcjlaaDoorM6
import Derived.Test.YtblaakjldpcjlaaDoorB2
namespace Go.Proofs.YtblaakjldpcjlaaDoor
open Go.RowKit
set_option linter.unusedVariables false
set_option linter.unusedSimpArgs false

/-- Is the next whole number taken? -/
def rzU (n q r d m : Int) : Bool := decide (m = 1) || (decide (m = 2) && decide (n < 0)) || (decide (m = 3) && decide (d ≤ 2 * r)) || (decide (m = 4) && (decide (d < 2 * r) || (decide (2 * r = d) && decide (q % 2 ≠ 0))))
/-- n/d rounded, of a d above 0. -/
def rz (n d m : Int) : Int := n / d + (if n % d = 0 then 0 else bif rzU n (n / d) (n % d) d m then 1 else 0)
theorem rz_exact {n d m : Int} (h : n % d = 0) : rz n d m = n / d := by unfold rz; rw [if_pos h]; omega
theorem rz_up {n d m : Int} (h : n % d ≠ 0) (u : rzU n (n / d) (n % d) d m = true) : rz n d m = n / d + 1 := by unfold rz; rw [if_neg h, u]; rfl
theorem rz_down {n d m : Int} (h : n % d ≠ 0) (u : rzU n (n / d) (n % d) d m = false) : rz n d m = n / d := by unfold rz; rw [if_neg h, u]; exact Int.add_zero _

theorem rz_rnd (neg : Bool) (p d m : Int) (hp : 0 ≤ p) (hd : 1 ≤ d) (hm1 : 0 ≤ m) (hm2 : m ≤ 4) :
    rz (bif neg then -p else p) d m = bif neg then -(rndQ neg p d m) else rndQ neg p d m := by
  have r0 : 0 ≤ p % d := Int.emod_nonneg _ (by omega)
  have r1 : p % d < d := Int.emod_lt_of_pos _ (by omega)
  have q0 : 0 ≤ p / d := Int.ediv_nonneg hp (by omega)
  have e := Int.mul_ediv_add_emod p d
  have hpq : p = 0 → p / d = 0 := by intro h; rw [h]; exact Int.zero_ediv d
  have pr : p % d ≠ 0 → 0 < p := by
    intro hr
    rcases (by omega : p = 0 ∨ 0 < p) with h | h
    · rw [h] at hr; simp at hr
    · exact h
  cases neg
  · have hn : ¬ p < 0 := by omega
    simp only [cond_false]
    unfold rz rndQ rzU upB
    generalize p / d = q at *
    generalize p % d = r at *
    clear e
    rcases (by omega : m = 0 ∨ m = 1 ∨ m = 2 ∨ m = 3 ∨ m = 4) with rfl | rfl | rfl | rfl | rfl
    all_goals simp [cond_eq_ite, Bool.or_eq_true, Bool.and_eq_true, hn]
    all_goals (repeat' split)
    all_goals omega
  · simp only [cond_true]
    by_cases hr : p % d = 0
    · have k := div_end (A := -p) (B := d) (q := -(p / d)) (r := 0) (by rw [Int.mul_neg]; omega) (by omega) (by omega)
      unfold rz rndQ upB
      rw [← k.1, ← k.2, hr]
      generalize p / d = q at *
      clear e k
      rcases (by omega : m = 0 ∨ m = 1 ∨ m = 2 ∨ m = 3 ∨ m = 4) with rfl | rfl | rfl | rfl | rfl
      all_goals simp [cond_eq_ite, Bool.or_eq_true, Bool.and_eq_true]
      all_goals omega
    · have k := div_end (A := -p) (B := d) (q := -(p / d) - 1) (r := d - p % d) (by rw [Int.mul_sub, Int.mul_neg]; omega) (by omega) (by omega)
      unfold rz rndQ rzU upB
      rw [← k.1, ← k.2]
      have pp := pr hr
      generalize p / d = q at *
      generalize p % d = r at *
      clear e k pr
      have n1 : -p < 0 := by omega
      have n2 : ¬ d - r = 0 := by omega
      rcases (by omega : m = 0 ∨ m = 1 ∨ m = 2 ∨ m = 3 ∨ m = 4) with rfl | rfl | rfl | rfl | rfl
      all_goals simp [cond_eq_ite, Bool.or_eq_true, Bool.and_eq_true, n1, n2, pp]
      all_goals (repeat' split)
      all_goals omega
end Go.Proofs.YtblaakjldpcjlaaDoor
