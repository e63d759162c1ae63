/- Classing: rounding to even keeps the order. Plain facts. -/
import Derived.Test.YthbgeikdamajlaaHA2
namespace Go.Proofs.Ythbgeikdamajlaa
open Go.RowKit
set_option linter.unusedVariables false
set_option linter.unusedSimpArgs false

/-- The half-even rounding of p/c. -/
def hev (p c : Int) : Int := rndQ false p c 4
theorem hev_two (p c : Int) (hc : 0 < c) : (hev p c = p / c ∧ (2 * (p % c) < c ∨ (2 * (p % c) = c ∧ (p / c) % 2 = 0))) ∨ (hev p c = p / c + 1 ∧ (c < 2 * (p % c) ∨ (2 * (p % c) = c ∧ (p / c) % 2 = 1))) := by
  have r0 : 0 ≤ p % c := Int.emod_nonneg _ (by omega)
  have r1 : p % c < c := Int.emod_lt_of_pos _ hc
  unfold hev rndQ upB
  generalize p / c = q
  generalize p % c = r at *
  rw [if_neg (by decide), if_neg (by decide), if_neg (by decide), if_neg (by decide)]
  by_cases h1 : c < 2 * r
  · right
    rw [decide_eq_true h1]
    exact ⟨rfl, .inl h1⟩
  · rw [decide_eq_false h1]
    by_cases h2 : 2 * r = c
    · rw [decide_eq_true h2]
      by_cases h3 : q % 2 = 1
      · right
        rw [decide_eq_true h3]
        exact ⟨rfl, .inr ⟨h2, h3⟩⟩
      · left
        rw [decide_eq_false h3]
        exact ⟨Int.add_zero _, .inr ⟨h2, by omega⟩⟩
    · left
      rw [decide_eq_false h2]
      exact ⟨Int.add_zero _, .inl (by omega)⟩
theorem hev_mono {p c q d : Int} (hc : 0 < c) (hd : 0 < d) (h : p * d ≤ q * c) : hev p c ≤ hev q d := by
  have e1 := Int.mul_ediv_add_emod p c
  have e2 := Int.mul_ediv_add_emod q d
  have r0 : 0 ≤ p % c := Int.emod_nonneg _ (by omega)
  have r1 : p % c < c := Int.emod_lt_of_pos _ hc
  have s0 : 0 ≤ q % d := Int.emod_nonneg _ (by omega)
  have s1 : q % d < d := Int.emod_lt_of_pos _ hd
  have t1 := hev_two p c hc
  have t2 := hev_two q d hd
  generalize hev p c = x at *
  generalize hev q d = y at *
  generalize p / c = a at *
  generalize q / d = b at *
  generalize p % c = r at *
  generalize q % d = s at *
  subst e1
  subst e2
  have k1 : (c * a + r) * d = c * d * a + r * d := by grind
  have k2 : (d * b + s) * c = c * d * b + s * c := by grind
  rw [k1, k2] at h
  have cd : 0 < c * d := Int.mul_pos hc hd
  have sc : s * c < c * d := by
    have := Int.mul_lt_mul_of_pos_right s1 hc
    rw [Int.mul_comm d c] at this; exact this
  have rd : 0 ≤ r * d := Int.mul_nonneg r0 (by omega)
  have ab : a ≤ b := by
    apply Classical.byContradiction; intro g
    have g : b + 1 ≤ a := by omega
    have := Int.mul_le_mul_of_nonneg_left g (Int.le_of_lt cd)
    have k3 : c * d * (b + 1) = c * d * b + c * d := by grind
    omega
  by_cases lt : a < b
  · omega
  · obtain rfl : a = b := by omega
    have rs : r * d ≤ s * c := by omega
    apply Classical.byContradiction; intro g
    have m1 : c ≤ 2 * r → c * d ≤ 2 * (r * d) := fun h => by
      have := Int.mul_le_mul_of_nonneg_right h (Int.le_of_lt hd)
      rw [Int.mul_assoc] at this; exact this
    have m2 : c < 2 * r → c * d < 2 * (r * d) := fun h => by
      have := Int.mul_lt_mul_of_pos_right h hd
      rw [Int.mul_assoc] at this; exact this
    have m3 : 2 * s ≤ d → 2 * (s * c) ≤ c * d := fun h => by
      have := Int.mul_le_mul_of_nonneg_right h (Int.le_of_lt hc)
      rw [Int.mul_assoc, Int.mul_comm d c] at this; exact this
    have m4 : 2 * s < d → 2 * (s * c) < c * d := fun h => by
      have := Int.mul_lt_mul_of_pos_right h hc
      rw [Int.mul_assoc, Int.mul_comm d c] at this; exact this
    rcases t1 with ⟨t1, _⟩ | ⟨t1, u1⟩
    · rcases t2 with ⟨t2, _⟩ | ⟨t2, _⟩ <;> omega
    · rcases t2 with ⟨t2, u2⟩ | ⟨t2, _⟩
      · rcases u1 with u1 | ⟨u1, o1⟩ <;> rcases u2 with u2 | ⟨u2, o2⟩
        · have := m2 u1; have := m4 u2; omega
        · have := m2 u1; have := m3 (by omega); omega
        · have := m1 (by omega); have := m4 u2; omega
        · omega
      · omega
/-- The mean of all lies between the means of the parts. -/
theorem hev_between {p q c d : Int} (hc : 0 < c) (hd : 0 < d) : min (hev p c) (hev q d) ≤ hev (p + q) (c + d) ∧ hev (p + q) (c + d) ≤ max (hev p c) (hev q d) := by
  by_cases h : p * d ≤ q * c
  · have a := hev_mono (p := p) (c := c) (q := p + q) (d := c + d) hc (by omega) (by
      have e1 : p * (c + d) = p * c + p * d := by grind
      have e2 : (p + q) * c = p * c + q * c := by grind
      omega)
    have b := hev_mono (p := p + q) (c := c + d) (q := q) (d := d) (by omega) hd (by
      have e1 : (p + q) * d = p * d + q * d := by grind
      have e2 : q * (c + d) = q * c + q * d := by grind
      omega)
    omega
  · have h : q * c ≤ p * d := by omega
    have a := hev_mono (p := q) (c := d) (q := p + q) (d := c + d) hd (by omega) (by
      have e1 : q * (c + d) = q * c + q * d := by grind
      have e2 : (p + q) * d = p * d + q * d := by grind
      omega)
    have b := hev_mono (p := p + q) (c := c + d) (q := p) (d := c) (by omega) hc (by
      have e1 : (p + q) * c = p * c + q * c := by grind
      have e2 : p * (c + d) = p * c + p * d := by grind
      omega)
    omega
end Go.Proofs.Ythbgeikdamajlaa
