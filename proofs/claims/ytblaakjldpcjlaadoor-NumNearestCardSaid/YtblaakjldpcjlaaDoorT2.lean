/- Best: what a round keeps; what the last round works with. -/
import Derived.Test.YtblaakjldpcjlaaDoorT1
namespace Go.Proofs.YtblaakjldpcjlaaDoor
open Go.RowKit
set_option linter.unusedVariables false
set_option linter.unusedSimpArgs false

theorem abs_low {n d x y N : Int} (hd : 1 ≤ d) (hN : 1 ≤ N) (n1 : -N ≤ n) (n2 : n ≤ N) (y0 : 0 ≤ y) (h : (y ≤ d ∧ -d < n * y - x * d ∧ n * y - x * d < d) ∨ (y < d ∧ -d ≤ n * y - x * d ∧ n * y - x * d ≤ d)) : -N ≤ x ∧ x ≤ N := by
  have a1 : n * y ≤ N * y := Int.mul_le_mul_of_nonneg_right n2 y0
  have a2 : -N * y ≤ n * y := Int.mul_le_mul_of_nonneg_right n1 y0
  rw [Int.neg_mul] at a2
  have up : x * d < (N + 1) * d := by
    rw [Int.add_mul, Int.one_mul]
    rcases h with ⟨h1, h2, h3⟩ | ⟨h1, h2, h3⟩
    · have : N * y ≤ N * d := Int.mul_le_mul_of_nonneg_left h1 (by omega)
      omega
    · have : N * (y + 1) ≤ N * d := Int.mul_le_mul_of_nonneg_left (by omega) (by omega)
      rw [Int.mul_add] at this
      omega
  have lo : (-(N + 1)) * d < x * d := by
    rw [Int.neg_mul, Int.add_mul, Int.one_mul]
    rcases h with ⟨h1, h2, h3⟩ | ⟨h1, h2, h3⟩
    · have : N * y ≤ N * d := Int.mul_le_mul_of_nonneg_left h1 (by omega)
      omega
    · have : N * (y + 1) ≤ N * d := Int.mul_le_mul_of_nonneg_left (by omega) (by omega)
      rw [Int.mul_add] at this
      omega
  have u := Int.lt_of_mul_lt_mul_right up (by omega)
  have l := Int.lt_of_mul_lt_mul_right lo (by omega)
  omega

/-- Behind the first round. -/
structure Later (n d most bn bd ln ld top bottom ε : Int) : Prop where
  conv : Conv n d bn bd ln ld top bottom ε
  ld1 : 1 ≤ ld
  ldm : ld ≤ most
  bd0 : 0 ≤ bd
  bdl : bd ≤ ld
  bot0 : 0 ≤ bottom
  bott : bottom < top
  topd : top ≤ d
  ln1 : -1099511627776 ≤ ln
  ln2 : ln ≤ 1099511627776
  bn1 : -1099511627776 ≤ bn
  bn2 : bn ≤ 1099511627776
  fst : bd = 0 → bn = 1 ∧ ld = 1

theorem Later.first {n d most : Int} (n1 : -1099511627776 ≤ n) (n2 : n ≤ 1099511627776) (hd : 1 ≤ d) (hm : 1 ≤ most) : Later n d most 1 0 (n / d * 1 + 0) (n / d * 0 + 1) d (n - n / d * d) (-1) := by
  have e := Int.emod_def n d
  have m0 : 0 ≤ n % d := Int.emod_nonneg _ (by omega)
  have m1 : n % d < d := Int.emod_lt_of_pos _ (by omega)
  have c : d * (n / d) = n / d * d := Int.mul_comm _ _
  have lb : -1099511627776 ≤ n / d ∧ n / d ≤ 1099511627776 := abs_low (n := n) (d := d) (x := n / d) (y := 1) hd (by omega) n1 n2 (by omega) (.inl ⟨hd, by omega, by omega⟩)
  exact ⟨(Conv.start n d).next (n / d), by omega, by omega, by omega, by omega, by omega, by omega, by omega, by omega, by omega, by omega, by omega, fun _ => ⟨rfl, by omega⟩⟩

theorem Later.den {n d most bn bd ln ld top bottom ε : Int} (h : Later n d most bn bd ln ld top bottom ε) : 1 ≤ d := by have := h.bot0; have := h.bott; have := h.topd; omega
theorem Later.cop {n d most bn bd ln ld top bottom ε : Int} (h : Later n d most bn bd ln ld top bottom ε) : Int.gcd ln ld = 1 := by
  have e := h.conv.det
  have s := h.conv.sgn
  have g1 : (Int.gcd ln ld : Int) ∣ ln := Int.gcd_dvd_left _ _
  have g2 : (Int.gcd ln ld : Int) ∣ ld := Int.gcd_dvd_right _ _
  have g3 : (Int.gcd ln ld : Int) ∣ ε := by
    rw [← e]; exact Int.dvd_sub (Int.dvd_mul_of_dvd_left g1) (Int.dvd_mul_of_dvd_right g2)
  have g4 : (Int.gcd ln ld : Int) ∣ 1 := by
    rcases s with rfl | rfl
    · exact g3
    · exact (Int.dvd_neg).1 g3
  have := Int.le_of_dvd (by omega) g4
  have : Int.gcd ln ld ≠ 0 := fun z => by rw [z] at g4; simp at g4
  omega

/-- A round that goes on. -/
theorem Later.next {n d most bn bd ln ld top bottom ε : Int} (h : Later n d most bn bd ln ld top bottom ε) (n1 : -1099511627776 ≤ n) (n2 : n ≤ 1099511627776) (hb : 1 ≤ bottom) (hm : top / bottom * ld + bd ≤ most) :
    Later n d most ln ld (top / bottom * ln + bn) (top / bottom * ld + bd) bottom (top - top / bottom * bottom) (-ε) := by
  have hd := h.den
  have c := h.conv.next (top / bottom)
  obtain ⟨-, l1, lm, b0, bl, o0, ot, td, -, -, -, -, -⟩ := id h
  have e := Int.emod_def top bottom
  have m0 : 0 ≤ top % bottom := Int.emod_nonneg _ (by omega)
  have m1 : top % bottom < bottom := Int.emod_lt_of_pos _ (by omega)
  have cc : bottom * (top / bottom) = top / bottom * bottom := Int.mul_comm _ _
  have k1 : 1 ≤ top / bottom := by rw [Int.le_ediv_iff_mul_le (by omega)]; omega
  generalize top / bottom = k at *
  have k2 : 1 * ld ≤ k * ld := Int.mul_le_mul_of_nonneg_right k1 (by omega)
  have last := c.last
  have dd := c.den
  have t1 : (k * ld + bd) * 1 ≤ (k * ld + bd) * bottom := Int.mul_le_mul_of_nonneg_left hb (by omega)
  have t2 : 0 ≤ ld * (top - k * bottom) := Int.mul_nonneg (by omega) (by omega)
  have ab := abs_low (n := n) (d := d) (x := k * ln + bn) (y := k * ld + bd) hd (by omega) n1 n2 (by omega) (.inl ⟨by omega, by rw [last]; rcases c.sgn with s | s <;> (rw [s]; omega), by rw [last]; rcases c.sgn with s | s <;> (rw [s]; omega)⟩)
  exact ⟨c, by omega, hm, by omega, by omega, by omega, by omega, by omega, ab.1, ab.2, h.ln1, h.ln2, fun z => by omega⟩
/-- What the last round works with: s steps from before along last. -/
structure Stop (n d most ln ld on od ε : Int) : Prop where
  sgn : ε = 1 ∨ ε = -1
  det : ε * (on * ld - ln * od) = 1
  hA : 0 ≤ ε * (n * ld - ln * d)
  hA2 : ε * (n * ld - ln * d) ≤ d
  hB : 0 ≤ ε * (on * d - n * od)
  hB2 : ε * (on * d - n * od) ≤ d
  od1 : 1 ≤ od
  odm : od ≤ most
  sum : most < ld + od
  on1 : -1099511627776 ≤ on
  on2 : on ≤ 1099511627776
  tie : ((n * od - on * d).natAbs : Int) * ld = ((n * ld - ln * d).natAbs : Int) * od → ld < od ∨ (ld = od ∧ ln ≤ on)
theorem Later.stop {n d most bn bd ln ld top bottom ε : Int} (h : Later n d most bn bd ln ld top bottom ε) (n1 : -1099511627776 ≤ n) (n2 : n ≤ 1099511627776) (hb : 1 ≤ bottom) (hm : most < top / bottom * ld + bd) :
    0 ≤ (most - bd) / ld ∧ (most - bd) / ld * ld ≤ most - bd ∧ (most - bd) / ld ≤ most ∧ Stop n d most ln ld ((most - bd) / ld * ln + bn) ((most - bd) / ld * ld + bd) (-ε) := by
  have hd := h.den
  have oth := h.conv.other ((most - bd) / ld)
  have det2 := h.conv.det2 ((most - bd) / ld)
  have last := h.conv.last
  have dd := h.conv.den
  have sg := h.conv.sgn
  obtain ⟨-, l1, lm, b0, bl, o0, ot, td, -, -, -, -, ff⟩ := id h
  have s0 : 0 ≤ (most - bd) / ld := Int.ediv_nonneg (by omega) (by omega)
  have s1 : (most - bd) / ld * ld ≤ most - bd := Int.ediv_mul_le _ (by omega)
  have s2 : most - bd < ((most - bd) / ld + 1) * ld := Int.lt_ediv_add_one_mul_self _ (by omega)
  have k1 : top / bottom * bottom ≤ top := Int.ediv_mul_le _ (by omega)
  generalize (most - bd) / ld = s at *
  generalize top / bottom = k at *
  have s3 : s * 1 ≤ s * ld := Int.mul_le_mul_of_nonneg_left l1 s0
  rw [Int.add_mul] at s2
  have sk : s < k := by
    rcases Int.lt_or_le s k with t | t
    · exact t
    · have := Int.mul_le_mul_of_nonneg_right t (show 0 ≤ ld by omega); omega
  have sb : (s + 1) * bottom ≤ k * bottom := Int.mul_le_mul_of_nonneg_right (by omega) (by omega)
  rw [Int.add_mul] at sb
  have sb0 : 0 ≤ s * bottom := Int.mul_nonneg s0 (by omega)
  have sb1 : s * 1 ≤ s * bottom := Int.mul_le_mul_of_nonneg_left hb s0
  have b1 : bd * 1 ≤ bd * bottom := Int.mul_le_mul_of_nonneg_left hb b0
  have lt1 : ld * (s + 1) ≤ ld * top := Int.mul_le_mul_of_nonneg_left (by omega) (by omega)
  rw [Int.mul_add] at lt1
  have sc : ld * s = s * ld := Int.mul_comm _ _
  have aA : -ε * (n * ld - ln * d) = bottom := by rw [last]; rcases sg with rfl | rfl <;> omega
  have aB : -ε * ((s * ln + bn) * d - n * (s * ld + bd)) = top - s * bottom := by
    have : -ε * ((s * ln + bn) * d - n * (s * ld + bd)) = ε * (n * (s * ld + bd) - (s * ln + bn) * d) := by grind
    rw [this, oth]; rcases sg with rfl | rfl <;> omega
  have o1 : 1 ≤ s * ld + bd := by
    rcases (by omega : bd = 0 ∨ 1 ≤ bd) with z | z
    · have := (ff z).2; subst this; omega
    · have : 0 ≤ s * ld := Int.mul_nonneg s0 (by omega)
      omega
  have ab := abs_low (n := n) (d := d) (x := s * ln + bn) (y := s * ld + bd) hd (by omega) n1 n2 (by omega) (.inr ⟨by omega, by rw [oth]; rcases sg with e | e <;> (rw [e]; omega), by rw [oth]; rcases sg with e | e <;> (rw [e]; omega)⟩)
  have nA : ((n * ld - ln * d).natAbs : Int) = bottom := by rw [last]; rcases sg with e | e <;> (rw [e]; omega)
  have nB : ((n * (s * ld + bd) - (s * ln + bn) * d).natAbs : Int) = top - s * bottom := by rw [oth]; rcases sg with e | e <;> (rw [e]; omega)
  refine ⟨s0, s1, by omega, by omega, det2, by omega, by omega, by omega, by omega, o1, by omega, by omega, ab.1, ab.2, ?_⟩
  rw [nA, nB]
  intro t
  rcases (by omega : s = 0 ∨ s = 1 ∨ 2 ≤ s) with z | z | z
  · exfalso
    subst z
    have a : (bottom + 1) * ld ≤ (top - 0 * bottom) * ld := Int.mul_le_mul_of_nonneg_right (by omega) (by omega)
    have b : bottom * (0 * ld + bd) ≤ bottom * ld := Int.mul_le_mul_of_nonneg_left (by omega) (by omega)
    rw [Int.add_mul] at a
    omega
  · subst z
    rcases (by omega : bd = 0 ∨ 1 ≤ bd) with y | y
    · exact .inr ⟨by omega, by have := (ff y).1; omega⟩
    · exact .inl (by omega)
  · have : 2 * ld ≤ s * ld := Int.mul_le_mul_of_nonneg_right z (by omega)
    exact .inl (by omega)
theorem cop_det {ε a b x y : Int} (e : ε * (a * y - x * b) = 1) : Int.gcd a b = 1 ∧ Int.gcd x y = 1 := by
  constructor
  · have g1 : (Int.gcd a b : Int) ∣ a := Int.gcd_dvd_left _ _
    have g2 : (Int.gcd a b : Int) ∣ b := Int.gcd_dvd_right _ _
    have g4 : (Int.gcd a b : Int) ∣ 1 := by
      rw [← e]; exact Int.dvd_mul_of_dvd_right (Int.dvd_sub (Int.dvd_mul_of_dvd_left g1) (Int.dvd_mul_of_dvd_right g2))
    have := Int.le_of_dvd (by omega) g4
    have : Int.gcd a b ≠ 0 := fun z => by rw [z] at g4; simp at g4
    omega
  · have g1 : (Int.gcd x y : Int) ∣ x := Int.gcd_dvd_left _ _
    have g2 : (Int.gcd x y : Int) ∣ y := Int.gcd_dvd_right _ _
    have g4 : (Int.gcd x y : Int) ∣ 1 := by
      rw [← e]; exact Int.dvd_mul_of_dvd_right (Int.dvd_sub (Int.dvd_mul_of_dvd_right g2) (Int.dvd_mul_of_dvd_left g1))
    have := Int.le_of_dvd (by omega) g4
    have : Int.gcd x y ≠ 0 := fun z => by rw [z] at g4; simp at g4
    omega
end Go.Proofs.YtblaakjldpcjlaaDoor
