/- Best: the plain part: neighbours around n/d, and which fractions lie nearer. -/
import Derived.Test.YtblaakjldpcjlaaDoorB0
namespace Go.Proofs.YtblaakjldpcjlaaDoor
open Go.RowKit
set_option linter.unusedVariables false
set_option linter.unusedSimpArgs false

/-- What a round of Best keeps: n/d by the last two convergents. -/
structure Conv (n d bn bd ln ld top bottom ε : Int) : Prop where
  num : n = ln * top + bn * bottom
  den : d = ld * top + bd * bottom
  det : ln * bd - bn * ld = ε
  sgn : ε = 1 ∨ ε = -1
theorem Conv.start (n d : Int) : Conv n d 0 1 1 0 n d 1 := ⟨by omega, by omega, by omega, .inl rfl⟩
theorem Conv.next {n d bn bd ln ld top bottom ε : Int} (h : Conv n d bn bd ln ld top bottom ε) (k : Int) : Conv n d ln ld (k * ln + bn) (k * ld + bd) bottom (top - k * bottom) (-ε) := by
  obtain ⟨h1, h2, h3, h4⟩ := h
  exact ⟨by grind, by grind, by grind, by omega⟩
/-- How far the last one lies. -/
theorem Conv.last {n d bn bd ln ld top bottom ε : Int} (h : Conv n d bn bd ln ld top bottom ε) : n * ld - ln * d = -ε * bottom := by
  obtain ⟨h1, h2, h3, h4⟩ := h; grind
theorem Conv.other {n d bn bd ln ld top bottom ε : Int} (h : Conv n d bn bd ln ld top bottom ε) (s : Int) : n * (s * ld + bd) - (s * ln + bn) * d = ε * (top - s * bottom) := by
  obtain ⟨h1, h2, h3, h4⟩ := h; grind
theorem Conv.det2 {n d bn bd ln ld top bottom ε : Int} (h : Conv n d bn bd ln ld top bottom ε) (s : Int) : -ε * ((s * ln + bn) * ld - ln * (s * ld + bd)) = 1 := by
  obtain ⟨h1, h2, h3, h4⟩ := h
  rcases h4 with h4 | h4 <;> grind

theorem abs_of {ε x : Int} (h : ε = 1 ∨ ε = -1) (h0 : 0 ≤ ε * x) : (x.natAbs : Int) = ε * x := by
  rcases h with rfl | rfl <;> omega
/-- V/D is nearer to n/d than p/q, or as near and before it. -/
def Nearer (n d V D p q : Int) : Prop :=
  ((n * D - V * d).natAbs : Int) * q < ((n * q - p * d).natAbs : Int) * D ∨ (((n * D - V * d).natAbs : Int) * q = ((n * q - p * d).natAbs : Int) * D ∧ (D < q ∨ (D = q ∧ V ≤ p)))

/-- The two sides once more, by absolute values. -/
theorem near_abs {n d ln ld on od p q ε : Int} (hd : 1 ≤ d) (hl : 1 ≤ ld) (ho : 1 ≤ od) (hq0 : 1 ≤ q) (hε : ε = 1 ∨ ε = -1) (hdet : ε * (on * ld - ln * od) = 1) (hq : q < ld + od)
    (hA : 0 ≤ ε * (n * ld - ln * d)) (hB : 0 ≤ ε * (on * d - n * od)) :
    (((n * ld - ln * d).natAbs : Int) * q < ((n * q - p * d).natAbs : Int) * ld) ∨
    (((n * ld - ln * d).natAbs : Int) * q = ((n * q - p * d).natAbs : Int) * ld ∧ (ld < q ∨ (ld = q ∧ ln = p))) ∨
    (((n * od - on * d).natAbs : Int) * q < ((n * q - p * d).natAbs : Int) * od) ∨
    (((n * od - on * d).natAbs : Int) * q = ((n * q - p * d).natAbs : Int) * od ∧ (od < q ∨ (od = q ∧ on = p))) := by
  have key : (ε * (p * ld - ln * q)) * od + (ε * (on * q - p * od)) * ld = q := by
    have : (ε * (p * ld - ln * q)) * od + (ε * (on * q - p * od)) * ld = (ε * (on * ld - ln * od)) * q := by grind
    rw [this, hdet]; omega
  have e1 : (ε * (n * q - p * d)) * ld = (ε * (n * ld - ln * d)) * q - d * (ε * (p * ld - ln * q)) := by grind
  have e2 : (ε * (p * d - n * q)) * od = (ε * (on * d - n * od)) * q - d * (ε * (on * q - p * od)) := by grind
  have aA := abs_of hε hA
  have aB : ((n * od - on * d).natAbs : Int) = ε * (on * d - n * od) := by
    rw [← abs_of hε hB]; omega
  have hAq : 0 ≤ (ε * (n * ld - ln * d)) * q := Int.mul_nonneg hA (by omega)
  have hBq : 0 ≤ (ε * (on * d - n * od)) * q := Int.mul_nonneg hB (by omega)
  rw [aA, aB]
  by_cases hu : ε * (p * ld - ln * q) ≤ 0
  · have t : d * (ε * (p * ld - ln * q)) ≤ 1 * (ε * (p * ld - ln * q)) := Int.mul_le_mul_of_nonpos_right hd hu
    have x0 : 0 ≤ ε * (n * q - p * d) := by
      rcases Int.lt_or_le (ε * (n * q - p * d)) 0 with z | z
      · have := Int.mul_neg_of_neg_of_pos z (show 0 < ld by omega); omega
      · exact z
    rw [abs_of hε x0, e1]
    rcases (by omega : ε * (p * ld - ln * q) < 0 ∨ ε * (p * ld - ln * q) = 0) with z | z
    · exact .inl (by omega)
    · refine .inr (.inl ⟨by rw [z]; omega, ?_⟩)
      rw [z] at key
      have k1 : (ε * (on * q - p * od)) * ld = q := by omega
      have zz : p * ld = ln * q := by rcases hε with rfl | rfl <;> omega
      rcases (by omega : ε * (on * q - p * od) ≤ 0 ∨ ε * (on * q - p * od) = 1 ∨ 2 ≤ ε * (on * q - p * od)) with y | y | y
      · have := Int.mul_le_mul_of_nonneg_right y (show 0 ≤ ld by omega); omega
      · rw [y] at k1
        have e : ld = q := by omega
        exact .inr ⟨e, by subst e; exact (Int.eq_of_mul_eq_mul_right (by omega) zz).symm⟩
      · have := Int.mul_le_mul_of_nonneg_right y (show 0 ≤ ld by omega); exact .inl (by omega)
  · by_cases hv : ε * (on * q - p * od) ≤ 0
    · have t : d * (ε * (on * q - p * od)) ≤ 1 * (ε * (on * q - p * od)) := Int.mul_le_mul_of_nonpos_right hd hv
      have x0 : 0 ≤ ε * (p * d - n * q) := by
        rcases Int.lt_or_le (ε * (p * d - n * q)) 0 with z | z
        · have := Int.mul_neg_of_neg_of_pos z (show 0 < od by omega); omega
        · exact z
      rw [show ((n * q - p * d).natAbs : Int) = ((p * d - n * q).natAbs : Int) from by omega, abs_of hε x0, e2]
      rcases (by omega : ε * (on * q - p * od) < 0 ∨ ε * (on * q - p * od) = 0) with z | z
      · exact .inr (.inr (.inl (by omega)))
      · refine .inr (.inr (.inr ⟨by rw [z]; omega, ?_⟩))
        rw [z] at key
        have k1 : (ε * (p * ld - ln * q)) * od = q := by omega
        have zz : p * od = on * q := by rcases hε with rfl | rfl <;> omega
        rcases (by omega : ε * (p * ld - ln * q) = 1 ∨ 2 ≤ ε * (p * ld - ln * q)) with y | y
        · rw [y] at k1
          have e : od = q := by omega
          exact .inr ⟨e, by subst e; exact (Int.eq_of_mul_eq_mul_right (by omega) zz).symm⟩
        · have := Int.mul_le_mul_of_nonneg_right y (show 0 ≤ od by omega); exact .inl (by omega)
    · exfalso
      have h1 : 1 * od ≤ (ε * (p * ld - ln * q)) * od := Int.mul_le_mul_of_nonneg_right (by omega) (by omega)
      have h2 : 1 * ld ≤ (ε * (on * q - p * od)) * ld := Int.mul_le_mul_of_nonneg_right (by omega) (by omega)
      omega

theorem cross_lt {A B F ld od q : Int} (hq : 1 ≤ q) (hl : 1 ≤ ld) (ho : 1 ≤ od) (h : A * od ≤ B * ld) (g : B * q ≤ F * od) (hs : A * od < B * ld ∨ B * q < F * od) : A * q < F * ld := by
  have k : (A * q) * od < (F * ld) * od := by
    rcases hs with hs | hs
    · have a : (A * od) * q < (B * ld) * q := Int.mul_lt_mul_of_pos_right hs (by omega)
      have b : (B * q) * ld ≤ (F * od) * ld := Int.mul_le_mul_of_nonneg_right g (by omega)
      grind
    · have a : (A * od) * q ≤ (B * ld) * q := Int.mul_le_mul_of_nonneg_right h (by omega)
      have b : (B * q) * ld < (F * od) * ld := Int.mul_lt_mul_of_pos_right hs (by omega)
      grind
  exact Int.lt_of_mul_lt_mul_right k (by omega)
theorem cross_eq {A B F ld od q : Int} (ho : 1 ≤ od) (h : A * od = B * ld) (g : B * q = F * od) : A * q = F * ld := by
  have k : (A * q) * od = (F * ld) * od := by
    have a : (A * od) * q = (B * ld) * q := by rw [h]
    have b : (B * q) * ld = (F * od) * ld := by rw [g]
    grind
  exact Int.eq_of_mul_eq_mul_right (by omega) k

/-- The nearer one of two neighbours around n/d is the nearest of all whose Den is below the sum of theirs. -/
theorem best_two {n d ln ld on od p q ε : Int} (hd : 1 ≤ d) (hl : 1 ≤ ld) (ho : 1 ≤ od) (hq0 : 1 ≤ q) (hε : ε = 1 ∨ ε = -1) (hdet : ε * (on * ld - ln * od) = 1) (hq : q < ld + od)
    (hA : 0 ≤ ε * (n * ld - ln * d)) (hB : 0 ≤ ε * (on * d - n * od))
    (tie : ((n * od - on * d).natAbs : Int) * ld = ((n * ld - ln * d).natAbs : Int) * od → ld < od ∨ (ld = od ∧ ln ≤ on)) :
    if ((n * od - on * d).natAbs : Int) * ld < ((n * ld - ln * d).natAbs : Int) * od then Nearer n d on od p q else Nearer n d ln ld p q := by
  have N := near_abs (p := p) hd hl ho hq0 hε hdet hq hA hB
  unfold Nearer
  generalize ((n * od - on * d).natAbs : Int) = B at *
  generalize ((n * ld - ln * d).natAbs : Int) = A at *
  generalize ((n * q - p * d).natAbs : Int) = F at *
  split
  · rename_i h
    rcases N with N | ⟨N, M⟩ | N | ⟨N, M⟩
    · exact .inl (cross_lt hq0 ho hl (by omega) (by omega) (.inl h))
    · exact .inl (cross_lt hq0 ho hl (by omega) (by omega) (.inl h))
    · exact .inl N
    · exact .inr ⟨N, by omega⟩
  · rename_i h
    have h' : A * od ≤ B * ld := by omega
    rcases N with N | ⟨N, M⟩ | N | ⟨N, M⟩
    · exact .inl N
    · exact .inr ⟨N, by omega⟩
    · exact .inl (cross_lt hq0 hl ho h' (by omega) (.inr N))
    · rcases (by omega : A * od < B * ld ∨ A * od = B * ld) with t | t
      · exact .inl (cross_lt hq0 hl ho h' (by omega) (.inl t))
      · refine .inr ⟨cross_eq ho t N, ?_⟩
        have := tie t.symm
        omega

/-- Nothing left: the last one is n/d itself. -/
theorem best_exact {n d bn bd ln ld top ε p q : Int} (h : Conv n d bn bd ln ld top 0 ε) (hd : 1 ≤ d) (hl : 1 ≤ ld) (hq : 1 ≤ q) : Nearer n d ln ld p q := by
  have e := h.last
  have z : n * ld - ln * d = 0 := by rw [e]; omega
  unfold Nearer
  rw [z]
  rcases (by omega : n * q - p * d = 0 ∨ 1 ≤ ((n * q - p * d).natAbs : Int)) with t | t
  · refine .inr ⟨by rw [t]; simp, ?_⟩
    obtain ⟨h1, h2, h3, h4⟩ := h
    have a1 : n = ln * top := by omega
    have a2 : d = ld * top := by omega
    have tp : top ≠ 0 := by intro x; rw [x] at a2; omega
    have pq : p * ld = ln * q := by
      refine Int.eq_of_mul_eq_mul_right tp ?_
      rw [a1, a2] at t; grind
    have k : ((-ε) * (bn * q - p * bd)) * ld = q := by
      have : ((-ε) * (bn * q - p * bd)) * ld = ε * ((p * ld) * bd - bn * ld * q) := by grind
      rw [this, pq]
      have : ε * (ln * q * bd - bn * ld * q) = (ε * (ln * bd - bn * ld)) * q := by grind
      rw [this, h3]
      rcases h4 with rfl | rfl <;> omega
    rcases (by omega : (-ε) * (bn * q - p * bd) ≤ 0 ∨ (-ε) * (bn * q - p * bd) = 1 ∨ 2 ≤ (-ε) * (bn * q - p * bd)) with y | y | y
    · have := Int.mul_le_mul_of_nonneg_right y (show 0 ≤ ld by omega); omega
    · rw [y] at k
      have e : ld = q := by omega
      subst e
      exact .inr ⟨rfl, by have := Int.eq_of_mul_eq_mul_right (show ld ≠ 0 by omega) pq; omega⟩
    · have := Int.mul_le_mul_of_nonneg_right y (show 0 ≤ ld by omega); exact .inl (by omega)
  · left
    have : 1 * ld ≤ ((n * q - p * d).natAbs : Int) * ld := Int.mul_le_mul_of_nonneg_right t (by omega)
    simp only [Int.natAbs_zero, Int.natCast_zero, Int.zero_mul]
    omega
end Go.Proofs.YtblaakjldpcjlaaDoor
