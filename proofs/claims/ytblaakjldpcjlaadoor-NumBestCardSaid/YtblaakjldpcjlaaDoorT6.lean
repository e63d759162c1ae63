/- The nearest of all fractions, Den by Den: the plain part. -/
import Derived.Test.YtblaakjldpcjlaaDoorT1
namespace Go.Proofs.YtblaakjldpcjlaaDoor
open Go.RowKit
set_option linter.unusedVariables false
set_option linter.unusedSimpArgs false

theorem Nearer.self (n d V D : Int) : Nearer n d V D V D := .inr ⟨rfl, .inr ⟨rfl, Int.le_refl _⟩⟩
theorem Nearer.le {n d V D p q : Int} (h : Nearer n d V D p q) : ((n * D - V * d).natAbs : Int) * q ≤ ((n * q - p * d).natAbs : Int) * D := by
  rcases h with h | ⟨h, _⟩ <;> omega
theorem cross3_lt {A B C D q s : Int} (hD : 1 ≤ D) (hq : 1 ≤ q) (hs : 1 ≤ s) (h1 : A * D < B * q) (h2 : B * s ≤ C * D) : A * s < C * q := by
  have : (A * s) * D < (C * q) * D := by
    calc (A * s) * D = (A * D) * s := by ac_rfl
      _ < (B * q) * s := Int.mul_lt_mul_of_pos_right h1 (by omega)
      _ = (B * s) * q := by ac_rfl
      _ ≤ (C * D) * q := Int.mul_le_mul_of_nonneg_right h2 (by omega)
      _ = (C * q) * D := by ac_rfl
  exact Int.lt_of_mul_lt_mul_right this (by omega)
theorem Nearer.over {n d V D p q r s : Int} (hD : 1 ≤ D) (hq : 1 ≤ q) (hs : 1 ≤ s) (h1 : ((n * q - p * d).natAbs : Int) * D < ((n * D - V * d).natAbs : Int) * q) (h2 : Nearer n d V D r s) : Nearer n d p q r s :=
  .inl (cross3_lt hD hq hs h1 h2.le)
theorem Nearer.uniq {n d V D V' D' : Int} (h : Nearer n d V D V' D') (h' : Nearer n d V' D' V D) : V = V' ∧ D = D' := by
  rcases h with h | ⟨h, a⟩ <;> rcases h' with h' | ⟨h', b⟩ <;> omega
/-- Of the numerators up to the floor the floor is the nearest. -/
theorem Nearer.down {n d V D p0 p q : Int} (hd : 1 ≤ d) (hD : 1 ≤ D) (h0 : 0 ≤ n * q - p0 * d) (hp : p ≤ p0) (h : Nearer n d V D p0 q) : Nearer n d V D p q := by
  rcases (by omega : p = p0 ∨ p + 1 ≤ p0) with e | e
  · subst e; exact h
  · have e1 : (p + 1) * d ≤ p0 * d := Int.mul_le_mul_of_nonneg_right e (by omega)
    have e2 : (p + 1) * d = p * d + d := by rw [Int.add_mul, Int.one_mul]
    have e3 : ((n * q - p0 * d).natAbs : Int) + 1 ≤ ((n * q - p * d).natAbs : Int) := by omega
    have e4 : (((n * q - p0 * d).natAbs : Int) + 1) * D ≤ ((n * q - p * d).natAbs : Int) * D := Int.mul_le_mul_of_nonneg_right e3 (by omega)
    have e5 : (((n * q - p0 * d).natAbs : Int) + 1) * D = ((n * q - p0 * d).natAbs : Int) * D + D := by rw [Int.add_mul, Int.one_mul]
    have := h.le
    exact .inl (by omega)
theorem Nearer.up {n d V D p1 p q : Int} (hd : 1 ≤ d) (hD : 1 ≤ D) (h0 : n * q - p1 * d ≤ 0) (hp : p1 ≤ p) (h : Nearer n d V D p1 q) : Nearer n d V D p q := by
  rcases (by omega : p = p1 ∨ p1 + 1 ≤ p) with e | e
  · subst e; exact h
  · have e1 : (p1 + 1) * d ≤ p * d := Int.mul_le_mul_of_nonneg_right e (by omega)
    have e2 : (p1 + 1) * d = p1 * d + d := by rw [Int.add_mul, Int.one_mul]
    have e3 : ((n * q - p1 * d).natAbs : Int) + 1 ≤ ((n * q - p * d).natAbs : Int) := by omega
    have e4 : (((n * q - p1 * d).natAbs : Int) + 1) * D ≤ ((n * q - p * d).natAbs : Int) * D := Int.mul_le_mul_of_nonneg_right e3 (by omega)
    have e5 : (((n * q - p1 * d).natAbs : Int) + 1) * D = ((n * q - p1 * d).natAbs : Int) * D + D := by rw [Int.add_mul, Int.one_mul]
    have := h.le
    exact .inl (by omega)

/-- What has been tried ahead of Den q, and k of its two numerators. -/
structure Tried (n d q k V D off : Int) : Prop where
  fst : (D = 0 ∧ q = 1 ∧ k = 0) ∨ (1 ≤ D ∧ (D < q ∨ (D = q ∧ ((k = 1 ∧ V = n * q / d) ∨ (k = 2 ∧ (V = n * q / d ∨ V = n * q / d + 1))))))
  far : 1 ≤ D → off = ((n * D - V * d).natAbs : Int)
  bnd : 0 ≤ off ∧ off ≤ d
  all : 1 ≤ D → ∀ r s : Int, 1 ≤ s → s < q → Nearer n d V D r s
  one : 1 ≤ D → 1 ≤ k → Nearer n d V D (n * q / d) q
  two : 1 ≤ D → 2 ≤ k → Nearer n d V D (n * q / d + 1) q
theorem Tried.start {n d : Int} (hd : 1 ≤ d) : Tried n d 1 0 0 0 0 := ⟨.inl ⟨rfl, rfl, rfl⟩, by omega, by omega, by omega, by omega, by omega⟩
/-- The k-th numerator is nearer: it is taken. -/
theorem Tried.take {n d q k V D off : Int} (h : Tried n d q k V D off) (hd : 1 ≤ d) (hq : 1 ≤ q) (hk : k = 0 ∨ k = 1) (hf : ((n * q - (n * q / d + k) * d).natAbs : Int) ≤ d)
    (hc : D = 0 ∨ ((n * q - (n * q / d + k) * d).natAbs : Int) * D < off * q) : Tried n d q (k + 1) (n * q / d + k) q ((n * q - (n * q / d + k) * d).natAbs : Int) := by
  have K : ∀ r s : Int, 1 ≤ s → 1 ≤ D → Nearer n d V D r s → Nearer n d (n * q / d + k) q r s := by
    intro r s hs hD hN
    rcases hc with hc | hc
    · omega
    · rw [h.far hD] at hc; exact hN.over hD hq hs hc
  have Z : D = 0 ∨ 1 ≤ D := by rcases h.fst with a | a <;> omega
  refine ⟨.inr ⟨hq, .inr ⟨rfl, by rcases hk with rfl | rfl <;> simp⟩⟩, fun _ => rfl, ⟨by omega, hf⟩, fun _ r s hs hsq => ?_, fun _ _ => ?_, fun _ _ => ?_⟩
  · rcases Z with z | z
    · rcases h.fst with a | a <;> omega
    · exact K r s hs z (h.all z r s hs hsq)
  · rcases hk with rfl | rfl
    · rw [Int.add_zero]; exact Nearer.self _ _ _ _
    · rcases Z with z | z
      · rcases h.fst with a | a <;> omega
      · exact K _ _ hq z (h.one z (by omega))
  · rcases hk with rfl | rfl
    · omega
    · exact Nearer.self _ _ _ _
/-- It is not. -/
theorem Tried.keep {n d q k V D off : Int} (h : Tried n d q k V D off) (hd : 1 ≤ d) (hq : 1 ≤ q) (hk : k = 0 ∨ k = 1)
    (hD : D ≠ 0) (hc : ¬ ((n * q - (n * q / d + k) * d).natAbs : Int) * D < off * q) : Tried n d q (k + 1) V D off := by
  have z : 1 ≤ D := by rcases h.fst with a | a <;> omega
  rw [h.far z] at hc
  have F := h.fst
  have T : D < q ∨ (D = q ∧ V ≤ n * q / d + k) := by rcases hk with rfl | rfl <;> omega
  have N : Nearer n d V D (n * q / d + k) q := by
    rcases (by omega : ((n * D - V * d).natAbs : Int) * q < ((n * q - (n * q / d + k) * d).natAbs : Int) * D ∨ ((n * D - V * d).natAbs : Int) * q = ((n * q - (n * q / d + k) * d).natAbs : Int) * D) with t | t
    · exact .inl t
    · exact .inr ⟨t, by omega⟩
  refine ⟨.inr ⟨z, by rcases hk with rfl | rfl <;> omega⟩, h.far, h.bnd, h.all, fun _ _ => ?_, fun _ _ => ?_⟩
  · rcases hk with rfl | rfl
    · rw [Int.add_zero] at N; exact N
    · exact h.one z (by omega)
  · rcases hk with rfl | rfl
    · omega
    · exact N
theorem Tried.next {n d q V D off : Int} (h : Tried n d q 2 V D off) (hd : 1 ≤ d) (hq : 1 ≤ q) (h0 : 0 ≤ n * q - n * q / d * d) (h1 : n * q - n * q / d * d < d) : Tried n d (q + 1) 0 V D off := by
  have z : 1 ≤ D := by rcases h.fst with a | a <;> omega
  have e2 : (n * q / d + 1) * d = n * q / d * d + d := by rw [Int.add_mul, Int.one_mul]
  refine ⟨.inr ⟨z, .inl (by rcases h.fst with a | a <;> omega)⟩, h.far, h.bnd, fun _ r s hs hsq => ?_, by omega, by omega⟩
  rcases (by omega : s < q ∨ s = q) with t | t
  · exact h.all z r s hs t
  · subst t
    rcases (by omega : r ≤ n * s / d ∨ n * s / d + 1 ≤ r) with u | u
    · exact (h.one z (by omega)).down hd z (by omega) u
    · exact (h.two z (by omega)).up hd z (by omega) u
end Go.Proofs.YtblaakjldpcjlaaDoor
