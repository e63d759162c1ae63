/- Working days, the plain part. -/
namespace Go.Proofs.Ythfnaegfjacjbab
set_option linter.unusedVariables false

/-- A working day. -/
def wkB (H : List Int) (x : Int) : Bool := decide (1 < x % 7 ∧ x ∉ H)
/-- How many of the k days after a are working days. -/
def wcnt (H : List Int) (a : Int) : Nat → Nat
  | 0 => 0
  | k + 1 => wcnt H a k + if wkB H (a + k + 1) then 1 else 0
theorem wcnt_mono (H : List Int) (a : Int) {j k : Nat} (h : j ≤ k) : wcnt H a j ≤ wcnt H a k := by
  induction k with
  | zero => (obtain rfl : j = 0 := by omega); exact Nat.le_refl _
  | succ k ih =>
    by_cases e : j = k + 1
    · subst e; exact Nat.le_refl _
    · have := ih (by omega); simp only [wcnt]; omega
theorem wcnt_add (H : List Int) (a : Int) (j : Nat) : ∀ k : Nat, wcnt H a (j + k) = wcnt H a j + wcnt H (a + j) k
  | 0 => by simp [wcnt]
  | k + 1 => by
    have ih := wcnt_add H a j k
    have e : a + ((j + k : Nat) : Int) + 1 = a + j + k + 1 := by omega
    rw [show j + (k + 1) = (j + k) + 1 from rfl]
    simp only [wcnt, ih, e]
    omega
/-- The n-th working day after a is k days later. -/
structure NthW (H : List Int) (a : Int) (n : Nat) (k : Nat) : Prop where
  c : wcnt H a k = n
  w : wkB H (a + k) = true
  pos : 0 < k
theorem NthW.last {H : List Int} {a : Int} {n k : Nat} (h : NthW H a n k) {j : Nat} (hj : j < k) : wcnt H a j < n := by
  obtain ⟨k', rfl⟩ : ∃ k', k = k' + 1 := ⟨k - 1, by have := h.pos; omega⟩
  have hc := h.c; have hw := h.w
  have := wcnt_mono H a (j := j) (k := k') (by omega)
  rw [show a + ((k' + 1 : Nat) : Int) = a + k' + 1 by omega] at hw
  simp only [wcnt, hw, if_true] at hc; omega
theorem NthW.uniq {H : List Int} {a : Int} {n k l : Nat} (h : NthW H a n k) (g : NthW H a n l) : k = l := by
  rcases Nat.lt_trichotomy k l with c | c | c
  · have := g.last c; rw [h.c] at this; omega
  · exact c
  · have := h.last c; rw [g.c] at this; omega
theorem NthW.add {H : List Int} {a : Int} {n m k l : Nat} (h : NthW H a m k) (g : NthW H (a + k) n l) : NthW H a (m + n) (k + l) := by
  refine ⟨by rw [wcnt_add, h.c, g.c], ?_, by have := h.pos; omega⟩
  have := g.w
  rw [show a + ((k + l : Nat) : Int) = a + k + l by omega]; exact this
theorem NthW.lt {H : List Int} {a : Int} {n m k l : Nat} (h : NthW H a m k) (g : NthW H a n l) (hmn : m < n) : k < l := by
  apply Classical.byContradiction
  intro c
  have := wcnt_mono H a (j := l) (k := k) (by omega)
  rw [h.c, g.c] at this; omega
/-- How far a search for working days may be: beyond the last holiday three days a piece. -/
def wphase (x : Int) : Int := if x % 7 = 0 then 1 else if x % 7 = 1 then 2 else 0
theorem far_step {H : List Int} {M x n n' : Int} (hH : ∀ y ∈ H, y ≤ M) (h : x ≤ M + 3 * n + wphase x) (hn : n' = n + if wkB H (x + 1) then 1 else 0) : x + 1 ≤ M + 3 * n' + wphase (x + 1) ∨ x + 1 ≤ M := by
  by_cases c : x + 1 ≤ M
  · exact .inr c
  have hin : x + 1 ∉ H := fun g => c (hH _ g)
  refine .inl ?_
  cases hw : wkB H (x + 1) with
  | true =>
    rw [hw] at hn; simp at hn
    unfold wphase at *
    unfold wkB at hw
    simp only [decide_eq_true_eq] at hw
    split at h <;> (try split at h) <;> split <;> (try split) <;> omega
  | false =>
    rw [hw] at hn; simp at hn
    unfold wphase at *
    unfold wkB at hw
    simp only [decide_eq_false_iff_not, hin, not_false_eq_true, and_true] at hw
    split at h <;> (try split at h) <;> split <;> (try split) <;> omega
end Go.Proofs.Ythfnaegfjacjbab
