/- Parts and units: the plain part of highest averages. -/
import Derived.Test.YtlahdfmciaibdaaDoorM6
namespace Go.Proofs.YtlahdfmciaibdaaDoor
open Go.RowKit
set_option linter.unusedVariables false
set_option linter.unusedSimpArgs false

theorem gd_set {l : List Int} {k j : Nat} {x : Int} (h : k < l.length) : gd (l.set k x) j = if j = k then x else gd l j := by
  unfold gd
  rw [List.getElem?_set]
  by_cases e : k = j
  · subst e; simp [h]
  · rw [if_neg e, if_neg (fun z => e z.symm)]
theorem sum_set {l : List Int} {k : Nat} {x : Int} (h : k < l.length) : (l.set k x).sum = l.sum - gd l k + x := by
  induction l generalizing k with
  | nil => simp at h
  | cons a l ih =>
    cases k with
    | zero => simp [gd]; omega
    | succ k =>
      have hk : k < l.length := by simpa using h
      have := ih hk
      have e : gd (a :: l) (k + 1) = gd l k := by simp [gd]
      rw [List.set_cons_succ, List.sum_cons, List.sum_cons, this, e]; omega
theorem sum_take_succ {l : List Int} {k : Nat} (h : k < l.length) : (l.take (k + 1)).sum = (l.take k).sum + gd l k := by
  rw [List.take_succ_eq_append_getElem h, List.sum_append, gd_in h]; simp
theorem sum_le_of {a b : List Int} (hl : a.length = b.length) (h : ∀ i, i < a.length → gd a i ≤ gd b i) : a.sum ≤ b.sum := by
  induction a generalizing b with
  | nil => cases b <;> simp_all
  | cons x a ih =>
    cases b with
    | nil => simp at hl
    | cons y b =>
      have h0 := h 0 (by simp)
      have := ih (b := b) (by simpa using hl) (fun i hi => by have := h (i + 1) (by simpa using hi); simpa [gd] using this)
      simp [gd] at h0
      rw [List.sum_cons, List.sum_cons]; omega
theorem sum_lt_of {a b : List Int} (hl : a.length = b.length) (h : a.sum < b.sum) : ∃ i, i < a.length ∧ gd a i < gd b i := by
  apply Classical.byContradiction
  intro hn
  have := sum_le_of (a := b) (b := a) hl.symm (fun i hi => by
    rcases Int.lt_or_le (gd a i) (gd b i) with t | t
    · exact absurd ⟨i, by omega, t⟩ hn
    · exact t)
  omega
theorem sum_split {a b : List Int} (hl : a.length = b.length) (h : ∀ i, i < a.length → gd a i ≤ gd b i) (k : Nat) (hk : k < a.length) : a.sum + (gd b k - gd a k) ≤ b.sum := by
  have e1 := sum_set (x := gd b k) hk
  have := sum_le_of (a := a.set k (gd b k)) (b := b) (by simpa using hl) (fun i hi => by
    rw [gd_set hk]
    split
    · next e => subst e; exact Int.le_refl _
    · exact h i (by simpa using hi))
  omega
theorem gd_nonneg_le_sum {l : List Int} (h : ∀ i, 0 ≤ gd l i) (k : Nat) : gd l k ≤ l.sum := by
  by_cases hk : k < l.length
  · have z : ∀ n : Nat, (List.replicate n (0 : Int)).sum = 0 := fun n => by induction n with
      | zero => rfl
      | succ n ih => rw [List.replicate_succ, List.sum_cons, ih]; rfl
    have g : ∀ n i : Nat, gd (List.replicate n (0 : Int)) i = 0 := fun n i => by
      unfold gd
      rw [List.getElem?_replicate]
      split <;> rfl
    have := sum_split (a := List.replicate l.length 0) (b := l) (by simp) (fun i _ => by rw [g]; exact h i) k (by simpa using hk)
    rw [z, g] at this
    omega
  · have : gd l k = 0 := by unfold gd; rw [List.getElem?_eq_none (by omega)]; rfl
    have z := sum_le_of (a := List.replicate l.length 0) (b := l) (by simp) (fun i _ => by
      have : gd (List.replicate l.length (0 : Int)) i = 0 := by unfold gd; rw [List.getElem?_replicate]; split <;> rfl
      rw [this]; exact h i)
    have z2 : (List.replicate l.length (0 : Int)).sum = 0 := by
      generalize l.length = n
      induction n with
      | zero => rfl
      | succ n ih => rw [List.replicate_succ, List.sum_cons, ih]; rfl
    omega

/-- Unit a of part i (weight x) comes ahead of unit b of part j (weight y). -/
def Ahead (a x : Int) (i : Nat) (b y : Int) (j : Nat) : Prop := a * y < b * x ∨ (a * y = b * x ∧ i < j)
/-- The units that the parts have come ahead of all others. -/
structure Dn (l P : List Int) : Prop where
  len : P.length = l.length
  pos : ∀ i, 0 ≤ gd P i
  none : ∀ i, i < l.length → gd l i ≤ 0 → gd P i = 0
  down : ∀ i j, i < l.length → j < l.length → 0 < gd l i → 0 < gd l j → 0 < gd P i → i ≠ j → Ahead (2 * gd P i - 1) (gd l i) i (2 * gd P j + 1) (gd l j) j
/-- i is the part that has the next unit. -/
structure Nx (l P : List Int) (i : Nat) : Prop where
  lt : i < l.length
  pos : 0 < gd l i
  least : ∀ j, j < l.length → 0 < gd l j → i ≠ j → Ahead (2 * gd P i + 1) (gd l i) i (2 * gd P j + 1) (gd l j) j
theorem Dn.next {l P : List Int} {i : Nat} (h : Dn l P) (n : Nx l P i) : Dn l (P.set i (gd P i + 1)) := by
  have hi : i < P.length := by rw [h.len]; exact n.lt
  refine ⟨by simpa using h.len, fun j => ?_, fun j hj hz => ?_, fun a b ha hb pa pb pp hab => ?_⟩
  · rw [gd_set hi]; split
    · have := h.pos i; omega
    · exact h.pos j
  · rw [gd_set hi, if_neg (by intro e; subst e; have := n.pos; omega)]
    exact h.none j hj hz
  · rw [gd_set hi] at pp ⊢
    rw [gd_set hi]
    by_cases e1 : a = i
    · subst e1
      rw [if_pos rfl, if_neg (fun e => hab e.symm)]
      have := n.least b hb pb hab
      rw [show 2 * (gd P a + 1) - 1 = 2 * gd P a + 1 from by omega]
      exact this
    · rw [if_neg e1] at pp ⊢
      by_cases e2 : b = i
      · subst e2
        rw [if_pos rfl]
        have := h.down a b ha hb pa pb pp hab
        have k : (2 * gd P b + 1) * gd l a < (2 * (gd P b + 1) + 1) * gd l a := Int.mul_lt_mul_of_pos_right (by omega) pa
        rcases this with t | ⟨t, _⟩
        · exact .inl (by omega)
        · exact .inl (by omega)
      · rw [if_neg e2]
        exact h.down a b ha hb pa pb pp hab
theorem Dn.grows {l A B : List Int} (a : Dn l A) (b : Dn l B) (hs : A.sum < B.sum) : ∀ i, i < l.length → gd A i ≤ gd B i := by
  intro i hi
  rcases Int.lt_or_le (gd B i) (gd A i) with t | t
  · exfalso
    obtain ⟨j, hj, u⟩ := sum_lt_of (by rw [a.len, b.len]) hs
    have hj' : j < l.length := by rw [← a.len]; exact hj
    have hij : i ≠ j := by rintro rfl; omega
    have pi : 0 < gd l i := by
      rcases Int.lt_or_le 0 (gd l i) with z | z
      · exact z
      · have := a.none i hi z; have := b.pos i; omega
    have pj : 0 < gd l j := by
      rcases Int.lt_or_le 0 (gd l j) with z | z
      · exact z
      · have := b.none j hj' z; have := a.pos j; omega
    have x := a.down i j hi hj' pi pj (by have := b.pos i; omega) hij
    have y := b.down j i hj' hi pj pi (by have := a.pos j; omega) (fun e => hij e.symm)
    -- units (i, A_i - 1) and (j, A_j)
    have e1 : (2 * gd B i + 1) * gd l j ≤ (2 * gd A i - 1) * gd l j := Int.mul_le_mul_of_nonneg_right (by omega) (by omega)
    have e2 : (2 * gd A j + 1) * gd l i ≤ (2 * gd B j - 1) * gd l i := Int.mul_le_mul_of_nonneg_right (by omega) (by omega)
    unfold Ahead at x y
    omega
  · exact t
theorem Dn.one {l A B : List Int} (a : Dn l A) (b : Dn l B) (hs : B.sum = A.sum + 1) : ∀ i, i < l.length → gd B i = gd A i ∨ gd B i = gd A i + 1 := by
  intro i hi
  have g := a.grows b (by omega)
  have := sum_split (a := A) (b := B) (by rw [a.len, b.len]) (fun i hi => g i (by rw [← a.len]; exact hi)) i (by rw [a.len]; exact hi)
  have := g i hi
  omega
/-- The parts of a threshold X/(2 S), rounded, a half downwards. -/
theorem Dn.cut {l P : List Int} {X S : Int} (hS : 0 < S) (hl : P.length = l.length) (h0 : ∀ i, i < l.length → 0 ≤ gd l i)
    (h : ∀ i, i < l.length → 0 ≤ gd P i ∧ (gd l i = 0 → gd P i = 0) ∧ (2 * gd P i - 1) * S < X * gd l i + (if gd l i = 0 then S else 0) ∧ X * gd l i ≤ (2 * gd P i + 1) * S) : Dn l P := by
  refine ⟨hl, fun i => ?_, fun i hi hz => (h i hi).2.1 (by have := h0 i hi; omega), fun i j hi hj pi pj pp hij => ?_⟩
  · by_cases t : i < l.length
    · exact (h i t).1
    · have : gd P i = 0 := by unfold gd; rw [List.getElem?_eq_none (by omega)]; rfl
      omega
  · obtain ⟨_, _, a1, a2⟩ := h i hi
    obtain ⟨_, _, b1, b2⟩ := h j hj
    rw [if_neg (by omega)] at a1
    left
    have u : ((2 * gd P i - 1) * gd l j) * S < ((2 * gd P j + 1) * gd l i) * S := by
      calc ((2 * gd P i - 1) * gd l j) * S = ((2 * gd P i - 1) * S) * gd l j := by ac_rfl
        _ < (X * gd l i + 0) * gd l j := Int.mul_lt_mul_of_pos_right a1 pj
        _ = (X * gd l j) * gd l i := by rw [Int.add_zero]; ac_rfl
        _ ≤ ((2 * gd P j + 1) * S) * gd l i := Int.mul_le_mul_of_nonneg_right b2 (by omega)
        _ = ((2 * gd P j + 1) * gd l i) * S := by ac_rfl
    exact Int.lt_of_mul_lt_mul_right u (by omega)
/-- How many weights are above 0. -/
def posi (l : List Int) : Int := (l.map fun x => if 0 < x then (1 : Int) else 0).sum
theorem posi_take {l : List Int} {k : Nat} (h : k < l.length) : posi (l.take (k + 1)) = posi (l.take k) + if 0 < gd l k then 1 else 0 := by
  unfold posi
  rw [List.take_succ_eq_append_getElem h, List.map_append, List.sum_append, gd_in h]; simp
theorem cut_sum {l P : List Int} {X S : Int} (hl : P.length = l.length)
    (h : ∀ i, i < l.length → 2 * gd P i * S ≤ X * gd l i + S * (if 0 < gd l i then 1 else 0)) : 2 * P.sum * S ≤ X * l.sum + S * posi l := by
  induction l generalizing P with
  | nil => cases P <;> simp_all [posi]
  | cons x l ih =>
    cases P with
    | nil => simp at hl
    | cons p P =>
      have h0 := h 0 (by simp)
      have := ih (P := P) (by simpa using hl) (fun i hi => h (i + 1) (by simpa using hi))
      have e1 : gd (p :: P) 0 = p := rfl
      have e2 : gd (x :: l) 0 = x := rfl
      rw [e1, e2] at h0
      unfold posi at this ⊢
      rw [List.map_cons, List.sum_cons, List.sum_cons, List.sum_cons]
      generalize (l.map fun x => if 0 < x then (1 : Int) else 0).sum = m at *
      generalize (if 0 < x then (1 : Int) else 0) = g at *
      generalize P.sum = a at *
      generalize l.sum = b at *
      grind
end Go.Proofs.YtlahdfmciaibdaaDoor
