/- Several texts in one: M5 M6 U0 PR1. -/
import Derived.Test.YtacliakmhkebbaaDoorB0

/- Numbers as rows of digits to the base 10000, the lowest first: plain facts for the reference's Big. -/
namespace Go.Proofs.YtacliakmhkebbaaDoor
open Go.RowKit
set_option linter.unusedVariables false
set_option linter.unusedSimpArgs false

def dval : List Int → Int
  | [] => 0
  | d :: l => d + 10000 * dval l
def Digs (l : List Int) : Prop := ∀ x ∈ l, 0 ≤ x ∧ x < 10000
/-- No highest digit 0. -/
def Norm (l : List Int) : Prop := ∀ h : l ≠ [], l.getLast h ≠ 0

theorem Digs.nil : Digs [] := fun _ h => by cases h
theorem Digs.cons {d : Int} {l : List Int} : Digs (d :: l) ↔ (0 ≤ d ∧ d < 10000) ∧ Digs l := by simp [Digs]
theorem Digs.app {a b : List Int} : Digs (a ++ b) ↔ Digs a ∧ Digs b := by
  simp only [Digs, List.mem_append]
  exact ⟨fun h => ⟨fun x m => h x (.inl m), fun x m => h x (.inr m)⟩, fun ⟨h, k⟩ x m => m.elim (h x) (k x)⟩

theorem pow_pos' (n : Nat) : (1 : Int) ≤ 10000 ^ n := by
  induction n with
  | zero => simp
  | succ n ih => rw [Int.pow_succ]; omega
theorem pow_mono {a b : Nat} (h : a ≤ b) : (10000 : Int) ^ a ≤ 10000 ^ b := by
  obtain ⟨k, rfl⟩ := Nat.le.dest h
  rw [Int.pow_add]
  have := Int.mul_le_mul_of_nonneg_left (pow_pos' k) (show 0 ≤ (10000 : Int) ^ a by have := pow_pos' a; omega)
  omega

theorem dval_nonneg : ∀ {l : List Int}, Digs l → 0 ≤ dval l
  | [], _ => by simp [dval]
  | d :: l, h => by have ⟨a, b⟩ := Digs.cons.1 h; have := dval_nonneg b; simp only [dval]; omega
theorem dval_lt : ∀ {l : List Int}, Digs l → dval l < 10000 ^ l.length
  | [], _ => by simp [dval]
  | d :: l, h => by
    have ⟨a, b⟩ := Digs.cons.1 h
    have k := dval_lt b
    simp only [dval, List.length_cons, Int.pow_succ]
    omega
theorem dval_app : ∀ (a b : List Int), dval (a ++ b) = dval a + 10000 ^ a.length * dval b
  | [], b => by simp [dval]
  | d :: l, b => by
    simp only [List.cons_append, dval, dval_app l b, List.length_cons, Int.pow_succ]
    rw [Int.mul_add, Int.mul_comm (10000 ^ l.length) 10000, Int.mul_assoc]
    omega
theorem dval_snoc (a : List Int) (d : Int) : dval (a ++ [d]) = dval a + 10000 ^ a.length * d := by rw [dval_app]; simp [dval]
theorem snoc_of {l : List Int} (h : l ≠ []) : ∃ a, l = a ++ [l.getLast h] := ⟨l.dropLast, (List.dropLast_concat_getLast h).symm⟩

/-- A row without a highest digit 0 is at least the power of its length less one. -/
theorem Norm.ge {l : List Int} (n : Norm l) (h : Digs l) (e : l ≠ []) : (10000 : Int) ^ (l.length - 1) ≤ dval l := by
  obtain ⟨a, ha⟩ := snoc_of e
  have k := n e
  generalize l.getLast e = d at ha k
  subst ha
  have ⟨h1, h2⟩ := Digs.app.1 h
  have h3 := (Digs.cons.1 h2).1
  have p := dval_nonneg h1
  rw [dval_snoc]
  simp only [List.length_append, List.length_cons, List.length_nil, Nat.zero_add, Nat.add_sub_cancel]
  have q : (10000 : Int) ^ a.length * 1 ≤ 10000 ^ a.length * d := Int.mul_le_mul_of_nonneg_left (by omega) (by have := pow_pos' a.length; omega)
  omega
/-- A shorter row is less. -/
theorem dval_shorter {a b : List Int} (ha : Digs a) (hb : Digs b) (n : Norm b) (h : a.length < b.length) : dval a < dval b := by
  have e : b ≠ [] := by intro e; subst e; simp at h
  have k1 := dval_lt ha
  have k2 := n.ge hb e
  have k3 : (10000 : Int) ^ a.length ≤ 10000 ^ (b.length - 1) := pow_mono (by omega)
  omega
/-- Two rows that agree above a digit are told apart by it. -/
theorem dval_at {a b c : List Int} {x y : Int} (ha : Digs a) (hb : Digs b) (h : a.length = b.length) (t : x < y) : dval (a ++ x :: c) < dval (b ++ y :: c) := by
  rw [dval_app, dval_app, h]
  simp only [dval]
  have k1 := dval_lt ha
  have k2 := dval_nonneg hb
  rw [h] at k1
  have k3 : (10000 : Int) ^ b.length * (x + 10000 * dval c + 1) ≤ 10000 ^ b.length * (y + 10000 * dval c) := Int.mul_le_mul_of_nonneg_left (by omega) (by have := pow_pos' b.length; omega)
  rw [Int.mul_add _ _ 1] at k3
  omega
/-- Two rows of digits of one length and one value are one. -/
theorem dval_same : ∀ {a b : List Int}, Digs a → Digs b → a.length = b.length → dval a = dval b → a = b
  | [], [], _, _, _, _ => rfl
  | [], _ :: _, _, _, h, _ => by simp at h
  | _ :: _, [], _, _, h, _ => by simp at h
  | x :: a, y :: b, ha, hb, h, e => by
    have ⟨p, q⟩ := Digs.cons.1 ha
    have ⟨r, s⟩ := Digs.cons.1 hb
    simp only [dval] at e
    have e1 : x = y := by omega
    have e2 : dval a = dval b := by omega
    rw [e1, dval_same q s (by simpa using h) e2]
/-- Two such rows of one value are one. -/
theorem dval_inj {a b : List Int} (ha : Digs a) (hb : Digs b) (na : Norm a) (nb : Norm b) (e : dval a = dval b) : a = b := by
  refine dval_same ha hb ?_ e
  rcases Nat.lt_trichotomy a.length b.length with t | t | t
  · have := dval_shorter ha hb nb t; omega
  · exact t
  · have := dval_shorter hb ha na t; omega
end Go.Proofs.YtacliakmhkebbaaDoor

/- Rows of digits to the base 10000: what the reference's loops over them keep. -/
namespace Go.Proofs.YtacliakmhkebbaaDoor
open Go.RowKit
set_option linter.unusedVariables false
set_option linter.unusedSimpArgs false

/-- The digits, without a highest 0, of v. -/
structure Can (l : List Int) (v : Int) : Prop where
  digs : Digs l
  norm : Norm l
  val : dval l = v
theorem Can.nonneg {l : List Int} {v : Int} (c : Can l v) : 0 ≤ v := by rw [← c.val]; exact dval_nonneg c.digs
theorem Can.one {a b : List Int} {v : Int} (c : Can a v) (d : Can b v) : a = b := dval_inj c.digs d.digs c.norm d.norm (c.val.trans d.val.symm)
theorem Norm.nil : Norm [] := fun h => absurd rfl h
theorem Can.nil : Can [] 0 := ⟨Digs.nil, Norm.nil, rfl⟩
theorem Can.empty {l : List Int} {v : Int} (c : Can l v) : l = [] ↔ v = 0 := by
  constructor
  · intro h; rw [← c.val, h]; rfl
  · intro h; exact c.one (h ▸ Can.nil)
theorem Can.length_zero {l : List Int} {v : Int} (c : Can l v) : l.length = 0 ↔ v = 0 := by rw [List.length_eq_zero_iff]; exact c.empty
theorem Can.digit {d : Int} (h1 : 1 ≤ d) (h2 : d < 10000) : Can [d] d := ⟨by intro x m; simp at m; omega, by intro h; simp; omega, by simp [dval]⟩

theorem dval_zeros : ∀ {l : List Int}, (∀ x ∈ l, x = 0) → dval l = 0
  | [], _ => rfl
  | d :: l, h => by simp only [dval, dval_zeros (fun x m => h x (.tail _ m)), h d (.head _)]; omega
theorem dval_take_zeros {l : List Int} {k : Nat} (h : ∀ x ∈ l.drop k, x = 0) : dval (l.take k) = dval l := by
  have e := dval_app (l.take k) (l.drop k)
  rw [List.take_append_drop, dval_zeros h] at e
  omega
theorem Digs.take {l : List Int} (h : Digs l) (k : Nat) : Digs (l.take k) := fun x m => h x (List.mem_of_mem_take m)
theorem Digs.drop {l : List Int} (h : Digs l) (k : Nat) : Digs (l.drop k) := fun x m => h x (List.mem_of_mem_drop m)
theorem dval_set : ∀ (l : List Int) (i : Nat) (h : i < l.length) (x : Int), dval (l.set i x) = dval l + 10000 ^ i * (x - l[i])
  | [], i, h, _ => by simp at h
  | d :: l, 0, h, x => by simp [dval]; omega
  | d :: l, i + 1, h, x => by
    simp only [List.set_cons_succ, dval, dval_set l i (by simpa using h) x, Int.pow_succ, List.getElem_cons_succ]
    rw [Int.mul_add, Int.mul_comm (10000 ^ i) 10000, Int.mul_assoc]
    omega
theorem Digs.set {l : List Int} (h : Digs l) (i : Nat) {x : Int} (hx : 0 ≤ x ∧ x < 10000) : Digs (l.set i x) := fun y m => by
  rcases List.mem_or_eq_of_mem_set m with m | m
  · exact h y m
  · exact m ▸ hx

/-- The digit at a place, 0 beyond the row. -/
def gd (l : List Int) (k : Nat) : Int := (l[k]?).getD 0
theorem gd_in {l : List Int} {k : Nat} (h : k < l.length) : gd l k = l[k] := by simp [gd, h]
theorem gd_out {l : List Int} {k : Nat} (h : l.length ≤ k) : gd l k = 0 := by simp [gd, h]
theorem gd_le {l : List Int} (h : Digs l) (k : Nat) : 0 ≤ gd l k ∧ gd l k < 10000 := by
  by_cases c : k < l.length
  · rw [gd_in c]; exact h _ (List.getElem_mem c)
  · rw [gd_out (by omega)]; omega
theorem dval_drop (l : List Int) (k : Nat) : dval (l.drop k) = gd l k + 10000 * dval (l.drop (k + 1)) := by
  by_cases c : k < l.length
  · rw [List.drop_eq_getElem_cons c, gd_in c]; rfl
  · rw [List.drop_of_length_le (by omega), List.drop_of_length_le (by omega), gd_out (by omega)]; rfl
theorem carry_step {P u m z : Int} (h : u = m + 10000 * z) : P * u = P * m + P * 10000 * z := by rw [h, Int.mul_add, Int.mul_assoc]

/-- One step of the sum. -/
theorem add_step {a b o : List Int} {k : Nat} {c X : Int} (hl : o.length = k)
    (h : dval o + 10000 ^ k * (c + dval (a.drop k) + dval (b.drop k)) = X) :
    dval (o ++ [(c + gd a k + gd b k) % 10000]) + 10000 ^ (k + 1) * ((c + gd a k + gd b k) / 10000 + dval (a.drop (k + 1)) + dval (b.drop (k + 1))) = X := by
  rw [dval_snoc, hl, ← h, Int.pow_succ]
  rw [carry_step (P := 10000 ^ k) (u := c + dval (a.drop k) + dval (b.drop k)) (m := (c + gd a k + gd b k) % 10000) (z := (c + gd a k + gd b k) / 10000 + dval (a.drop (k + 1)) + dval (b.drop (k + 1)))
    (by rw [dval_drop a k, dval_drop b k]; omega)]
  omega
/-- One step of the difference. -/
theorem sub_step {a b o : List Int} {k : Nat} {c s c' X : Int} (hl : o.length = k) (hs : s - 10000 * c' = gd a k - gd b k - c)
    (h : dval o + 10000 ^ k * (dval (a.drop k) - dval (b.drop k) - c) = X) :
    dval (o ++ [s]) + 10000 ^ (k + 1) * (dval (a.drop (k + 1)) - dval (b.drop (k + 1)) - c') = X := by
  rw [dval_snoc, hl, ← h, Int.pow_succ]
  rw [carry_step (P := 10000 ^ k) (u := dval (a.drop k) - dval (b.drop k) - c) (m := s) (z := dval (a.drop (k + 1)) - dval (b.drop (k + 1)) - c')
    (by rw [dval_drop a k, dval_drop b k]; omega)]
  omega
theorem sub_end {o : List Int} {n : Nat} {c X : Int} (ho : Digs o) (hl : o.length = n) (h : dval o + 10000 ^ n * (0 - 0 - c) = X) (hc : c = 0 ∨ c = 1) (hX : 0 ≤ X) : dval o = X := by
  have q := dval_lt ho
  rw [hl] at q
  rcases hc with rfl | rfl
  · omega
  · rw [show ((0 : Int) - 0 - 1) = -1 from rfl, Int.mul_neg, Int.mul_one] at h; omega
/-- One step of a row times a digit, added in place. -/
theorem mul_step {b O : List Int} {i k : Nat} {ai c X : Int} (hi : i + k < O.length)
    (h : dval O + 10000 ^ (i + k) * (c + ai * dval (b.drop k)) = X) :
    dval (O.set (i + k) ((O[i + k] + ai * gd b k + c) % 10000)) + 10000 ^ (i + (k + 1)) * ((O[i + k] + ai * gd b k + c) / 10000 + ai * dval (b.drop (k + 1))) = X := by
  rw [dval_set _ _ hi, ← h, ← Nat.add_assoc, Int.pow_succ]
  have e : ai * dval (b.drop k) = ai * gd b k + 10000 * (ai * dval (b.drop (k + 1))) := by
    rw [dval_drop b k, Int.mul_add]; congr 1; rw [← Int.mul_assoc, ← Int.mul_assoc, Int.mul_comm ai 10000]
  rw [carry_step (P := 10000 ^ (i + k)) (u := c + ai * dval (b.drop k)) (m := (O[i + k] + ai * gd b k + c) % 10000 - O[i + k]) (z := (O[i + k] + ai * gd b k + c) / 10000 + ai * dval (b.drop (k + 1)))
    (by rw [e]; omega)]
  omega
theorem mul_carry {x y z c : Int} (hx : 0 ≤ x ∧ x < 10000) (hy : 0 ≤ y ∧ y < 10000) (hz : 0 ≤ z ∧ z < 10000) (hc : 0 ≤ c ∧ c < 10000) : 0 ≤ y * z ∧ y * z ≤ 99980001 ∧ 0 ≤ x + y * z + c ∧ x + y * z + c ≤ 99999999 := by
  have a : 0 ≤ y * z := Int.mul_nonneg hy.1 hz.1
  have b : y * z ≤ 9999 * z := Int.mul_le_mul_of_nonneg_right (by omega) hz.1
  omega
/-- The last carry of a row. -/
theorem mul_last {a b O : List Int} {i : Nat} {c X T : Int} (hi : i + b.length < O.length) (h0 : O[i + b.length] = 0)
    (h : dval O + 10000 ^ (i + b.length) * (c + gd a i * dval (b.drop b.length)) = T + 10000 ^ i * (gd a i * dval b))
    (hT : T + 10000 ^ i * (dval (a.drop i) * dval b) = X) :
    dval (O.set (i + b.length) c) + 10000 ^ (i + 1) * (dval (a.drop (i + 1)) * dval b) = X := by
  rw [dval_set _ _ hi, h0]
  rw [List.drop_length] at h
  simp only [dval, Int.mul_zero, Int.add_zero] at h
  rw [← hT, Int.pow_succ]
  have e : dval (a.drop i) * dval b = gd a i * dval b + 10000 * (dval (a.drop (i + 1)) * dval b) := by
    rw [dval_drop a i, Int.add_mul, Int.mul_assoc]
  rw [carry_step (P := 10000 ^ i) e]
  have e2 : c - 0 = c := by omega
  rw [e2]
  omega
/-- One digit of the quotient. -/
theorem div_step {a Q : List Int} {k : Nat} {B R r q : Int} (hk : k < Q.length)
    (h : dval (a.drop (k + 1)) = B * dval (Q.drop (k + 1)) + R) (hr : gd a k + 10000 * R = B * q + r) :
    dval (a.drop k) = B * dval ((Q.set k q).drop k) + r := by
  have e : (Q.set k q).drop k = q :: Q.drop (k + 1) := by
    rw [List.drop_eq_getElem_cons (by simpa using hk)]
    simp [List.drop_set]
  rw [dval_drop a k, h, e]
  simp only [dval]
  rw [Int.mul_add B q, ← Int.mul_assoc B 10000, Int.mul_comm B 10000, Int.mul_assoc 10000]
  omega
theorem div_bound {B R d : Int} (hR : 0 ≤ R ∧ R < B) (hd : 0 ≤ d ∧ d < 10000) : d + 10000 * R < B * 10000 := by omega
theorem div_end {A B q r : Int} (h : A = B * q + r) (h0 : 0 ≤ r) (h1 : r < B) : q = A / B ∧ r = A % B := by
  have hB : B ≠ 0 := by omega
  have e1 : A / B = q := by
    rw [h, Int.add_comm, Int.add_mul_ediv_left _ _ hB, Int.ediv_eq_zero_of_lt h0 h1]; omega
  have e2 := Int.mul_ediv_add_emod A B
  rw [e1] at e2
  exact ⟨e1.symm, by omega⟩
end Go.Proofs.YtacliakmhkebbaaDoor

/- Parts and units: the plain part of highest averages. -/
namespace Go.Proofs.YtacliakmhkebbaaDoor
open Go.RowKit
set_option linter.unusedVariables false
set_option linter.unusedSimpArgs false

theorem gd_set {l : List Int} {k j : Nat} {x : Int} (h : k < l.length) : gd (l.set k x) j = if j = k then x else gd l j := by
  unfold gd
  rw [List.getElem?_set]
  by_cases e : k = j
  · subst e; simp [h]
  · rw [if_neg e, if_neg (fun z => e z.symm)]
theorem sum_set {l : List Int} {k : Nat} {x : Int} (h : k < l.length) : (l.set k x).sum = l.sum - gd l k + x := by
  induction l generalizing k with
  | nil => simp at h
  | cons a l ih =>
    cases k with
    | zero => simp [gd]; omega
    | succ k =>
      have hk : k < l.length := by simpa using h
      have := ih hk
      have e : gd (a :: l) (k + 1) = gd l k := by simp [gd]
      rw [List.set_cons_succ, List.sum_cons, List.sum_cons, this, e]; omega
theorem sum_take_succ {l : List Int} {k : Nat} (h : k < l.length) : (l.take (k + 1)).sum = (l.take k).sum + gd l k := by
  rw [List.take_succ_eq_append_getElem h, List.sum_append, gd_in h]; simp
theorem sum_le_of {a b : List Int} (hl : a.length = b.length) (h : ∀ i, i < a.length → gd a i ≤ gd b i) : a.sum ≤ b.sum := by
  induction a generalizing b with
  | nil => cases b <;> simp_all
  | cons x a ih =>
    cases b with
    | nil => simp at hl
    | cons y b =>
      have h0 := h 0 (by simp)
      have := ih (b := b) (by simpa using hl) (fun i hi => by have := h (i + 1) (by simpa using hi); simpa [gd] using this)
      simp [gd] at h0
      rw [List.sum_cons, List.sum_cons]; omega
theorem sum_lt_of {a b : List Int} (hl : a.length = b.length) (h : a.sum < b.sum) : ∃ i, i < a.length ∧ gd a i < gd b i := by
  apply Classical.byContradiction
  intro hn
  have := sum_le_of (a := b) (b := a) hl.symm (fun i hi => by
    rcases Int.lt_or_le (gd a i) (gd b i) with t | t
    · exact absurd ⟨i, by omega, t⟩ hn
    · exact t)
  omega
theorem sum_split {a b : List Int} (hl : a.length = b.length) (h : ∀ i, i < a.length → gd a i ≤ gd b i) (k : Nat) (hk : k < a.length) : a.sum + (gd b k - gd a k) ≤ b.sum := by
  have e1 := sum_set (x := gd b k) hk
  have := sum_le_of (a := a.set k (gd b k)) (b := b) (by simpa using hl) (fun i hi => by
    rw [gd_set hk]
    split
    · next e => subst e; exact Int.le_refl _
    · exact h i (by simpa using hi))
  omega
theorem gd_nonneg_le_sum {l : List Int} (h : ∀ i, 0 ≤ gd l i) (k : Nat) : gd l k ≤ l.sum := by
  by_cases hk : k < l.length
  · have z : ∀ n : Nat, (List.replicate n (0 : Int)).sum = 0 := fun n => by induction n with
      | zero => rfl
      | succ n ih => rw [List.replicate_succ, List.sum_cons, ih]; rfl
    have g : ∀ n i : Nat, gd (List.replicate n (0 : Int)) i = 0 := fun n i => by
      unfold gd
      rw [List.getElem?_replicate]
      split <;> rfl
    have := sum_split (a := List.replicate l.length 0) (b := l) (by simp) (fun i _ => by rw [g]; exact h i) k (by simpa using hk)
    rw [z, g] at this
    omega
  · have : gd l k = 0 := by unfold gd; rw [List.getElem?_eq_none (by omega)]; rfl
    have z := sum_le_of (a := List.replicate l.length 0) (b := l) (by simp) (fun i _ => by
      have : gd (List.replicate l.length (0 : Int)) i = 0 := by unfold gd; rw [List.getElem?_replicate]; split <;> rfl
      rw [this]; exact h i)
    have z2 : (List.replicate l.length (0 : Int)).sum = 0 := by
      generalize l.length = n
      induction n with
      | zero => rfl
      | succ n ih => rw [List.replicate_succ, List.sum_cons, ih]; rfl
    omega

/-- Unit a of part i (weight x) comes ahead of unit b of part j (weight y). -/
def Ahead (a x : Int) (i : Nat) (b y : Int) (j : Nat) : Prop := a * y < b * x ∨ (a * y = b * x ∧ i < j)
/-- The units that the parts have come ahead of all others. -/
structure Dn (l P : List Int) : Prop where
  len : P.length = l.length
  pos : ∀ i, 0 ≤ gd P i
  none : ∀ i, i < l.length → gd l i ≤ 0 → gd P i = 0
  down : ∀ i j, i < l.length → j < l.length → 0 < gd l i → 0 < gd l j → 0 < gd P i → i ≠ j → Ahead (2 * gd P i - 1) (gd l i) i (2 * gd P j + 1) (gd l j) j
/-- i is the part that has the next unit. -/
structure Nx (l P : List Int) (i : Nat) : Prop where
  lt : i < l.length
  pos : 0 < gd l i
  least : ∀ j, j < l.length → 0 < gd l j → i ≠ j → Ahead (2 * gd P i + 1) (gd l i) i (2 * gd P j + 1) (gd l j) j
theorem Dn.next {l P : List Int} {i : Nat} (h : Dn l P) (n : Nx l P i) : Dn l (P.set i (gd P i + 1)) := by
  have hi : i < P.length := by rw [h.len]; exact n.lt
  refine ⟨by simpa using h.len, fun j => ?_, fun j hj hz => ?_, fun a b ha hb pa pb pp hab => ?_⟩
  · rw [gd_set hi]; split
    · have := h.pos i; omega
    · exact h.pos j
  · rw [gd_set hi, if_neg (by intro e; subst e; have := n.pos; omega)]
    exact h.none j hj hz
  · rw [gd_set hi] at pp ⊢
    rw [gd_set hi]
    by_cases e1 : a = i
    · subst e1
      rw [if_pos rfl, if_neg (fun e => hab e.symm)]
      have := n.least b hb pb hab
      rw [show 2 * (gd P a + 1) - 1 = 2 * gd P a + 1 from by omega]
      exact this
    · rw [if_neg e1] at pp ⊢
      by_cases e2 : b = i
      · subst e2
        rw [if_pos rfl]
        have := h.down a b ha hb pa pb pp hab
        have k : (2 * gd P b + 1) * gd l a < (2 * (gd P b + 1) + 1) * gd l a := Int.mul_lt_mul_of_pos_right (by omega) pa
        rcases this with t | ⟨t, _⟩
        · exact .inl (by omega)
        · exact .inl (by omega)
      · rw [if_neg e2]
        exact h.down a b ha hb pa pb pp hab
theorem Dn.grows {l A B : List Int} (a : Dn l A) (b : Dn l B) (hs : A.sum < B.sum) : ∀ i, i < l.length → gd A i ≤ gd B i := by
  intro i hi
  rcases Int.lt_or_le (gd B i) (gd A i) with t | t
  · exfalso
    obtain ⟨j, hj, u⟩ := sum_lt_of (by rw [a.len, b.len]) hs
    have hj' : j < l.length := by rw [← a.len]; exact hj
    have hij : i ≠ j := by rintro rfl; omega
    have pi : 0 < gd l i := by
      rcases Int.lt_or_le 0 (gd l i) with z | z
      · exact z
      · have := a.none i hi z; have := b.pos i; omega
    have pj : 0 < gd l j := by
      rcases Int.lt_or_le 0 (gd l j) with z | z
      · exact z
      · have := b.none j hj' z; have := a.pos j; omega
    have x := a.down i j hi hj' pi pj (by have := b.pos i; omega) hij
    have y := b.down j i hj' hi pj pi (by have := a.pos j; omega) (fun e => hij e.symm)
    -- units (i, A_i - 1) and (j, A_j)
    have e1 : (2 * gd B i + 1) * gd l j ≤ (2 * gd A i - 1) * gd l j := Int.mul_le_mul_of_nonneg_right (by omega) (by omega)
    have e2 : (2 * gd A j + 1) * gd l i ≤ (2 * gd B j - 1) * gd l i := Int.mul_le_mul_of_nonneg_right (by omega) (by omega)
    unfold Ahead at x y
    omega
  · exact t
theorem Dn.one {l A B : List Int} (a : Dn l A) (b : Dn l B) (hs : B.sum = A.sum + 1) : ∀ i, i < l.length → gd B i = gd A i ∨ gd B i = gd A i + 1 := by
  intro i hi
  have g := a.grows b (by omega)
  have := sum_split (a := A) (b := B) (by rw [a.len, b.len]) (fun i hi => g i (by rw [← a.len]; exact hi)) i (by rw [a.len]; exact hi)
  have := g i hi
  omega
/-- The parts of a threshold X/(2 S), rounded, a half downwards. -/
theorem Dn.cut {l P : List Int} {X S : Int} (hS : 0 < S) (hl : P.length = l.length) (h0 : ∀ i, i < l.length → 0 ≤ gd l i)
    (h : ∀ i, i < l.length → 0 ≤ gd P i ∧ (gd l i = 0 → gd P i = 0) ∧ (2 * gd P i - 1) * S < X * gd l i + (if gd l i = 0 then S else 0) ∧ X * gd l i ≤ (2 * gd P i + 1) * S) : Dn l P := by
  refine ⟨hl, fun i => ?_, fun i hi hz => (h i hi).2.1 (by have := h0 i hi; omega), fun i j hi hj pi pj pp hij => ?_⟩
  · by_cases t : i < l.length
    · exact (h i t).1
    · have : gd P i = 0 := by unfold gd; rw [List.getElem?_eq_none (by omega)]; rfl
      omega
  · obtain ⟨_, _, a1, a2⟩ := h i hi
    obtain ⟨_, _, b1, b2⟩ := h j hj
    rw [if_neg (by omega)] at a1
    left
    have u : ((2 * gd P i - 1) * gd l j) * S < ((2 * gd P j + 1) * gd l i) * S := by
      calc ((2 * gd P i - 1) * gd l j) * S = ((2 * gd P i - 1) * S) * gd l j := by ac_rfl
        _ < (X * gd l i + 0) * gd l j := Int.mul_lt_mul_of_pos_right a1 pj
        _ = (X * gd l j) * gd l i := by rw [Int.add_zero]; ac_rfl
        _ ≤ ((2 * gd P j + 1) * S) * gd l i := Int.mul_le_mul_of_nonneg_right b2 (by omega)
        _ = ((2 * gd P j + 1) * gd l i) * S := by ac_rfl
    exact Int.lt_of_mul_lt_mul_right u (by omega)
/-- How many weights are above 0. -/
def posi (l : List Int) : Int := (l.map fun x => if 0 < x then (1 : Int) else 0).sum
theorem posi_take {l : List Int} {k : Nat} (h : k < l.length) : posi (l.take (k + 1)) = posi (l.take k) + if 0 < gd l k then 1 else 0 := by
  unfold posi
  rw [List.take_succ_eq_append_getElem h, List.map_append, List.sum_append, gd_in h]; simp
theorem cut_sum {l P : List Int} {X S : Int} (hl : P.length = l.length)
    (h : ∀ i, i < l.length → 2 * gd P i * S ≤ X * gd l i + S * (if 0 < gd l i then 1 else 0)) : 2 * P.sum * S ≤ X * l.sum + S * posi l := by
  induction l generalizing P with
  | nil => cases P <;> simp_all [posi]
  | cons x l ih =>
    cases P with
    | nil => simp at hl
    | cons p P =>
      have h0 := h 0 (by simp)
      have := ih (P := P) (by simpa using hl) (fun i hi => h (i + 1) (by simpa using hi))
      have e1 : gd (p :: P) 0 = p := rfl
      have e2 : gd (x :: l) 0 = x := rfl
      rw [e1, e2] at h0
      unfold posi at this ⊢
      rw [List.map_cons, List.sum_cons, List.sum_cons, List.sum_cons]
      generalize (l.map fun x => if 0 < x then (1 : Int) else 0).sum = m at *
      generalize (if 0 < x then (1 : Int) else 0) = g at *
      generalize P.sum = a at *
      generalize l.sum = b at *
      grind
end Go.Proofs.YtacliakmhkebbaaDoor

/- Plain: sums over an order, the makespan as the greatest of the sums, Johnson's rule. -/
set_option linter.unusedVariables false
namespace Go.Proofs.YtacliakmhkebbaaDoor.Prs

def sm (F : Nat → Int) : Nat → Int
  | 0 => 0
  | k + 1 => sm F k + F k
theorem sm_congr {F G : Nat → Int} {n : Nat} (h : ∀ k, k < n → F k = G k) : sm F n = sm G n := by
  induction n with
  | zero => rfl
  | succ n ih => simp only [sm]; rw [ih fun k hk => h k (by omega), h n (by omega)]
theorem sm_le {F G : Nat → Int} {n : Nat} (h : ∀ k, k < n → F k ≤ G k) : sm F n ≤ sm G n := by
  induction n with
  | zero => exact Int.le_refl _
  | succ n ih => simp only [sm]; have := ih fun k hk => h k (by omega); have := h n (by omega); omega
theorem sm_add (F G : Nat → Int) (n : Nat) : sm (fun k => F k + G k) n = sm F n + sm G n := by
  induction n with
  | zero => rfl
  | succ n ih => simp only [sm]; omega
theorem sm_nonneg {F : Nat → Int} {n : Nat} (h : ∀ k, k < n → 0 ≤ F k) : 0 ≤ sm F n := by
  induction n with
  | zero => exact Int.le_refl _
  | succ n ih => simp only [sm]; have := ih fun k hk => h k (by omega); have := h n (by omega); omega
theorem sm_mono {F : Nat → Int} {m n : Nat} (h : ∀ k, k < n → 0 ≤ F k) (hm : m ≤ n) : sm F m ≤ sm F n := by
  induction n with
  | zero => have : m = 0 := by omega
            subst this; exact Int.le_refl _
  | succ n ih =>
    by_cases c : m = n + 1
    · subst c; exact Int.le_refl _
    · have := ih (fun k hk => h k (by omega)) (by omega); simp only [sm]; have := h n (by omega); omega
theorem sm_top {F : Nat → Int} {B : Int} {n : Nat} (h : ∀ k, k < n → F k ≤ B) (hB : 0 ≤ B) : sm F n ≤ n * B := by
  induction n with
  | zero => simp [sm]
  | succ n ih => simp only [sm]; have := ih fun k hk => h k (by omega); have := h n (by omega); rw [show ((n + 1 : Nat) : Int) * B = n * B + B by rw [Int.natCast_succ, Int.add_mul]; omega]; omega
/-- A sum up to k, as one over all. -/
theorem sm_upto (F : Nat → Int) {k n : Nat} (h : k ≤ n) : sm F k = sm (fun j => if j < k then F j else 0) n := by
  induction n with
  | zero => have : k = 0 := by omega
            subst this; rfl
  | succ n ih =>
    simp only [sm]
    by_cases c : k = n + 1
    · subst c
      simp only [sm, if_pos (Nat.lt_succ_self n)]
      congr 1
      exact sm_congr fun j hj => by rw [if_pos (by omega)]
    · rw [← ih (by omega), if_neg (by omega)]; omega
theorem sm_from (F : Nat → Int) {k n : Nat} (h : k ≤ n) : sm F n - sm F k = sm (fun j => if k ≤ j then F j else 0) n := by
  rw [sm_upto F h]
  have := sm_add (fun j => if j < k then F j else 0) (fun j => if k ≤ j then F j else 0) n
  have e : sm (fun j => (if j < k then F j else 0) + if k ≤ j then F j else 0) n = sm F n := sm_congr fun j hj => by
    by_cases c : j < k
    · rw [if_pos c, if_neg (by omega)]; omega
    · rw [if_neg c, if_pos (by omega)]; omega
  omega

/-- An order of the numbers below n. -/
structure Ord (n : Nat) (o : Nat → Nat) : Prop where
  lt : ∀ k, k < n → o k < n
  inj : ∀ i j, i < n → j < n → o i = o j → i = j
theorem Ord.onto {n : Nat} : ∀ {o : Nat → Nat}, Ord n o → ∀ v, v < n → ∃ k, k < n ∧ o k = v := by
  induction n with
  | zero => intro o h v hv; omega
  | succ n ih =>
    intro o h v hv
    -- what is at the end goes into the place of n
    let o' : Nat → Nat := fun k => if o k = n then o n else o k
    have h' : Ord n o' := ⟨fun k hk => by
        show (if o k = n then o n else o k) < n
        have l1 := h.lt k (by omega)
        have l2 := h.lt n (by omega)
        by_cases c : o k = n
        · rw [if_pos c]
          by_cases c2 : o n = n
          · have := h.inj k n (by omega) (by omega) (by omega); omega
          · omega
        · rw [if_neg c]; omega, fun i j hi hj e => by
        have e : (if o i = n then o n else o i) = (if o j = n then o n else o j) := e
        by_cases ci : o i = n <;> by_cases cj : o j = n
        · exact h.inj i j (by omega) (by omega) (by omega)
        · rw [if_pos ci, if_neg cj] at e; have := h.inj n j (by omega) (by omega) e; omega
        · rw [if_neg ci, if_pos cj] at e; have := h.inj i n (by omega) (by omega) e; omega
        · rw [if_neg ci, if_neg cj] at e; exact h.inj i j (by omega) (by omega) e⟩
    by_cases c : v = o n
    · exact ⟨n, by omega, c.symm⟩
    · by_cases c2 : v = n
      · by_cases c3 : o n = n
        · omega
        · obtain ⟨k, hk, e⟩ := ih h' (o n) (by have := h.lt n (by omega); omega)
          have e : (if o k = n then o n else o k) = o n := e
          by_cases c4 : o k = n
          · exact ⟨k, by omega, by omega⟩
          · rw [if_neg c4] at e; have := h.inj k n (by omega) (by omega) e; omega
      · obtain ⟨k, hk, e⟩ := ih h' v (by omega)
        have e : (if o k = n then o n else o k) = v := e
        by_cases c4 : o k = n
        · rw [if_pos c4] at e; omega
        · rw [if_neg c4] at e; exact ⟨k, by omega, e⟩
/-- A sum in another order. -/
theorem Ord.sum {n : Nat} : ∀ {o : Nat → Nat} (F : Nat → Int), Ord n o → sm (fun k => F (o k)) n = sm F n := by
  induction n with
  | zero => intro o F h; rfl
  | succ n ih =>
    intro o F h
    let o' : Nat → Nat := fun k => if o k = n then o n else o k
    by_cases c : o n = n
    · have h' : Ord n o := ⟨fun k hk => by
          have := h.lt k (by omega)
          by_cases e : o k = n
          · have := h.inj k n (by omega) (by omega) (by omega); omega
          · omega, fun i j hi hj e => h.inj i j (by omega) (by omega) e⟩
      simp only [sm]; rw [ih F h', c]
    · obtain ⟨p, hp, ep⟩ := h.onto n (by omega)
      have pn : p < n := by
        by_cases e : p = n
        · subst e; omega
        · omega
      have h' : Ord n o' := ⟨fun k hk => by
          show (if o k = n then o n else o k) < n
          have l1 := h.lt k (by omega)
          have l2 := h.lt n (by omega)
          by_cases c : o k = n
          · rw [if_pos c]; omega
          · rw [if_neg c]; omega, fun i j hi hj e => by
          have e : (if o i = n then o n else o i) = (if o j = n then o n else o j) := e
          by_cases ci : o i = n <;> by_cases cj : o j = n
          · exact h.inj i j (by omega) (by omega) (by omega)
          · rw [if_pos ci, if_neg cj] at e; have := h.inj n j (by omega) (by omega) e; omega
          · rw [if_neg ci, if_pos cj] at e; have := h.inj i n (by omega) (by omega) e; omega
          · rw [if_neg ci, if_neg cj] at e; exact h.inj i j (by omega) (by omega) e⟩
      have r := ih F h'
      -- the two sums part at p alone
      have key : ∀ m, m ≤ n → sm (fun k => F (o k)) m + (if p < m then F (o n) - F n else 0) = sm (fun k => F (o' k)) m := by
        intro m
        induction m with
        | zero => intro _; simp [sm]
        | succ m ihm =>
          intro hm
          have := ihm (by omega)
          simp only [sm]
          show sm (fun k => F (o k)) m + F (o m) + _ = sm (fun k => F (o' k)) m + F (if o m = n then o n else o m)
          by_cases c1 : m = p
          · subst c1
            rw [if_pos (by omega), if_pos ep]
            rw [if_neg (by omega)] at this
            rw [ep]; omega
          · rw [if_neg (show ¬ o m = n from fun e => c1 (h.inj m p (by omega) (by omega) (by omega)))]
            by_cases c2 : p < m
            · rw [if_pos c2] at this; rw [if_pos (by omega)]; omega
            · rw [if_neg c2] at this; rw [if_neg (by omega)]; omega
      have k1 := key n (Nat.le_refl n)
      rw [if_pos pn] at k1
      simp only [sm]
      omega

/-- The press's minute behind k dumps, the strapper's. -/
def mks (P S : Nat → Int) (o : Nat → Nat) : Nat → Int
  | 0 => 0
  | k + 1 => max (sm (fun j => P (o j)) (k + 1)) (mks P S o k) + S (o k)
/-- The sum at a position. -/
def vl (P S : Nat → Int) (o : Nat → Nat) (n k : Nat) : Int := sm (fun j => P (o j)) (k + 1) + (sm (fun j => S (o j)) n - sm (fun j => S (o j)) k)
theorem vl_succ (P S : Nat → Int) (o : Nat → Nat) (n k : Nat) : vl P S o (n + 1) k = vl P S o n k + S (o n) := by unfold vl; simp only [sm]; omega
theorem vl_last (P S : Nat → Int) (o : Nat → Nat) (n : Nat) : vl P S o (n + 1) n = sm (fun j => P (o j)) (n + 1) + S (o n) := by unfold vl; simp only [sm]; omega
theorem mks_ge (P S : Nat → Int) (o : Nat → Nat) : ∀ n k, k < n → vl P S o n k ≤ mks P S o n
  | 0, k, h => by omega
  | n + 1, k, h => by
    unfold mks
    by_cases c : k = n
    · subst c; rw [vl_last]; omega
    · rw [vl_succ]; have := mks_ge P S o n k (by omega); omega
theorem mks_at (P S : Nat → Int) (o : Nat → Nat) (hP : ∀ k, 0 ≤ P (o k)) : ∀ n, 0 < n → ∃ k, k < n ∧ vl P S o n k = mks P S o n
  | 0, h => by omega
  | n + 1, _ => by
    have hT : 0 ≤ sm (fun j => P (o j)) (n + 1) := sm_nonneg fun k _ => hP k
    by_cases c : n = 0
    · subst c; exact ⟨0, by omega, by rw [vl_last]; simp only [mks] at *; omega⟩
    · obtain ⟨k, hk, e⟩ := mks_at P S o hP n (by omega)
      by_cases d : sm (fun j => P (o j)) (n + 1) ≤ mks P S o n
      · exact ⟨k, by omega, by rw [vl_succ, e]; simp only [mks]; omega⟩
      · exact ⟨n, by omega, by rw [vl_last]; simp only [mks]; omega⟩
theorem mks_nonneg (P S : Nat → Int) (o : Nat → Nat) (hP : ∀ k, 0 ≤ P (o k)) (hS : ∀ k, 0 ≤ S (o k)) : ∀ n, 0 ≤ mks P S o n
  | 0 => Int.le_refl _
  | n + 1 => by have := mks_nonneg P S o hP hS n; have := hS n; simp only [mks]; omega

/-- Johnson's rule: x goes before y. -/
def Jo (P S : Nat → Int) (x y : Nat) : Prop :=
  if P x ≤ S x then (if P y ≤ S y then P x ≤ P y else True) else (if P y ≤ S y then False else S y ≤ S x)
/-- What a number adds to the sum at its place. -/
theorem vl_parts (P S : Nat → Int) {n : Nat} {o : Nat → Nat} (h : Ord n o) (pos : Nat → Nat) (hpos : ∀ k, k < n → pos (o k) = k) {k : Nat} (hk : k < n) :
    vl P S o n k = sm (fun i => (if pos i ≤ k then P i else 0) + (if k ≤ pos i then S i else 0)) n := by
  rw [← h.sum]
  unfold vl
  rw [sm_from _ (by omega), sm_upto _ (show k + 1 ≤ n by omega), ← sm_add]
  refine sm_congr fun j hj => ?_
  rw [hpos j hj]
  congr 1
  by_cases c : j ≤ k
  · rw [if_pos (by omega), if_pos c]
  · rw [if_neg (by omega), if_neg c]
theorem Ord.pos {n : Nat} {o : Nat → Nat} (h : Ord n o) : ∃ pos : Nat → Nat, (∀ k, k < n → pos (o k) = k) ∧ (∀ v, v < n → pos v < n ∧ o (pos v) = v) := by
  refine ⟨fun v => if hv : v < n then (h.onto v hv).choose else 0, fun k hk => ?_, fun v hv => ?_⟩
  · have hl := h.lt k hk
    simp only [dif_pos hl]
    have := (h.onto (o k) hl).choose_spec
    exact h.inj _ _ this.1 hk this.2
  · simp only [dif_pos hv]
    exact (h.onto v hv).choose_spec
/-- The first of a set of places. -/
theorem first_of {n : Nat} (p : Nat → Prop) (h : ∃ k, k < n ∧ p k) : ∃ k, k < n ∧ p k ∧ ∀ j, j < k → ¬ p j := by
  induction n with
  | zero => obtain ⟨k, hk, _⟩ := h; omega
  | succ n ih =>
    by_cases c : ∃ k, k < n ∧ p k
    · obtain ⟨k, hk, pk, l⟩ := ih c; exact ⟨k, by omega, pk, l⟩
    · obtain ⟨k, hk, pk⟩ := h
      have : k = n := by
        by_cases e : k = n
        · exact e
        · exact absurd ⟨k, by omega, pk⟩ c
      subst this
      exact ⟨k, hk, pk, fun j hj pj => c ⟨j, hj, pj⟩⟩
theorem last_of {n : Nat} (p : Nat → Prop) (h : ∃ k, k < n ∧ p k) : ∃ k, k < n ∧ p k ∧ ∀ j, k < j → j < n → ¬ p j := by
  induction n with
  | zero => obtain ⟨k, hk, _⟩ := h; omega
  | succ n ih =>
    by_cases c : p n
    · exact ⟨n, by omega, c, fun j h1 h2 => by omega⟩
    · obtain ⟨k, hk, pk⟩ := h
      have hn : k < n := by
        by_cases e : k = n
        · subst e; exact absurd pk c
        · omega
      obtain ⟨m, hm, pm, l⟩ := ih ⟨k, hn, pk⟩
      refine ⟨m, by omega, pm, fun j h1 h2 => ?_⟩
      by_cases e : j = n
      · subst e; exact c
      · exact l j h1 (by omega)
/-- Johnson: in an order by the rule the makespan is least. -/
theorem johnson (P S : Nat → Int) {n : Nat} {j o : Nat → Nat} (hP : ∀ i, 0 ≤ P i) (hS : ∀ i, 0 ≤ S i) (hj : Ord n j) (ho : Ord n o) (hr : ∀ x y, x < y → y < n → Jo P S (j x) (j y)) : mks P S j n ≤ mks P S o n := by
  by_cases n0 : n = 0
  · subst n0; exact Int.le_refl _
  obtain ⟨k, hk, ek⟩ := mks_at P S j (fun k => hP _) n (by omega)
  obtain ⟨pj, hpj, qj⟩ := hj.pos
  obtain ⟨po, hpo, qo⟩ := ho.pos
  have enough : ∀ m, m < n → vl P S j n k ≤ vl P S o n m → mks P S j n ≤ mks P S o n := fun m hm h => by have := mks_ge P S o n m hm; omega
  obtain ⟨x, hx⟩ : ∃ x, x = j k := ⟨_, rfl⟩
  have xn : x < n := by rw [hx]; exact hj.lt k hk
  have pjx : pj x = k := by rw [hx]; exact hpj k hk
  -- by the rule, told by places
  have rule : ∀ u v, u < n → v < n → pj u < pj v → Jo P S u v := fun u v hu hv h => by
    have := hr (pj u) (pj v) h (qj v hv).1
    rw [(qj u hu).2, (qj v hv).2] at this; exact this
  by_cases g : P x ≤ S x
  · -- the first in o among those of the first kind from x on
    obtain ⟨m, hm, ⟨g1, g2⟩, hf⟩ := first_of (n := n) (fun m => P (o m) ≤ S (o m) ∧ k ≤ pj (o m)) ⟨po x, (qo x xn).1, by rw [(qo x xn).2]; exact ⟨g, by omega⟩⟩
    refine enough m hm ?_
    rw [vl_parts P S hj pj hpj hk, vl_parts P S ho po hpo hm]
    obtain ⟨y, hy⟩ : ∃ y, y = o m := ⟨_, rfl⟩
    have yn : y < n := by rw [hy]; exact ho.lt m hm
    have poy : po y = m := by rw [hy]; exact hpo m hm
    rw [← hy] at g1 g2
    have ay : P x ≤ P y := by
      by_cases c : pj y = k
      · have : y = x := by rw [hx, ← c, (qj y yn).2]
        rw [this]; exact Int.le_refl _
      · have := rule x y xn yn (by omega)
        unfold Jo at this; rw [if_pos g, if_pos g1] at this; exact this
    by_cases xy : x = y
    · refine sm_le fun i hi => ?_
      have := hP i; have := hS i
      by_cases c1 : pj i < k
      · rw [if_pos (by omega), if_neg (by omega)]
        have := rule i x hi xn (by omega)
        unfold Jo at this
        have gi : P i ≤ S i := by
          by_cases c : P i ≤ S i
          · exact c
          · simp [if_neg c, g] at this
        by_cases c2 : po i ≤ m
        · rw [if_pos c2]; split <;> omega
        · rw [if_neg c2, if_pos (by omega)]; omega
      · by_cases c2 : pj i = k
        · have ix : i = x := by rw [hx, ← c2, (qj i hi).2]
          subst ix
          rw [if_pos (by omega), if_pos (by omega), if_pos (by rw [xy]; omega), if_pos (by rw [xy]; omega)]; exact Int.le_refl _
        · rw [if_neg (by omega), if_pos (by omega)]
          by_cases gi : P i ≤ S i
          · have : m ≤ po i := by
              apply Classical.byContradiction; intro h
              exact hf (po i) (by omega) (by rw [(qo i hi).2]; exact ⟨gi, by omega⟩)
            rw [if_pos this]; split <;> omega
          · by_cases c3 : m ≤ po i
            · rw [if_pos c3]; split <;> omega
            · rw [if_neg c3, if_pos (by omega)]; omega
    · -- x and y part: the two together
      have split2 : ∀ (F G : Nat → Int), (∀ i, i < n → i ≠ x → i ≠ y → F i ≤ G i) → F x + F y ≤ G x + G y → sm F n ≤ sm G n := fun F G h1 h2 => two_le x y xy F G n xn yn h1 h2
      refine split2 _ _ (fun i hi ix iy => ?_) ?_
      · have := hP i; have := hS i
        by_cases c1 : pj i < k
        · rw [if_pos (by omega), if_neg (by omega)]
          have := rule i x hi xn (by omega)
          unfold Jo at this
          have gi : P i ≤ S i := by
            by_cases c : P i ≤ S i
            · exact c
            · simp [if_neg c, g] at this
          by_cases c2 : po i ≤ m
          · rw [if_pos c2]; split <;> omega
          · rw [if_neg c2, if_pos (by omega)]; omega
        · by_cases c2 : pj i = k
          · exact absurd (by rw [hx, ← c2, (qj i hi).2]) ix
          · rw [if_neg (by omega), if_pos (by omega)]
            by_cases gi : P i ≤ S i
            · have : m ≤ po i := by
                apply Classical.byContradiction; intro h
                exact hf (po i) (by omega) (by rw [(qo i hi).2]; exact ⟨gi, by omega⟩)
              rw [if_pos this]; split <;> omega
            · by_cases c3 : m ≤ po i
              · rw [if_pos c3]; split <;> omega
              · rw [if_neg c3, if_pos (by omega)]; omega
      · have yk : ¬ pj y = k := fun c => xy (by rw [hx, ← c, (qj y yn).2])
        have xm : m ≤ po x := by
          apply Classical.byContradiction; intro h
          exact hf (po x) (by omega) (by rw [(qo x xn).2]; exact ⟨g, by omega⟩)
        have xm' : ¬ po x = m := fun c => xy (by rw [hy, ← c, (qo x xn).2])
        rw [if_pos (by omega), if_pos (by omega), if_neg (show ¬ pj y ≤ k by omega), if_pos (show k ≤ pj y by omega), if_neg (show ¬ po x ≤ m by omega), if_pos (show m ≤ po x by omega), if_pos (show po y ≤ m by omega), if_pos (show m ≤ po y by omega)]
        omega
  · obtain ⟨m, hm, ⟨g1, g2⟩, hf⟩ := last_of (n := n) (fun m => ¬ P (o m) ≤ S (o m) ∧ pj (o m) ≤ k) ⟨po x, (qo x xn).1, by rw [(qo x xn).2]; exact ⟨g, by omega⟩⟩
    refine enough m hm ?_
    rw [vl_parts P S hj pj hpj hk, vl_parts P S ho po hpo hm]
    obtain ⟨y, hy⟩ : ∃ y, y = o m := ⟨_, rfl⟩
    have yn : y < n := by rw [hy]; exact ho.lt m hm
    have poy : po y = m := by rw [hy]; exact hpo m hm
    rw [← hy] at g1 g2
    have by_ : S x ≤ S y := by
      by_cases c : pj y = k
      · have : y = x := by rw [hx, ← c, (qj y yn).2]
        rw [this]; exact Int.le_refl _
      · have := rule y x yn xn (by omega)
        unfold Jo at this; rw [if_neg g1, if_neg g] at this; exact this
    have rest : ∀ i, i < n → i ≠ x → i ≠ y → (if pj i ≤ k then P i else 0) + (if k ≤ pj i then S i else 0) ≤ (if po i ≤ m then P i else 0) + (if m ≤ po i then S i else 0) := fun i hi ix iy => by
      have := hP i; have := hS i
      by_cases c1 : k < pj i
      · rw [if_neg (by omega), if_pos (by omega)]
        have := rule x i xn hi (by omega)
        unfold Jo at this; rw [if_neg g] at this
        have gi : ¬ P i ≤ S i := fun c => by rw [if_pos c] at this; exact this
        by_cases c2 : m ≤ po i
        · rw [if_pos c2]; split <;> omega
        · rw [if_neg c2, if_pos (by omega)]; omega
      · by_cases c2 : pj i = k
        · exact absurd (by rw [hx, ← c2, (qj i hi).2]) ix
        · rw [if_pos (by omega), if_neg (by omega)]
          by_cases gi : P i ≤ S i
          · by_cases c3 : po i ≤ m
            · rw [if_pos c3]; split <;> omega
            · rw [if_neg c3, if_pos (by omega)]; omega
          · have : po i ≤ m := by
              apply Classical.byContradiction; intro h
              exact hf (po i) (by omega) (qo i hi).1 (by rw [(qo i hi).2]; exact ⟨gi, by omega⟩)
            rw [if_pos this]; split <;> omega
    by_cases xy : x = y
    · refine sm_le fun i hi => ?_
      by_cases ix : i = x
      · subst ix
        have pos2 : po i = m := by rw [xy]; exact poy
        rw [if_pos (by omega), if_pos (by omega), if_pos (by omega), if_pos (by omega)]; exact Int.le_refl _
      · exact rest i hi ix (by omega)
    · refine two_le x y xy _ _ n xn yn rest ?_
      have yk : ¬ pj y = k := fun c => xy (by rw [hx, ← c, (qj y yn).2])
      have xm : po x ≤ m := by
        apply Classical.byContradiction; intro h
        exact hf (po x) (by omega) (qo x xn).1 (by rw [(qo x xn).2]; exact ⟨g, by omega⟩)
      have xm' : ¬ po x = m := fun c => xy (by rw [hy, ← c, (qo x xn).2])
      rw [if_pos (by omega), if_pos (by omega), if_pos (show pj y ≤ k by omega), if_neg (show ¬ k ≤ pj y by omega), if_pos (show po x ≤ m by omega), if_neg (show ¬ m ≤ po x by omega), if_pos (show po y ≤ m by omega), if_pos (show m ≤ po y by omega)]
      omega
where
  two_le (x y : Nat) (xy : x ≠ y) (F G : Nat → Int) : ∀ n, x < n → y < n → (∀ i, i < n → i ≠ x → i ≠ y → F i ≤ G i) → F x + F y ≤ G x + G y → sm F n ≤ sm G n := by
    intro n xn yn h1 h2
    have key : ∀ m, m ≤ n → sm F m + (if x < m then G x - F x else 0) + (if y < m then G y - F y else 0) ≤ sm G m := by
      intro m
      induction m with
      | zero => intro _; simp [sm]
      | succ m ih =>
        intro hm
        have := ih (by omega)
        simp only [sm]
        by_cases a : m = x
        · subst a
          rw [if_neg (by omega)] at this; rw [if_pos (by omega)]
          by_cases c : y < m
          · rw [if_pos c] at this; rw [if_pos (by omega)]; omega
          · rw [if_neg c] at this; rw [if_neg (by omega)]; omega
        · by_cases b : m = y
          · subst b
            rw [if_neg (show ¬ m < m by omega)] at this; rw [if_pos (show m < m + 1 by omega)]
            by_cases c : x < m
            · rw [if_pos c] at this; rw [if_pos (by omega)]; omega
            · rw [if_neg c] at this; rw [if_neg (by omega)]; omega
          · have := h1 m (by omega) a b
            have e1 : (if x < m + 1 then G x - F x else 0) = if x < m then G x - F x else 0 := by
              by_cases c : x < m
              · rw [if_pos c, if_pos (by omega)]
              · rw [if_neg c, if_neg (by omega)]
            have e2 : (if y < m + 1 then G y - F y else 0) = if y < m then G y - F y else 0 := by
              by_cases c : y < m
              · rw [if_pos c, if_pos (by omega)]
              · rw [if_neg c, if_neg (by omega)]
            rw [e1, e2]; omega
    have := key n (Nat.le_refl n)
    rw [if_pos xn, if_pos yn] at this
    omega
end Go.Proofs.YtacliakmhkebbaaDoor.Prs
