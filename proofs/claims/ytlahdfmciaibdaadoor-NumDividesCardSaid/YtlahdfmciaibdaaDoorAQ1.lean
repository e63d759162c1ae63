/- Plain: the division by largest remainders, and what it is when the weights are scaled; highest averages too. -/
import Derived.Test.YtlahdfmciaibdaaDoorU0
import Derived.Test.YtlahdfmciaibdaaDoorPR1
namespace Go.Proofs.YtlahdfmciaibdaaDoor
open Go.RowKit Go.Proofs.YtlahdfmciaibdaaDoor.Prs
set_option linter.unusedVariables false
set_option linter.unusedSimpArgs false

theorem sum_sm (l : List Int) : l.sum = sm (fun k => gd l k) l.length := by
  have h : ∀ k, k ≤ l.length → (l.take k).sum = sm (fun k => gd l k) k := by
    intro k
    induction k with
    | zero => intro _; simp [sm]
    | succ k ih => intro h; rw [sum_take_succ (by omega), ih (by omega)]; rfl
  have := h l.length (Nat.le_refl _)
  rwa [List.take_length] at this
theorem sm_mul (F : Nat → Int) (c : Int) (n : Nat) : sm (fun k => F k * c) n = sm F n * c := by
  induction n with
  | zero => simp [sm]
  | succ n ih => simp only [sm]; rw [ih, Int.add_mul]
theorem sm_cst (c : Int) (n : Nat) : sm (fun _ => c) n = n * c := by
  induction n with
  | zero => simp [sm]
  | succ n ih => simp only [sm]; rw [ih, Int.natCast_succ, Int.add_mul]; omega
theorem gd_ext {a b : List Int} (hl : a.length = b.length) (h : ∀ i, i < a.length → gd a i = gd b i) : a = b := by
  apply List.ext_getElem hl
  intro i h1 h2
  have := h i h1
  rw [gd_in h1, gd_in h2] at this
  exact this
theorem gd_mul (l : List Int) (k : Int) (i : Nat) : gd (l.map (· * k)) i = gd l i * k := by
  unfold gd
  rw [List.getElem?_map]
  cases l[i]? <;> simp

/-- x has the greater remainder, or the same one and the lesser number. -/
def RemB (r : Nat → Int) (x y : Int) : Prop := r y.toNat < r x.toNat ∨ (r y.toNat = r x.toNat ∧ x < y)
def Sor (r : Nat → Int) (n : Nat) (o : Nat → Nat) : Prop := ∀ i j, i < j → j < n → RemB r (o i) (o j)
theorem ord_uniq {r : Nat → Int} {n : Nat} {o o' : Nat → Nat} (h : Ord n o) (h' : Ord n o') (s : Sor r n o) (s' : Sor r n o') : ∀ m, m < n → o m = o' m := by
  intro m
  induction m using Nat.strongRecOn with
  | _ m ih =>
    intro hm
    apply Classical.byContradiction
    intro ne
    obtain ⟨p, hp, ep⟩ := h.onto (o' m) (h'.lt m hm)
    obtain ⟨q, hq, eq⟩ := h'.onto (o m) (h.lt m hm)
    have p1 : m < p := by
      rcases Nat.lt_trichotomy p m with c | c | c
      · have a := ih p c hp
        have := h'.inj p m hp hm (by omega)
        omega
      · subst c; exact absurd ep ne
      · exact c
    have q1 : m < q := by
      rcases Nat.lt_trichotomy q m with c | c | c
      · have a := ih q c hq
        have := h.inj q m hq hm (by omega)
        omega
      · subst c; exact absurd eq.symm ne
      · exact c
    have a := s m p p1 hp
    have b := s' m q q1 hq
    rw [ep] at a
    rw [eq] at b
    unfold RemB at a b
    omega

/-- The division by largest remainders: o is the order of the remainders, left of the units are left. -/
structure LR (T S : Int) (l P : List Int) (o : Nat → Nat) (left : Nat) : Prop where
  len : P.length = l.length
  ord : Ord l.length o
  sor : Sor (fun i => T * gd l i % S) l.length o
  lef : (left : Int) = T - sm (fun i => T * gd l i / S) l.length
  le : left ≤ l.length
  val : ∀ j, j < l.length → gd P (o j) = T * gd l (o j) / S + if j < left then 1 else 0

theorem rem_sum {T S : Int} {l : List Int} (hs : l.sum = S) : sm (fun i => T * gd l i % S) l.length = (T - sm (fun i => T * gd l i / S) l.length) * S := by
  have e1 : sm (fun i => gd l i * T) l.length = S * T := by rw [sm_mul, ← sum_sm, hs]
  have e2 := sm_add (fun i => T * gd l i % S) (fun i => T * gd l i / S * S) l.length
  have e3 : sm (fun k => T * gd l k % S + T * gd l k / S * S) l.length = sm (fun i => gd l i * T) l.length := sm_congr fun k _ => by
    have := Int.emod_add_mul_ediv (T * gd l k) S
    rw [Int.mul_comm S] at this
    rw [this, Int.mul_comm]
  rw [sm_mul] at e2
  rw [Int.sub_mul, Int.mul_comm T S]
  omega
theorem lr_left {T S : Int} {l : List Int} (hs : l.sum = S) (hS : 0 < S) : 0 ≤ T - sm (fun i => T * gd l i / S) l.length ∧ T - sm (fun i => T * gd l i / S) l.length ≤ l.length := by
  have h := rem_sum (T := T) hs
  have a : 0 ≤ sm (fun i => T * gd l i % S) l.length := sm_nonneg fun k _ => Int.emod_nonneg _ (by omega)
  have b : sm (fun i => T * gd l i % S) l.length ≤ l.length * S := sm_top (fun k _ => by have := Int.emod_lt_of_pos (T * gd l k) hS; omega) (by omega)
  rw [h] at a b
  generalize T - sm (fun i => T * gd l i / S) l.length = x at *
  constructor
  · apply Classical.byContradiction; intro c
    have : x * S ≤ -1 * S := Int.mul_le_mul_of_nonneg_right (by omega) (by omega)
    omega
  · exact Int.le_of_mul_le_mul_right b hS
theorem LR.sum {T S : Int} {l P : List Int} {o : Nat → Nat} {left : Nat} (h : LR T S l P o left) : P.sum = T := by
  rw [sum_sm, h.len, ← h.ord.sum (fun k => gd P k)]
  have e : sm (fun k => gd P (o k)) l.length = sm (fun k => T * gd l (o k) / S + if k < left then 1 else 0) l.length := sm_congr fun k hk => h.val k hk
  rw [e, sm_add, h.ord.sum (fun k => T * gd l k / S), ← sm_upto (fun _ => 1) h.le, sm_cst]
  have := h.lef
  omega
theorem LR.bounds {T S : Int} {l P : List Int} {o : Nat → Nat} {left : Nat} (h : LR T S l P o left) {i : Nat} (hi : i < l.length) : T * gd l i / S ≤ gd P i ∧ gd P i ≤ T * gd l i / S + 1 := by
  obtain ⟨j, hj, rfl⟩ := h.ord.onto i hi
  rw [h.val j hj]
  split <;> omega
theorem LR.exact {T S : Int} {l P : List Int} {o : Nat → Nat} {left : Nat} (h : LR T S l P o left) (hs : l.sum = S) (hS : 0 < S) {i : Nat} (hi : i < l.length) (hr : T * gd l i % S = 0) : gd P i = T * gd l i / S := by
  obtain ⟨j, hj, rfl⟩ := h.ord.onto i hi
  rw [h.val j hj]
  by_cases c : j < left
  · exfalso
    have z : ∀ p, p < l.length → j ≤ p → T * gd l (o p) % S ≤ 0 := fun p hp jp => by
      by_cases e : j = p
      · subst e; omega
      · have a := h.sor j p (by omega) hp
        unfold RemB at a
        simp only [Int.toNat_natCast] at a
        omega
    have e1 : sm (fun k => T * gd l (o k) % S) l.length ≤ sm (fun k => if k < j then S else 0) l.length := sm_le fun k hk => by
      have := Int.emod_lt_of_pos (T * gd l (o k)) hS
      by_cases e : k < j
      · rw [if_pos e]; omega
      · rw [if_neg e]; exact z k hk (by omega)
    rw [h.ord.sum (fun k => T * gd l k % S), rem_sum hs, ← h.lef, ← sm_upto (fun _ => S) (by omega), sm_cst] at e1
    have := Int.le_of_mul_le_mul_right e1 hS
    omega
  · rw [if_neg c, Int.add_zero]
theorem LR.uniq {T S : Int} {l P P' : List Int} {o : Nat → Nat} {left : Nat} (h : LR T S l P o left) (h' : LR T S l P' o left) : P = P' := by
  refine gd_ext (by rw [h.len, h'.len]) fun i hi => ?_
  rw [h.len] at hi
  obtain ⟨j, hj, rfl⟩ := h.ord.onto i hi
  rw [h.val j hj, h'.val j hj]
theorem LR.scaled {T S k : Int} (hk : 0 < k) {l P P' : List Int} {o o' : Nat → Nat} {left left' : Nat} (h : LR T S l P o left) (h' : LR T (S * k) (l.map (· * k)) P' o' left') : P = P' := by
  have q : ∀ i, T * gd (l.map (· * k)) i / (S * k) = T * gd l i / S := fun i => by
    rw [gd_mul, ← Int.mul_assoc]; exact Int.mul_ediv_mul_of_pos_left _ _ hk
  have r : ∀ i, T * gd (l.map (· * k)) i % (S * k) = T * gd l i % S * k := fun i => by
    rw [gd_mul, ← Int.mul_assoc, Int.mul_comm (T * gd l i) k, Int.mul_comm S k, Int.mul_emod_mul_of_pos _ _ hk, Int.mul_comm]
  have ll : (l.map (· * k)).length = l.length := by simp
  have s' : Sor (fun i => T * gd l i % S) l.length o' := fun i j ij jn => by
    have a := h'.sor i j ij (by rw [ll]; exact jn)
    unfold RemB at a ⊢
    simp only [r] at a
    rcases a with a | ⟨a, b⟩
    · exact .inl (Int.lt_of_mul_lt_mul_right a (by omega))
    · exact .inr ⟨Int.eq_of_mul_eq_mul_right (by omega) a, b⟩
  have o1 : Ord l.length o' := by have := h'.ord; rwa [ll] at this
  have oe := ord_uniq h.ord o1 h.sor s'
  have le : left = left' := by
    have a := h.lef
    have b := h'.lef
    rw [ll, sm_congr (fun i _ => q i)] at b
    omega
  refine gd_ext (by rw [h.len, h'.len, ll]) fun i hi => ?_
  rw [h.len] at hi
  obtain ⟨j, hj, rfl⟩ := h.ord.onto i hi
  have e := h'.val j (by rw [ll]; exact hj)
  rw [q, ← oe j hj, ← le] at e
  rw [h.val j hj, e]

/-- Units in order are told by their number. -/
theorem Dn.uniq {l A B : List Int} (a : Dn l A) (b : Dn l B) (hs : A.sum = B.sum) : A = B := by
  have key : ∀ {A B : List Int}, Dn l A → Dn l B → A.sum = B.sum → ∀ i, i < l.length → gd A i ≤ gd B i := by
    intro A B a b hs i hi
    apply Classical.byContradiction
    intro t
    have : ∃ j, j < l.length ∧ gd A j < gd B j := by
      apply Classical.byContradiction
      intro no
      have := sum_split (a := B) (b := A) (by rw [a.len, b.len]) (fun j hj => by
        rcases Int.lt_or_le (gd A j) (gd B j) with c | c
        · exact absurd ⟨j, by rw [← b.len]; exact hj, c⟩ no
        · exact c) i (by rw [b.len]; exact hi)
      omega
    obtain ⟨j, hj, u⟩ := this
    have hij : i ≠ j := by rintro rfl; omega
    have pi : 0 < gd l i := by
      rcases Int.lt_or_le 0 (gd l i) with z | z
      · exact z
      · have := a.none i hi z; have := b.pos i; omega
    have pj : 0 < gd l j := by
      rcases Int.lt_or_le 0 (gd l j) with z | z
      · exact z
      · have := b.none j hj z; have := a.pos j; omega
    have x := a.down i j hi hj pi pj (by have := b.pos i; omega) hij
    have y := b.down j i hj hi pj pi (by have := a.pos j; omega) (fun e => hij e.symm)
    have e1 : (2 * gd B i + 1) * gd l j ≤ (2 * gd A i - 1) * gd l j := Int.mul_le_mul_of_nonneg_right (by omega) (by omega)
    have e2 : (2 * gd A j + 1) * gd l i ≤ (2 * gd B j - 1) * gd l i := Int.mul_le_mul_of_nonneg_right (by omega) (by omega)
    unfold Ahead at x y
    omega
  refine gd_ext (by rw [a.len, b.len]) fun i hi => ?_
  rw [a.len] at hi
  have := key a b hs i hi
  have := key b a hs.symm i hi
  omega
theorem gd_app {l m : List Int} {i : Nat} (h : i < l.length) : gd (l ++ m) i = gd l i := by
  unfold gd; rw [List.getElem?_append_left h]
theorem gd_take' {l : List Int} {n i : Nat} (h : i < n) : gd (l.take n) i = gd l i := by
  unfold gd; rw [List.getElem?_take, if_pos h]
/-- The same units when all weights are multiplied and one of 0 is put behind. -/
theorem Dn.scaled {l D : List Int} {k : Int} (hk : 0 < k) (h : Dn (l.map (· * k) ++ [0]) D) : Dn l (D.take l.length) ∧ gd D l.length = 0 ∧ (D.take l.length).sum = D.sum := by
  have ll : (l.map (· * k) ++ [0]).length = l.length + 1 := by simp
  have dl : D.length = l.length + 1 := by rw [h.len, ll]
  have g : ∀ i, i < l.length → gd (l.map (· * k) ++ [0]) i = gd l i * k := fun i hi => by rw [gd_app (by simpa using hi), gd_mul]
  have z : gd D l.length = 0 := h.none l.length (by omega) (by
    have : gd (l.map (· * k) ++ [0]) l.length = 0 := by
      unfold gd; rw [List.getElem?_append_right (by simp)]; simp
    omega)
  refine ⟨⟨by simp; omega, fun i => ?_, fun i hi hz => ?_, fun i j hi hj pi pj pp hij => ?_⟩, z, ?_⟩
  · by_cases c : i < l.length
    · rw [gd_take' c]; exact h.pos i
    · have : gd (D.take l.length) i = 0 := by unfold gd; rw [List.getElem?_take, if_neg c]; rfl
      omega
  · rw [gd_take' hi]
    refine h.none i (by omega) ?_
    rw [g i hi]
    have : gd l i * k ≤ 0 * k := Int.mul_le_mul_of_nonneg_right hz (by omega)
    omega
  · rw [gd_take' hi] at pp ⊢
    rw [gd_take' hj]
    have a := h.down i j (by omega) (by omega) (by rw [g i hi]; exact Int.mul_pos pi hk) (by rw [g j hj]; exact Int.mul_pos pj hk) pp hij
    rw [g i hi, g j hj] at a
    unfold Ahead at a ⊢
    rw [← Int.mul_assoc, ← Int.mul_assoc] at a
    rcases a with a | ⟨a, b⟩
    · exact .inl (Int.lt_of_mul_lt_mul_right a (by omega))
    · exact .inr ⟨Int.eq_of_mul_eq_mul_right (by omega) a, b⟩
  · have e := sum_take_succ (l := D) (k := l.length) (by omega)
    rw [z, ← dl, List.take_length] at e
    omega
end Go.Proofs.YtlahdfmciaibdaaDoor
