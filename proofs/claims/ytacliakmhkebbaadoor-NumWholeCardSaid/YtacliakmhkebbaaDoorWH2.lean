/- Several texts in one: AQ1 ST1 ST2. -/
import Derived.Test.YtacliakmhkebbaaDoorWH1
import Derived.Test.YtacliakmhkebbaaDoorB0
import Derived.BigRegion
import Derived.Deep.Cut
import Derived.Deep.CutRange
import Derived.Deep.RegionHeld3

/- Plain: the division by largest remainders, and what it is when the weights are scaled; highest averages too. -/
namespace Go.Proofs.YtacliakmhkebbaaDoor
open Go.RowKit Go.Proofs.YtacliakmhkebbaaDoor.Prs
set_option linter.unusedVariables false
set_option linter.unusedSimpArgs false

theorem sum_sm (l : List Int) : l.sum = sm (fun k => gd l k) l.length := by
  have h : ∀ k, k ≤ l.length → (l.take k).sum = sm (fun k => gd l k) k := by
    intro k
    induction k with
    | zero => intro _; simp [sm]
    | succ k ih => intro h; rw [sum_take_succ (by omega), ih (by omega)]; rfl
  have := h l.length (Nat.le_refl _)
  rwa [List.take_length] at this
theorem sm_mul (F : Nat → Int) (c : Int) (n : Nat) : sm (fun k => F k * c) n = sm F n * c := by
  induction n with
  | zero => simp [sm]
  | succ n ih => simp only [sm]; rw [ih, Int.add_mul]
theorem sm_cst (c : Int) (n : Nat) : sm (fun _ => c) n = n * c := by
  induction n with
  | zero => simp [sm]
  | succ n ih => simp only [sm]; rw [ih, Int.natCast_succ, Int.add_mul]; omega
theorem gd_ext {a b : List Int} (hl : a.length = b.length) (h : ∀ i, i < a.length → gd a i = gd b i) : a = b := by
  apply List.ext_getElem hl
  intro i h1 h2
  have := h i h1
  rw [gd_in h1, gd_in h2] at this
  exact this
theorem gd_mul (l : List Int) (k : Int) (i : Nat) : gd (l.map (· * k)) i = gd l i * k := by
  unfold gd
  rw [List.getElem?_map]
  cases l[i]? <;> simp

/-- x has the greater remainder, or the same one and the lesser number. -/
def RemB (r : Nat → Int) (x y : Int) : Prop := r y.toNat < r x.toNat ∨ (r y.toNat = r x.toNat ∧ x < y)
def Sor (r : Nat → Int) (n : Nat) (o : Nat → Nat) : Prop := ∀ i j, i < j → j < n → RemB r (o i) (o j)
theorem ord_uniq {r : Nat → Int} {n : Nat} {o o' : Nat → Nat} (h : Ord n o) (h' : Ord n o') (s : Sor r n o) (s' : Sor r n o') : ∀ m, m < n → o m = o' m := by
  intro m
  induction m using Nat.strongRecOn with
  | _ m ih =>
    intro hm
    apply Classical.byContradiction
    intro ne
    obtain ⟨p, hp, ep⟩ := h.onto (o' m) (h'.lt m hm)
    obtain ⟨q, hq, eq⟩ := h'.onto (o m) (h.lt m hm)
    have p1 : m < p := by
      rcases Nat.lt_trichotomy p m with c | c | c
      · have a := ih p c hp
        have := h'.inj p m hp hm (by omega)
        omega
      · subst c; exact absurd ep ne
      · exact c
    have q1 : m < q := by
      rcases Nat.lt_trichotomy q m with c | c | c
      · have a := ih q c hq
        have := h.inj q m hq hm (by omega)
        omega
      · subst c; exact absurd eq.symm ne
      · exact c
    have a := s m p p1 hp
    have b := s' m q q1 hq
    rw [ep] at a
    rw [eq] at b
    unfold RemB at a b
    omega

/-- The division by largest remainders: o is the order of the remainders, left of the units are left. -/
structure LR (T S : Int) (l P : List Int) (o : Nat → Nat) (left : Nat) : Prop where
  len : P.length = l.length
  ord : Ord l.length o
  sor : Sor (fun i => T * gd l i % S) l.length o
  lef : (left : Int) = T - sm (fun i => T * gd l i / S) l.length
  le : left ≤ l.length
  val : ∀ j, j < l.length → gd P (o j) = T * gd l (o j) / S + if j < left then 1 else 0

theorem rem_sum {T S : Int} {l : List Int} (hs : l.sum = S) : sm (fun i => T * gd l i % S) l.length = (T - sm (fun i => T * gd l i / S) l.length) * S := by
  have e1 : sm (fun i => gd l i * T) l.length = S * T := by rw [sm_mul, ← sum_sm, hs]
  have e2 := sm_add (fun i => T * gd l i % S) (fun i => T * gd l i / S * S) l.length
  have e3 : sm (fun k => T * gd l k % S + T * gd l k / S * S) l.length = sm (fun i => gd l i * T) l.length := sm_congr fun k _ => by
    have := Int.emod_add_mul_ediv (T * gd l k) S
    rw [Int.mul_comm S] at this
    rw [this, Int.mul_comm]
  rw [sm_mul] at e2
  rw [Int.sub_mul, Int.mul_comm T S]
  omega
theorem lr_left {T S : Int} {l : List Int} (hs : l.sum = S) (hS : 0 < S) : 0 ≤ T - sm (fun i => T * gd l i / S) l.length ∧ T - sm (fun i => T * gd l i / S) l.length ≤ l.length := by
  have h := rem_sum (T := T) hs
  have a : 0 ≤ sm (fun i => T * gd l i % S) l.length := sm_nonneg fun k _ => Int.emod_nonneg _ (by omega)
  have b : sm (fun i => T * gd l i % S) l.length ≤ l.length * S := sm_top (fun k _ => by have := Int.emod_lt_of_pos (T * gd l k) hS; omega) (by omega)
  rw [h] at a b
  generalize T - sm (fun i => T * gd l i / S) l.length = x at *
  constructor
  · apply Classical.byContradiction; intro c
    have : x * S ≤ -1 * S := Int.mul_le_mul_of_nonneg_right (by omega) (by omega)
    omega
  · exact Int.le_of_mul_le_mul_right b hS
theorem LR.sum {T S : Int} {l P : List Int} {o : Nat → Nat} {left : Nat} (h : LR T S l P o left) : P.sum = T := by
  rw [sum_sm, h.len, ← h.ord.sum (fun k => gd P k)]
  have e : sm (fun k => gd P (o k)) l.length = sm (fun k => T * gd l (o k) / S + if k < left then 1 else 0) l.length := sm_congr fun k hk => h.val k hk
  rw [e, sm_add, h.ord.sum (fun k => T * gd l k / S), ← sm_upto (fun _ => 1) h.le, sm_cst]
  have := h.lef
  omega
theorem LR.bounds {T S : Int} {l P : List Int} {o : Nat → Nat} {left : Nat} (h : LR T S l P o left) {i : Nat} (hi : i < l.length) : T * gd l i / S ≤ gd P i ∧ gd P i ≤ T * gd l i / S + 1 := by
  obtain ⟨j, hj, rfl⟩ := h.ord.onto i hi
  rw [h.val j hj]
  split <;> omega
theorem LR.exact {T S : Int} {l P : List Int} {o : Nat → Nat} {left : Nat} (h : LR T S l P o left) (hs : l.sum = S) (hS : 0 < S) {i : Nat} (hi : i < l.length) (hr : T * gd l i % S = 0) : gd P i = T * gd l i / S := by
  obtain ⟨j, hj, rfl⟩ := h.ord.onto i hi
  rw [h.val j hj]
  by_cases c : j < left
  · exfalso
    have z : ∀ p, p < l.length → j ≤ p → T * gd l (o p) % S ≤ 0 := fun p hp jp => by
      by_cases e : j = p
      · subst e; omega
      · have a := h.sor j p (by omega) hp
        unfold RemB at a
        simp only [Int.toNat_natCast] at a
        omega
    have e1 : sm (fun k => T * gd l (o k) % S) l.length ≤ sm (fun k => if k < j then S else 0) l.length := sm_le fun k hk => by
      have := Int.emod_lt_of_pos (T * gd l (o k)) hS
      by_cases e : k < j
      · rw [if_pos e]; omega
      · rw [if_neg e]; exact z k hk (by omega)
    rw [h.ord.sum (fun k => T * gd l k % S), rem_sum hs, ← h.lef, ← sm_upto (fun _ => S) (by omega), sm_cst] at e1
    have := Int.le_of_mul_le_mul_right e1 hS
    omega
  · rw [if_neg c, Int.add_zero]
theorem LR.uniq {T S : Int} {l P P' : List Int} {o : Nat → Nat} {left : Nat} (h : LR T S l P o left) (h' : LR T S l P' o left) : P = P' := by
  refine gd_ext (by rw [h.len, h'.len]) fun i hi => ?_
  rw [h.len] at hi
  obtain ⟨j, hj, rfl⟩ := h.ord.onto i hi
  rw [h.val j hj, h'.val j hj]
theorem LR.scaled {T S k : Int} (hk : 0 < k) {l P P' : List Int} {o o' : Nat → Nat} {left left' : Nat} (h : LR T S l P o left) (h' : LR T (S * k) (l.map (· * k)) P' o' left') : P = P' := by
  have q : ∀ i, T * gd (l.map (· * k)) i / (S * k) = T * gd l i / S := fun i => by
    rw [gd_mul, ← Int.mul_assoc]; exact Int.mul_ediv_mul_of_pos_left _ _ hk
  have r : ∀ i, T * gd (l.map (· * k)) i % (S * k) = T * gd l i % S * k := fun i => by
    rw [gd_mul, ← Int.mul_assoc, Int.mul_comm (T * gd l i) k, Int.mul_comm S k, Int.mul_emod_mul_of_pos _ _ hk, Int.mul_comm]
  have ll : (l.map (· * k)).length = l.length := by simp
  have s' : Sor (fun i => T * gd l i % S) l.length o' := fun i j ij jn => by
    have a := h'.sor i j ij (by rw [ll]; exact jn)
    unfold RemB at a ⊢
    simp only [r] at a
    rcases a with a | ⟨a, b⟩
    · exact .inl (Int.lt_of_mul_lt_mul_right a (by omega))
    · exact .inr ⟨Int.eq_of_mul_eq_mul_right (by omega) a, b⟩
  have o1 : Ord l.length o' := by have := h'.ord; rwa [ll] at this
  have oe := ord_uniq h.ord o1 h.sor s'
  have le : left = left' := by
    have a := h.lef
    have b := h'.lef
    rw [ll, sm_congr (fun i _ => q i)] at b
    omega
  refine gd_ext (by rw [h.len, h'.len, ll]) fun i hi => ?_
  rw [h.len] at hi
  obtain ⟨j, hj, rfl⟩ := h.ord.onto i hi
  have e := h'.val j (by rw [ll]; exact hj)
  rw [q, ← oe j hj, ← le] at e
  rw [h.val j hj, e]

/-- Units in order are told by their number. -/
theorem Dn.uniq {l A B : List Int} (a : Dn l A) (b : Dn l B) (hs : A.sum = B.sum) : A = B := by
  have key : ∀ {A B : List Int}, Dn l A → Dn l B → A.sum = B.sum → ∀ i, i < l.length → gd A i ≤ gd B i := by
    intro A B a b hs i hi
    apply Classical.byContradiction
    intro t
    have : ∃ j, j < l.length ∧ gd A j < gd B j := by
      apply Classical.byContradiction
      intro no
      have := sum_split (a := B) (b := A) (by rw [a.len, b.len]) (fun j hj => by
        rcases Int.lt_or_le (gd A j) (gd B j) with c | c
        · exact absurd ⟨j, by rw [← b.len]; exact hj, c⟩ no
        · exact c) i (by rw [b.len]; exact hi)
      omega
    obtain ⟨j, hj, u⟩ := this
    have hij : i ≠ j := by rintro rfl; omega
    have pi : 0 < gd l i := by
      rcases Int.lt_or_le 0 (gd l i) with z | z
      · exact z
      · have := a.none i hi z; have := b.pos i; omega
    have pj : 0 < gd l j := by
      rcases Int.lt_or_le 0 (gd l j) with z | z
      · exact z
      · have := b.none j hj z; have := a.pos j; omega
    have x := a.down i j hi hj pi pj (by have := b.pos i; omega) hij
    have y := b.down j i hj hi pj pi (by have := a.pos j; omega) (fun e => hij e.symm)
    have e1 : (2 * gd B i + 1) * gd l j ≤ (2 * gd A i - 1) * gd l j := Int.mul_le_mul_of_nonneg_right (by omega) (by omega)
    have e2 : (2 * gd A j + 1) * gd l i ≤ (2 * gd B j - 1) * gd l i := Int.mul_le_mul_of_nonneg_right (by omega) (by omega)
    unfold Ahead at x y
    omega
  refine gd_ext (by rw [a.len, b.len]) fun i hi => ?_
  rw [a.len] at hi
  have := key a b hs i hi
  have := key b a hs.symm i hi
  omega
theorem gd_app {l m : List Int} {i : Nat} (h : i < l.length) : gd (l ++ m) i = gd l i := by
  unfold gd; rw [List.getElem?_append_left h]
theorem gd_take' {l : List Int} {n i : Nat} (h : i < n) : gd (l.take n) i = gd l i := by
  unfold gd; rw [List.getElem?_take, if_pos h]
/-- The same units when all weights are multiplied and one of 0 is put behind. -/
theorem Dn.scaled {l D : List Int} {k : Int} (hk : 0 < k) (h : Dn (l.map (· * k) ++ [0]) D) : Dn l (D.take l.length) ∧ gd D l.length = 0 ∧ (D.take l.length).sum = D.sum := by
  have ll : (l.map (· * k) ++ [0]).length = l.length + 1 := by simp
  have dl : D.length = l.length + 1 := by rw [h.len, ll]
  have g : ∀ i, i < l.length → gd (l.map (· * k) ++ [0]) i = gd l i * k := fun i hi => by rw [gd_app (by simpa using hi), gd_mul]
  have z : gd D l.length = 0 := h.none l.length (by omega) (by
    have : gd (l.map (· * k) ++ [0]) l.length = 0 := by
      unfold gd; rw [List.getElem?_append_right (by simp)]; simp
    omega)
  refine ⟨⟨by simp; omega, fun i => ?_, fun i hi hz => ?_, fun i j hi hj pi pj pp hij => ?_⟩, z, ?_⟩
  · by_cases c : i < l.length
    · rw [gd_take' c]; exact h.pos i
    · have : gd (D.take l.length) i = 0 := by unfold gd; rw [List.getElem?_take, if_neg c]; rfl
      omega
  · rw [gd_take' hi]
    refine h.none i (by omega) ?_
    rw [g i hi]
    have : gd l i * k ≤ 0 * k := Int.mul_le_mul_of_nonneg_right hz (by omega)
    omega
  · rw [gd_take' hi] at pp ⊢
    rw [gd_take' hj]
    have a := h.down i j (by omega) (by omega) (by rw [g i hi]; exact Int.mul_pos pi hk) (by rw [g j hj]; exact Int.mul_pos pj hk) pp hij
    rw [g i hi, g j hj] at a
    unfold Ahead at a ⊢
    rw [← Int.mul_assoc, ← Int.mul_assoc] at a
    rcases a with a | ⟨a, b⟩
    · exact .inl (Int.lt_of_mul_lt_mul_right a (by omega))
    · exact .inr ⟨Int.eq_of_mul_eq_mul_right (by omega) a, b⟩
  · have e := sum_take_succ (l := D) (k := l.length) (by omega)
    rw [z, ← dl, List.take_length] at e
    omega
end Go.Proofs.YtacliakmhkebbaaDoor

/- Plain: rows told by their places, rotations, the stable sort by insertion and symmetric merges. -/
set_option linter.unusedVariables false
namespace Go.Proofs.YtacliakmhkebbaaDoor.Stb

/-- A change of places within [a, b). -/
def Pm (a b : Nat) (f g : Nat → Int) : Prop := ∃ s t : Nat → Nat, (∀ k, t (s k) = k) ∧ (∀ k, s (t k) = k) ∧ (∀ k, (k < a ∨ b ≤ k) → s k = k) ∧ (∀ k, (k < a ∨ b ≤ k) → t k = k) ∧ ∀ k, g k = f (s k)
theorem Pm.refl (a b : Nat) (f : Nat → Int) : Pm a b f f := ⟨id, id, fun _ => rfl, fun _ => rfl, fun _ _ => rfl, fun _ _ => rfl, fun _ => rfl⟩
theorem Pm.mono {a b c d : Nat} {f g : Nat → Int} (h : Pm a b f g) (h1 : c ≤ a) (h2 : b ≤ d) : Pm c d f g := by
  obtain ⟨s, t, ts, st, so, to, e⟩ := h
  exact ⟨s, t, ts, st, fun k hk => so k (by omega), fun k hk => to k (by omega), e⟩
theorem Pm.trans {a b : Nat} {f g h : Nat → Int} (x : Pm a b f g) (y : Pm a b g h) : Pm a b f h := by
  obtain ⟨s, t, ts, st, so, to, e⟩ := x
  obtain ⟨s', t', ts', st', so', to', e'⟩ := y
  refine ⟨fun k => s (s' k), fun k => t' (t k), fun k => by simp only [ts, ts'], fun k => by simp only [st, st'], fun k hk => by simp only [so' k hk, so k hk], fun k hk => by simp only [to k hk, to' k hk], fun k => by rw [e', e]⟩
theorem Pm.out {a b : Nat} {f g : Nat → Int} (h : Pm a b f g) {k : Nat} (hk : k < a ∨ b ≤ k) : g k = f k := by
  obtain ⟨s, t, ts, st, so, to, e⟩ := h
  rw [e, so k hk]
theorem Pm.src {a b : Nat} {f g : Nat → Int} (h : Pm a b f g) {k : Nat} (h1 : a ≤ k) (h2 : k < b) : ∃ j, a ≤ j ∧ j < b ∧ g k = f j := by
  obtain ⟨s, t, ts, st, so, to, e⟩ := h
  refine ⟨s k, ?_, ?_, e k⟩
  · apply Classical.byContradiction; intro h
    have := to (s k) (by omega); rw [ts] at this; omega
  · apply Classical.byContradiction; intro h
    have := to (s k) (by omega); rw [ts] at this; omega
theorem Pm.inj {a b : Nat} {f g : Nat → Int} (h : Pm a b f g) (hf : ∀ i j, f i = f j → i = j) : ∀ i j, g i = g j → i = j := by
  obtain ⟨s, t, ts, st, so, to, e⟩ := h
  intro i j hij
  rw [e, e] at hij
  have := congrArg t (hf _ _ hij)
  rwa [ts, ts] at this

/-- Two places change. -/
def swp (x y : Nat) (f : Nat → Int) : Nat → Int := fun k => if k = x then f y else if k = y then f x else f k
theorem Pm.swp {a b x y : Nat} (f : Nat → Int) (hx : a ≤ x) (hx' : x < b) (hy : a ≤ y) (hy' : y < b) : Pm a b f (swp x y f) := by
  refine ⟨fun k => if k = x then y else if k = y then x else k, fun k => if k = x then y else if k = y then x else k, fun k => ?_, fun k => ?_, fun k hk => ?_, fun k hk => ?_, fun k => ?_⟩
  · dsimp only; repeat' split
    all_goals omega
  · dsimp only; repeat' split
    all_goals omega
  · dsimp only; repeat' split
    all_goals omega
  · dsimp only; repeat' split
    all_goals omega
  · unfold Stb.swp; dsimp only; repeat' split
    all_goals rfl
/-- Two ranges change. -/
def swr (x y n : Nat) (f : Nat → Int) : Nat → Int := fun k => if x ≤ k ∧ k < x + n then f (k - x + y) else if y ≤ k ∧ k < y + n then f (k - y + x) else f k
theorem swr_zero (x y : Nat) (f : Nat → Int) : swr x y 0 f = f := by
  funext k; unfold swr; repeat' split
  all_goals first | omega | rfl
theorem swr_succ {x y n : Nat} (f : Nat → Int) (h : x + n < y) : swp (x + n) (y + n) (swr x y n f) = swr x y (n + 1) f := by
  funext k; unfold swp swr; repeat' split
  all_goals first | omega | (congr 1; omega) | rfl
/-- [a, m) and [m, b) change places. -/
def rot (a m b : Nat) (f : Nat → Int) : Nat → Int := fun k => if a ≤ k ∧ k < a + (b - m) then f (k + (m - a)) else if a + (b - m) ≤ k ∧ k < b then f (k - (b - m)) else f k
theorem rot_left {a m b : Nat} (f : Nat → Int) (h2 : m ≤ b) : rot m m b f = f := by
  funext k; unfold rot; repeat' split
  all_goals first | omega | (congr 1; omega) | rfl
theorem rot_right {a m : Nat} (f : Nat → Int) (h2 : a ≤ m) : rot a m m f = f := by
  funext k; unfold rot; repeat' split
  all_goals first | omega | (congr 1; omega) | rfl
theorem rot_more {m i j : Nat} (f : Nat → Int) (hi : i ≤ m) (h : j < i) : rot (m - i + j) m (m + j) (swr (m - i) m j f) = rot (m - i) m (m + j) f := by
  funext k; unfold rot swr; repeat' split
  all_goals first | omega | (congr 1; omega) | rfl
theorem rot_less {m i j : Nat} (f : Nat → Int) (hi : i ≤ m) (h : i < j) : rot (m - i) m (m + j - i) (swr (m - i) (m + j - i) i f) = rot (m - i) m (m + j) f := by
  funext k; unfold rot swr; repeat' split
  all_goals first | omega | (congr 1; omega) | rfl
theorem rot_same {m i : Nat} (f : Nat → Int) (hi : i ≤ m) : swr (m - i) m i f = rot (m - i) m (m + i) f := by
  funext k; unfold rot swr; repeat' split
  all_goals first | omega | (congr 1; omega) | rfl
theorem Pm.rot {a m b : Nat} (f : Nat → Int) (h1 : a ≤ m) (h2 : m ≤ b) : Pm a b f (rot a m b f) := by
  refine ⟨fun k => if a ≤ k ∧ k < a + (b - m) then k + (m - a) else if a + (b - m) ≤ k ∧ k < b then k - (b - m) else k, fun k => if a ≤ k ∧ k < m then k + (b - m) else if m ≤ k ∧ k < b then k - (m - a) else k, fun k => ?_, fun k => ?_, fun k hk => ?_, fun k hk => ?_, fun k => ?_⟩
  · dsimp only; repeat' split
    all_goals omega
  · dsimp only; repeat' split
    all_goals omega
  · dsimp only; repeat' split
    all_goals omega
  · dsimp only; repeat' split
    all_goals omega
  · unfold Stb.rot; dsimp only; repeat' split
    all_goals rfl
/-- One step of carrying the first behind. -/
theorem rot_up {a k : Nat} (f : Nat → Int) (h : a ≤ k) : swp k (k + 1) (rot a (a + 1) (k + 1) f) = rot a (a + 1) (k + 2) f := by
  funext j; unfold rot swp; dsimp only; repeat' split
  all_goals first | omega | (congr 1; omega) | rfl
theorem rot_down {k m : Nat} (f : Nat → Int) (h1 : 0 < k) (h : k ≤ m) : swp k (k - 1) (rot k m (m + 1) f) = rot (k - 1) m (m + 1) f := by
  funext j; unfold rot swp; dsimp only; repeat' split
  all_goals first | omega | (congr 1; omega) | rfl

section
variable {R : Int → Int → Prop}
def Srt (R : Int → Int → Prop) (a b : Nat) (f : Nat → Int) : Prop := ∀ i j, a ≤ i → i < j → j < b → R (f i) (f j)
theorem Srt.mono {a b c d : Nat} {f : Nat → Int} (h : Srt R a b f) (h1 : a ≤ c) (h2 : d ≤ b) : Srt R c d f := fun i j hi hij hj => h i j (by omega) hij (by omega)
theorem Srt.congr {a b : Nat} {f g : Nat → Int} (h : Srt R a b f) (e : ∀ k, a ≤ k → k < b → g k = f k) : Srt R a b g := fun i j hi hij hj => by
  rw [e i (by omega) (by omega), e j (by omega) (by omega)]; exact h i j hi hij hj
/-- An order, total on what is spoken of. -/
structure Tot (R : Int → Int → Prop) (V : Int → Prop) : Prop where
  tr : ∀ x y z, V x → V y → V z → R x y → R y z → R x z
  tot : ∀ x y, V x → V y → x ≠ y → ¬ R x y → R y x
/-- While the one at j goes down. -/
structure Ins (R : Int → Int → Prop) (a i j : Nat) (f : Nat → Int) : Prop where
  others : ∀ p q, a ≤ p → p < q → q ≤ i → p ≠ j → q ≠ j → R (f p) (f q)
  above : ∀ q, j < q → q ≤ i → R (f j) (f q)
theorem Ins.begin {a i : Nat} {f : Nat → Int} (h : Srt R a i f) : Ins R a i i f := ⟨fun p q h1 h2 h3 h4 h5 => h p q h1 h2 (by omega), fun q h1 h2 => by omega⟩
theorem Ins.step {a i j : Nat} {f : Nat → Int} (h : Ins R a i j f) (haj : a < j) (hji : j ≤ i) (hr : R (f j) (f (j - 1))) : Ins R a i (j - 1) (swp j (j - 1) f) := by
  constructor
  · intro p q h1 h2 h3 h4 h5
    unfold swp
    by_cases p1 : p = j
    · subst p1
      rw [if_pos rfl, if_neg (by omega), if_neg (by omega)]
      exact h.others (p - 1) q (by omega) (by omega) h3 (by omega) (by omega)
    · rw [if_neg p1, if_neg h4]
      by_cases q1 : q = j
      · subst q1
        rw [if_pos rfl]
        exact h.others p (q - 1) h1 (by omega) (by omega) p1 (by omega)
      · rw [if_neg q1, if_neg h5]
        exact h.others p q h1 h2 h3 p1 q1
  · intro q h1 h2
    unfold swp
    rw [if_neg (by omega), if_pos rfl]
    by_cases q1 : q = j
    · rw [if_pos q1]; exact hr
    · rw [if_neg q1, if_neg (by omega)]
      exact h.above q (by omega) h2
theorem Ins.done {V : Int → Prop} (T : Tot R V) {a i j : Nat} {f : Nat → Int} (h : Ins R a i j f) (haj : a ≤ j) (hji : j ≤ i) (hv : ∀ k, a ≤ k → k ≤ i → V (f k))
    (hr : j = a ∨ R (f (j - 1)) (f j)) : Srt R a (i + 1) f := by
  intro p q h1 h2 h3
  by_cases p1 : p = j
  · subst p1; exact h.above q h2 (by omega)
  · by_cases q1 : q = j
    · subst q1
      rcases hr with hr | hr
      · omega
      · by_cases p2 : p = q - 1
        · rw [p2]; exact hr
        · exact T.tr _ _ _ (hv p (by omega) (by omega)) (hv (q - 1) (by omega) (by omega)) (hv q (by omega) (by omega)) (h.others p (q - 1) h1 (by omega) (by omega) p1 (by omega)) hr
    · exact h.others p q h1 h2 (by omega) p1 q1

/-- Values of a block are the block's own places. -/
def Own (a b : Nat) (f : Nat → Int) : Prop := ∀ k, a ≤ k → k < b → (a : Int) ≤ f k ∧ f k < b
theorem Own.pm {a b : Nat} {f g : Nat → Int} (h : Own a b f) (p : Pm a b f g) : Own a b g := fun k h1 h2 => by
  obtain ⟨j, j1, j2, e⟩ := p.src h1 h2
  rw [e]; exact h j j1 j2
theorem Own.join {a m b : Nat} {f : Nat → Int} (h1 : Own a m f) (h2 : Own m b f) (am : a ≤ m) (mb : m ≤ b) : Own a b f := fun k k1 k2 => by
  by_cases c : k < m
  · have := h1 k k1 c; omega
  · have := h2 k (by omega) k2; omega
theorem Own.congr {a b : Nat} {f g : Nat → Int} (h : Own a b f) (e : ∀ k, a ≤ k → k < b → g k = f k) : Own a b g := fun k h1 h2 => by rw [e k h1 h2]; exact h k h1 h2

/-- From place p on, blocks of bs. -/
inductive Chain (R : Int → Int → Prop) (bs n : Nat) (f : Nat → Int) : Nat → Prop
  | stop {p : Nat} (h : n ≤ p) : Chain R bs n f p
  | step {p : Nat} (h : p < n) (s : Srt R p (min (p + bs) n) f) (o : Own p (min (p + bs) n) f) (t : Chain R bs n f (p + bs)) : Chain R bs n f p
/-- Up to place p, blocks of bs. -/
inductive Pre (R : Int → Int → Prop) (bs : Nat) (f : Nat → Int) : Nat → Prop
  | nil : Pre R bs f 0
  | snoc {p : Nat} (t : Pre R bs f p) (s : Srt R p (p + bs) f) (o : Own p (p + bs) f) : Pre R bs f (p + bs)
theorem Chain.congr {bs n p : Nat} {f g : Nat → Int} (h : Chain R bs n f p) (e : ∀ k, p ≤ k → g k = f k) : Chain R bs n g p := by
  induction h with
  | stop h => exact .stop h
  | step h s o t ih => exact .step h (s.congr fun k h1 h2 => e k h1) (o.congr fun k h1 h2 => e k h1) (ih fun k hk => e k (by omega))
theorem Pre.congr {bs p : Nat} {f g : Nat → Int} (h : Pre R bs f p) (e : ∀ k, k < p → g k = f k) : Pre R bs g p := by
  induction h with
  | nil => exact .nil
  | snoc t s o ih => exact .snoc (ih fun k hk => e k (by omega)) (s.congr fun k h1 h2 => e k (by omega)) (o.congr fun k h1 h2 => e k (by omega))
theorem Pre.chain {bs n p : Nat} {f : Nat → Int} (h : Pre R bs f p) : p ≤ n → 0 < bs → Chain R bs n f p → Chain R bs n f 0 := by
  induction h with
  | nil => intro _ _ h; exact h
  | @snoc p t s o ih =>
    intro hp hb hc
    refine ih (by omega) hb (.step (by omega) ?_ ?_ hc)
    · rw [Nat.min_eq_left hp]; exact s
    · rw [Nat.min_eq_left hp]; exact o
theorem Chain.two {bs n p : Nat} {f : Nat → Int} (h : Chain R bs n f p) (hn : p + 2 * bs ≤ n) (hb : 0 < bs) : Srt R p (p + bs) f ∧ Own p (p + bs) f ∧ Srt R (p + bs) (p + 2 * bs) f ∧ Own (p + bs) (p + 2 * bs) f ∧ Chain R bs n f (p + 2 * bs) := by
  cases h with
  | stop h => omega
  | step h s o t =>
    cases t with
    | stop h => omega
    | step h' s' o' t' =>
      rw [Nat.min_eq_left (by omega)] at s o s' o'
      rw [show p + bs + bs = p + 2 * bs by omega] at s' o' t'
      exact ⟨s, o, s', o', t'⟩
theorem Chain.last {bs n p : Nat} {f : Nat → Int} (h : Chain R bs n f p) (hn : p + bs < n) (hm : n < p + 2 * bs) : Srt R p (p + bs) f ∧ Own p (p + bs) f ∧ Srt R (p + bs) n f ∧ Own (p + bs) n f := by
  cases h with
  | stop h => omega
  | step h s o t =>
    cases t with
    | stop h => omega
    | step h' s' o' t' =>
      rw [Nat.min_eq_left (by omega)] at s o
      rw [Nat.min_eq_right (by omega)] at s' o'
      exact ⟨s, o, s', o'⟩
theorem Chain.one {bs n p : Nat} {f : Nat → Int} (h : Chain R bs n f p) (hn : p < n) (hm : n ≤ p + bs) : Srt R p n f ∧ Own p n f := by
  cases h with
  | stop h => omega
  | step h s o t => rw [Nat.min_eq_right hm] at s o; exact ⟨s, o⟩
theorem Chain.wide {bs n p : Nat} {f : Nat → Int} (s : Srt R p n f) (o : Own p n f) (h : n ≤ p + bs) : Chain R bs n f p := by
  by_cases c : p < n
  · exact .step c (by rw [Nat.min_eq_right h]; exact s) (by rw [Nat.min_eq_right h]; exact o) (.stop h)
  · exact .stop (by omega)

/-- [a, m) and [m, b), each in order, what is in the first older than what is in the second. -/
structure Mrg (R : Int → Int → Prop) (V : Int → Prop) (a m b : Nat) (f : Nat → Int) : Prop where
  s1 : Srt R a m f
  s2 : Srt R m b f
  old : ∀ i j, a ≤ i → i < m → m ≤ j → j < b → f i < f j
  ok : ∀ k, a ≤ k → k < b → V (f k)
theorem Mrg.of {V : Int → Prop} {a m b : Nat} {f : Nat → Int} (s1 : Srt R a m f) (o1 : Own a m f) (s2 : Srt R m b f) (o2 : Own m b f) (ok : ∀ k, a ≤ k → k < b → V (f k)) : Mrg R V a m b f :=
  ⟨s1, s2, fun i j h1 h2 h3 h4 => by have := o1 i h1 h2; have := o2 j h3 h4; omega, ok⟩
/-- The first alone goes behind what is less. -/
theorem Mrg.up {V : Int → Prop} (T : Tot R V) {a b i : Nat} {f : Nat → Int} (h : Mrg R V a (a + 1) b f) (h1 : a + 1 ≤ i) (h2 : i ≤ b) (lo : ∀ k, a + 1 ≤ k → k < i → R (f k) (f a)) (hi : ∀ k, i ≤ k → k < b → ¬ R (f k) (f a)) : Srt R a b (rot a (a + 1) i f) := by
  have hi' : ∀ k, i ≤ k → k < b → R (f a) (f k) := fun k k1 k2 => T.tot _ _ (h.ok k (by omega) k2) (h.ok a (by omega) (by omega)) (by have := h.old a k (by omega) (by omega) (by omega) k2; omega) (hi k k1 k2)
  intro p q p1 pq q1
  unfold rot
  by_cases c1 : p < i - 1
  · rw [if_pos (by omega), show p + (a + 1 - a) = p + 1 by omega]
    by_cases c2 : q < i - 1
    · rw [if_pos (by omega), show q + (a + 1 - a) = q + 1 by omega]; exact h.s2 _ _ (by omega) (by omega) (by omega)
    · rw [if_neg (by omega)]
      by_cases c3 : q < i
      · rw [if_pos (by omega), show q - (i - (a + 1)) = a by omega]; exact lo _ (by omega) (by omega)
      · rw [if_neg (by omega)]; exact h.s2 _ _ (by omega) (by omega) (by omega)
  · rw [if_neg (by omega)]
    by_cases c2 : p < i
    · rw [if_pos (by omega), show p - (i - (a + 1)) = a by omega, if_neg (by omega), if_neg (by omega)]; exact hi' _ (by omega) (by omega)
    · rw [if_neg (by omega), if_neg (by omega), if_neg (by omega)]; exact h.s2 _ _ (by omega) (by omega) (by omega)
/-- The last alone goes before what is greater. -/
theorem Mrg.down {V : Int → Prop} (T : Tot R V) {a m i : Nat} {f : Nat → Int} (h : Mrg R V a m (m + 1) f) (h1 : a ≤ i) (h2 : i ≤ m) (lo : ∀ k, a ≤ k → k < i → ¬ R (f m) (f k)) (hi : ∀ k, i ≤ k → k < m → R (f m) (f k)) : Srt R a (m + 1) (rot i m (m + 1) f) := by
  have lo' : ∀ k, a ≤ k → k < i → R (f k) (f m) := fun k k1 k2 => T.tot _ _ (h.ok m (by omega) (by omega)) (h.ok k (by omega) (by omega)) (by have := h.old k m (by omega) (by omega) (by omega) (by omega); omega) (lo k k1 k2)
  intro p q p1 pq q1
  unfold rot
  by_cases c1 : p < i
  · rw [if_neg (by omega), if_neg (by omega)]
    by_cases c2 : q < i
    · rw [if_neg (by omega), if_neg (by omega)]; exact h.s1 _ _ (by omega) (by omega) (by omega)
    · by_cases c3 : q = i
      · rw [if_pos (by omega), show q + (m - i) = m by omega]; exact lo' _ (by omega) (by omega)
      · rw [if_neg (by omega), if_pos (by omega)]; exact h.s1 _ _ (by omega) (by omega) (by omega)
  · by_cases c2 : p = i
    · rw [if_pos (by omega), show p + (m - i) = m by omega, if_neg (by omega), if_pos (by omega)]; exact hi _ (by omega) (by omega)
    · rw [if_neg (by omega), if_pos (by omega), if_neg (by omega), if_pos (by omega)]; exact h.s1 _ _ (by omega) (by omega) (by omega)
/-- The cut of a symmetric merge: what its search has found. -/
structure Cut (R : Int → Int → Prop) (a m b mid start : Nat) (f : Nat → Int) : Prop where
  lo : a ≤ start
  sm : start ≤ m
  smid : start ≤ mid
  eb : mid + m - start ≤ b
  before : ∀ k, a < start → mid + m - start < b → k = start - 1 → ¬ R (f (mid + m - start)) (f k)
  behind : start < m → m < mid + m - start → R (f (mid + m - start - 1)) (f start)
section
variable {V : Int → Prop} {a m b mid start : Nat} {f : Nat → Int}
theorem Cut.parts (T : Tot R V) (h : Mrg R V a m b f) (c : Cut R a m b mid start f) (am : a < mid) (mb : mid < b) :
    let g := rot start m (mid + m - start) f
    Mrg R V a start mid g ∧ Mrg R V mid (mid + m - start) b g ∧ (∀ i j, a ≤ i → i < mid → mid ≤ j → j < b → R (g i) (g j)) := by
  obtain ⟨lo, sm, smid, eb, bef, beh⟩ := c
  obtain ⟨e, he⟩ : ∃ e, e = mid + m - start := ⟨_, rfl⟩
  have e1 : m ≤ e := by omega
  rw [← he] at eb bef beh ⊢
  -- the four parts
  have g1 : ∀ k, k < start → rot start m e f k = f k := fun k hk => by unfold rot; rw [if_neg (by omega), if_neg (by omega)]
  have g2 : ∀ k, start ≤ k → k < mid → rot start m e f k = f (k + (m - start)) := fun k k1 k2 => by unfold rot; rw [if_pos (by omega)]
  have g3 : ∀ k, mid ≤ k → k < e → rot start m e f k = f (k - (e - m)) := fun k k1 k2 => by unfold rot; rw [if_neg (by omega), if_pos (by omega)]
  have g4 : ∀ k, e ≤ k → rot start m e f k = f k := fun k hk => by unfold rot; rw [if_neg (by omega), if_neg (by omega)]
  have ok : ∀ k, a ≤ k → k < b → V (rot start m e f k) := fun k k1 k2 => by
    obtain ⟨j, j1, j2, ej⟩ := ((Pm.rot f sm e1).mono lo eb).src k1 k2
    rw [ej]; exact h.ok j j1 j2
  have le : ∀ x y, a ≤ x → x < b → a ≤ y → y < b → f x ≠ f y → ¬ R (f x) (f y) → R (f y) (f x) := fun x y x1 x2 y1 y2 n => T.tot _ _ (h.ok x x1 x2) (h.ok y y1 y2) n
  -- A1 before B2
  have A1B2 : ∀ i j, a ≤ i → i < start → e ≤ j → j < b → R (f i) (f j) := fun i j i1 i2 j1 j2 => by
    have r0 : R (f (start - 1)) (f e) := le e (start - 1) (by omega) (by omega) (by omega) (by omega) (by have := h.old (start - 1) e (by omega) (by omega) (by omega) (by omega); omega) (bef _ (by omega) (by omega) rfl)
    have r1 : R (f (start - 1)) (f j) := by
      by_cases c : j = e
      · rw [c]; exact r0
      · exact T.tr _ _ _ (h.ok _ (by omega) (by omega)) (h.ok _ (by omega) (by omega)) (h.ok _ (by omega) (by omega)) r0 (h.s2 e j (by omega) (by omega) (by omega))
    by_cases c : i = start - 1
    · rw [c]; exact r1
    · exact T.tr _ _ _ (h.ok _ (by omega) (by omega)) (h.ok _ (by omega) (by omega)) (h.ok _ (by omega) (by omega)) (h.s1 i (start - 1) (by omega) (by omega) (by omega)) r1
  have B1A2 : ∀ i j, m ≤ i → i < e → start ≤ j → j < m → R (f i) (f j) := fun i j i1 i2 j1 j2 => by
    have r0 : R (f (e - 1)) (f start) := beh (by omega) (by omega)
    have r1 : R (f (e - 1)) (f j) := by
      by_cases c : j = start
      · rw [c]; exact r0
      · exact T.tr _ _ _ (h.ok _ (by omega) (by omega)) (h.ok _ (by omega) (by omega)) (h.ok _ (by omega) (by omega)) r0 (h.s1 start j (by omega) (by omega) (by omega))
    by_cases c : i = e - 1
    · rw [c]; exact r1
    · exact T.tr _ _ _ (h.ok _ (by omega) (by omega)) (h.ok _ (by omega) (by omega)) (h.ok _ (by omega) (by omega)) (h.s2 i (e - 1) (by omega) (by omega) (by omega)) r1
  refine ⟨⟨?_, ?_, ?_, fun k k1 k2 => ok k k1 (by omega)⟩, ⟨?_, ?_, ?_, fun k k1 k2 => ok k (by omega) k2⟩, ?_⟩
  · intro i j i1 ij j2; rw [g1 i (by omega), g1 j (by omega)]; exact h.s1 i j i1 ij (by omega)
  · intro i j i1 ij j2; rw [g2 i (by omega) (by omega), g2 j (by omega) (by omega)]; exact h.s2 _ _ (by omega) (by omega) (by omega)
  · intro i j i1 i2 j1 j2; rw [g1 i i2, g2 j j1 j2]; exact h.old _ _ i1 (by omega) (by omega) (by omega)
  · intro i j i1 ij j2; rw [g3 i (by omega) (by omega), g3 j (by omega) (by omega)]; exact h.s1 _ _ (by omega) (by omega) (by omega)
  · intro i j i1 ij j2; rw [g4 i (by omega), g4 j (by omega)]; exact h.s2 _ _ (by omega) (by omega) (by omega)
  · intro i j i1 i2 j1 j2; rw [g3 i i1 i2, g4 j j1]; exact h.old _ _ (by omega) (by omega) (by omega) (by omega)
  · intro i j i1 i2 j1 j2
    by_cases c1 : i < start
    · rw [g1 i c1]
      by_cases c2 : j < e
      · rw [g3 j j1 c2]; exact h.s1 _ _ i1 (by omega) (by omega)
      · rw [g4 j (by omega)]; exact A1B2 i j i1 c1 (by omega) j2
    · rw [g2 i (by omega) i2]
      by_cases c2 : j < e
      · rw [g3 j j1 c2]; exact B1A2 _ _ (by omega) (by omega) (by omega) (by omega)
      · rw [g4 j (by omega)]; exact h.s2 _ _ (by omega) (by omega) (by omega)
end
/-- Both sides in order, the first below the second. -/
theorem srt_join {a mid b : Nat} {f : Nat → Int} (s1 : Srt R a mid f) (s2 : Srt R mid b f) (x : ∀ i j, a ≤ i → i < mid → mid ≤ j → j < b → R (f i) (f j)) : Srt R a b f := fun i j i1 ij j2 => by
  by_cases c1 : j < mid
  · exact s1 i j i1 ij c1
  · by_cases c2 : i < mid
    · exact x i j i1 c2 (by omega) j2
    · exact s2 i j (by omega) ij j2
theorem cross_pm {a mid b : Nat} {f g h : Nat → Int} (x : ∀ i j, a ≤ i → i < mid → mid ≤ j → j < b → R (f i) (f j)) (p : Pm a mid f g) (q : Pm mid b g h) : ∀ i j, a ≤ i → i < mid → mid ≤ j → j < b → R (h i) (h j) := fun i j i1 i2 j1 j2 => by
  obtain ⟨i', a1, a2, e1⟩ := p.src i1 i2
  obtain ⟨j', b1, b2, e2⟩ := q.src j1 j2
  rw [q.out (.inl i2), e1, e2, p.out (.inr b1)]
  exact x _ _ a1 a2 b1 b2
end
end Go.Proofs.YtacliakmhkebbaaDoor.Stb

/- A row of numbers in place, while a sort goes through it; swapRange and rotate. -/
namespace Go.Proofs.YtacliakmhkebbaaDoor
open Go.RowKit Go.Proofs.YtacliakmhkebbaaDoor.Stb
set_option linter.unusedVariables false
set_option linter.unusedSimpArgs false

theorem w64 {x : Int} {n : Nat} (h : x = (n : Int)) (hn : n ≤ 9223372036854775807) : IntKind.i64.wrap x = (n : Int) := by rw [h]; exact IntWalk.i64_in _ (by omega)
def upd (f : Nat → Int) (k : Nat) (v : Int) : Nat → Int := fun j => if j = k then v else f j
/-- The row at block B holds f; what was there else is as it was. -/
structure SW (B N C : Nat) (w0 w : World) (f : Nat → Int) : Prop where
  row : w.ownsRow 0 3 1 (.slice (some ⟨B, 0, none⟩) N C) N ((List.range N).map fun k => .int .i64 (f k))
  sz : w0.heap.size ≤ w.heap.size
  bl : ∀ k, k ≠ B → k < w0.heap.size → w.heap[k]? = w0.heap[k]?
  os : w.os = w0.os
  tp : w.tape = w0.tape
  ou : w.output = w0.output
section
variable {B N C : Nat} {w0 w : World} {f : Nat → Int}
theorem SW.cell (s : SW B N C w0 w f) {k : Nat} (h : k < N) : w.cell? ⟨B, k, none⟩ = some (.int .i64 (f k)) := by
  rw [s.row.cellAt k (by omega)]; simp [h]
theorem SW.frozen (s : SW B N C w0 w f) (k : Nat) : w.frozen? ⟨B, k, none⟩ = false := s.row.frozenAt k
theorem SW.drewN (s : SW B N C w0 w f) (n : Nat) : SW B N C w0 (w.drewN n) f := ⟨s.row, s.sz, s.bl, s.os, s.tp, s.ou⟩
theorem SW.drew (s : SW B N C w0 w f) : SW B N C w0 w.drew f := ⟨s.row, s.sz, s.bl, s.os, s.tp, s.ou⟩
theorem SW.set (s : SW B N C w0 w f) (k : Nat) (v : Int) : SW B N C w0 (w.setCell ⟨B, k, none⟩ (.int .i64 v)) (upd f k v) := by
  refine ⟨?_, by rw [World.size_setCell]; exact s.sz, fun j hj hl => by rw [Below.heap_setCell _ _ _ _ hj]; exact s.bl j hj hl, s.os, s.tp, s.ou⟩
  have := (s.row.stored k (.int .i64 v)).1
  have e : ((List.range N).map fun k => Value.int .i64 (f k)).set k (.int .i64 v) = (List.range N).map fun j => Value.int .i64 (upd f k v j) := by
    apply List.ext_getElem
    · simp
    · intro i h1 h2
      simp only [List.getElem_set, List.getElem_map, List.getElem_range, upd]
      by_cases c : k = i
      · subst c; simp
      · rw [if_neg c, if_neg (fun e => c e.symm)]
  rw [e] at this
  exact this
/-- A call that leaves alone what there is. -/
theorem SW.call {w' : World} (s : SW B N C w0 w f) (st : Below w.heap.size w w') : SW B N C w0 w' f := by
  refine ⟨⟨s.row.1, ?_⟩, Nat.le_trans s.sz st.size, fun k hk hl => (st.block k (Nat.lt_of_lt_of_le hl s.sz)).trans (s.bl k hk hl), st.os.trans s.os, st.tape.trans s.tp, st.output.trans s.ou⟩
  rcases s.row.2 with h0 | ⟨g, cap, cur, e, hb, hg, r⟩
  · exact .inl h0
  · exact .inr ⟨g, cap, cur, e, hb, (st.block g (Array.getElem?_eq_some_iff.1 hg).1).trans hg, r⟩
theorem upd_swp (f : Nat → Int) (x y : Nat) : upd (upd f x (f y)) y (f x) = swp x y f := by
  funext k; unfold upd swp
  by_cases a : k = y <;> by_cases b : k = x <;> simp [a, b]
  all_goals (intro e; rw [e])
theorem SW.swap (s : SW B N C w0 w f) (x y : Nat) : SW B N C w0 ((w.setCell ⟨B, x, none⟩ (.int .i64 (f y))).setCell ⟨B, y, none⟩ (.int .i64 (f x))) (swp x y f) := by
  rw [← upd_swp]; exact (s.set x (f y)).set y (f x)
end

set_option maxRecDepth 100000 in
theorem swapRange_any (B N C a b n : Nat) (f : Nat → Int) (w0 w : World) (s : SW B N C w0 w f) (hab : a + n ≤ b) (hbn : b + n ≤ N) (hN : N ≤ 4611686018427387904) (cf : Value) :
    Calls Tryd.prog 126 #[.slice (some ⟨B, 0, none⟩) N C, .int .i64 a, .int .i64 b, .int .i64 n, cf] w fun e w' => e = .returned (.tuple #[]) ∧ SW B N C w0 w' (swr a b n f) := by
  have S := Lib.hid s
  clear s
  go_enter Tryd.func126, Tryd.ntmps126
  go_wp2_with fail
  go_loopw [10] (fun kv wr => ∃ i : Nat, i ≤ n ∧ kv = .int .i64 i ∧ Hid (SW B N C w0 wr (swr a b i f))) (fun kv _ => n - (intOf kv).toNat)
  case atStart => exact ⟨0, Nat.zero_le _, rfl, by rw [swr_zero]; exact S⟩
  case round =>
    obtain ⟨i, hi, rfl, R⟩ := hrel
    by_cases t1 : i < n
    · obtain ⟨x, hx⟩ : ∃ x, x = a + i := ⟨_, rfl⟩
      obtain ⟨y, hy⟩ : ∃ y, y = b + i := ⟨_, rfl⟩
      have ex : IntKind.i64.wrap ((a : Int) + (i : Int)) = (x : Int) := w64 (by omega) (by omega)
      have ey : IntKind.i64.wrap ((b : Int) + (i : Int)) = (y : Int) := w64 (by omega) (by omega)
      have x0 : (0 : Int) ≤ (x : Int) := by omega
      have x1 : (x : Int) < (N : Int) := by omega
      have y0 : (0 : Int) ≤ (y : Int) := by omega
      have y1 : (y : Int) < (N : Int) := by omega
      have xy : ¬ x = y := by omega
      have yx : ¬ y = x := by omega
      have cx := R.out.cell (show x < N by omega)
      have cy := R.out.cell (show y < N by omega)
      have fx := R.out.frozen x
      have fy := R.out.frozen y
      have E := Lib.hid (fun W => (show SW B N C w0 W (swp x y (swr a b i f)) → SW B N C w0 W (swr a b (i + 1) f) from fun h => by rw [hx, hy, swr_succ _ (by omega)] at h; exact h))
      have SS := Lib.hid (R.out.swap x y)
      have HX := Lib.hid hx
      have HY := Lib.hid hy
      generalize swr a b i f x = p at *
      generalize swr a b i f y = q at *
      clear hx hy R S
      go_wp2_with fail
      go_region
      have R := Lib.hid (E.out _ SS.out.drew)
      clear cx cy fx fy SS E ex ey x0 x1 y0 y1 xy yx
      generalize ((wr.setCell ⟨B, x, none⟩ (.int .i64 q)).setCell ⟨B, y, none⟩ (.int .i64 p)).drew = v at R ⊢
      clear HX HY
      go_wp2_with fail
      go_roundw
      case rel => exact ⟨i + 1, by omega, by go_num, R⟩
      case measure => simp [intOf]; omega
    · obtain rfl : i = n := by omega
      go_wp2_with fail
      go_end0
      exact ⟨rfl, R.out⟩

set_option maxRecDepth 100000 in
set_option maxHeartbeats 4000000 in
theorem rotate_any (B N C a m b : Nat) (f : Nat → Int) (w0 w : World) (s : SW B N C w0 w f) (ham : a < m) (hmb : m < b) (hbn : b ≤ N) (hN : N ≤ 4611686018427387904) (cf : Value) :
    Calls Tryd.prog 112 #[.slice (some ⟨B, 0, none⟩) N C, .int .i64 a, .int .i64 m, .int .i64 b, cf] w fun e w' => e = .returned (.tuple #[]) ∧ SW B N C w0 w' (rot a m b f) := by
  have S := Lib.hid s
  clear s
  have e1 : IntKind.i64.wrap ((m : Int) - (a : Int)) = ((m - a : Nat) : Int) := w64 (by omega) (by omega)
  have e2 : IntKind.i64.wrap ((b : Int) - (m : Int)) = ((b - m : Nat) : Int) := w64 (by omega) (by omega)
  go_enter Tryd.func112, Tryd.ntmps112
  go_wp2_with fail
  go_loopw [10, 11] (fun iv jv wr => ∃ i j : Nat, ∃ g, 0 < i ∧ 0 < j ∧ i ≤ m - a ∧ j ≤ b - m ∧ iv = .int .i64 i ∧ jv = .int .i64 j ∧ Hid (SW B N C w0 wr g) ∧ Hid (rot (m - i) m (m + j) g = rot a m b f)) (fun iv jv _ => (intOf iv).toNat + (intOf jv).toNat)
  case atStart => exact ⟨m - a, b - m, f, by omega, by omega, Nat.le_refl _, Nat.le_refl _, rfl, rfl, S, Lib.hid (by rw [show m - (m - a) = a by omega, show m + (b - m) = b by omega])⟩
  case round =>
    obtain ⟨i, j, g, i0, j0, hi, hj, rfl, rfl, R, E⟩ := hrel
    clear S e1 e2
    obtain ⟨z, hz⟩ : ∃ z, z = m - i := ⟨_, rfl⟩
    have x1 : IntKind.i64.wrap ((m : Int) - (i : Int)) = (z : Int) := w64 (by omega) (by omega)
    rcases Nat.lt_trichotomy i j with h | h | h
    · obtain ⟨u, hu⟩ : ∃ u, u = m + j := ⟨_, rfl⟩
      obtain ⟨y, hy⟩ : ∃ y, y = m + j - i := ⟨_, rfl⟩
      obtain ⟨d, hd⟩ : ∃ d, d = j - i := ⟨_, rfl⟩
      have x2 : IntKind.i64.wrap ((m : Int) + (j : Int)) = (u : Int) := w64 (by omega) (by omega)
      have x3 : IntKind.i64.wrap ((u : Int) - (i : Int)) = (y : Int) := w64 (by omega) (by omega)
      have x4 : IntKind.i64.wrap ((j : Int) - (i : Int)) = (d : Int) := w64 (by omega) (by omega)
      have n1 : ¬ (i : Int) = (j : Int) := by omega
      have n2 : ¬ (j : Int) < (i : Int) := by omega
      have E2 := Lib.hid (show rot (m - i) m (m + (j - i)) (swr (m - i) (m + j - i) i g) = rot a m b f by rw [← E.out, show m + (j - i) = m + j - i by omega]; exact rot_less g (by omega) h)
      have CC := Lib.hid (swapRange_any B N C (m - i) (m + j - i) i g w0 wr R.out (by omega) (by omega) hN cf)
      have FF := Lib.hid (show 0 < i ∧ 0 < d ∧ i ≤ m - a ∧ d ≤ b - m ∧ i + d < i + j from ⟨i0, by omega, hi, by omega, by omega⟩)
      rw [← hd] at E2
      rw [← hz, ← hy] at CC
      clear R E i0 j0 hi hj h hu hd
      rw [← hz, ← hy] at E2
      have HZ := Lib.hid hz
      generalize swr z y i g = g2 at *
      clear hz hy
      go_wp2_with fail
      refine CC.out.mono ?_
      rintro e v ⟨rfl, R⟩
      have R := Lib.hid R
      clear CC
      go_wp2_with fail
      go_roundw
      case rel => obtain ⟨f1, f2, f3, f4, f5⟩ := FF.out; exact ⟨i, d, g2, f1, f2, f3, f4, rfl, rfl, R, by rw [HZ.out] at E2; exact E2⟩
      case measure => have := FF.out; simp [intOf]; omega
    · subst h
      have CC := Lib.hid (swapRange_any B N C (m - i) m i g w0 wr R.out (by omega) (by omega) hN cf)
      rw [rot_same g (by omega), E.out, ← hz] at CC
      clear R E i0 j0 hi hj hz
      go_wp2_with fail
      refine CC.out.mono ?_
      rintro e v ⟨rfl, R⟩
      have R := Lib.hid R
      clear CC
      go_wp2_with fail
      go_end0
      exact ⟨rfl, R.out⟩
    · obtain ⟨d, hd⟩ : ∃ d, d = i - j := ⟨_, rfl⟩
      have x4 : IntKind.i64.wrap ((i : Int) - (j : Int)) = (d : Int) := w64 (by omega) (by omega)
      have n1 : ¬ (i : Int) = (j : Int) := by omega
      have n2 : (j : Int) < (i : Int) := by omega
      have E2 := Lib.hid (show rot (m - (i - j)) m (m + j) (swr (m - i) m j g) = rot a m b f by rw [← E.out, show m - (i - j) = m - i + j by omega]; exact rot_more g (by omega) h)
      have CC := Lib.hid (swapRange_any B N C (m - i) m j g w0 wr R.out (by omega) (by omega) hN cf)
      have FF := Lib.hid (show 0 < d ∧ 0 < j ∧ d ≤ m - a ∧ j ≤ b - m ∧ d + j < i + j from ⟨by omega, j0, by omega, hj, by omega⟩)
      rw [← hd, ← hz] at E2
      rw [← hz] at CC
      clear R E i0 j0 hi hj h hz hd
      generalize swr z m j g = g2 at *
      go_wp2_with fail
      refine CC.out.mono ?_
      rintro e v ⟨rfl, R⟩
      have R := Lib.hid R
      clear CC
      go_wp2_with fail
      go_roundw
      case rel => obtain ⟨f1, f2, f3, f4, f5⟩ := FF.out; exact ⟨d, j, g2, f1, f2, f3, f4, rfl, rfl, R, E2⟩
      case measure => have := FF.out; simp [intOf]; omega
end Go.Proofs.YtacliakmhkebbaaDoor
