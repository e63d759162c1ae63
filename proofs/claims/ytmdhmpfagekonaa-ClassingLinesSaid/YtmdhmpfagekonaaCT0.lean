/- Classing's tests, plain: the order by bases, the windows, what is used. -/
import Derived.Test.YtmdhmpfagekonaaCU1
namespace Go.Proofs.Ytmdhmpfagekonaa
open Go.RowKit
set_option linter.unusedVariables false
set_option linter.unusedSimpArgs false

namespace Ct
def gi (O : List Int) (i : Nat) : Int := O[i]?.getD 0
theorem gi_lt {l : List Int} {k : Nat} (h : k < l.length) : gi l k = l[k] := by simp [gi, h]
/-- A subsample. -/
structure Sb where
  raw : Int
  dry : Int
  ash : Int
  gre : Int
  veg : Int
instance : Inhabited Sb := ⟨⟨1, 0, 0, 0, 0⟩⟩
def Sb.ok (s : Sb) : Bool := subB s.raw s.dry s.ash s.gre s.veg
def Sb.wl (s : Sb) : Int := s.dry - s.ash - s.gre - s.veg
theorem Sb.bd {s : Sb} (h : s.ok = true) : 1 ≤ s.raw ∧ s.raw ≤ 10000 ∧ 0 ≤ s.wl ∧ s.wl ≤ s.raw ∧ 0 ≤ s.veg ∧ s.veg ≤ s.raw := by
  have := subB_true.1 h
  unfold Sb.wl
  omega
/-- Below 0: x's base is less than y's. -/
def bl (S : Nat → Sb) (x y : Int) : Int := (S x.toNat).wl * (S y.toNat).raw - (S y.toNat).wl * (S x.toNat).raw
def RB (S : Nat → Sb) (x y : Int) : Prop := bl S x y < 0 ∨ (bl S x y = 0 ∧ x < y)
def Good (S : Nat → Sb) : Prop := ∀ k, (S k).ok = true
theorem bl_anti (S : Nat → Sb) (x y : Int) : bl S y x = - bl S x y := by unfold bl; omega
theorem rb_neg (S : Nat → Sb) (x y : Int) (h : x < y) : bl S y x < 0 ↔ RB S y x := by unfold RB; omega
theorem rb_irr {S : Nat → Sb} {x : Int} (h : RB S x x) : False := by unfold RB bl at h; omega
theorem rb_tot3 {S : Nat → Sb} {x y : Int} (h : x ≠ y) : RB S x y ∨ RB S y x := by
  have := bl_anti S x y
  unfold RB; omega
theorem sgn3 {d f b t u v : Int} (hd : 0 < d) (hf : 0 < f) (hb : 0 < b) (e : d * t = f * u + b * v) (hu : u ≤ 0) (hv : v ≤ 0) : t ≤ 0 ∧ (u < 0 ∨ v < 0 → t < 0) := by
  have a : f * u ≤ 0 := Int.mul_nonpos_of_nonneg_of_nonpos (by omega) hu
  have c : b * v ≤ 0 := Int.mul_nonpos_of_nonneg_of_nonpos (by omega) hv
  refine ⟨?_, fun h => ?_⟩
  · apply Classical.byContradiction
    intro n
    have := Int.mul_pos hd (show 0 < t by omega)
    omega
  · apply Classical.byContradiction
    intro n
    have p := Int.mul_nonneg (show 0 ≤ d by omega) (show 0 ≤ t by omega)
    rcases h with h | h
    · have := Int.mul_neg_of_pos_of_neg hf h
      omega
    · have := Int.mul_neg_of_pos_of_neg hb h
      omega
theorem zer3 {d f b t u v : Int} (hd : 0 < d) (e : d * t = f * u + b * v) (hu : u = 0) (hv : v = 0) : t = 0 := by
  subst hu hv
  rcases Int.mul_eq_zero.1 (show d * t = 0 by rw [e]; simp) with h | h
  · omega
  · exact h
theorem bl_tri (S : Nat → Sb) (x y z : Int) : (S y.toNat).raw * bl S x z = (S z.toNat).raw * bl S x y + (S x.toNat).raw * bl S y z := by
  unfold bl
  generalize (S x.toNat).raw = b
  generalize (S y.toNat).raw = d
  generalize (S z.toNat).raw = f
  generalize (S x.toNat).wl = a
  generalize (S y.toNat).wl = c
  generalize (S z.toNat).wl = e
  simp only [Int.mul_sub]
  have h1 : d * (a * f) = f * (a * d) := by rw [Int.mul_left_comm d a f, Int.mul_comm d f, Int.mul_left_comm a f d]
  have h2 : f * (c * b) = b * (c * f) := by rw [Int.mul_left_comm f c b, Int.mul_comm f b, Int.mul_left_comm c b f]
  have h3 : d * (e * b) = b * (e * d) := by rw [Int.mul_left_comm d e b, Int.mul_comm d b, Int.mul_left_comm e b d]
  omega
theorem rb_tr {S : Nat → Sb} (G : Good S) {x y z : Int} (h : RB S x y) (h' : RB S y z) : RB S x z := by
  have e := bl_tri S x y z
  have r1 := (G x.toNat); have r2 := (G y.toNat); have r3 := (G z.toNat)
  have q1 := (Sb.bd r1).1; have q2 := (Sb.bd r2).1; have q3 := (Sb.bd r3).1
  unfold RB at *
  generalize bl S x z = t at *
  generalize bl S x y = u at *
  generalize bl S y z = v at *
  have s := sgn3 (by omega) (by omega) (by omega) e (by omega) (by omega)
  rcases h with h | h <;> rcases h' with h' | h'
  · exact .inl (s.2 (.inl h))
  · exact .inl (s.2 (.inl h))
  · exact .inl (s.2 (.inr h'))
  · exact .inr ⟨zer3 (by omega) e h.1 h'.1, by omega⟩

def IsO (n : Nat) (O : List Int) : Prop := O.length = n ∧ (∀ k, k < n → 0 ≤ gi O k ∧ gi O k < n) ∧ ∀ i j, i < j → j < n → gi O i ≠ gi O j
theorem IsO.inj {n : Nat} {O : List Int} (h : IsO n O) {i j : Nat} (hi : i < n) (hj : j < n) (e : gi O i = gi O j) : i = j := by
  rcases Nat.lt_trichotomy i j with c | c | c
  · exact absurd e (h.2.2 i j c hj)
  · exact c
  · exact absurd e.symm (h.2.2 j i c hi)
/-- n numbers below n that differ are all of them. -/
theorem onto_aux : ∀ (n : Nat) (f : Nat → Nat), (∀ k, k < n → f k < n) → (∀ i j, i < n → j < n → f i = f j → i = j) → ∀ m, m < n → ∃ k, k < n ∧ f k = m := by
  intro n
  induction n with
  | zero => intro f _ _ m h; omega
  | succ n ih =>
    intro f h1 h2 m hm
    -- f' : what goes to n is moved to where n went
    let g : Nat → Nat := fun k => if f k = n then f n else f k
    have g1 : ∀ k, k < n → g k < n := by
      intro k hk
      show (if f k = n then f n else f k) < n
      by_cases c : f k = n
      · rw [if_pos c]
        have a := h1 n (by omega)
        have : f n ≠ n := fun e => by have := h2 k n (by omega) (by omega) (by rw [c, e]); omega
        omega
      · rw [if_neg c]; have := h1 k (by omega); omega
    have g2 : ∀ i j, i < n → j < n → g i = g j → i = j := by
      intro i j hi hj e
      change (if f i = n then f n else f i) = (if f j = n then f n else f j) at e
      by_cases c : f i = n <;> by_cases d : f j = n
      · exact h2 i j (by omega) (by omega) (by rw [c, d])
      · rw [if_pos c, if_neg d] at e
        have := h2 n j (by omega) (by omega) e; omega
      · rw [if_neg c, if_pos d] at e
        have := h2 i n (by omega) (by omega) e; omega
      · rw [if_neg c, if_neg d] at e
        exact h2 i j (by omega) (by omega) e
    by_cases c : f n = m
    · exact ⟨n, by omega, c⟩
    by_cases d : m = n
    · -- who goes to n?
      apply Classical.byContradiction
      intro no
      have all : ∀ k, k < n → f k ≠ n := fun k hk e => no ⟨k, by omega, by omega⟩
      have a := h1 n (by omega)
      have fn : f n < n := by omega
      obtain ⟨k, hk, e⟩ := ih g g1 g2 (f n) fn
      change (if f k = n then f n else f k) = f n at e
      rw [if_neg (all k hk)] at e
      have := h2 k n (by omega) (by omega) e
      omega
    · obtain ⟨k, hk, e⟩ := ih g g1 g2 m (by omega)
      change (if f k = n then f n else f k) = m at e
      by_cases q : f k = n
      · rw [if_pos q] at e; exact absurd e c
      · rw [if_neg q] at e; exact ⟨k, by omega, e⟩
theorem IsO.onto {n : Nat} {O : List Int} (h : IsO n O) (m : Nat) (hm : m < n) : ∃ k, k < n ∧ gi O k = m := by
  obtain ⟨k, hk, e⟩ := onto_aux n (fun k => (gi O k).toNat) (fun k hk => by have := h.2.1 k hk; show (gi O k).toNat < n; omega) (fun i j hi hj e => by
    have a := h.2.1 i hi
    have b := h.2.1 j hj
    exact h.inj hi hj (by have e : (gi O i).toNat = (gi O j).toNat := e; omega)) m hm
  exact ⟨k, hk, by have := h.2.1 k hk; have e : (gi O k).toNat = m := e; omega⟩
/-- Two orders by the rule are one. -/
theorem base_uniq {S : Nat → Sb} (G : Good S) {n : Nat} {O U : List Int} (hO : IsO n O) (hU : IsO n U) (sO : ∀ i j, i < j → j < n → RB S (gi O i) (gi O j)) (sU : ∀ i j, i < j → j < n → RB S (gi U i) (gi U j)) : O = U := by
  have one : ∀ {O U : List Int}, IsO n O → IsO n U → (∀ i j, i < j → j < n → RB S (gi O i) (gi O j)) → (∀ i j, i < j → j < n → RB S (gi U i) (gi U j)) → ∀ k, k < n → (∀ j, j < k → gi O j = gi U j) → RB S (gi O k) (gi U k) → False := by
    intro O U hO hU sO sU k kn e r
    obtain ⟨j, j1, j2⟩ : ∃ j, j < n ∧ gi U j = gi O k := by
      have b := hO.2.1 k kn
      obtain ⟨j, j1, j2⟩ := hU.onto (gi O k).toNat (by omega)
      exact ⟨j, j1, by omega⟩
    rcases Nat.lt_trichotomy j k with l | rfl | l
    · exact hO.2.2 j k l kn (by rw [e j l, j2])
    · rw [j2] at r; exact rb_irr r
    · have a := sU k j l j1
      rw [j2] at a
      exact rb_irr (rb_tr G r a)
  have all : ∀ k, k ≤ n → ∀ j, j < k → gi O j = gi U j := by
    intro k
    induction k with
    | zero => intro _ j h; omega
    | succ k ih =>
      intro hk j hj
      have e := ih (by omega)
      by_cases c : j = k
      · subst c
        apply Classical.byContradiction
        intro ne
        rcases rb_tot3 (S := S) ne with r | r
        · exact one hO hU sO sU j (by omega) e r
        · exact one hU hO sU sO j (by omega) (fun i hi => (e i hi).symm) r
      · exact e j (by omega)
  apply List.ext_getElem (by rw [hO.1, hU.1])
  intro k h1 h2
  have := all n (Nat.le_refl _) k (by rw [← hO.1]; exact h1)
  simpa [gi, h1, h2] using this
def insB (S : Nat → Sb) (x : Int) : List Int → List Int
  | [] => [x]
  | y :: l => if bl S x y < 0 then x :: y :: l else y :: insB S x l
def ordB (S : Nat → Sb) : Nat → List Int
  | 0 => []
  | k + 1 => insB S k (ordB S k)
theorem insB_mem {S : Nat → Sb} {x z : Int} : ∀ {l : List Int}, z ∈ insB S x l ↔ z = x ∨ z ∈ l
  | [] => by simp [insB]
  | y :: l => by
    unfold insB
    split
    · simp
    · rw [List.mem_cons, insB_mem, List.mem_cons]
      constructor
      · rintro (h | h | h) <;> simp [h]
      · rintro (h | h | h) <;> simp [h]
theorem insB_len (S : Nat → Sb) (x : Int) : ∀ l : List Int, (insB S x l).length = l.length + 1
  | [] => rfl
  | y :: l => by
    unfold insB
    split
    · rfl
    · simp [insB_len S x l]
theorem ordB_len (S : Nat → Sb) : ∀ k, (ordB S k).length = k
  | 0 => rfl
  | k + 1 => by rw [ordB, insB_len, ordB_len S k]
theorem ordB_mem (S : Nat → Sb) (z : Int) : ∀ k, z ∈ ordB S k ↔ 0 ≤ z ∧ z < k
  | 0 => by simp [ordB] <;> omega
  | k + 1 => by rw [ordB, insB_mem, ordB_mem S z k]; omega
theorem insB_srt {S : Nat → Sb} (G : Good S) {x : Int} : ∀ {l : List Int}, (∀ z ∈ l, z < x) → l.Pairwise (RB S) → (insB S x l).Pairwise (RB S)
  | [], _, _ => by simp [insB]
  | y :: l, hx, h => by
    have hy := hx y (by simp)
    rw [List.pairwise_cons] at h
    unfold insB
    split
    · next c =>
      have r : RB S x y := (rb_neg S y x hy).1 c
      rw [List.pairwise_cons]
      refine ⟨fun z hz => ?_, List.pairwise_cons.2 h⟩
      rcases List.mem_cons.1 hz with rfl | hz
      · exact r
      · exact rb_tr G r (h.1 z hz)
    · next c =>
      have r : RB S y x := by
        rcases rb_tot3 (S := S) (show y ≠ x by omega) with r | r
        · exact r
        · exact absurd ((rb_neg S y x hy).2 r) c
      rw [List.pairwise_cons]
      refine ⟨fun z hz => ?_, insB_srt G (fun z hz => hx z (List.mem_cons_of_mem _ hz)) h.2⟩
      rcases insB_mem.1 hz with rfl | hz
      · exact r
      · exact h.1 z hz
theorem ordB_srt {S : Nat → Sb} (G : Good S) : ∀ k, (ordB S k).Pairwise (RB S)
  | 0 => by simp [ordB]
  | k + 1 => insB_srt G (fun z hz => by have := (ordB_mem S z k).1 hz; omega) (ordB_srt G k)
theorem ordB_rd {S : Nat → Sb} (G : Good S) (k : Nat) : ∀ i j, i < j → j < k → RB S (gi (ordB S k) i) (gi (ordB S k) j) := fun i j ij jk => by
  have l := ordB_len S k
  rw [gi_lt (by omega), gi_lt (by omega)]
  exact (List.pairwise_iff_getElem.1 (ordB_srt G k)) i j (by omega) (by omega) ij
theorem ordB_ord {S : Nat → Sb} (G : Good S) (k : Nat) : IsO k (ordB S k) := by
  have l := ordB_len S k
  refine ⟨l, fun i hi => ?_, fun i j ij jk e => ?_⟩
  · rw [gi_lt (by omega)]
    exact (ordB_mem S _ k).1 (List.getElem_mem (by omega))
  · have r := ordB_rd G k i j ij jk
    rw [e] at r
    exact rb_irr r
theorem insB_cons (S : Nat → Sb) (x y : Int) (l : List Int) : insB S x (y :: l) = if bl S x y < 0 then x :: y :: l else y :: insB S x l := rfl

/-- The spread of the window of z numbers that begins at i: over and under. -/
def ov (S : Nat → Sb) (O : List Int) (z i : Nat) : Int := bl S (gi O (i + z - 1)) (gi O i)
def un (S : Nat → Sb) (O : List Int) (z i : Nat) : Int := (S (gi O (i + z - 1)).toNat).raw * (S (gi O i).toNat).raw
/-- The first window of the least spread, of the first k + 1. -/
def bw (S : Nat → Sb) (O : List Int) (z : Nat) : Nat → Nat
  | 0 => 0
  | k + 1 => if ov S O z (k + 1) * un S O z (bw S O z k) < ov S O z (bw S O z k) * un S O z (k + 1) then k + 1 else bw S O z k
theorem bw_le (S : Nat → Sb) (O : List Int) (z : Nat) : ∀ k, bw S O z k ≤ k
  | 0 => Nat.le_refl _
  | k + 1 => by
    unfold bw
    have := bw_le S O z k
    split <;> omega
theorem bl_bd {S : Nat → Sb} (G : Good S) (x y : Int) : -100000000 ≤ bl S x y ∧ bl S x y ≤ 100000000 := by
  obtain ⟨a1, a2, a3, a4, -⟩ := Sb.bd (G x.toNat)
  obtain ⟨b1, b2, b3, b4, -⟩ := Sb.bd (G y.toNat)
  unfold bl
  generalize (S x.toNat).raw = b at *
  generalize (S y.toNat).raw = d at *
  generalize (S x.toNat).wl = a at *
  generalize (S y.toNat).wl = c at *
  have h1 := Int.mul_nonneg a3 (show 0 ≤ d by omega)
  have h2 := Int.mul_nonneg b3 (show 0 ≤ b by omega)
  have h3 := Int.mul_le_mul (show a ≤ 10000 by omega) b2 (by omega) (by omega)
  have h4 := Int.mul_le_mul (show c ≤ 10000 by omega) a2 (by omega) (by omega)
  omega
theorem un_bd {S : Nat → Sb} (G : Good S) (O : List Int) (z i : Nat) : 1 ≤ un S O z i ∧ un S O z i ≤ 100000000 := by
  obtain ⟨a1, a2, -⟩ := Sb.bd (G (gi O (i + z - 1)).toNat)
  obtain ⟨b1, b2, -⟩ := Sb.bd (G (gi O i).toNat)
  unfold un
  have h3 := Int.mul_le_mul a2 b2 (by omega) (by omega)
  have h4 := Int.mul_pos (show 0 < (S (gi O (i + z - 1)).toNat).raw by omega) (show 0 < (S (gi O i).toNat).raw by omega)
  omega
theorem pr_bd {x y : Int} (h1 : -100000000 ≤ x) (h2 : x ≤ 100000000) (h3 : 0 ≤ y) (h4 : y ≤ 100000000) : -10000000000000000 ≤ x * y ∧ x * y ≤ 10000000000000000 := by
  have a : x * y ≤ 100000000 * y := Int.mul_le_mul_of_nonneg_right h2 h3
  have b : -100000000 * y ≤ x * y := Int.mul_le_mul_of_nonneg_right h1 h3
  omega
/-- Is k in the window of z from a on? -/
def inW (O : List Int) (a z k : Nat) : Bool := (List.range z).any fun i => gi O (a + i) == (k : Int)
/-- The numbers below k in the window, in their order. -/
def usd (O : List Int) (a z : Nat) : Nat → List Int
  | 0 => []
  | k + 1 => usd O a z k ++ (if inW O a z k = true then [(k : Int)] else [])
theorem inW_iff {O : List Int} {a z k : Nat} : inW O a z k = true ↔ ∃ i, i < z ∧ gi O (a + i) = k := by
  simp [inW]
theorem usd_mem {O : List Int} {a z : Nat} {x : Int} : ∀ {k}, x ∈ usd O a z k ↔ 0 ≤ x ∧ x < k ∧ ∃ i, i < z ∧ gi O (a + i) = x
  | 0 => by simp [usd] <;> omega
  | k + 1 => by
    unfold usd
    rw [List.mem_append, usd_mem]
    have w := inW_iff (O := O) (a := a) (z := z) (k := k)
    constructor
    · rintro (h | h)
      · exact ⟨h.1, by omega, h.2.2⟩
      · split at h
        · next c =>
          simp at h
          obtain ⟨i, h1, h2⟩ := w.1 c
          exact ⟨by omega, by omega, i, h1, by rw [h2, h]⟩
        · simp at h
    · rintro ⟨h1, h2, h3⟩
      by_cases c : x = k
      · refine .inr ?_
        obtain ⟨i, i1, i2⟩ := h3
        rw [if_pos (w.2 ⟨i, i1, by rw [i2, c]⟩), c]
        simp
      · exact .inl ⟨h1, by omega, h3⟩
theorem usd_srt (O : List Int) (a z : Nat) : ∀ k, (usd O a z k).Pairwise (· < ·)
  | 0 => by simp [usd]
  | k + 1 => by
    unfold usd
    rw [List.pairwise_append]
    refine ⟨usd_srt O a z k, by split <;> simp, fun x hx y hy => ?_⟩
    have := (usd_mem.1 hx).2.1
    split at hy
    · simp at hy; omega
    · simp at hy
theorem sorted_ext : ∀ {l m : List Int}, l.Pairwise (· < ·) → m.Pairwise (· < ·) → (∀ x, x ∈ l ↔ x ∈ m) → l = m
  | [], [], _, _, _ => rfl
  | [], y :: m, _, _, h => by have := (h y).2 (by simp); simp at this
  | x :: l, [], _, _, h => by have := (h x).1 (by simp); simp at this
  | x :: l, y :: m, h1, h2, h => by
    rw [List.pairwise_cons] at h1 h2
    have a := (h x).1 (by simp)
    have b := (h y).2 (by simp)
    have e : x = y := by
      rcases List.mem_cons.1 a with a | a
      · exact a
      rcases List.mem_cons.1 b with b | b
      · exact b.symm
      have := h2.1 x a
      have := h1.1 y b
      omega
    subst e
    rw [sorted_ext h1.2 h2.2 fun z => ?_]
    constructor
    · intro hz
      rcases List.mem_cons.1 ((h z).1 (List.mem_cons_of_mem _ hz)) with c | c
      · have := h1.1 z hz; omega
      · exact c
    · intro hz
      rcases List.mem_cons.1 ((h z).2 (List.mem_cons_of_mem _ hz)) with c | c
      · have := h2.1 z hz; omega
      · exact c
theorem one_len (p : Nat → Bool) (m : Nat) : ([m].filter p).length = if p m = true then 1 else 0 := by cases h : p m <;> simp [h]
theorem usd_len {n : Nat} {O : List Int} (h : IsO n O) {a z : Nat} (hz : a + z ≤ n) : (usd O a z n).length = z := by
  -- it is a sorted rearrangement of the window: count by steps
  have key : ∀ k, (usd O a z k).length = ((List.range z).filter fun i => decide (gi O (a + i) < k)).length := by
    intro k
    induction k with
    | zero =>
      simp only [usd, List.length_nil]
      symm
      rw [List.length_eq_zero_iff, List.filter_eq_nil_iff]
      intro i hi
      have := (h.2.1 (a + i) (by have := List.mem_range.1 hi; omega)).1
      simp; omega
    | succ k ih =>
      unfold usd
      rw [List.length_append, ih]
      by_cases c : inW O a z k = true
      · obtain ⟨j, j1, j2⟩ := inW_iff.1 c
        rw [if_pos c]
        have : ∀ m, m ≤ z → ((List.range m).filter fun i => decide (gi O (a + i) < ((k + 1 : Nat) : Int))).length = ((List.range m).filter fun i => decide (gi O (a + i) < (k : Int))).length + (if j < m then 1 else 0) := by
          intro m
          induction m with
          | zero => intro _; simp
          | succ m im =>
            intro hm
            have e := im (by omega)
            rw [List.range_succ, List.filter_append, List.filter_append, List.length_append, List.length_append, e, one_len, one_len]
            by_cases d : j = m
            · subst d
              have d1 : decide (gi O (a + j) < ((k + 1 : Nat) : Int)) = true := decide_eq_true (by omega)
              have d2 : decide (gi O (a + j) < (k : Int)) = false := decide_eq_false (by omega)
              rw [d1, d2, if_neg (Nat.lt_irrefl j), if_pos (Nat.lt_succ_self j)]
              simp
            · have ne : gi O (a + m) ≠ k := fun e => d (by have := h.inj (i := a + j) (j := a + m) (by omega) (by omega) (by rw [j2, e]); omega)
              have : decide (gi O (a + m) < ((k + 1 : Nat) : Int)) = decide (gi O (a + m) < (k : Int)) := by
                by_cases q : gi O (a + m) < (k : Int)
                · rw [decide_eq_true q, decide_eq_true (by omega)]
                · rw [decide_eq_false q, decide_eq_false (by omega)]
              rw [this]
              by_cases d2 : j < m
              · rw [if_pos d2, if_pos (show j < m + 1 by omega)]; omega
              · rw [if_neg d2, if_neg (show ¬ j < m + 1 by omega)]; omega
        rw [this z (Nat.le_refl _), if_pos j1]
        simp
      · rw [if_neg c]
        have : ((List.range z).filter fun i => decide (gi O (a + i) < ((k + 1 : Nat) : Int))) = ((List.range z).filter fun i => decide (gi O (a + i) < (k : Int))) := by
          apply List.filter_congr
          intro i hi
          have ne : gi O (a + i) ≠ k := fun e => c (inW_iff.2 ⟨i, List.mem_range.1 hi, e⟩)
          by_cases q : gi O (a + i) < (k : Int)
          · rw [decide_eq_true q, decide_eq_true (by omega)]
          · rw [decide_eq_false q, decide_eq_false (by omega)]
        rw [this]; simp
  rw [key, List.filter_eq_self.2]
  · simp
  · intro i hi
    have := (h.2.1 (a + i) (by have := List.mem_range.1 hi; omega)).2
    simpa using this

/-- A test. -/
structure Tst where
  n : Nat
  S : Nat → Sb
  st : Int
  U : List Int
def zs (n : Nat) : Nat := n / 2 + 1
/-- Where the best window begins. -/
def at' (n : Nat) (S : Nat → Sb) : Nat := bw S (ordB S n) (zs n) (n - zs n)
def fits (tol : Int) (n : Nat) (S : Nat → Sb) : Prop := ov S (ordB S n) (zs n) (at' n S) * 10000 ≤ tol * un S (ordB S n) (zs n) (at' n S)
instance (tol : Int) (n : Nat) (S : Nat → Sb) : Decidable (fits tol n S) := by unfold fits; infer_instance
def dec (tol : Int) (n : Nat) (S : Nat → Sb) : Tst := if fits tol n S then ⟨n, S, 1, usd (ordB S n) (at' n S) (zs n) n⟩ else if 8 ≤ n then ⟨n, S, 2, []⟩ else ⟨n, S, 0, []⟩
def pts (S : Nat → Sb) (n : Nat) (s : Sb) : Nat → Sb := fun k => if k = n then s else S k
def fds (tol : Int) (t : Tst) (s : Sb) : Tst := if t.st ≠ 0 then t else if s.ok = true then (if (t.n + 1) % 2 = 1 then ⟨t.n + 1, pts t.S t.n s, 0, []⟩ else dec tol (t.n + 1) (pts t.S t.n s)) else t
def fde (t : Tst) (s : Sb) : Int := if t.st ≠ 0 then 10 else if s.ok = true then 0 else 2
structure Tst.ok (t : Tst) : Prop where
  good : Good t.S
  wait : t.st = 0 → t.n < 8 ∧ t.U = []
  st : t.st = 0 ∨ t.st = 1 ∨ t.st = 2
  n8 : t.n ≤ 8
  u : ∀ i, i < t.U.length → 0 ≤ gi t.U i ∧ gi t.U i < t.n
  ul : t.U.length ≤ 8
  u0 : t.st ≠ 1 → t.U = []
  u1 : t.st = 1 → 0 < t.U.length
theorem Tst.ok.zero : Tst.ok ⟨0, fun _ => default, 0, []⟩ := ⟨fun _ => rfl, fun _ => ⟨by decide, rfl⟩, .inl rfl, by decide, fun i h => by simp at h, by simp, fun _ => rfl, fun h => by simp at h⟩
theorem pts_good {S : Nat → Sb} {n : Nat} {s : Sb} (G : Good S) (h : s.ok = true) : Good (pts S n s) := fun k => by
  unfold pts; split
  · exact h
  · exact G k
theorem dec_ok {tol : Int} {n : Nat} {S : Nat → Sb} (G : Good S) (h1 : n % 2 = 0) (h2 : 0 < n) (h8 : n ≤ 8) : (dec tol n S).ok := by
  have o := ordB_ord G n
  have b := bw_le S (ordB S n) (zs n) (n - zs n)
  have l := usd_len o (a := at' n S) (z := zs n) (by unfold at'; unfold zs at *; omega)
  unfold dec
  split
  · refine ⟨G, fun h => by simp at h, .inr (.inl rfl), h8, fun i hi => ?_, by dsimp only; rw [l]; unfold zs; omega, fun h => absurd rfl h, fun _ => by dsimp only; rw [l]; unfold zs; omega⟩
    dsimp only at hi ⊢
    rw [gi_lt hi]
    have := usd_mem.1 (List.getElem_mem hi)
    exact ⟨this.1, this.2.1⟩
  · split
    · exact ⟨G, fun h => by simp at h, .inr (.inr rfl), h8, fun i h => by simp at h, by simp, fun _ => rfl, fun h => by simp at h⟩
    · exact ⟨G, fun _ => ⟨by dsimp only; omega, rfl⟩, .inl rfl, h8, fun i h => by simp at h, by simp, fun _ => rfl, fun h => by simp at h⟩
theorem fds_ok {tol : Int} {t : Tst} (h : t.ok) (s : Sb) : (fds tol t s).ok := by
  unfold fds
  split
  · exact h
  · next c =>
    have w := h.wait (by omega)
    split
    · next c2 =>
      have g := pts_good (n := t.n) h.good c2
      split
      · exact ⟨g, fun _ => ⟨by dsimp only; omega, rfl⟩, .inl rfl, by dsimp only; omega, fun i h => by simp at h, by simp, fun _ => rfl, fun h => by simp at h⟩
      · exact dec_ok g (by omega) (by omega) (by omega)
    · exact h
end Ct
end Go.Proofs.Ytmdhmpfagekonaa
