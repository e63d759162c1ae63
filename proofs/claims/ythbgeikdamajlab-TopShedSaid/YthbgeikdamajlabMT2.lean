/- Press: the rule of Moore and Hodgson; rows of the own memory. -/
import Derived.Test.YthbgeikdamajlabMT1
import Derived.Test.YthbgeikdamajlabMTP
import Derived.Test.YthbgeikdamajlabShelf
import Derived.Sort.OwnSortedInts
import Derived.Maps.AppendAt
/- Press: the reference's order by due times. -/
namespace Go.Proofs.Ythbgeikdamajlab
open Go.RowKit Go.Proofs.Ythbgeikdamajlab.Prs Go.Proofs.Ythbgeikdamajlab.Stb
set_option linter.unusedVariables false
set_option linter.unusedSimpArgs false

theorem drop_atD {l : List Int} {i : Nat} (h : i < l.length) : l.drop i = gi l i :: l.drop (i + 1) := by
  rw [gi_getD2 h]
  exact List.drop_eq_getElem_cons h
theorem own_ltD {w : World} {base : Nat} {e : TypeId} {s : Nat} {v : Value} {n : Nat} {xs : List Value} (h : w.ownsRow base e s v n xs) : ∀ k, v.ownBlock = some k → base ≤ k := fun k ek => (World.ownsRow.lt h k ek).1
theorem own_snocD {W w w2 : World} {v v' : Value} {k : Nat} {l : List Int} {x : Int} (o : Obj) (hb : Below W.heap.size W w) (hown : w.ownsRow W.heap.size 3 1 v k (l.map (Value.int .i64)))
    (h1 : w2.ownsRow W.heap.size 3 1 v' (k + 1) (l.map (Value.int .i64) ++ [.int .i64 x])) (h2 : (w.alloc o).grownBy w2 v.ownBlock) :
    w2.ownsRow W.heap.size 3 1 v' (k + 1) ((l ++ [x]).map (Value.int .i64)) ∧ Below W.heap.size W w2 :=
  ⟨by simpa using h1, (hb.alloc hb.size o).grown h2 (by have := hb.size; simp; omega) (own_ltD hown)⟩
theorem own_belowD {w w' : World} {base : Nat} {e : TypeId} {s : Nat} {v : Value} {n : Nat} {xs : List Value} (h : w.ownsRow base e s v n xs) (hb : Below w.heap.size w w') : w'.ownsRow base e s v n xs := by
  refine ⟨h.1, ?_⟩
  rcases h.2 with h0 | ⟨g, cap, cur, rfl, hbg, hg, r⟩
  · exact .inl h0
  · exact .inr ⟨g, cap, cur, rfl, hbg, by rw [hb.block g (by have := (Array.getElem?_eq_some_iff.1 hg).1; exact this)]; exact hg, r⟩


end Go.Proofs.Ythbgeikdamajlab

/- Press: the bound of Pack, by a function of the masses that no box bears more of than its room. Plain facts. -/
namespace Go.Proofs.Ythbgeikdamajlab.Sea
open Go.Proofs.Ythbgeikdamajlab.Prs
set_option linter.unusedVariables false
set_option linter.unusedSimpArgs false

def dff (mo a t : Int) : Int := if mo - a < t then mo else if a ≤ t then t else 0
def big (mo a t : Int) : Int := if mo - a < t ∨ mo < 2 * t then 1 else 0
def sums (f : Int → Int) : List Int → Int
  | [] => 0
  | t :: ts => f t + sums f ts
theorem sums_snoc (f : Int → Int) (t : Int) : ∀ ts : List Int, sums f (ts ++ [t]) = sums f ts + f t
  | [] => by simp [sums]
  | u :: ts => by
    show f u + sums f (ts ++ [t]) = f u + sums f ts + f t
    rw [sums_snoc f t ts]; omega
theorem sums_id (f : Int → Int) : ∀ ts : List Int, (∀ t ∈ ts, f t = t) → sums f ts = sums (fun t => t) ts
  | [], _ => rfl
  | u :: ts, h => by
    show f u + sums f ts = u + sums (fun t => t) ts
    rw [h u (by simp), sums_id f ts (fun t ht => h t (by simp [ht]))]
theorem sm_up (f : Nat → Int) (b : Nat) (y : Int) : ∀ M, sm (up f b y) M = sm f M + if b < M then y - f b else 0
  | 0 => by simp [sm]
  | M + 1 => by
    simp only [sm]
    rw [sm_up f b y M]
    by_cases e : M = b
    · subst e
      rw [up_same, if_neg (by omega), if_pos (by omega)]; omega
    · rw [up_ne f y e]
      by_cases l : b < M
      · rw [if_pos l, if_pos (by omega)]; omega
      · rw [if_neg l, if_neg (by omega)]; omega
/-- What a box bears. -/
def BxI (mo a : Int) (x : Int × Int) (C B : Int) : Prop := (x.2 = 0 → C = 0 ∧ B = 0) ∧ 0 ≤ x.2 ∧ 0 ≤ x.1 ∧ x.1 ≤ mo ∧ ((C = mo ∧ B = 1 ∧ mo - a < x.1) ∨ (0 ≤ C ∧ C ≤ x.1 ∧ (x.1 < a → C = 0) ∧ (B = 0 ∨ (B = 1 ∧ mo < 2 * x.1))))
theorem BxI.add {mo a each t C B : Int} {x y : Int × Int} (h : BxI mo a x C B) (t1 : 1 ≤ t) (a0 : 0 ≤ a) (a2 : 2 * a ≤ mo) (e : addP mo each x t = some y) : BxI mo a y (C + dff mo a t) (B + big mo a t) := by
  obtain ⟨h1, h2, h3, h4, h5⟩ := h
  unfold addP at e
  split at e
  · next g =>
    obtain ⟨g1, g2, g3⟩ := g
    simp at e
    subst e
    unfold BxI dff big
    dsimp only
    refine ⟨fun k => by omega, by omega, by omega, by omega, ?_⟩
    rcases h5 with ⟨c1, c2, c3⟩ | ⟨c1, c2, c3, c4⟩
    · left
      rw [if_neg (by omega), if_neg (by omega), if_neg (by omega)]
      omega
    · by_cases t2 : mo - a < t
      · left
        rw [if_pos t2, if_pos (.inl t2)]
        have := c3 (by omega)
        omega
      · right
        rw [if_neg t2]
        by_cases t3 : a ≤ t
        · rw [if_pos t3]
          refine ⟨by omega, by omega, fun k => by omega, ?_⟩
          by_cases t4 : mo < 2 * t
          · rw [if_pos (.inr t4)]; omega
          · rw [if_neg (by omega)]; omega
        · rw [if_neg t3, if_neg (by omega)]
          refine ⟨by omega, by omega, fun k => by have := c3 (by omega); omega, ?_⟩
          omega
  · cases e
theorem bound_sum {mo a each : Int} {M : Nat} (a0 : 0 ≤ a) (a2 : 2 * a ≤ mo) : ∀ (ts : List Int) (E : List Nat) (s s' : Nat → Int × Int) (C B : Nat → Int), fin (addP mo each) ts s E = some s' → Ok M E → (∀ b, b < M → BxI mo a (s b) (C b) (B b)) → (∀ t ∈ ts, 1 ≤ t) → ∃ C' B' : Nat → Int, (∀ b, b < M → BxI mo a (s' b) (C' b) (B' b)) ∧ sm C' M = sm C M + sums (dff mo a) ts ∧ sm B' M = sm B M + sums (big mo a) ts
  | [], [], s, s', C, B, h, ok, I, ht => by
    simp [fin] at h
    subst h
    exact ⟨C, B, I, by simp [sums], by simp [sums]⟩
  | [], b :: E, s, s', C, B, h, ok, I, ht => by have := fin_len h; simp at this
  | t :: ts, [], s, s', C, B, h, ok, I, ht => by have := fin_len h; simp at this
  | t :: ts, b :: E, s, s', C, B, h, ok, I, ht => by
    simp only [fin] at h
    cases y : addP mo each (s b) t with
    | none => rw [y] at h; cases h
    | some x =>
      rw [y] at h
      have hb : b < M := ok b (by simp)
      obtain ⟨C', B', i, e1, e2⟩ := bound_sum a0 a2 ts E _ s' (up C b (C b + dff mo a t)) (up B b (B b + big mo a t)) h (fun c hc => ok c (by simp [hc])) (fun c hc => by
        by_cases e : c = b
        · subst e
          rw [up_same, up_same, up_same]
          exact (I c hc).add (ht t (by simp)) a0 a2 y
        · rw [up_ne _ _ e, up_ne _ _ e, up_ne _ _ e]; exact I c hc) (fun u hu => ht u (by simp [hu]))
      refine ⟨C', B', i, ?_, ?_⟩
      · rw [e1, sm_up, if_pos hb]; simp only [sums]; omega
      · rw [e2, sm_up, if_pos hb]; simp only [sums]; omega
theorem dff_bound {ts : List Int} {E : List Nat} {M : Nat} {mo a each : Int} {s' : Nat → Int × Int} (h : fin (addP mo each) ts (fun _ => (0, 0)) E = some s') (ok : Ok M E) (ht : ∀ t ∈ ts, 1 ≤ t) (a0 : 0 ≤ a) (a2 : 2 * a ≤ mo) : sums (big mo a) ts ≤ cnt M s' ∧ sums (dff mo a) ts ≤ mo * cnt M s' := by
  have z : ∀ m, sm (fun _ => (0 : Int)) m = 0 := fun m => by induction m with
    | zero => rfl
    | succ m ih => rw [sm, ih]; rfl
  obtain ⟨C, B, I, e1, e2⟩ := bound_sum (each := each) (M := M) a0 a2 ts E _ s' (fun _ => 0) (fun _ => 0) h ok (fun b _ => ⟨fun _ => ⟨rfl, rfl⟩, Int.le_refl _, Int.le_refl _, by dsimp only; omega, .inr ⟨Int.le_refl _, Int.le_refl _, fun _ => rfl, .inl rfl⟩⟩) ht
  rw [z] at e1 e2
  rw [← (show sm B M = sums (big mo a) ts from by omega), ← (show sm C M = sums (dff mo a) ts from by omega)]
  have : ∀ m, m ≤ M → sm B m ≤ cnt m s' ∧ sm C m ≤ mo * cnt m s' := fun m => by
    induction m with
    | zero => intro _; exact ⟨Int.le_refl _, by show (0 : Int) ≤ mo * 0; omega⟩
    | succ m ih =>
      intro hm
      obtain ⟨i1, i2⟩ := ih (by omega)
      obtain ⟨h1, h2, h3, h4, h5⟩ := I m (by omega)
      have ec : cnt (m + 1) s' = cnt m s' + if (s' m).2 = 0 then 0 else 1 := rfl
      rw [ec]
      simp only [sm]
      by_cases k : (s' m).2 = 0
      · obtain ⟨k1, k2⟩ := h1 k
        rw [if_pos k, k1, k2]
        simp only [Int.add_zero]
        exact ⟨i1, i2⟩
      · rw [if_neg k, Int.mul_add]
        omega
  exact this M (Nat.le_refl _)
/-- The boxes that a bound asks for. -/
def bfor (mo a : Int) (ts : List Int) : Int := sums (big mo a) ts + (max 0 (sums (dff mo a) ts - mo * sums (big mo a) ts) + mo - 1) / mo
theorem bfor_le {N C D mo : Int} (m1 : 1 ≤ mo) (h1 : N ≤ C) (h2 : D ≤ mo * C) : N + (max 0 (D - mo * N) + mo - 1) / mo ≤ C := by
  have h3 : D - mo * N ≤ mo * (C - N) := by rw [Int.mul_sub]; omega
  have h4 : 0 ≤ mo * (C - N) := Int.mul_nonneg (by omega) (by omega)
  have h5 : (max 0 (D - mo * N) + mo - 1) / mo < C - N + 1 := Int.ediv_lt_of_lt_mul (by omega) (by rw [Int.mul_comm (C - N + 1) mo, Int.mul_add]; omega)
  omega
theorem bfor_ge {N D mo : Int} (m1 : 1 ≤ mo) : D ≤ mo * (N + (max 0 (D - mo * N) + mo - 1) / mo) := by
  have h1 := Int.emod_add_mul_ediv (max 0 (D - mo * N) + mo - 1) mo
  have h2 := Int.emod_lt_of_pos (max 0 (D - mo * N) + mo - 1) (show 0 < mo by omega)
  rw [Int.mul_add]
  omega
theorem BestP.bfor {mo each a L : Int} {M : Nat} {ts : List Int} {E : List Nat} (h : BestP mo each M ts L E) (ht : ∀ t ∈ ts, 1 ≤ t) (m1 : 1 ≤ mo) (a0 : 0 ≤ a) (a2 : 2 * a ≤ mo) : Sea.bfor mo a ts ≤ L := by
  obtain ⟨s', f, v, -⟩ := h.fin_
  obtain ⟨h1, h2⟩ := dff_bound f h.ok ht a0 a2
  have v : cnt M s' = L := v
  rw [v] at h1 h2
  exact bfor_le m1 h1 h2
theorem bfor_zero {mo : Int} {ts : List Int} (ht : ∀ t ∈ ts, 1 ≤ t ∧ t ≤ mo) (m1 : 1 ≤ mo) : sums (fun t => t) ts ≤ mo * Sea.bfor mo 0 ts := by
  have := bfor_ge (N := sums (big mo 0) ts) (D := sums (dff mo 0) ts) m1
  rw [sums_id (dff mo 0) ts (fun t h => by have := ht t h; unfold dff; rw [if_neg (by omega), if_pos (by omega)])] at this
  unfold Sea.bfor
  rw [sums_id (dff mo 0) ts (fun t h => by have := ht t h; unfold dff; rw [if_neg (by omega), if_pos (by omega)])]
  exact this
end Go.Proofs.Ythbgeikdamajlab.Sea

/- Press: Moore and Hodgson's rule, plain: the kept ones. -/
namespace Go.Proofs.Ythbgeikdamajlab
open Go.RowKit Go.Proofs.Ythbgeikdamajlab.Prs Go.Proofs.Ythbgeikdamajlab.Stb
set_option linter.unusedVariables false
set_option linter.unusedSimpArgs false

/-- The last of the longest among the first i. -/
def lgx (D : List (Int × Int)) (A : List Int) : Nat → Nat
  | 0 => 0
  | i + 1 => if pd D (gi A (lgx D A i)).toNat ≤ pd D (gi A i).toNat then i else lgx D A i
theorem lgx_lt (D : List (Int × Int)) (A : List Int) : ∀ i, lgx D A i = 0 ∨ lgx D A i < i
  | 0 => .inl rfl
  | i + 1 => by
    unfold lgx
    split
    · exact .inr (by omega)
    · rcases lgx_lt D A i with h | h
      · exact .inl h
      · exact .inr (by omega)
theorem lgx_Lg (D : List (Int × Int)) (A : List Int) : ∀ i, Lg D A i (lgx D A i)
  | 0 => .inl ⟨rfl, rfl⟩
  | i + 1 => by
    unfold lgx
    split
    · next g => exact (lgx_Lg D A i).ge g
    · next g => exact (lgx_Lg D A i).lt g
theorem Lg.uniq {D : List (Int × Int)} {A : List Int} {i j k : Nat} (h : Lg D A i j) (g : Lg D A i k) : j = k := by
  rcases h with ⟨h1, h2⟩ | ⟨h1, h2, h3⟩ <;> rcases g with ⟨g1, g2⟩ | ⟨g1, g2, g3⟩
  · omega
  · omega
  · omega
  · apply Classical.byContradiction; intro ne
    by_cases l : j < k
    · have := h3 k l g1
      have := g2 j h1; omega
    · have := g3 j (by omega) h1
      have := h2 k g1; omega
def tot (D : List (Int × Int)) (K : List Int) : Int := Sea.sums (fun x => pd D x.toNat) K
/-- One more, and the last of the longest out if it is too much. -/
def mhs (D : List (Int × Int)) (K : List Int) (x : Int) : List Int := if sd D x.toNat < tot D (K ++ [x]) then (K ++ [x]).eraseIdx (lgx D (K ++ [x]) (K ++ [x]).length) else K ++ [x]
def kept (D : List (Int × Int)) (O : List Int) (i : Nat) : List Int := (O.take i).foldl (mhs D) []
theorem kept_succ {D : List (Int × Int)} {O : List Int} {i : Nat} (h : i < O.length) : kept D O (i + 1) = mhs D (kept D O i) (gi O i) := by
  unfold kept
  rw [List.take_succ_eq_append_getElem h, List.foldl_append]
  simp [gi, h]
theorem kept_mem {D : List (Int × Int)} {O : List Int} : ∀ i, i ≤ O.length → ∀ z ∈ kept D O i, z ∈ O.take i
  | 0, _, z, hz => by simp [kept] at hz
  | i + 1, h, z, hz => by
    rw [kept_succ (by omega)] at hz
    have : z ∈ kept D O i ++ [gi O i] := by
      unfold mhs at hz
      split at hz
      · exact List.mem_of_mem_eraseIdx hz
      · exact hz
    rw [List.take_succ_eq_append_getElem (by omega)]
    rcases List.mem_append.1 this with g | g
    · exact List.mem_append.2 (.inl (kept_mem i (by omega) z g))
    · simp at g
      subst g
      exact List.mem_append.2 (.inr (by simp [gi, show i < O.length by omega]))
theorem kept_len {D : List (Int × Int)} {O : List Int} : ∀ i, i ≤ O.length → (kept D O i).length ≤ i
  | 0, _ => by simp [kept]
  | i + 1, h => by
    rw [kept_succ (by omega)]
    have := kept_len (D := D) (O := O) i (by omega)
    unfold mhs
    split
    · have := List.length_eraseIdx_le (kept D O i ++ [gi O i]) (lgx D (kept D O i ++ [gi O i]) (kept D O i ++ [gi O i]).length)
      simp at this ⊢; omega
    · simp; omega
theorem tot_bd {D : List (Int × Int)} (ok : TkOk D D.length) : ∀ K : List Int, (∀ z ∈ K, 0 ≤ z ∧ z < D.length) → 0 ≤ tot D K ∧ tot D K ≤ K.length * 1073741824
  | [], _ => by simp [tot, Sea.sums]
  | z :: K, h => by
    have ih := tot_bd ok K (fun y hy => h y (by simp [hy]))
    have hz := h z (by simp)
    have := (ok z.toNat (by omega)).1
    unfold tot at ih ⊢
    simp only [Sea.sums, List.length_cons]
    omega
/-- What is left out, in the order of the numbers. -/
def left (K : List Int) (n : Nat) : List Int := ((List.range n).filter fun (j : Nat) => !K.contains (j : Int)).map fun (j : Nat) => (j : Int)
theorem left_succ (K : List Int) (n : Nat) : left K (n + 1) = if K.contains (n : Int) then left K n else left K n ++ [(n : Int)] := by
  unfold left
  rw [List.range_succ, List.filter_append, List.map_append]
  have e : ([n].filter fun (j : Nat) => !K.contains (j : Int)) = if K.contains (n : Int) then [] else [n] := by
    rw [List.filter_cons]
    cases K.contains (n : Int) <;> rfl
  rw [e]
  cases K.contains (n : Int) <;> simp
theorem contains_step {K : List Int} {m : Nat} (h : m < K.length) (z : Int) : (K.take (m + 1)).contains z = ((K.take m).contains z || gi K m == z) := by
  have e := List.take_succ_eq_append_getElem h
  have g : gi K m = K[m] := by simp [gi, h]
  rw [e, g]
  generalize K.take m = A
  generalize K[m] = y
  rw [Bool.eq_iff_iff, Bool.or_eq_true, beq_iff_eq, List.contains_iff_mem, List.contains_iff_mem, List.mem_append, List.mem_singleton]
  exact ⟨fun h => h.imp id Eq.symm, fun h => h.imp id Eq.symm⟩
theorem erase_step {K : List Int} {j k : Nat} (h : k < K.length) : (K.take (k + 1)).eraseIdx j = if k = j then (K.take k).eraseIdx j else (K.take k).eraseIdx j ++ [gi K k] := by
  have e : K.take (k + 1) = K.take k ++ [gi K k] := by
    rw [List.take_succ_eq_append_getElem h]
    simp [gi, h]
  have l : (K.take k).length = k := by simp; omega
  rw [e]
  split
  · next c =>
    subst c
    rw [List.eraseIdx_append_of_length_le (by omega), l, List.eraseIdx_of_length_le (l := K.take k) (by omega)]
    simp
  · next c =>
    by_cases g : j < k
    · rw [List.eraseIdx_append_of_lt_length (by omega)]
    · rw [List.eraseIdx_of_length_le (l := K.take k ++ [gi K k]) (by simp; omega), List.eraseIdx_of_length_le (l := K.take k) (by omega)]
end Go.Proofs.Ythbgeikdamajlab

/- Press: a sorted list of those that are left is the list of those that are left. Plain facts. -/
namespace Go.Proofs.Ythbgeikdamajlab
open Go.RowKit Go.Proofs.Ythbgeikdamajlab.Prs Go.Proofs.Ythbgeikdamajlab.Stb

theorem srt_uniq : ∀ A B : List Int, A.Pairwise (· < ·) → B.Pairwise (· < ·) → (∀ z, z ∈ A ↔ z ∈ B) → A = B
  | [], [], _, _, _ => rfl
  | [], b :: B, _, _, h => by have := (h b).2 (by simp); cases this
  | a :: A, [], _, _, h => by have := (h a).1 (by simp); cases this
  | a :: A, b :: B, hA, hB, h => by
    rw [List.pairwise_cons] at hA hB
    have e : a = b := by
      have h1 := (h a).1 (by simp)
      have h2 := (h b).2 (by simp)
      rcases List.mem_cons.1 h1 with g | g
      · exact g
      · rcases List.mem_cons.1 h2 with k | k
        · exact k.symm
        · have := hB.1 a g; have := hA.1 b k; omega
    subst e
    rw [srt_uniq A B hA.2 hB.2 fun z => ?_]
    constructor
    · intro hz
      rcases List.mem_cons.1 ((h z).1 (List.mem_cons_of_mem _ hz)) with g | g
      · have := hA.1 z hz; omega
      · exact g
    · intro hz
      rcases List.mem_cons.1 ((h z).2 (List.mem_cons_of_mem _ hz)) with g | g
      · have := hB.1 z hz; omega
      · exact g
theorem left_mem (K : List Int) (z : Int) : ∀ n : Nat, z ∈ left K n ↔ (0 ≤ z ∧ z < n) ∧ z ∉ K
  | 0 => by simp [left]; omega
  | n + 1 => by
    rw [left_succ]
    have ih := left_mem K z n
    by_cases c : (n : Int) ∈ K
    · rw [if_pos (by simpa using c), ih]
      constructor
      · rintro ⟨⟨a, b⟩, d⟩; exact ⟨⟨a, by omega⟩, d⟩
      · rintro ⟨⟨a, b⟩, d⟩
        refine ⟨⟨a, ?_⟩, d⟩
        by_cases e : z = n
        · subst e; exact absurd c d
        · omega
    · rw [if_neg (by simpa using c), List.mem_append, ih, List.mem_singleton]
      constructor
      · rintro (⟨⟨a, b⟩, d⟩ | rfl)
        · exact ⟨⟨a, by omega⟩, d⟩
        · exact ⟨⟨by omega, by omega⟩, c⟩
      · rintro ⟨⟨a, b⟩, d⟩
        by_cases e : z = n
        · exact .inr e
        · exact .inl ⟨⟨a, by omega⟩, d⟩
theorem left_srt (K : List Int) : ∀ n : Nat, (left K n).Pairwise (· < ·)
  | 0 => by simp [left]
  | n + 1 => by
    rw [left_succ]
    split
    · exact left_srt K n
    · rw [List.pairwise_append]
      refine ⟨left_srt K n, by simp, fun a ha b hb => ?_⟩
      have := (left_mem K a n).1 ha
      simp at hb
      omega
/-- What has fallen out, sorted, is what is left. -/
theorem sort_left {K L : List Int} {n : Nat} (nd : L.Nodup) (mem : ∀ z, z ∈ L ↔ (0 ≤ z ∧ z < n) ∧ z ∉ K) : (L.mergeSort fun x y => decide (x ≤ y)) = left K n := by
  have p := List.mergeSort_perm L (fun x y => decide (x ≤ y))
  have s : (L.mergeSort fun x y => decide (x ≤ y)).Pairwise (fun x y => decide (x ≤ y) = true) := List.pairwise_mergeSort (fun a b c h1 h2 => by simp at *; omega) (fun a b => by simp; omega) L
  have n2 : (L.mergeSort fun x y => decide (x ≤ y)).Nodup := p.nodup_iff.2 nd
  refine srt_uniq _ _ ?_ (left_srt K n) fun z => by rw [p.mem_iff, mem, left_mem]
  have := s.and n2
  exact this.imp fun {a b} h => by
    have h1 : a ≤ b := by simpa using h.1
    have h2 : a ≠ b := h.2
    omega
theorem erase_take {K : List Int} {j : Nat} : K.take j ++ K.drop (j + 1) = K.eraseIdx j := (List.eraseIdx_eq_take_drop_succ K j).symm
end Go.Proofs.Ythbgeikdamajlab

/- Press: the kept ones and those that fell out are all. Plain facts. -/
namespace Go.Proofs.Ythbgeikdamajlab
open Go.RowKit Go.Proofs.Ythbgeikdamajlab.Prs Go.Proofs.Ythbgeikdamajlab.Stb

/-- Those that fell out, in the order in which they did. -/
def fell (D : List (Int × Int)) (O : List Int) : Nat → List Int
  | 0 => []
  | i + 1 => if sd D (gi O i).toNat < tot D (kept D O i ++ [gi O i]) then fell D O i ++ [gi (kept D O i ++ [gi O i]) (lgx D (kept D O i ++ [gi O i]) (kept D O i ++ [gi O i]).length)] else fell D O i
theorem kept_fell {D : List (Int × Int)} {O : List Int} : ∀ i, i ≤ O.length → (kept D O i ++ fell D O i).Perm (O.take i)
  | 0, _ => by simp [kept, fell]
  | i + 1, h => by
    have ih := kept_fell (D := D) (O := O) i (by omega)
    have e : O.take (i + 1) = O.take i ++ [gi O i] := by
      rw [List.take_succ_eq_append_getElem (by omega)]
      simp [gi, show i < O.length by omega]
    rw [e, kept_succ (by omega)]
    have step : (kept D O i ++ [gi O i] ++ fell D O i).Perm (O.take i ++ [gi O i]) := by
      have h1 : (kept D O i ++ [gi O i] ++ fell D O i).Perm (kept D O i ++ fell D O i ++ [gi O i]) := by
        rw [List.append_assoc, List.append_assoc]
        exact List.Perm.append_left _ List.perm_append_comm
      exact h1.trans (ih.append_right _)
    unfold mhs fell
    by_cases c : sd D (gi O i).toNat < tot D (kept D O i ++ [gi O i])
    · rw [if_pos c, if_pos c]
      have hl : lgx D (kept D O i ++ [gi O i]) (kept D O i ++ [gi O i]).length < (kept D O i ++ [gi O i]).length := by
        have := lgx_lt D (kept D O i ++ [gi O i]) (kept D O i ++ [gi O i]).length
        simp at this ⊢; omega
      refine List.Perm.trans ?_ step
      generalize kept D O i ++ [gi O i] = K at *
      generalize lgx D K K.length = j at *
      have g : gi K j = K[j] := by simp [gi, hl]
      rw [g]
      have p : (K[j] :: K.eraseIdx j).Perm K := by
        have h1 : (K[j] :: (K.take j ++ K.drop (j + 1))).Perm (K.take j ++ K[j] :: K.drop (j + 1)) := List.perm_middle.symm
        rw [← List.drop_eq_getElem_cons hl, List.take_append_drop] at h1
        rw [List.eraseIdx_eq_take_drop_succ]
        exact h1
      refine List.Perm.trans ?_ (p.append_right (fell D O i))
      rw [← List.append_assoc]
      exact (List.perm_append_comm (l₁ := K.eraseIdx j ++ fell D O i) (l₂ := [K[j]]))
    · rw [if_neg c, if_neg c]
      exact step
/-- Those that fell out, sorted, are those that are left. -/
theorem fell_left (D : List (Int × Int)) : ((fell D (dueO D D.length) D.length).mergeSort fun x y => decide (x ≤ y)) = left (kept D (dueO D D.length) D.length) D.length := by
  have p := kept_fell (D := D) (O := dueO D D.length) D.length (by rw [dueO_len]; exact Nat.le_refl _)
  rw [List.take_of_length_le (by rw [dueO_len]; exact Nat.le_refl _)] at p
  have nd : (dueO D D.length).Nodup := by
    have s := dueO_srt D D.length
    exact s.imp fun {a b} h e => by subst e; exact rd_irr h
  have nd2 := p.nodup_iff.2 nd
  rw [List.nodup_append] at nd2
  refine sort_left nd2.2.1 fun z => ?_
  have m : z ∈ kept D (dueO D D.length) D.length ++ fell D (dueO D D.length) D.length ↔ z ∈ dueO D D.length := p.mem_iff
  rw [List.mem_append, dueO_mem] at m
  constructor
  · intro h
    refine ⟨m.1 (.inr h), fun k => ?_⟩
    exact nd2.2.2 z k z h rfl
  · rintro ⟨h, k⟩
    rcases m.2 h with g | g
    · exact absurd g k
    · exact g
end Go.Proofs.Ythbgeikdamajlab

/- Press: the rule of Moore and Hodgson keeps as many as can be. Plain facts. -/
namespace Go.Proofs.Ythbgeikdamajlab
open Go.RowKit Go.Proofs.Ythbgeikdamajlab.Prs Go.Proofs.Ythbgeikdamajlab.Stb

/-- All of a list are done in time, from a minute on. -/
def Feas (D : List (Int × Int)) : Int → List Int → Prop
  | _, [] => True
  | s, x :: l => s + pd D x.toNat ≤ sd D x.toNat ∧ Feas D (s + pd D x.toNat) l
theorem tot_cons (D : List (Int × Int)) (x : Int) (l : List Int) : tot D (x :: l) = pd D x.toNat + tot D l := rfl
theorem tot_app (D : List (Int × Int)) : ∀ a b : List Int, tot D (a ++ b) = tot D a + tot D b
  | [], b => by simp [tot, Sea.sums]
  | x :: a, b => by rw [List.cons_append, tot_cons, tot_cons, tot_app D a b]; omega
theorem tot_perm {D : List (Int × Int)} {a b : List Int} (h : a.Perm b) : tot D a = tot D b := by
  induction h with
  | nil => rfl
  | cons x _ ih => rw [tot_cons, tot_cons, ih]
  | swap x y l => rw [tot_cons, tot_cons, tot_cons, tot_cons]; omega
  | trans _ _ h1 h2 => rw [h1, h2]
theorem tot_erase0 (D : List (Int × Int)) : ∀ (K : List Int) (j : Nat), j < K.length → tot D (K.eraseIdx j) = tot D K - pd D (gi K j).toNat
  | [], _, h => by simp at h
  | z :: K, 0, _ => by simp [tot, Sea.sums, gi]; omega
  | z :: K, j + 1, h => by
    have := tot_erase0 D K j (by simpa using h)
    simp [tot, Sea.sums, gi] at this ⊢
    omega
theorem feas_cons (D : List (Int × Int)) (x s : Int) (l : List Int) : Feas D s (x :: l) ↔ s + pd D x.toNat ≤ sd D x.toNat ∧ Feas D (s + pd D x.toNat) l := Iff.rfl
theorem sub_one {S : List Int} {x : Int} (h : S.Sublist [x]) : S = [] ∨ S = [x] := by
  cases h with
  | cons _ h => exact .inl (List.sublist_nil.1 h)
  | cons_cons _ h => rw [List.sublist_nil.1 h]; exact .inr rfl
theorem erase_perm {K : List Int} {j : Nat} (hl : j < K.length) : (gi K j :: K.eraseIdx j).Perm K := by
  have g : gi K j = K[j] := by simp [gi, hl]
  rw [g]
  have h1 : (K[j] :: (K.take j ++ K.drop (j + 1))).Perm (K.take j ++ K[j] :: K.drop (j + 1)) := List.perm_middle.symm
  rw [← List.drop_eq_getElem_cons hl, List.take_append_drop] at h1
  rw [List.eraseIdx_eq_take_drop_succ]
  exact h1
theorem feas_app (D : List (Int × Int)) : ∀ (a b : List Int) (s : Int), Feas D s (a ++ b) ↔ Feas D s a ∧ Feas D (s + tot D a) b
  | [], b, s => by simp [Feas, tot, Sea.sums]
  | x :: a, b, s => by
    rw [List.cons_append, tot_cons, feas_cons, feas_cons, feas_app D a b, show s + pd D x.toNat + tot D a = s + (pd D x.toNat + tot D a) by omega]
    exact and_assoc.symm
theorem feas_one (D : List (Int × Int)) (x s : Int) : Feas D s [x] ↔ s + pd D x.toNat ≤ sd D x.toNat := by simp [Feas]
theorem feas_less {D : List (Int × Int)} : ∀ (a : List Int) (s t : Int), s ≤ t → Feas D t a → Feas D s a
  | [], _, _, _, _ => trivial
  | x :: a, s, t, h, f => ⟨by have := f.1; omega, feas_less a _ _ (by omega) f.2⟩
/-- One is left out. -/
theorem feas_erase {D : List (Int × Int)} (nn : ∀ x : Int, 0 ≤ x → x.toNat < D.length → 0 ≤ pd D x.toNat) : ∀ (a : List Int) (s : Int) (j : Nat), (∀ x ∈ a, 0 ≤ x ∧ x < D.length) → Feas D s a → Feas D s (a.eraseIdx j)
  | [], _, _, _, _ => by simp [Feas]
  | x :: a, s, 0, h, f => by
    have hx := h x (by simp)
    exact feas_less a _ _ (by have := nn x hx.1 (by omega); omega) f.2
  | x :: a, s, j + 1, h, f => ⟨f.1, feas_erase nn a _ j (fun y hy => h y (by simp [hy])) f.2⟩
/-- The last of those that are done is due at most when the next is. -/
theorem feas_tot {D : List (Int × Int)} {x : Int} (h0 : 0 ≤ sd D x.toNat) : ∀ (a : List Int) (s : Int), s ≤ sd D x.toNat → Feas D s a → (∀ y ∈ a, sd D y.toNat ≤ sd D x.toNat) → s + tot D a ≤ sd D x.toNat
  | [], s, hs, _, _ => by simp [tot, Sea.sums]; omega
  | y :: a, s, hs, f, h => by
    have h1 := f.1
    have h2 := h y (by simp)
    have := feas_tot h0 a (s + pd D y.toNat) (by omega) f.2 (fun z hz => h z (by simp [hz]))
    rw [tot_cons]; omega
/-- The numbers of the order are tasks, by their due times. -/
structure Edd (D : List (Int × Int)) (O : List Int) : Prop where
  mem : ∀ x ∈ O, 0 ≤ x ∧ x < D.length
  srt : O.Pairwise (fun x y => sd D x.toNat ≤ sd D y.toNat)
/-- The longest of a list, by its place. -/
theorem lg_max {D : List (Int × Int)} {K : List Int} {j : Nat} (h : Lg D K K.length j) (hj : j < K.length) : ∀ z ∈ K, pd D z.toNat ≤ pd D (gi K j).toNat := fun z hz => by
  rcases h with ⟨h, _⟩ | ⟨_, h, _⟩
  · omega
  · obtain ⟨i, hi, e⟩ := List.getElem_of_mem hz
    have := h i hi
    rw [show gi K i = z by simp [gi, hi, e]] at this
    exact this
theorem mhs_feas {D : List (Int × Int)} (ok : TkOk D D.length) {K : List Int} {x : Int} (hK : ∀ z ∈ K, 0 ≤ z ∧ z < D.length) (hx : 0 ≤ x ∧ x < D.length) (hd : ∀ z ∈ K, sd D z.toNat ≤ sd D x.toNat) (f : Feas D 0 K) : Feas D 0 (mhs D K x) := by
  have tx := ok x.toNat (by omega)
  have tk := feas_tot (x := x) (by omega) K 0 (by omega) f hd
  have nn : ∀ y : Int, 0 ≤ y → y.toNat < D.length → 0 ≤ pd D y.toNat := fun y _ h => by have := ok y.toNat h; omega
  have ta : tot D (K ++ [x]) = tot D K + pd D x.toNat := by rw [tot_app, tot_cons]; simp [tot, Sea.sums]
  unfold mhs
  split
  · next c =>
    have hl : lgx D (K ++ [x]) (K ++ [x]).length < (K ++ [x]).length := by
      have := lgx_lt D (K ++ [x]) (K ++ [x]).length
      simp at this ⊢; omega
    have mx := lg_max (lgx_Lg D (K ++ [x]) (K ++ [x]).length) hl
    generalize lgx D (K ++ [x]) (K ++ [x]).length = j at *
    by_cases e : j < K.length
    · rw [List.eraseIdx_append_of_lt_length e, feas_app, feas_one]
      refine ⟨feas_erase nn K 0 j hK f, ?_⟩
      have h1 := mx x (by simp)
      have h2 : gi (K ++ [x]) j = gi K j := by simp [gi, List.getElem?_append_left e]
      rw [h2] at h1
      have := tot_erase0 D K j e
      omega
    · have : j = K.length := by simp at hl; omega
      subst this
      rw [List.eraseIdx_append_of_length_le (Nat.le_refl _), Nat.sub_self]
      simpa using f
  · next c =>
    rw [feas_app, feas_one]
    refine ⟨f, by omega⟩
theorem kept_feas {D : List (Int × Int)} (ok : TkOk D D.length) {O : List Int} (h : Edd D O) : ∀ i, i ≤ O.length → Feas D 0 (kept D O i)
  | 0, _ => by simp [kept, Feas]
  | i + 1, hi => by
    rw [kept_succ (by omega)]
    have sub : ∀ z ∈ kept D O i, z ∈ O.take i := kept_mem i (by omega)
    have gO : gi O i = O[i]'(by omega) := by simp [gi, show i < O.length by omega]
    refine mhs_feas ok (fun z hz => h.mem z (List.mem_of_mem_take (sub z hz))) (h.mem _ (by rw [gO]; exact List.getElem_mem _)) (fun z hz => ?_) (kept_feas ok h i (by omega))
    have hz := sub z hz
    obtain ⟨k, hk, e⟩ := List.getElem_of_mem hz
    rw [List.getElem_take] at e
    simp at hk
    have := (List.pairwise_iff_getElem.1 h.srt) k i (by omega) (by omega) (by omega)
    rw [e] at this
    rw [gO]; exact this
/-- What is chosen can be told by as many of the kept ones that take no longer. -/
def Cov (D : List (Int × Int)) (K S : List Int) : Prop := ∃ T R, (T ++ R).Perm K ∧ T.length = S.length ∧ tot D T ≤ tot D S
theorem Cov.len {D : List (Int × Int)} {K S : List Int} (h : Cov D K S) : S.length ≤ K.length := by
  obtain ⟨T, R, p, l, _⟩ := h
  have := p.length_eq
  simp at this; omega
/-- The longest is taken out. -/
theorem Cov.erase {D : List (Int × Int)} {K S : List Int} {j : Nat} (hj : j < K.length) (mx : ∀ z ∈ K, pd D z.toNat ≤ pd D (gi K j).toNat) (h : Cov D K S) (lt : S.length < K.length) : Cov D (K.eraseIdx j) S := by
  obtain ⟨T, R, p, l, t⟩ := h
  have pk := erase_perm hj
  generalize gi K j = z at *
  generalize K.eraseIdx j = K2 at *
  have q : (T ++ R).Perm (z :: K2) := p.trans pk.symm
  have hz : z ∈ T ++ R := q.mem_iff.2 (by simp)
  rcases List.mem_append.1 hz with hz | hz
  · obtain ⟨T1, pT⟩ : ∃ T1, T.Perm (z :: T1) := ⟨_, List.perm_cons_erase hz⟩
    have lT := pT.length_eq
    have lp := p.length_eq
    cases R with
    | nil => simp at lp; omega
    | cons y R1 =>
      refine ⟨y :: T1, R1, ?_, by simp at lT ⊢; omega, ?_⟩
      · have h1 : (z :: (y :: T1 ++ R1)).Perm (z :: K2) := by
          refine List.Perm.trans ?_ q
          refine List.Perm.trans ?_ (pT.symm.append_right _)
          simp only [List.cons_append]
          refine List.Perm.cons _ ?_
          exact List.perm_middle.symm
        exact h1.cons_inv
      · have := tot_perm (D := D) pT
        rw [tot_cons] at this ⊢
        have := mx y (p.mem_iff.1 (by simp))
        omega
  · obtain ⟨R1, pR⟩ : ∃ R1, R.Perm (z :: R1) := ⟨_, List.perm_cons_erase hz⟩
    refine ⟨T, R1, ?_, l, t⟩
    have h1 : (z :: (T ++ R1)).Perm (z :: K2) := by
      refine List.Perm.trans ?_ q
      refine List.Perm.trans ?_ (pR.symm.append_left T)
      exact List.perm_middle.symm
    exact h1.cons_inv
/-- No more can be done in time than are kept. -/
theorem kept_cov {D : List (Int × Int)} (ok : TkOk D D.length) {O : List Int} (h : Edd D O) : ∀ i, i ≤ O.length → ∀ S, S.Sublist (O.take i) → Feas D 0 S → Cov D (kept D O i) S
  | 0, _, S, hS, _ => by
    simp at hS; subst hS
    exact ⟨[], [], by simp [kept], rfl, Int.le_refl _⟩
  | i + 1, hi, S, hS, fS => by
    have gO : gi O i = O[i]'(by omega) := by simp [gi, show i < O.length by omega]
    rw [List.take_succ_eq_append_getElem (by omega), ← gO] at hS
    rw [kept_succ (by omega)]
    have hx := h.mem (gi O i) (by rw [gO]; exact List.getElem_mem _)
    generalize gi O i = x at *
    obtain ⟨S1, S2, rfl, s1, s2⟩ := List.sublist_append_iff.1 hS
    have ih := kept_cov ok h i (by omega) S1 s1
    rw [feas_app] at fS
    have c1 := ih fS.1
    generalize kept D O i = K at *
    have tx : tot D [x] = pd D x.toNat := by rw [tot_cons]; simp [tot, Sea.sums]
    have ta : tot D (K ++ [x]) = tot D K + pd D x.toNat := by rw [tot_app, tx]
    have cov : Cov D (K ++ [x]) (S1 ++ S2) := by
      obtain ⟨T, R, p, l, t⟩ := c1
      rcases sub_one s2 with rfl | rfl
      · refine ⟨T, R ++ [x], ?_, by simpa using l, by simpa using t⟩
        rw [← List.append_assoc]
        exact p.append_right _
      · refine ⟨T ++ [x], R, ?_, by simp [l], by rw [tot_app, tot_app]; omega⟩
        have h1 : (T ++ [x] ++ R).Perm (T ++ R ++ [x]) := by
          rw [List.append_assoc, List.append_assoc]
          exact List.Perm.append_left _ List.perm_append_comm
        exact h1.trans (p.append_right _)
    unfold mhs
    split
    · next c =>
      have hl : lgx D (K ++ [x]) (K ++ [x]).length < (K ++ [x]).length := by
        have := lgx_lt D (K ++ [x]) (K ++ [x]).length
        simp at this ⊢; omega
      have mx := lg_max (lgx_Lg D (K ++ [x]) (K ++ [x]).length) hl
      refine cov.erase hl mx ?_
      have l1 := cov.len
      apply Classical.byContradiction
      intro nl
      have le : (S1 ++ S2).length = (K ++ [x]).length := by omega
      have k1 := c1.len
      rcases sub_one s2 with rfl | rfl
      · simp at le; omega
      · obtain ⟨T, R, p, l, t⟩ := cov
        have lp := p.length_eq
        have : R = [] := List.eq_nil_of_length_eq_zero (by simp at lp le l; omega)
        subst this
        rw [List.append_nil] at p
        have e := tot_perm (D := D) p
        have f := (feas_one D x _).1 fS.2
        rw [tot_app, tx] at t
        omega
    · exact cov
end Go.Proofs.Ythbgeikdamajlab

/- Press: the members of a set by their due times. Plain facts. -/
namespace Go.Proofs.Ythbgeikdamajlab
open Go.RowKit Go.Proofs.Ythbgeikdamajlab.Prs Go.Proofs.Ythbgeikdamajlab.Stb

/-- The members of a set, put in by their due times. -/
def byO (D : List (Int × Int)) (F : Nat → Bool) : Nat → List Int
  | 0 => []
  | k + 1 => if F k then insD D k (byO D F k) else byO D F k
def cntT (F : Nat → Bool) : Nat → Nat
  | 0 => 0
  | k + 1 => cntT F k + (F k).toNat
theorem cntT_le (F : Nat → Bool) : ∀ k, cntT F k ≤ k
  | 0 => Nat.le_refl _
  | k + 1 => by
    have := cntT_le F k
    unfold cntT
    cases F k <;> simp <;> omega
theorem byO_len (D : List (Int × Int)) (F : Nat → Bool) : ∀ k, (byO D F k).length = cntT F k
  | 0 => rfl
  | k + 1 => by
    unfold byO cntT
    cases h : F k
    · rw [if_neg (by simp), byO_len D F k]; rfl
    · rw [if_pos rfl, insD_len, byO_len D F k]; rfl
theorem byO_mem (D : List (Int × Int)) (F : Nat → Bool) (z : Int) : ∀ k : Nat, z ∈ byO D F k ↔ (0 ≤ z ∧ z < k) ∧ F z.toNat = true
  | 0 => by simp [byO]; omega
  | k + 1 => by
    have ih := byO_mem D F z k
    unfold byO
    cases h : F k
    · rw [if_neg (by simp), ih]
      constructor
      · rintro ⟨⟨a, b⟩, c⟩; exact ⟨⟨a, by omega⟩, c⟩
      · rintro ⟨⟨a, b⟩, c⟩
        refine ⟨⟨a, ?_⟩, c⟩
        apply Classical.byContradiction; intro g
        rw [show z.toNat = k by omega, h] at c; cases c
    · rw [if_pos rfl, insD_mem, ih]
      constructor
      · rintro (rfl | ⟨⟨a, b⟩, c⟩)
        · exact ⟨⟨by omega, by omega⟩, by simpa using h⟩
        · exact ⟨⟨a, by omega⟩, c⟩
      · rintro ⟨⟨a, b⟩, c⟩
        by_cases e : z = k
        · exact .inl e
        · exact .inr ⟨⟨a, by omega⟩, c⟩
theorem byO_srt (D : List (Int × Int)) (F : Nat → Bool) : ∀ k, (byO D F k).Pairwise (RDu D)
  | 0 => by simp [byO]
  | k + 1 => by
    unfold byO
    split
    · exact insD_srt (fun z hz => by have := (byO_mem D F z k).1 hz; omega) (byO_srt D F k)
    · exact byO_srt D F k
theorem srtD_uniq {D : List (Int × Int)} : ∀ A B : List Int, A.Pairwise (RDu D) → B.Pairwise (RDu D) → (∀ z, z ∈ A ↔ z ∈ B) → A = B
  | [], [], _, _, _ => rfl
  | [], b :: B, _, _, h => by have := (h b).2 (by simp); cases this
  | a :: A, [], _, _, h => by have := (h a).1 (by simp); cases this
  | a :: A, b :: B, hA, hB, h => by
    rw [List.pairwise_cons] at hA hB
    have e : a = b := by
      have h1 := (h a).1 (by simp)
      have h2 := (h b).2 (by simp)
      rcases List.mem_cons.1 h1 with g | g
      · exact g
      · rcases List.mem_cons.1 h2 with k | k
        · exact k.symm
        · exact absurd (rd_tr (hA.1 b k) (hB.1 a g)) rd_irr
    subst e
    rw [srtD_uniq A B hA.2 hB.2 fun z => ?_]
    constructor
    · intro hz
      rcases List.mem_cons.1 ((h z).1 (List.mem_cons_of_mem _ hz)) with g | g
      · have := hA.1 z hz; rw [g] at this; exact absurd this rd_irr
      · exact g
    · intro hz
      rcases List.mem_cons.1 ((h z).2 (List.mem_cons_of_mem _ hz)) with g | g
      · have := hB.1 z hz; rw [g] at this; exact absurd this rd_irr
      · exact g
theorem byO_sub (D : List (Int × Int)) (F : Nat → Bool) (n : Nat) : (byO D F n).Sublist (dueO D n) := by
  have e : byO D F n = (dueO D n).filter fun z => F z.toNat := by
    refine srtD_uniq _ _ (byO_srt D F n) ((dueO_srt D n).filter _) fun z => ?_
    rw [byO_mem, List.mem_filter, dueO_mem]
  rw [e]
  exact List.filter_sublist
theorem due_edd (D : List (Int × Int)) : Edd D (dueO D D.length) :=
  ⟨fun x hx => (dueO_mem D x D.length).1 hx, (dueO_srt D D.length).imp fun {a b} h => by unfold RDu dcD at h; omega⟩
/-- No set of which all are done in time is greater than the kept ones. -/
theorem moore {D : List (Int × Int)} (ok : TkOk D D.length) (F : Nat → Bool) (f : Feas D 0 (byO D F D.length)) : cntT F D.length ≤ (kept D (dueO D D.length) D.length).length := by
  have l := dueO_len D D.length
  have := (kept_cov ok (due_edd D) D.length (by omega) (byO D F D.length) (by rw [List.take_of_length_le (by omega)]; exact byO_sub D F D.length) f).len
  rwa [byO_len] at this
theorem moore_feas {D : List (Int × Int)} (ok : TkOk D D.length) : Feas D 0 (kept D (dueO D D.length) D.length) := kept_feas ok (due_edd D) D.length (by rw [dueO_len]; exact Nat.le_refl _)
/-- The kept ones and those that are left are all, each once. -/
theorem moore_once (D : List (Int × Int)) : IsOrd D.length (kept D (dueO D D.length) D.length ++ left (kept D (dueO D D.length) D.length) D.length) := by
  have p := kept_fell (D := D) (O := dueO D D.length) D.length (by rw [dueO_len]; exact Nat.le_refl _)
  rw [List.take_of_length_le (by rw [dueO_len]; exact Nat.le_refl _)] at p
  have q : (left (kept D (dueO D D.length) D.length) D.length).Perm (fell D (dueO D D.length) D.length) := by
    rw [← fell_left]; exact List.mergeSort_perm _ _
  have r := (q.append_left (kept D (dueO D D.length) D.length)).trans p
  generalize kept D (dueO D D.length) D.length ++ left (kept D (dueO D D.length) D.length) D.length = U at *
  have l := r.length_eq
  rw [dueO_len] at l
  have nd : U.Nodup := r.nodup_iff.2 ((dueO_srt D D.length).imp fun {a b} h e => by subst e; exact rd_irr h)
  refine ⟨l, fun i hi => ?_, fun i j ij jk e => ?_⟩
  · rw [gi_getD2 (by omega)]
    exact (dueO_mem D _ D.length).1 (r.mem_iff.1 (List.getElem_mem (by omega)))
  · rw [gi_getD2 (by omega), gi_getD2 (by omega)] at e
    exact (List.pairwise_iff_getElem.1 nd) i j (by omega) (by omega) ij e
end Go.Proofs.Ythbgeikdamajlab

/- Press: slices.Sort and slices.Delete on a row of the call's own. It stands on the shelf's text, laid at the seat. -/
namespace Go.Proofs.Ythbgeikdamajlab
open Go.RowKit Go.Sort Go.Proofs.Ythbgeikdamajlab.Prs Go.Proofs.Ythbgeikdamajlab.Stb

theorem sort_own {W : World} {base : Nat} {v : Value} {zs : List Int} (h : W.ownsRow base 3 1 v zs.length (zs.map (Value.int .i64))) (hs : zs.length ≤ 1000000) :
    Calls Try.prog 30 #[v] W fun e w' => e = .returned (.tuple #[]) ∧ w'.ownsRow base 3 1 v zs.length ((zs.mergeSort fun x y => decide (x ≤ y)).map (Value.int .i64)) ∧ W.grownBy w' v.ownBlock := by
  rcases h.2 with ⟨rfl, h0⟩ | ⟨g, cap, cur, rfl, hb, hg, h1, h2, h3, ht⟩
  · have z : zs = [] := List.eq_nil_of_length_eq_zero h0
    subst z
    refine (Go.Proofs.Try.slices_Sort_int_none none 0 W).mono ?_
    rintro e w' ⟨rfl, rfl⟩
    exact ⟨rfl, by simpa using h, ⟨rfl, rfl, rfl, Nat.le_refl _, fun _ _ _ => rfl⟩⟩
  · have H := holds_of_blockI (w := W) (g := g) (ss := zs) hg (by simpa using ht)
    have lt : g < W.heap.size := (Array.getElem?_eq_some_iff.1 hg).1
    refine (Go.Proofs.Try.slices_Sort_int g 0 cap zs W H lt (by omega)).mono ?_
    rintro e w' ⟨rfl, n, os, rfl⟩
    exact ⟨rfl, ownsRow_sortedI (by simp) hb hg h1 h2 h3, grownBy_sortedI _⟩
theorem delete_own {W : World} {base : Nat} {v : Value} {zs : List Int} {j : Nat} (h : W.ownsRow base 3 1 v zs.length (zs.map (Value.int .i64))) (hs : zs.length ≤ 1000000) (hj : j < zs.length) :
    Calls Try.prog 29 #[v, .int .i64 j, .int .i64 ((j + 1 : Nat) : Int)] W fun e w' => ∃ v', e = .returned v' ∧ w'.ownsRow base 3 1 v' (zs.eraseIdx j).length ((zs.eraseIdx j).map (Value.int .i64)) ∧ W.grownBy w' v.ownBlock ∧ v'.ownBlock = v.ownBlock := by
  rcases h.2 with ⟨rfl, h0⟩ | ⟨g, cap, cur, rfl, hb, hg, h1, h2, h3, ht⟩
  · omega
  · have H := holds_of_blockI (w := W) (g := g) (ss := zs) hg (by simpa using ht)
    have lt : g < W.heap.size := (Array.getElem?_eq_some_iff.1 hg).1
    have cm : cap ≤ 9223372036854775807 := by unfold maxLen at h2; omega
    refine (Go.Proofs.Try.slices_Delete_int g 0 cap j (j + 1) zs W H h1 cm (by omega) (by omega)).mono ?_
    rintro e w' ⟨rfl, n, rfl⟩
    obtain ⟨ts, hts⟩ : ∃ ts, ts = zs.take j ++ zs.drop (j + 1) ++ List.replicate (j + 1 - j) (0 : Int) := ⟨_, rfl⟩
    have el : (zs.eraseIdx j).length = zs.length - 1 := by rw [List.length_eraseIdx]; simp [hj]
    have te : ts = zs.eraseIdx j ++ [0] := by
      rw [hts, erase_take, show j + 1 - j = 1 by omega]; rfl
    have tl : ts.length = zs.length := by rw [te]; simp [el]; omega
    rw [← hts]
    have ge : ∀ X : World, X = Go.Sort.grow X #[] := fun X => by cases X; simp [Go.Sort.grow]
    rw [ge (putRow (Value.int .i64) (Sort.ahead W n) g 0 ts.toArray)]
    have ow := ownsRow_sortedI (n := n) (os := #[]) (base := base) (e := 3) (ts := ts) (ss := zs) tl hb hg h1 h2 h3
    have bl : W.grownBy (Go.Sort.grow (putRow (Value.int .i64) (Sort.ahead W n) g 0 ts.toArray) #[]) (some g) := grownBy_sortedI _
    generalize Go.Sort.grow (putRow (Value.int .i64) (Sort.ahead W n) g 0 ts.toArray) #[] = w' at *
    refine ⟨_, rfl, ?_, bl, rfl⟩
    rw [show zs.length - (j + 1 - j) = (zs.eraseIdx j).length by rw [el]; omega]
    rcases ow.2 with ⟨e, _⟩ | ⟨g', cap', cur', e, hb', hg', a1, a2, a3, at_⟩
    · cases e
    · cases e
      refine ⟨by simp, .inr ⟨g, cap, cur', rfl, hb, hg', by rw [el]; omega, a2, a3, ?_⟩⟩
      have : (cur'.toList.take (zs.length * 1)).take ((zs.eraseIdx j).length * 1) = (ts.map (Value.int .i64)).take ((zs.eraseIdx j).length * 1) := by rw [at_]
      rw [List.take_take, te, List.map_append, Nat.min_eq_left (by rw [el]; omega)] at this
      rw [this, Nat.mul_one]
      rw [List.take_append_of_le_length (by simp), List.take_of_length_le (by simp)]
end Go.Proofs.Ythbgeikdamajlab

/- Press: two rows of one's own side by side. -/
namespace Go.Proofs.Ythbgeikdamajlab
open Go.RowKit Go.Sort Go.Proofs.Ythbgeikdamajlab.Prs Go.Proofs.Ythbgeikdamajlab.Stb

/-- A row of numbers of one's own. -/
abbrev OI (w : World) (base : Nat) (v : Value) (L : List Int) : Prop := w.ownsRow base 3 1 v L.length (L.map (Value.int .i64))
/-- Two values do not lie in one block. -/
def Apt (v u : Value) : Prop := ∀ b, v.ownBlock = some b → u.ownBlock = some b → False
theorem OI.lt {w : World} {base : Nat} {v : Value} {L : List Int} (h : OI w base v L) : ∀ k, v.ownBlock = some k → base ≤ k ∧ k < w.heap.size := fun k e => World.ownsRow.lt h k e
theorem OI.keep {w w' : World} {base : Nat} {v : Value} {L : List Int} {row : Option Nat} (h : OI w base v L) (g : w.grownBy w' row) (ne : ∀ b, v.ownBlock = some b → row = some b → False) : OI w' base v L := by
  refine ⟨h.1, ?_⟩
  rcases h.2 with h0 | ⟨g', cap, cur, rfl, hbg, hg, r⟩
  · exact .inl h0
  · exact .inr ⟨g', cap, cur, rfl, hbg, by rw [g.block g' (Array.getElem?_eq_some_iff.1 hg).1 (fun e => ne g' rfl e.symm)]; exact hg, r⟩
theorem OI.below {w w' : World} {base : Nat} {v : Value} {L : List Int} (h : OI w base v L) (b : Below w.heap.size w w') : OI w' base v L := own_belowD h b
/-- One more at the end of the first row. -/
theorem OI.snoc {w w2 : World} {base : Nat} {v v' u : Value} {L M : List Int} {x : Int} {o : Obj} (h : OI w base v L) (k : OI w base u M) (ap : Apt v u)
    (h1 : w2.ownsRow base 3 1 v' (L.length + 1) (L.map (Value.int .i64) ++ [.int .i64 x])) (h2 : (w.alloc o).grownBy w2 v.ownBlock) (h3 : v'.ownBlock = v.ownBlock ∨ v'.ownBlock = some (w.alloc o).heap.size) :
    OI w2 base v' (L ++ [x]) ∧ OI w2 base u M ∧ Apt v' u := by
  refine ⟨by unfold OI; simpa using h1, OI.keep (w := w.alloc o) (World.ownsRow.alloc k o) h2 (fun b e f => ap b f e), fun b e f => ?_⟩
  rcases h3 with h3 | h3
  · exact ap b (by rw [← h3]; exact e) f
  · rw [h3] at e
    cases e
    have := (k.lt _ f).2
    simp at this
    omega
theorem addr0k (g i : Nat) : (Addr.mk g 0 none).add i = ⟨g, i, none⟩ := by
  unfold Addr.add
  split
  · next h => subst h; rfl
  · simp
theorem Apt.symm {v u : Value} (h : Apt v u) : Apt u v := fun b e f => h b f e
theorem tot_erase (D : List (Int × Int)) : ∀ (K : List Int) (j : Nat), j < K.length → tot D (K.eraseIdx j) = tot D K - pd D (gi K j).toNat
  | [], _, h => by simp at h
  | z :: K, 0, _ => by simp [tot, Sea.sums, gi]; omega
  | z :: K, j + 1, h => by
    have := tot_erase D K j (by simpa using h)
    simp [tot, Sea.sums, gi] at this ⊢
    omega
theorem fell_len (D : List (Int × Int)) (O : List Int) : ∀ i, (fell D O i).length ≤ i
  | 0 => Nat.le_refl _
  | i + 1 => by
    have := fell_len D O i
    unfold fell
    split
    · simp; omega
    · omega
theorem left_len (K : List Int) (n : Nat) : (left K n).length ≤ n := by
  unfold left
  rw [List.length_map]
  exact Nat.le_trans (List.length_filter_le _ _) (by simp)
end Go.Proofs.Ythbgeikdamajlab
