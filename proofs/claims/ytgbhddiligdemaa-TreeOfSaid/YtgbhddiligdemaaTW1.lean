/- The reference's lists, the plain part. -/
import Derived.Test.YtgbhddiligdemaaP1
namespace Go.Proofs.Ytgbhddiligdemaa
set_option linter.unusedVariables false
set_option linter.unusedSimpArgs false

section
variable {ν : Type}
/-- The reference's Put: what is still appended, of a rest of the list. -/
def putF (k : Int) (v : ν) : List (Int × ν) → Bool → List (Int × ν)
  | [], b => if b then [] else [(k, v)]
  | x :: r, b => (if b = false ∧ k ≤ x.1 then [(k, v)] else []) ++ ((if x.1 = k then [] else [x]) ++ putF k v r (b || decide (k ≤ x.1)))
theorem putF_true (k : Int) (v : ν) : ∀ (L : List (Int × ν)), (∀ x ∈ L, k < x.1) → putF k v L true = L
  | [], _ => rfl
  | x :: r, h => by
    have h1 := h x List.mem_cons_self
    have ih := putF_true k v r fun y hy => h y (List.mem_cons_of_mem _ hy)
    simp only [putF, Bool.true_or, Bool.true_eq_false, false_and, if_false, List.nil_append]
    rw [if_neg (by omega), ih]; rfl
theorem putF_T (k : Int) (v : ν) : ∀ (L : List (Int × ν)), Asc L → PutT L (putF k v L false) k v
  | [], _ => put_nil k v
  | x :: r, h => by
    have h' := asc_cons.1 h
    simp only [putF, Bool.false_or, true_and]
    by_cases c : k ≤ x.1
    · rw [if_pos c, decide_eq_true c]
      by_cases e : x.1 = k
      · rw [if_pos e, putF_true k v r (fun y hy => by have : x.1 < y.1 := h'.1 y hy; omega)]
        obtain ⟨xk, xv⟩ := x
        obtain rfl : xk = k := e
        exact put_eq (l := []) (m := r) (k := xk) (u := xv) (v := v) h
      · rw [if_neg e, putF_true k v r (fun y hy => by have : x.1 < y.1 := h'.1 y hy; omega)]
        exact put_lt (l := []) (m := r) (l' := [(k, v)]) (x := x) h (show k < x.1 by omega) (put_nil k v)
    · rw [if_neg c, decide_eq_false c, if_neg (by omega)]
      exact put_gt (l := []) (m := r) (x := x) h (show x.1 < k by omega) (putF_T k v r h'.2)
theorem putF_length (k : Int) (v : ν) : ∀ (L : List (Int × ν)) (b : Bool), (putF k v L b).length ≤ L.length + 1
  | [], b => by simp only [putF]; split <;> simp
  | x :: r, b => by
    have ih := putF_length k v r (b || decide (k ≤ x.1))
    simp only [putF, List.length_append, List.length_cons]
    by_cases c : b = false ∧ k ≤ x.1
    · rw [if_pos c]
      have ih2 := putF_len2 k v r
      rw [c.1, decide_eq_true c.2] at *
      simp only [Bool.false_or] at *
      split <;> simp <;> omega
    · rw [if_neg c]; split <;> simp <;> omega
where
  putF_len2 (k : Int) (v : ν) : ∀ (L : List (Int × ν)), (putF k v L true).length ≤ L.length
    | [] => by simp [putF]
    | x :: r => by
      have ih := putF_len2 k v r
      simp only [putF, Bool.true_or, Bool.true_eq_false, false_and, if_false, List.nil_append, List.length_append, List.length_cons]
      split <;> simp <;> omega

/-- Filters by the key. -/
def filL (p : Int → Bool) (L : List (Int × ν)) : List (Int × ν) := L.filter fun x => p x.1
theorem filL_asc {p : Int → Bool} {L : List (Int × ν)} (h : Asc L) : Asc (filL p L) := List.Pairwise.filter _ h
theorem filL_val (p : Int → Bool) (q : Int) : ∀ (L : List (Int × ν)), val (filL p L) q = if p q then val L q else none
  | [] => by simp [filL, val_nil]
  | x :: r => by
    have ih := filL_val p q r
    unfold filL at ih ⊢
    rw [List.filter_cons]
    by_cases c : p x.1 = true
    · rw [if_pos c, val_cons, val_cons, ih]
      by_cases e : x.1 = q
      · rw [if_pos e, if_pos e, ← e, if_pos c]
      · rw [if_neg e, if_neg e]
    · rw [if_neg c, ih, val_cons]
      by_cases e : x.1 = q
      · rw [if_pos e, ← e, if_neg c, if_neg c]
      · rw [if_neg e]
theorem filL_length (p : Int → Bool) (L : List (Int × ν)) : (filL p L).length ≤ L.length := List.length_filter_le _ _
theorem filL_snoc (p : Int → Bool) (L : List (Int × ν)) (x : Int × ν) : filL p (L ++ [x]) = filL p L ++ if p x.1 then [x] else [] := by
  unfold filL; rw [List.filter_append]; by_cases c : p x.1 = true <;> simp [c]
theorem del_fil {L : List (Int × ν)} (k : Int) (h : Asc L) : DelT L (filL (fun q => decide (q ≠ k)) L) k :=
  ⟨filL_asc h, fun q => by rw [filL_val]; by_cases e : q = k <;> simp [e]⟩
theorem lo_fil {L : List (Int × ν)} (k : Int) (h : Asc L) : LoT L (filL (fun q => decide (q < k)) L) k :=
  ⟨filL_asc h, fun q => by rw [filL_val]; simp [KO.lt]⟩
theorem hi_fil {L : List (Int × ν)} (k : Int) (h : Asc L) : HiT L (filL (fun q => decide (k < q)) L) k :=
  ⟨filL_asc h, fun q => by rw [filL_val]; simp [KO.lt]⟩
theorem rng_fil {L : List (Int × ν)} (a b : Int) (h : Asc L) : RngT L (filL (fun q => decide (a ≤ q ∧ q < b)) L) a b :=
  ⟨filL_asc h, fun q => by rw [filL_val]; simp [KO.lt]⟩
theorem int_fil {A B : List (Int × ν)} (h : Asc B) : IntT A B (filL (fun q => (val A q).isSome) B) :=
  ⟨filL_asc h, fun q => by rw [filL_val]; cases e : val A q <;> simp⟩
theorem sub_fil {A B : List (Int × ν)} (h : Asc A) : SubT A B (filL (fun q => (val B q).isNone) A) :=
  ⟨filL_asc h, fun q => by rw [filL_val]; cases e : val B q <;> simp⟩
/-- The reference's Union. -/
def uniF : List (Int × ν) → List (Int × ν) → List (Int × ν)
  | A, [] => A
  | A, x :: B => uniF (putF x.1 x.2 A false) B
theorem uniF_T : ∀ (B A : List (Int × ν)), Asc A → Asc B → UniT A B (uniF A B)
  | [], A, h, _ => uni_nil2 h
  | x :: B, A, h, g => by
    have g' := asc_cons.1 g
    have p := putF_T x.1 x.2 A h
    have ih := uniF_T B _ p.asc g'.2
    refine ⟨ih.asc, fun q => ?_⟩
    rw [show uniF A (x :: B) = uniF (putF x.1 x.2 A false) B from rfl, ih.v, p.v, val_cons]
    by_cases e : q = x.1
    · rw [if_pos e, if_pos e.symm, val_none.2 (fun y hy => e ▸ (KO.ne (g'.1 y hy)).symm)]; rfl
    · rw [if_neg e, if_neg (Ne.symm e)]
theorem uniF_take (B A : List (Int × ν)) (i : Nat) (h : i < B.length) : uniF A (B.take (i + 1)) = putF B[i].1 B[i].2 (uniF A (B.take i)) false := by
  induction B generalizing A i with
  | nil => simp at h
  | cons x B ih =>
    cases i with
    | zero => simp [uniF]
    | succ i =>
      have := ih (putF x.1 x.2 A false) i (by simpa using h)
      simpa [uniF] using this

/-- A strictly ascending list has no more rows than there are keys to choose from. -/
theorem asc_card : ∀ (S : List Int) (L : List (Int × ν)), Asc L → (∀ x ∈ L, x.1 ∈ S) → L.length ≤ S.length
  | S, [], _, _ => Nat.zero_le _
  | S, x :: L, h, g => by
    have h' := asc_cons.1 h
    have hx := g x List.mem_cons_self
    have ih := asc_card (S.erase x.1) L h'.2 fun y hy => (List.mem_erase_of_ne (KO.ne (h'.1 y hy)).symm).2 (g y (List.mem_cons_of_mem _ hy))
    rw [List.length_erase_of_mem hx] at ih
    have : 0 < S.length := List.length_pos_of_mem hx
    simp only [List.length_cons]; omega
theorem val_key {L : List (Int × ν)} {q : Int} (h : val L q ≠ none) : ∃ x ∈ L, x.1 = q := val_in.1 h
theorem key_val {L : List (Int × ν)} (h : Asc L) {x : Int × ν} (hx : x ∈ L) : val L x.1 ≠ none := by rw [val_some h hx]; simp

/-- The same by other values. -/
def mapV {μ : Type} (f : ν → μ) (L : List (Int × ν)) : List (Int × μ) := L.map fun x => (x.1, f x.2)
theorem mapV_val {μ : Type} (f : ν → μ) (q : Int) : ∀ (L : List (Int × ν)), val (mapV f L) q = (val L q).map f
  | [] => rfl
  | x :: r => by
    have ih := mapV_val f q r
    unfold mapV at *
    rw [List.map_cons, val_cons, val_cons, ih]
    by_cases e : x.1 = q <;> simp [e]
theorem mapV_asc {μ : Type} {f : ν → μ} {L : List (Int × ν)} (h : Asc L) : Asc (mapV f L) := List.pairwise_map.2 (h.imp fun h => h)
end
end Go.Proofs.Ytgbhddiligdemaa
