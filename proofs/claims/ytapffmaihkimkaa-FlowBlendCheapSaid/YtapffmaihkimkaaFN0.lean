/- Flow, plain: going over the residual arcs in rounds. -/
import Derived.Test.YtapffmaihkimkaaB0
namespace Go.Proofs.Ytapffmaihkimkaa
set_option linter.unusedVariables false
set_option linter.unusedSimpArgs false

/-- A residual arc: from, to, cost. -/
abbrev St := Nat × Nat × Int
/-- One step of a round. -/
def rx (p : Nat → Int) (s : St) : Nat → Int := if p s.1 + s.2.2 < p s.2.1 then fun k => if k = s.2.1 then p s.1 + s.2.2 else p k else p
/-- A round; whether it moves anything. -/
def rnd1 : List St → (Nat → Int) → Nat → Int
  | [], p => p
  | s :: L, p => rnd1 L (rx p s)
def mvB : List St → (Nat → Int) → Bool
  | [], _ => false
  | s :: L, p => decide (p s.1 + s.2.2 < p s.2.1) || mvB L (rx p s)
/-- The numbers behind k rounds. -/
def rds (L : List St) : Nat → Nat → Int
  | 0 => fun _ => 0
  | k + 1 => rnd1 L (rds L k)
theorem rx_le (p : Nat → Int) (s : St) (k : Nat) : rx p s k ≤ p k := by
  unfold rx
  split
  · show (if k = s.2.1 then _ else _) ≤ _
    split
    · rename_i h e; rw [e]; omega
    · exact Int.le_refl _
  · exact Int.le_refl _
theorem rnd1_le : ∀ (L : List St) (p : Nat → Int) (k : Nat), rnd1 L p k ≤ p k
  | [], p, k => Int.le_refl _
  | s :: L, p, k => Int.le_trans (rnd1_le L (rx p s) k) (rx_le p s k)
theorem rx_still {p : Nat → Int} {s : St} (h : ¬ p s.1 + s.2.2 < p s.2.1) : rx p s = p := by unfold rx; rw [if_neg h]
theorem mvB_still : ∀ {L : List St} {p : Nat → Int}, mvB L p = false → rnd1 L p = p ∧ ∀ s ∈ L, ¬ p s.1 + s.2.2 < p s.2.1
  | [], p, _ => ⟨rfl, fun s h => by cases h⟩
  | s :: L, p, h => by
    unfold mvB at h
    rw [Bool.or_eq_false_iff] at h
    have h1 : ¬ p s.1 + s.2.2 < p s.2.1 := of_decide_eq_false h.1
    have h2 := h.2
    rw [rx_still h1] at h2
    obtain ⟨a, b⟩ := mvB_still h2
    refine ⟨?_, ?_⟩
    · show rnd1 L (rx p s) = p
      rw [rx_still h1]; exact a
    · intro t ht
      rcases List.mem_cons.1 ht with rfl | ht
      · exact h1
      · exact b t ht
theorem mvB_of {L : List St} {p : Nat → Int} : (∀ s ∈ L, ¬ p s.1 + s.2.2 < p s.2.1) → mvB L p = false := by
  induction L with
  | nil => intro _; rfl
  | cons s L ih =>
    intro h
    have h1 := h s (List.mem_cons_self ..)
    unfold mvB
    rw [rx_still h1, decide_eq_false h1, ih (fun t ht => h t (List.mem_cons_of_mem _ ht))]
    rfl
theorem rds_le (L : List St) (k j v : Nat) : rds L (k + j) v ≤ rds L k v := by
  induction j with
  | zero => exact Int.le_refl _
  | succ j ih => exact Int.le_trans (rnd1_le L _ v) ih
/-- Apart from a set, all stay above q. -/
theorem rnd1_off {q : Nat → Int} {S : Nat → Bool} : ∀ {L : List St} {p : Nat → Int}, (∀ s ∈ L, ¬ q s.1 + s.2.2 < q s.2.1) → (∀ s ∈ L, S s.1 = true → S s.2.1 = false → q s.2.1 < q s.1 + s.2.2) → (∀ v, q v ≤ p v) → (∀ v, S v = false → q v < p v) → (∀ v, q v ≤ rnd1 L p v) ∧ ∀ v, S v = false → q v < rnd1 L p v
  | [], p, _, _, h1, h2 => ⟨h1, h2⟩
  | s :: L, p, f, t, h1, h2 => by
    have fs := f s (List.mem_cons_self ..)
    have ts := t s (List.mem_cons_self ..)
    refine rnd1_off (L := L) (p := rx p s) (fun u hu => f u (List.mem_cons_of_mem _ hu)) (fun u hu => t u (List.mem_cons_of_mem _ hu)) ?_ ?_
    · intro v
      unfold rx
      split
      · show _ ≤ if v = s.2.1 then _ else _
        split
        · rename_i e; rw [e]; have := h1 s.1; omega
        · exact h1 v
      · exact h1 v
    · intro v hv
      unfold rx
      split
      · show _ < if v = s.2.1 then _ else _
        split
        · rename_i e
          subst e
          by_cases c : S s.1 = true
          · have := ts c hv; have := h1 s.1; omega
          · have c' : S s.1 = false := by simpa using c
            have := h2 s.1 c'; omega
        · exact h2 v hv
      · exact h2 v hv
/-- A tight step carries on what is at q. -/
theorem rnd1_tight {q : Nat → Int} : ∀ {L : List St} {p : Nat → Int} {s : St}, s ∈ L → (∀ u ∈ L, ¬ q u.1 + u.2.2 < q u.2.1) → (∀ v, q v ≤ p v) → p s.1 = q s.1 → q s.1 + s.2.2 = q s.2.1 → rnd1 L p s.2.1 = q s.2.1
  | [], p, s, h, _, _, _, _ => by cases h
  | u :: L, p, s, h, f, h1, e, t => by
    have low : ∀ v, q v ≤ rx p u v := fun v => by
      have fu := f u (List.mem_cons_self ..)
      unfold rx
      split
      · show _ ≤ if v = u.2.1 then _ else _
        split
        · rename_i e; rw [e]; have := h1 u.1; omega
        · exact h1 v
      · exact h1 v
    by_cases c : s ∈ L
    · refine rnd1_tight (L := L) (p := rx p u) c (fun w hw => f w (List.mem_cons_of_mem _ hw)) low ?_ t
      have := rx_le p u s.1
      have := low s.1
      omega
    · have e2 : s = u := by
        rcases List.mem_cons.1 h with h | h
        · exact h
        · exact absurd h c
      subst e2
      have here : rx p s s.2.1 = q s.2.1 := by
        unfold rx
        by_cases g : p s.1 + s.2.2 < p s.2.1
        · rw [if_pos g]
          show (if s.2.1 = s.2.1 then _ else _) = _
          rw [if_pos rfl]; omega
        · rw [if_neg g]
          have := h1 s.2.1
          omega
      have a := rnd1_le L (rx p s) s.2.1
      have b := (rnd1_off (q := q) (S := fun _ => true) (L := L) (p := rx p s) (fun w hw => f w (List.mem_cons_of_mem _ hw)) (fun _ _ _ h => by cases h) low (fun _ h => by cases h)).1 s.2.1
      show rnd1 L (rx p s) s.2.1 = _
      omega
/-- How many of the first n. -/
def cnt (S : Nat → Bool) : Nat → Nat
  | 0 => 0
  | n + 1 => cnt S n + if S n then 1 else 0
theorem cnt_le (S : Nat → Bool) : ∀ n, cnt S n ≤ n
  | 0 => Nat.le_refl _
  | n + 1 => by
    have := cnt_le S n
    show cnt S n + _ ≤ n + 1
    split <;> omega
theorem cnt_full {S : Nat → Bool} : ∀ {n : Nat}, n ≤ cnt S n → ∀ v, v < n → S v = true
  | 0, _, v, h => by omega
  | n + 1, h, v, hv => by
    have l := cnt_le S n
    have h' : n + 1 ≤ cnt S n + if S n = true then 1 else 0 := h
    by_cases c : S n = true
    · rw [if_pos c] at h'
      by_cases e : v = n
      · rw [e]; exact c
      · exact cnt_full (n := n) (by omega) v (by omega)
    · rw [if_neg c] at h'; omega
theorem cnt_mono {S T : Nat → Bool} (h : ∀ v, S v = true → T v = true) : ∀ n, cnt S n ≤ cnt T n
  | 0 => Nat.le_refl _
  | n + 1 => by
    have := cnt_mono h n
    show cnt S n + (if S n = true then 1 else 0) ≤ cnt T n + if T n = true then 1 else 0
    by_cases c : S n = true
    · rw [if_pos c, if_pos (h n c)]; omega
    · rw [if_neg c]; omega
theorem cnt_more {S T : Nat → Bool} (h : ∀ v, S v = true → T v = true) {u : Nat} (h1 : S u = false) (h2 : T u = true) : ∀ {n : Nat}, u < n → cnt S n + 1 ≤ cnt T n
  | 0, hu => by omega
  | n + 1, hu => by
    show cnt S n + (if S n = true then 1 else 0) + 1 ≤ cnt T n + if T n = true then 1 else 0
    by_cases e : u = n
    · subst e
      have := cnt_mono h u
      rw [h1, h2, if_neg (by decide), if_pos rfl]
      omega
    · have := cnt_more h h1 h2 (n := n) (by omega)
      by_cases c : S n = true
      · rw [if_pos c, if_pos (h n c)]; omega
      · rw [if_neg c]; omega
/-- If round n + 1 moves nothing, round n has moved nothing. -/
theorem rds_early {L : List St} {n : Nat} (hn : 1 ≤ n) (hL : ∀ s ∈ L, s.1 < n ∧ s.2.1 < n) (h : mvB L (rds L n) = false) : mvB L (rds L (n - 1)) = false := by
  obtain ⟨-, F⟩ := mvB_still h
  obtain ⟨q, hq⟩ : ∃ q, q = rds L n := ⟨_, rfl⟩
  rw [← hq] at F
  have ge : ∀ k, k ≤ n → ∀ v, q v ≤ rds L k v := fun k hk v => by
    have := rds_le L k (n - k) v
    rw [show k + (n - k) = n by omega, ← hq] at this
    exact this
  -- what stays apart from a set to the end
  have stay : ∀ (S : Nat → Bool) (k : Nat), k ≤ n → (∀ s ∈ L, S s.1 = true → S s.2.1 = false → q s.2.1 < q s.1 + s.2.2) → (∀ v, S v = false → q v < rds L k v) → ∀ j, k + j ≤ n → ∀ v, S v = false → q v < rds L (k + j) v := fun S k hk T h0 j => by
    induction j with
    | zero => intro _; exact h0
    | succ j ih =>
      intro hj
      exact (rnd1_off F T (ge (k + j) (by omega)) (ih (by omega))).2
  have all : ∀ (S : Nat → Bool) (k : Nat), k ≤ n → (∀ s ∈ L, S s.1 = true → S s.2.1 = false → q s.2.1 < q s.1 + s.2.2) → (∀ v, S v = false → q v < rds L k v) → ∀ v, S v = true := fun S k hk T h0 v => by
    cases c : S v with
    | true => rfl
    | false =>
      have := stay S k hk T h0 (n - k) (by omega) v c
      rw [show k + (n - k) = n by omega, ← hq] at this
      omega
  let S : Nat → Nat → Bool := fun k v => decide (rds L k v = q v)
  have off : ∀ k, k ≤ n → ∀ v, S k v = false → q v < rds L k v := fun k hk v hv => by
    have a : rds L k v ≠ q v := of_decide_eq_false hv
    have := ge k hk v
    omega
  have grow : ∀ k, k + 1 ≤ n → ∀ v, S k v = true → S (k + 1) v = true := fun k hk v hv => by
    have a : rds L k v = q v := of_decide_eq_true hv
    have b := rds_le L k 1 v
    have c := ge (k + 1) hk v
    exact decide_eq_true (by omega)
  have count : ∀ k, k < n → (∀ v, v < n → S k v = true) ∨ k + 1 ≤ cnt (S k) n := fun k => by
    induction k with
    | zero =>
      intro _
      by_cases c : ∃ v, v < n ∧ S 0 v = true
      · obtain ⟨v, hv, c⟩ := c
        refine .inr ?_
        have := cnt_more (S := fun _ => false) (T := S 0) (fun _ h => by cases h) (u := v) rfl c hv
        omega
      · have c' : ∀ v, v < n → S 0 v = false := fun v hv => by
          cases e : S 0 v with
          | false => rfl
          | true => exact absurd ⟨v, hv, e⟩ c
        -- within n nothing is at q, so no step leaves what is at q
        have := all (S 0) 0 (by omega) (fun s hs h1 _ => by rw [c' s.1 (hL s hs).1] at h1; cases h1) (off 0 (by omega)) 0
        rw [c' 0 (by omega)] at this; cases this
    | succ k ih =>
      intro hk
      rcases ih (by omega) with a | a
      · exact .inl fun v hv => grow k (by omega) v (a v hv)
      · by_cases c : ∃ s ∈ L, S k s.1 = true ∧ S k s.2.1 = false ∧ q s.1 + s.2.2 = q s.2.1
        · obtain ⟨s, hs, c1, c2, c3⟩ := c
          have a1 : rds L k s.1 = q s.1 := of_decide_eq_true c1
          have a2 := rnd1_tight hs F (ge k (by omega)) a1 c3
          have a3 : S (k + 1) s.2.1 = true := decide_eq_true a2
          have := cnt_more (grow k (by omega)) c2 a3 (hL s hs).2
          exact .inr (by omega)
        · refine .inl fun v hv => grow k (by omega) v ?_
          refine all (S k) k (by omega) (fun s hs h1 h2 => ?_) (off k (by omega)) v
          have f := F s hs
          have : q s.1 + s.2.2 ≠ q s.2.1 := fun e => c ⟨s, hs, h1, h2, e⟩
          omega
  have full : ∀ v, v < n → S (n - 1) v = true := by
    rcases count (n - 1) (by omega) with a | a
    · exact a
    · exact cnt_full (by omega)
  refine mvB_of fun s hs => ?_
  have a1 : rds L (n - 1) s.1 = q s.1 := of_decide_eq_true (full s.1 (hL s hs).1)
  have a2 : rds L (n - 1) s.2.1 = q s.2.1 := of_decide_eq_true (full s.2.1 (hL s hs).2)
  rw [a1, a2]
  exact F s hs
/-- The numbers stay within bounds. -/
theorem rx_bd {p : Nat → Int} {s : St} {n : Nat} {b : Int} (h : ∀ v, v < n → -b ≤ p v ∧ p v ≤ 0) (b0 : 0 ≤ b) (h1 : s.1 < n) (h2 : s.2.1 < n) (h3 : -32768 ≤ s.2.2 ∧ s.2.2 ≤ 32768) : ∀ v, v < n → -(b + 32768) ≤ rx p s v ∧ rx p s v ≤ 0 := fun v hv => by
  have a := h v hv
  have c := h s.1 h1
  have d := h s.2.1 h2
  unfold rx
  split
  · show _ ≤ (if v = s.2.1 then _ else _) ∧ (if v = s.2.1 then _ else _) ≤ _
    split <;> omega
  · omega
end Go.Proofs.Ytapffmaihkimkaa
