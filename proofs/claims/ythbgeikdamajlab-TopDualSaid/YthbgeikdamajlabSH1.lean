/- Press: loads of bins, plain; the longest first is within (4m - 1)/3m. -/
import Derived.Test.YthbgeikdamajlabPR1
import Derived.Test.YthbgeikdamajlabSH0
namespace Go.Proofs.Ythbgeikdamajlab.Sea
open Go.Proofs.Ythbgeikdamajlab.Prs
set_option linter.unusedVariables false
set_option linter.unusedSimpArgs false

/-- What the first k things put into bin b. -/
def ldf (a : Nat → Nat) (w : Nat → Int) (k b : Nat) : Int := sm (fun i => if a i = b then w i else 0) k
theorem ldf_succ (a : Nat → Nat) (w : Nat → Int) (k b : Nat) : ldf a w (k + 1) b = ldf a w k b + if a k = b then w k else 0 := rfl
theorem ldf_nonneg {a : Nat → Nat} {w : Nat → Int} {k b : Nat} (h : ∀ i, i < k → 0 ≤ w i) : 0 ≤ ldf a w k b := sm_nonneg fun i hi => by
  have := h i hi
  split <;> omega
theorem ldf_mono {a : Nat → Nat} {w : Nat → Int} {j k b : Nat} (h : ∀ i, i < k → 0 ≤ w i) (hj : j ≤ k) : ldf a w j b ≤ ldf a w k b := sm_mono (fun i hi => by
  have := h i hi
  split <;> omega) hj
/-- All bins together. -/
theorem ldf_all {a : Nat → Nat} {w : Nat → Int} {m : Nat} : ∀ {k : Nat}, (∀ i, i < k → a i < m) → sm (fun b => ldf a w k b) m = sm w k
  | 0, _ => by
    have : ∀ m, sm (fun b => ldf a w 0 b) m = 0 := fun m => by
      induction m with
      | zero => rfl
      | succ m ih => simp only [sm]; rw [ih]; rfl
    rw [this]; rfl
  | k + 1, h => by
    have ih := ldf_all (w := w) (fun i hi => h i (Nat.lt_succ_of_lt hi))
    have one : ∀ (c : Nat) (x : Int) (m : Nat), sm (fun b => if c = b then x else 0) m = if c < m then x else 0 := fun c x m => by
      induction m with
      | zero => rfl
      | succ m ih =>
        simp only [sm]
        rw [ih]
        by_cases e : c = m
        · subst e; rw [if_neg (by omega), if_pos rfl, if_pos (by omega)]; omega
        · by_cases l : c < m
          · rw [if_pos l, if_neg e, if_pos (by omega)]; omega
          · rw [if_neg l, if_neg e, if_neg (by omega)]; omega
    have e := sm_add (fun b => ldf a w k b) (fun b => if a k = b then w k else 0) m
    rw [one, if_pos (h k (Nat.lt_succ_self k)), ih] at e
    exact e
theorem ldf_cnt {a : Nat → Nat} {w : Nat → Int} {b : Nat} {t : Int} : ∀ {k : Nat}, (∀ i, i < k → t ≤ w i) → t * ldf a (fun _ => 1) k b ≤ ldf a w k b
  | 0, _ => by simp [ldf, sm]
  | k + 1, h => by
    have ih := ldf_cnt (a := a) (b := b) (fun i hi => h i (Nat.lt_succ_of_lt hi))
    have hk := h k (Nat.lt_succ_self k)
    rw [ldf_succ, ldf_succ, Int.mul_add]
    split
    · omega
    · omega
theorem ldf_top {a : Nat → Nat} {w : Nat → Int} {b : Nat} {D : Int} : ∀ {k : Nat}, (∀ i, i < k → a i = b → w i ≤ D) → ldf a w k b ≤ D * ldf a (fun _ => 1) k b
  | 0, _ => by simp [ldf, sm]
  | k + 1, h => by
    have ih := ldf_top (fun i hi => h i (Nat.lt_succ_of_lt hi))
    rw [ldf_succ, ldf_succ, Int.mul_add]
    split
    · next e => have := h k (Nat.lt_succ_self k) e; omega
    · omega
/-- One thing of another size. -/
theorem ldf_swap {a : Nat → Nat} {w : Nat → Int} {b i : Nat} {t : Int} (ai : a i = b) : ∀ {k : Nat}, i < k → ldf a w k b = ldf a (fun j => if j = i then t else w j) k b + (w i - t)
  | 0, h => by omega
  | k + 1, h => by
    rw [ldf_succ, ldf_succ]
    by_cases e : i = k
    · subst e
      have g : ldf a (fun j => if j = i then t else w j) i b = ldf a w i b := sm_congr fun j hj => by
        by_cases c : a j = b
        · rw [if_pos c, if_pos c]; (try dsimp only); rw [if_neg (by omega)]
        · rw [if_neg c, if_neg c]
      rw [if_pos ai, if_pos ai, g]; (try dsimp only); rw [if_pos rfl]; omega
    · rw [ldf_swap (t := t) ai (show i < k by omega)]
      by_cases c : a k = b
      · rw [if_pos c, if_pos c]; (try dsimp only); rw [if_neg (by omega)]; omega
      · rw [if_neg c, if_neg c]; omega
theorem ldf_congr {a : Nat → Nat} {v w : Nat → Int} {k b : Nat} (h : ∀ i, i < k → a i = b → v i = w i) : ldf a v k b = ldf a w k b := sm_congr fun i hi => by
  by_cases c : a i = b
  · rw [if_pos c, if_pos c, h i hi c]
  · rw [if_neg c, if_neg c]
theorem ldf_le {a : Nat → Nat} {v w : Nat → Int} {k b : Nat} (h : ∀ i, i < k → v i ≤ w i) : ldf a v k b ≤ ldf a w k b := sm_le fun i hi => by
  have := h i hi
  split <;> omega
/-- .. in another order. -/
theorem ldf_ord {n : Nat} {o : Nat → Nat} (ho : Ord n o) (E : Nat → Nat) (T : Nat → Int) (b : Nat) : ldf (fun i => E (o i)) (fun i => T (o i)) n b = ldf E T n b := ho.sum fun i => if E i = b then T i else 0

/-- Graham: longest first is within (4m - 1)/3m of any assignment. -/
theorem lpt {m n : Nat} {T : Nat → Int} {o : Nat → Nat} {a E : Nat → Nat} {f g : Int} (m1 : 1 ≤ m) (m4 : m ≤ 4) (hT : ∀ i, i < n → 0 < T i) (ho : Ord n o) (hs : ∀ i j, i < j → j < n → T (o j) ≤ T (o i)) (ha : ∀ i, i < n → a i < m)
    (hmin : ∀ k, k < n → ∀ b, b < m → ldf a (fun i => T (o i)) k (a k) ≤ ldf a (fun i => T (o i)) k b) (hE : ∀ i, i < n → E i < m) (f0 : 0 ≤ f) (hf : ∀ b, b < m → ldf E T n b ≤ f)
    (hg : g = 0 ∨ ∃ b, b < m ∧ ldf a (fun i => T (o i)) n b = g) : 3 * (m : Int) * g ≤ (4 * (m : Int) - 1) * f := by
  have fin_ : g ≤ f → 3 * (m : Int) * g ≤ (4 * (m : Int) - 1) * f := fun h => by
    have : m = 1 ∨ m = 2 ∨ m = 3 ∨ m = 4 := by omega
    rcases this with rfl | rfl | rfl | rfl <;> simp <;> omega
  by_cases gf : g ≤ f
  · exact fin_ gf
  obtain ⟨b, bm, hb⟩ : ∃ b, b < m ∧ ldf a (fun i => T (o i)) n b = g := by
    rcases hg with h | h
    · omega
    · exact h
  let W : Nat → Int := fun i => T (o i)
  have hW : ∀ i, i < n → 0 < W i := fun i hi => hT _ (ho.lt i hi)
  -- the last thing that went into b
  obtain ⟨k, kn, ak, last⟩ : ∃ k, k < n ∧ a k = b ∧ ∀ j, k < j → j < n → ¬ a j = b := by
    refine last_of (n := n) (fun k => a k = b) ?_
    apply Classical.byContradiction
    intro no
    have : ldf a W n b ≤ 0 * ldf a (fun _ => 1) n b := ldf_top fun i hi e => absurd ⟨i, hi, e⟩ no
    have hb : ldf a W n b = g := hb
    omega
  obtain ⟨t, ht⟩ : ∃ t, t = W k := ⟨_, rfl⟩
  have t0 : 0 < t := by rw [ht]; exact hW k kn
  have gk : ldf a W k b + t = g := by
    have up : ∀ j, k < j → j ≤ n → ldf a W j b = ldf a W k b + t := by
      intro j
      induction j with
      | zero => intro h; omega
      | succ j ih =>
        intro h1 h2
        rw [ldf_succ]
        by_cases e : j = k
        · subst e; rw [if_pos ak, ht]
        · rw [ih (by omega) (by omega), if_neg (last j (by omega) (by omega))]; omega
    rw [← up n kn (Nat.le_refl n)]; exact hb
  have low : ∀ c, c < m → g - t ≤ ldf a W k c := fun c hc => by
    have := hmin k kn c hc
    rw [ak] at this
    have e : ldf a (fun i => T (o i)) k b = ldf a W k b := rfl
    have e' : ldf a (fun i => T (o i)) k c = ldf a W k c := rfl
    omega
  have big : ∀ i, i ≤ k → t ≤ W i := fun i hi => by
    by_cases e : i = k
    · rw [e, ht]; exact Int.le_refl _
    · rw [ht]; exact hs i k (by omega) kn
  -- the other assignment, told by the order
  let F : Nat → Nat := fun i => E (o i)
  have hF : ∀ i, i < n → F i < m := fun i hi => hE _ (ho.lt i hi)
  have lF : ∀ c, c < m → ldf F W (k + 1) c ≤ f := fun c hc => by
    have h1 : ldf F W n c = ldf E T n c := ldf_ord ho E T c
    have h2 := ldf_mono (a := F) (b := c) (fun i hi => Int.le_of_lt (hW i hi)) (show k + 1 ≤ n by omega)
    have := hf c hc
    omega
  by_cases c3 : 3 * t ≤ f
  · -- a small last thing: by the sums
    have s1 : sm (fun _ => g - t) m ≤ sm (fun c => ldf a W k c) m := sm_le fun c hc => low c hc
    rw [ldf_all (fun i hi => ha i (by omega))] at s1
    have s2 : sm (fun c => ldf F W (k + 1) c) m ≤ sm (fun _ => f) m := sm_le fun c hc => lF c hc
    rw [ldf_all (fun i hi => hF i (by omega))] at s2
    simp only [sm] at s2
    rw [← ht] at s2
    have : m = 1 ∨ m = 2 ∨ m = 3 ∨ m = 4 := by omega
    rcases this with rfl | rfl | rfl | rfl <;> simp [sm] at s1 s2 ⊢ <;> omega
  · -- a big one: by counting
    exfalso
    obtain ⟨D, hD⟩ : ∃ D, D = f - t := ⟨_, rfl⟩
    have D0 : 0 ≤ D := by
      have h1 : W k ≤ ldf F W (k + 1) (F k) := by
        rw [ldf_succ, if_pos rfl]
        have := ldf_nonneg (a := F) (b := F k) (k := k) (fun i hi => Int.le_of_lt (hW i (by omega)))
        omega
      have := lF (F k) (hF k kn)
      omega
    let V : Nat → Int := fun i => if D < W i then 1 else 0
    have V0 : ∀ i, 0 ≤ V i ∧ V i ≤ 1 := fun i => by
      show 0 ≤ (if D < W i then (1 : Int) else 0) ∧ (if D < W i then (1 : Int) else 0) ≤ 1
      split <;> omega
    have some_ : ∀ (q : Nat → Nat) (K c : Nat), 0 < ldf q V K c → ∃ i, i < K ∧ q i = c ∧ D < W i := fun q K c h => by
      apply Classical.byContradiction
      intro no
      have : ldf q V K c ≤ 0 * ldf q (fun _ => 1) K c := ldf_top fun i hi e => by
        show (if D < W i then (1 : Int) else 0) ≤ 0
        rw [if_neg (fun h => no ⟨i, hi, e, h⟩)]; exact Int.le_refl _
      omega
    have cntv : ∀ (q : Nat → Nat) (K c : Nat), ldf q V K c ≤ ldf q (fun _ => 1) K c := fun q K c => ldf_le fun i _ => (V0 i).2
    -- the other assignment: a big thing is alone, else there are two at most
    have up2 : ∀ c, c < m → ldf F (fun _ => 1) (k + 1) c + ldf F V (k + 1) c ≤ 2 := by
      intro c hc
      have h1 := lF c hc
      by_cases v : 0 < ldf F V (k + 1) c
      · obtain ⟨i, hi, qi, wi⟩ := some_ F (k + 1) c v
        have e := ldf_swap (w := W) (t := t) qi hi
        have h2 : t * ldf F (fun _ => 1) (k + 1) c ≤ ldf F (fun j => if j = i then t else W j) (k + 1) c := ldf_cnt fun j hj => by
          (try dsimp only)
          split
          · exact Int.le_refl _
          · exact big j (by omega)
        have h3 := cntv F (k + 1) c
        have h4 : ¬ 2 ≤ ldf F (fun _ => 1) (k + 1) c := fun h => by
          have : t * 2 ≤ t * ldf F (fun _ => 1) (k + 1) c := Int.mul_le_mul_of_nonneg_left h (by omega)
          omega
        omega
      · have h2 : t * ldf F (fun _ => 1) (k + 1) c ≤ ldf F W (k + 1) c := ldf_cnt fun j hj => big j (by omega)
        have h4 : ¬ 3 ≤ ldf F (fun _ => 1) (k + 1) c := fun h => by
          have : t * 3 ≤ t * ldf F (fun _ => 1) (k + 1) c := Int.mul_le_mul_of_nonneg_left h (by omega)
          omega
        omega
    -- longest first: two on each, or a big one
    have lo2 : ∀ c, c < m → 2 ≤ ldf a (fun _ => 1) k c + ldf a V k c := by
      intro c hc
      have h1 := low c hc
      have h3 := cntv a k c
      by_cases v : 0 < ldf a V k c
      · omega
      · have h2 : ldf a W k c ≤ D * ldf a (fun _ => 1) k c := ldf_top fun i hi e => by
          apply Classical.byContradiction
          intro n2
          have hv : ldf a V k c = ldf a (fun j => if j = i then 0 else V j) k c + (V i - 0) := ldf_swap e hi
          have h5 := ldf_nonneg (a := a) (w := fun j => if j = i then 0 else V j) (b := c) (k := k) (fun j _ => by
            (try dsimp only)
            split
            · exact Int.le_refl _
            · exact (V0 j).1)
          have h6 : V i = 1 := if_pos (by omega)
          omega
        have h4 : 0 ≤ ldf a (fun _ => 1) k c := ldf_nonneg fun _ _ => by omega
        have h7 : 0 ≤ ldf a V k c := ldf_nonneg fun i _ => (V0 i).1
        by_cases c0 : ldf a (fun _ => 1) k c = 0
        · rw [c0] at h2; omega
        · by_cases c1 : ldf a (fun _ => 1) k c = 1
          · rw [c1] at h2; omega
          · omega
    have t1 := sm_le (n := m) up2
    have t2 := sm_le (n := m) lo2
    have a1 := sm_add (fun c => ldf F (fun _ => 1) (k + 1) c) (fun c => ldf F V (k + 1) c) m
    have a2 := sm_add (fun c => ldf a (fun _ => 1) k c) (fun c => ldf a V k c) m
    rw [ldf_all (fun i hi => hF i (by omega)), ldf_all (fun i hi => hF i (by omega))] at a1
    rw [ldf_all (fun i hi => ha i (by omega)), ldf_all (fun i hi => ha i (by omega))] at a2
    simp only [sm] at a1
    have := (V0 k).1
    omega
/-- The greatest of the first m, and 0. -/
def mx (s : Nat → Int) : Nat → Int
  | 0 => 0
  | k + 1 => max (mx s k) (s k)
theorem mx_le {s : Nat → Int} {X : Int} : ∀ {m : Nat}, mx s m ≤ X ↔ 0 ≤ X ∧ ∀ b, b < m → s b ≤ X
  | 0 => ⟨fun h => ⟨h, fun b hb => by omega⟩, fun h => h.1⟩
  | m + 1 => by
    have ih := mx_le (s := s) (X := X) (m := m)
    constructor
    · intro h
      have h : max (mx s m) (s m) ≤ X := h
      have h1 := ih.1 (by omega)
      refine ⟨h1.1, fun b hb => ?_⟩
      by_cases e : b = m
      · subst e; omega
      · exact h1.2 b (by omega)
    · intro h
      show max (mx s m) (s m) ≤ X
      have h1 := ih.2 ⟨h.1, fun b hb => h.2 b (by omega)⟩
      have := h.2 m (by omega)
      omega
theorem mx_ge {s : Nat → Int} {m b : Nat} (h : b < m) : s b ≤ mx s m := (mx_le.1 (Int.le_refl (mx s m))).2 b h
theorem mx_nonneg (s : Nat → Int) (m : Nat) : 0 ≤ mx s m := (mx_le.1 (Int.le_refl (mx s m))).1
theorem mx_at (s : Nat → Int) : ∀ m, mx s m = 0 ∨ ∃ b, b < m ∧ s b = mx s m
  | 0 => .inl rfl
  | m + 1 => by
    show max (mx s m) (s m) = 0 ∨ ∃ b, b < m + 1 ∧ s b = max (mx s m) (s m)
    by_cases c : mx s m ≤ s m
    · exact .inr ⟨m, by omega, by omega⟩
    · rcases mx_at s m with h | ⟨b, h, e⟩
      · exact .inl (by omega)
      · exact .inr ⟨b, by omega, by omega⟩
theorem mx_tr (a c : Nat) (s : Nat → Int) {m : Nat} (ha : a < m) (hc : c < m) : mx (fun j => s (tr a c j)) m = mx s m := by
  apply Int.le_antisymm
  · rw [mx_le]
    exact ⟨mx_nonneg s m, fun b hb => mx_ge (tr_lt ha hc hb)⟩
  · rw [mx_le]
    refine ⟨mx_nonneg _ m, fun b hb => ?_⟩
    have := mx_ge (s := fun j => s (tr a c j)) (tr_lt ha hc hb)
    simp only [tr_tr] at this
    exact this
theorem mx_up {s : Nat → Int} {m b : Nat} {y : Int} (hb : b < m) (h : s b ≤ y) : mx (up s b y) m = max (mx s m) y := by
  apply Int.le_antisymm
  · rw [mx_le]
    have := mx_nonneg s m
    refine ⟨by omega, fun j hj => ?_⟩
    unfold up
    split
    · omega
    · have := mx_ge (s := s) hj; omega
  · have h1 : mx s m ≤ mx (up s b y) m := by
      rw [mx_le]
      refine ⟨mx_nonneg _ m, fun j hj => ?_⟩
      have := mx_ge (s := up s b y) hj
      by_cases e : j = b
      · subst e; rw [up_same] at this; omega
      · rw [up_ne s y e] at this; exact this
    have h2 := mx_ge (s := up s b y) hb
    rw [up_same] at h2
    omega
theorem mx_congr {s r : Nat → Int} {m : Nat} (h : ∀ b, b < m → s b = r b) : mx s m = mx r m := by
  induction m with
  | zero => rfl
  | succ m ih => show max _ _ = max _ _; rw [ih fun b hb => h b (by omega), h m (by omega)]
theorem mx_more (s : Nat → Int) (m : Nat) : mx s m ≤ mx s (m + 1) := by show mx s m ≤ max _ _; omega

/-- A work given to a press. -/
def addS (s t : Int) : Option Int := if 0 ≤ t then some (s + t) else none
theorem addS_at {s t : Int} (h : 0 ≤ t) : addS s t = some (s + t) := if_pos h
theorem addS_mono (m : Nat) : ∀ (s : Nat → Int) b y t, addS (s b) t = some y → b < m → mx s m ≤ mx (up s b y) m := fun s b y t e hb => by
  unfold addS at e
  split at e
  · simp at e
    rw [mx_up hb (by omega)]; omega
  · cases e
/-- What an assignment loads, by its numbers. -/
theorem fin_ldf : ∀ {ts : List Int} {s : Nat → Int} {E : List Nat}, E.length = ts.length → (∀ t ∈ ts, 0 ≤ t) → fin addS ts s E = some fun b => s b + ldf (fun i => E.getD i 0) (fun i => ts.getD i 0) ts.length b
  | [], s, [], _, _ => by simp [fin, ldf, sm]
  | [], s, b :: E, h, _ => by simp at h
  | t :: ts, s, [], h, _ => by simp at h
  | t :: ts, s, c :: E, h, ht => by
    have t0 := ht t (by simp)
    simp only [fin, addS_at t0]
    rw [fin_ldf (by simpa using h) (fun x hx => ht x (List.mem_cons_of_mem _ hx))]
    congr 1
    funext b
    have front : ∀ (F : Nat → Int) (n : Nat), sm F (n + 1) = F 0 + sm (fun i => F (i + 1)) n := fun F n => by
      induction n with
      | zero => simp [sm]
      | succ n ih => rw [sm, ih]; simp only [sm]; omega
    have e : ldf (fun i => (c :: E).getD i 0) (fun i => (t :: ts).getD i 0) (t :: ts).length b = (if c = b then t else 0) + ldf (fun i => E.getD i 0) (fun i => ts.getD i 0) ts.length b := by
      unfold ldf
      rw [List.length_cons, front]
      simp
    rw [e]
    unfold up
    by_cases c1 : b = c
    · subst c1; rw [if_pos rfl, if_pos rfl]; omega
    · rw [if_neg c1, if_neg (fun h => c1 h.symm)]; omega
end Go.Proofs.Ythbgeikdamajlab.Sea
