/- Plain: sums over an order, the makespan as the greatest of the sums, Johnson's rule. -/
set_option linter.unusedVariables false
namespace Go.Proofs.Ythbgeikdamajlab.Prs

def sm (F : Nat → Int) : Nat → Int
  | 0 => 0
  | k + 1 => sm F k + F k
theorem sm_congr {F G : Nat → Int} {n : Nat} (h : ∀ k, k < n → F k = G k) : sm F n = sm G n := by
  induction n with
  | zero => rfl
  | succ n ih => simp only [sm]; rw [ih fun k hk => h k (by omega), h n (by omega)]
theorem sm_le {F G : Nat → Int} {n : Nat} (h : ∀ k, k < n → F k ≤ G k) : sm F n ≤ sm G n := by
  induction n with
  | zero => exact Int.le_refl _
  | succ n ih => simp only [sm]; have := ih fun k hk => h k (by omega); have := h n (by omega); omega
theorem sm_add (F G : Nat → Int) (n : Nat) : sm (fun k => F k + G k) n = sm F n + sm G n := by
  induction n with
  | zero => rfl
  | succ n ih => simp only [sm]; omega
theorem sm_nonneg {F : Nat → Int} {n : Nat} (h : ∀ k, k < n → 0 ≤ F k) : 0 ≤ sm F n := by
  induction n with
  | zero => exact Int.le_refl _
  | succ n ih => simp only [sm]; have := ih fun k hk => h k (by omega); have := h n (by omega); omega
theorem sm_mono {F : Nat → Int} {m n : Nat} (h : ∀ k, k < n → 0 ≤ F k) (hm : m ≤ n) : sm F m ≤ sm F n := by
  induction n with
  | zero => have : m = 0 := by omega
            subst this; exact Int.le_refl _
  | succ n ih =>
    by_cases c : m = n + 1
    · subst c; exact Int.le_refl _
    · have := ih (fun k hk => h k (by omega)) (by omega); simp only [sm]; have := h n (by omega); omega
theorem sm_top {F : Nat → Int} {B : Int} {n : Nat} (h : ∀ k, k < n → F k ≤ B) (hB : 0 ≤ B) : sm F n ≤ n * B := by
  induction n with
  | zero => simp [sm]
  | succ n ih => simp only [sm]; have := ih fun k hk => h k (by omega); have := h n (by omega); rw [show ((n + 1 : Nat) : Int) * B = n * B + B by rw [Int.natCast_succ, Int.add_mul]; omega]; omega
/-- A sum up to k, as one over all. -/
theorem sm_upto (F : Nat → Int) {k n : Nat} (h : k ≤ n) : sm F k = sm (fun j => if j < k then F j else 0) n := by
  induction n with
  | zero => have : k = 0 := by omega
            subst this; rfl
  | succ n ih =>
    simp only [sm]
    by_cases c : k = n + 1
    · subst c
      simp only [sm, if_pos (Nat.lt_succ_self n)]
      congr 1
      exact sm_congr fun j hj => by rw [if_pos (by omega)]
    · rw [← ih (by omega), if_neg (by omega)]; omega
theorem sm_from (F : Nat → Int) {k n : Nat} (h : k ≤ n) : sm F n - sm F k = sm (fun j => if k ≤ j then F j else 0) n := by
  rw [sm_upto F h]
  have := sm_add (fun j => if j < k then F j else 0) (fun j => if k ≤ j then F j else 0) n
  have e : sm (fun j => (if j < k then F j else 0) + if k ≤ j then F j else 0) n = sm F n := sm_congr fun j hj => by
    by_cases c : j < k
    · rw [if_pos c, if_neg (by omega)]; omega
    · rw [if_neg c, if_pos (by omega)]; omega
  omega

/-- An order of the numbers below n. -/
structure Ord (n : Nat) (o : Nat → Nat) : Prop where
  lt : ∀ k, k < n → o k < n
  inj : ∀ i j, i < n → j < n → o i = o j → i = j
theorem Ord.onto {n : Nat} : ∀ {o : Nat → Nat}, Ord n o → ∀ v, v < n → ∃ k, k < n ∧ o k = v := by
  induction n with
  | zero => intro o h v hv; omega
  | succ n ih =>
    intro o h v hv
    -- what is at the end goes into the place of n
    let o' : Nat → Nat := fun k => if o k = n then o n else o k
    have h' : Ord n o' := ⟨fun k hk => by
        show (if o k = n then o n else o k) < n
        have l1 := h.lt k (by omega)
        have l2 := h.lt n (by omega)
        by_cases c : o k = n
        · rw [if_pos c]
          by_cases c2 : o n = n
          · have := h.inj k n (by omega) (by omega) (by omega); omega
          · omega
        · rw [if_neg c]; omega, fun i j hi hj e => by
        have e : (if o i = n then o n else o i) = (if o j = n then o n else o j) := e
        by_cases ci : o i = n <;> by_cases cj : o j = n
        · exact h.inj i j (by omega) (by omega) (by omega)
        · rw [if_pos ci, if_neg cj] at e; have := h.inj n j (by omega) (by omega) e; omega
        · rw [if_neg ci, if_pos cj] at e; have := h.inj i n (by omega) (by omega) e; omega
        · rw [if_neg ci, if_neg cj] at e; exact h.inj i j (by omega) (by omega) e⟩
    by_cases c : v = o n
    · exact ⟨n, by omega, c.symm⟩
    · by_cases c2 : v = n
      · by_cases c3 : o n = n
        · omega
        · obtain ⟨k, hk, e⟩ := ih h' (o n) (by have := h.lt n (by omega); omega)
          have e : (if o k = n then o n else o k) = o n := e
          by_cases c4 : o k = n
          · exact ⟨k, by omega, by omega⟩
          · rw [if_neg c4] at e; have := h.inj k n (by omega) (by omega) e; omega
      · obtain ⟨k, hk, e⟩ := ih h' v (by omega)
        have e : (if o k = n then o n else o k) = v := e
        by_cases c4 : o k = n
        · rw [if_pos c4] at e; omega
        · rw [if_neg c4] at e; exact ⟨k, by omega, e⟩
/-- A sum in another order. -/
theorem Ord.sum {n : Nat} : ∀ {o : Nat → Nat} (F : Nat → Int), Ord n o → sm (fun k => F (o k)) n = sm F n := by
  induction n with
  | zero => intro o F h; rfl
  | succ n ih =>
    intro o F h
    let o' : Nat → Nat := fun k => if o k = n then o n else o k
    by_cases c : o n = n
    · have h' : Ord n o := ⟨fun k hk => by
          have := h.lt k (by omega)
          by_cases e : o k = n
          · have := h.inj k n (by omega) (by omega) (by omega); omega
          · omega, fun i j hi hj e => h.inj i j (by omega) (by omega) e⟩
      simp only [sm]; rw [ih F h', c]
    · obtain ⟨p, hp, ep⟩ := h.onto n (by omega)
      have pn : p < n := by
        by_cases e : p = n
        · subst e; omega
        · omega
      have h' : Ord n o' := ⟨fun k hk => by
          show (if o k = n then o n else o k) < n
          have l1 := h.lt k (by omega)
          have l2 := h.lt n (by omega)
          by_cases c : o k = n
          · rw [if_pos c]; omega
          · rw [if_neg c]; omega, fun i j hi hj e => by
          have e : (if o i = n then o n else o i) = (if o j = n then o n else o j) := e
          by_cases ci : o i = n <;> by_cases cj : o j = n
          · exact h.inj i j (by omega) (by omega) (by omega)
          · rw [if_pos ci, if_neg cj] at e; have := h.inj n j (by omega) (by omega) e; omega
          · rw [if_neg ci, if_pos cj] at e; have := h.inj i n (by omega) (by omega) e; omega
          · rw [if_neg ci, if_neg cj] at e; exact h.inj i j (by omega) (by omega) e⟩
      have r := ih F h'
      -- the two sums part at p alone
      have key : ∀ m, m ≤ n → sm (fun k => F (o k)) m + (if p < m then F (o n) - F n else 0) = sm (fun k => F (o' k)) m := by
        intro m
        induction m with
        | zero => intro _; simp [sm]
        | succ m ihm =>
          intro hm
          have := ihm (by omega)
          simp only [sm]
          show sm (fun k => F (o k)) m + F (o m) + _ = sm (fun k => F (o' k)) m + F (if o m = n then o n else o m)
          by_cases c1 : m = p
          · subst c1
            rw [if_pos (by omega), if_pos ep]
            rw [if_neg (by omega)] at this
            rw [ep]; omega
          · rw [if_neg (show ¬ o m = n from fun e => c1 (h.inj m p (by omega) (by omega) (by omega)))]
            by_cases c2 : p < m
            · rw [if_pos c2] at this; rw [if_pos (by omega)]; omega
            · rw [if_neg c2] at this; rw [if_neg (by omega)]; omega
      have k1 := key n (Nat.le_refl n)
      rw [if_pos pn] at k1
      simp only [sm]
      omega

/-- The press's minute behind k dumps, the strapper's. -/
def mks (P S : Nat → Int) (o : Nat → Nat) : Nat → Int
  | 0 => 0
  | k + 1 => max (sm (fun j => P (o j)) (k + 1)) (mks P S o k) + S (o k)
/-- The sum at a position. -/
def vl (P S : Nat → Int) (o : Nat → Nat) (n k : Nat) : Int := sm (fun j => P (o j)) (k + 1) + (sm (fun j => S (o j)) n - sm (fun j => S (o j)) k)
theorem vl_succ (P S : Nat → Int) (o : Nat → Nat) (n k : Nat) : vl P S o (n + 1) k = vl P S o n k + S (o n) := by unfold vl; simp only [sm]; omega
theorem vl_last (P S : Nat → Int) (o : Nat → Nat) (n : Nat) : vl P S o (n + 1) n = sm (fun j => P (o j)) (n + 1) + S (o n) := by unfold vl; simp only [sm]; omega
theorem mks_ge (P S : Nat → Int) (o : Nat → Nat) : ∀ n k, k < n → vl P S o n k ≤ mks P S o n
  | 0, k, h => by omega
  | n + 1, k, h => by
    unfold mks
    by_cases c : k = n
    · subst c; rw [vl_last]; omega
    · rw [vl_succ]; have := mks_ge P S o n k (by omega); omega
theorem mks_at (P S : Nat → Int) (o : Nat → Nat) (hP : ∀ k, 0 ≤ P (o k)) : ∀ n, 0 < n → ∃ k, k < n ∧ vl P S o n k = mks P S o n
  | 0, h => by omega
  | n + 1, _ => by
    have hT : 0 ≤ sm (fun j => P (o j)) (n + 1) := sm_nonneg fun k _ => hP k
    by_cases c : n = 0
    · subst c; exact ⟨0, by omega, by rw [vl_last]; simp only [mks] at *; omega⟩
    · obtain ⟨k, hk, e⟩ := mks_at P S o hP n (by omega)
      by_cases d : sm (fun j => P (o j)) (n + 1) ≤ mks P S o n
      · exact ⟨k, by omega, by rw [vl_succ, e]; simp only [mks]; omega⟩
      · exact ⟨n, by omega, by rw [vl_last]; simp only [mks]; omega⟩
theorem mks_nonneg (P S : Nat → Int) (o : Nat → Nat) (hP : ∀ k, 0 ≤ P (o k)) (hS : ∀ k, 0 ≤ S (o k)) : ∀ n, 0 ≤ mks P S o n
  | 0 => Int.le_refl _
  | n + 1 => by have := mks_nonneg P S o hP hS n; have := hS n; simp only [mks]; omega

/-- Johnson's rule: x goes before y. -/
def Jo (P S : Nat → Int) (x y : Nat) : Prop :=
  if P x ≤ S x then (if P y ≤ S y then P x ≤ P y else True) else (if P y ≤ S y then False else S y ≤ S x)
/-- What a number adds to the sum at its place. -/
theorem vl_parts (P S : Nat → Int) {n : Nat} {o : Nat → Nat} (h : Ord n o) (pos : Nat → Nat) (hpos : ∀ k, k < n → pos (o k) = k) {k : Nat} (hk : k < n) :
    vl P S o n k = sm (fun i => (if pos i ≤ k then P i else 0) + (if k ≤ pos i then S i else 0)) n := by
  rw [← h.sum]
  unfold vl
  rw [sm_from _ (by omega), sm_upto _ (show k + 1 ≤ n by omega), ← sm_add]
  refine sm_congr fun j hj => ?_
  rw [hpos j hj]
  congr 1
  by_cases c : j ≤ k
  · rw [if_pos (by omega), if_pos c]
  · rw [if_neg (by omega), if_neg c]
theorem Ord.pos {n : Nat} {o : Nat → Nat} (h : Ord n o) : ∃ pos : Nat → Nat, (∀ k, k < n → pos (o k) = k) ∧ (∀ v, v < n → pos v < n ∧ o (pos v) = v) := by
  refine ⟨fun v => if hv : v < n then (h.onto v hv).choose else 0, fun k hk => ?_, fun v hv => ?_⟩
  · have hl := h.lt k hk
    simp only [dif_pos hl]
    have := (h.onto (o k) hl).choose_spec
    exact h.inj _ _ this.1 hk this.2
  · simp only [dif_pos hv]
    exact (h.onto v hv).choose_spec
/-- The first of a set of places. -/
theorem first_of {n : Nat} (p : Nat → Prop) (h : ∃ k, k < n ∧ p k) : ∃ k, k < n ∧ p k ∧ ∀ j, j < k → ¬ p j := by
  induction n with
  | zero => obtain ⟨k, hk, _⟩ := h; omega
  | succ n ih =>
    by_cases c : ∃ k, k < n ∧ p k
    · obtain ⟨k, hk, pk, l⟩ := ih c; exact ⟨k, by omega, pk, l⟩
    · obtain ⟨k, hk, pk⟩ := h
      have : k = n := by
        by_cases e : k = n
        · exact e
        · exact absurd ⟨k, by omega, pk⟩ c
      subst this
      exact ⟨k, hk, pk, fun j hj pj => c ⟨j, hj, pj⟩⟩
theorem last_of {n : Nat} (p : Nat → Prop) (h : ∃ k, k < n ∧ p k) : ∃ k, k < n ∧ p k ∧ ∀ j, k < j → j < n → ¬ p j := by
  induction n with
  | zero => obtain ⟨k, hk, _⟩ := h; omega
  | succ n ih =>
    by_cases c : p n
    · exact ⟨n, by omega, c, fun j h1 h2 => by omega⟩
    · obtain ⟨k, hk, pk⟩ := h
      have hn : k < n := by
        by_cases e : k = n
        · subst e; exact absurd pk c
        · omega
      obtain ⟨m, hm, pm, l⟩ := ih ⟨k, hn, pk⟩
      refine ⟨m, by omega, pm, fun j h1 h2 => ?_⟩
      by_cases e : j = n
      · subst e; exact c
      · exact l j h1 (by omega)
/-- Johnson: in an order by the rule the makespan is least. -/
theorem johnson (P S : Nat → Int) {n : Nat} {j o : Nat → Nat} (hP : ∀ i, 0 ≤ P i) (hS : ∀ i, 0 ≤ S i) (hj : Ord n j) (ho : Ord n o) (hr : ∀ x y, x < y → y < n → Jo P S (j x) (j y)) : mks P S j n ≤ mks P S o n := by
  by_cases n0 : n = 0
  · subst n0; exact Int.le_refl _
  obtain ⟨k, hk, ek⟩ := mks_at P S j (fun k => hP _) n (by omega)
  obtain ⟨pj, hpj, qj⟩ := hj.pos
  obtain ⟨po, hpo, qo⟩ := ho.pos
  have enough : ∀ m, m < n → vl P S j n k ≤ vl P S o n m → mks P S j n ≤ mks P S o n := fun m hm h => by have := mks_ge P S o n m hm; omega
  obtain ⟨x, hx⟩ : ∃ x, x = j k := ⟨_, rfl⟩
  have xn : x < n := by rw [hx]; exact hj.lt k hk
  have pjx : pj x = k := by rw [hx]; exact hpj k hk
  -- by the rule, told by places
  have rule : ∀ u v, u < n → v < n → pj u < pj v → Jo P S u v := fun u v hu hv h => by
    have := hr (pj u) (pj v) h (qj v hv).1
    rw [(qj u hu).2, (qj v hv).2] at this; exact this
  by_cases g : P x ≤ S x
  · -- the first in o among those of the first kind from x on
    obtain ⟨m, hm, ⟨g1, g2⟩, hf⟩ := first_of (n := n) (fun m => P (o m) ≤ S (o m) ∧ k ≤ pj (o m)) ⟨po x, (qo x xn).1, by rw [(qo x xn).2]; exact ⟨g, by omega⟩⟩
    refine enough m hm ?_
    rw [vl_parts P S hj pj hpj hk, vl_parts P S ho po hpo hm]
    obtain ⟨y, hy⟩ : ∃ y, y = o m := ⟨_, rfl⟩
    have yn : y < n := by rw [hy]; exact ho.lt m hm
    have poy : po y = m := by rw [hy]; exact hpo m hm
    rw [← hy] at g1 g2
    have ay : P x ≤ P y := by
      by_cases c : pj y = k
      · have : y = x := by rw [hx, ← c, (qj y yn).2]
        rw [this]; exact Int.le_refl _
      · have := rule x y xn yn (by omega)
        unfold Jo at this; rw [if_pos g, if_pos g1] at this; exact this
    by_cases xy : x = y
    · refine sm_le fun i hi => ?_
      have := hP i; have := hS i
      by_cases c1 : pj i < k
      · rw [if_pos (by omega), if_neg (by omega)]
        have := rule i x hi xn (by omega)
        unfold Jo at this
        have gi : P i ≤ S i := by
          by_cases c : P i ≤ S i
          · exact c
          · simp [if_neg c, g] at this
        by_cases c2 : po i ≤ m
        · rw [if_pos c2]; split <;> omega
        · rw [if_neg c2, if_pos (by omega)]; omega
      · by_cases c2 : pj i = k
        · have ix : i = x := by rw [hx, ← c2, (qj i hi).2]
          subst ix
          rw [if_pos (by omega), if_pos (by omega), if_pos (by rw [xy]; omega), if_pos (by rw [xy]; omega)]; exact Int.le_refl _
        · rw [if_neg (by omega), if_pos (by omega)]
          by_cases gi : P i ≤ S i
          · have : m ≤ po i := by
              apply Classical.byContradiction; intro h
              exact hf (po i) (by omega) (by rw [(qo i hi).2]; exact ⟨gi, by omega⟩)
            rw [if_pos this]; split <;> omega
          · by_cases c3 : m ≤ po i
            · rw [if_pos c3]; split <;> omega
            · rw [if_neg c3, if_pos (by omega)]; omega
    · -- x and y part: the two together
      have split2 : ∀ (F G : Nat → Int), (∀ i, i < n → i ≠ x → i ≠ y → F i ≤ G i) → F x + F y ≤ G x + G y → sm F n ≤ sm G n := fun F G h1 h2 => two_le x y xy F G n xn yn h1 h2
      refine split2 _ _ (fun i hi ix iy => ?_) ?_
      · have := hP i; have := hS i
        by_cases c1 : pj i < k
        · rw [if_pos (by omega), if_neg (by omega)]
          have := rule i x hi xn (by omega)
          unfold Jo at this
          have gi : P i ≤ S i := by
            by_cases c : P i ≤ S i
            · exact c
            · simp [if_neg c, g] at this
          by_cases c2 : po i ≤ m
          · rw [if_pos c2]; split <;> omega
          · rw [if_neg c2, if_pos (by omega)]; omega
        · by_cases c2 : pj i = k
          · exact absurd (by rw [hx, ← c2, (qj i hi).2]) ix
          · rw [if_neg (by omega), if_pos (by omega)]
            by_cases gi : P i ≤ S i
            · have : m ≤ po i := by
                apply Classical.byContradiction; intro h
                exact hf (po i) (by omega) (by rw [(qo i hi).2]; exact ⟨gi, by omega⟩)
              rw [if_pos this]; split <;> omega
            · by_cases c3 : m ≤ po i
              · rw [if_pos c3]; split <;> omega
              · rw [if_neg c3, if_pos (by omega)]; omega
      · have yk : ¬ pj y = k := fun c => xy (by rw [hx, ← c, (qj y yn).2])
        have xm : m ≤ po x := by
          apply Classical.byContradiction; intro h
          exact hf (po x) (by omega) (by rw [(qo x xn).2]; exact ⟨g, by omega⟩)
        have xm' : ¬ po x = m := fun c => xy (by rw [hy, ← c, (qo x xn).2])
        rw [if_pos (by omega), if_pos (by omega), if_neg (show ¬ pj y ≤ k by omega), if_pos (show k ≤ pj y by omega), if_neg (show ¬ po x ≤ m by omega), if_pos (show m ≤ po x by omega), if_pos (show po y ≤ m by omega), if_pos (show m ≤ po y by omega)]
        omega
  · obtain ⟨m, hm, ⟨g1, g2⟩, hf⟩ := last_of (n := n) (fun m => ¬ P (o m) ≤ S (o m) ∧ pj (o m) ≤ k) ⟨po x, (qo x xn).1, by rw [(qo x xn).2]; exact ⟨g, by omega⟩⟩
    refine enough m hm ?_
    rw [vl_parts P S hj pj hpj hk, vl_parts P S ho po hpo hm]
    obtain ⟨y, hy⟩ : ∃ y, y = o m := ⟨_, rfl⟩
    have yn : y < n := by rw [hy]; exact ho.lt m hm
    have poy : po y = m := by rw [hy]; exact hpo m hm
    rw [← hy] at g1 g2
    have by_ : S x ≤ S y := by
      by_cases c : pj y = k
      · have : y = x := by rw [hx, ← c, (qj y yn).2]
        rw [this]; exact Int.le_refl _
      · have := rule y x yn xn (by omega)
        unfold Jo at this; rw [if_neg g1, if_neg g] at this; exact this
    have rest : ∀ i, i < n → i ≠ x → i ≠ y → (if pj i ≤ k then P i else 0) + (if k ≤ pj i then S i else 0) ≤ (if po i ≤ m then P i else 0) + (if m ≤ po i then S i else 0) := fun i hi ix iy => by
      have := hP i; have := hS i
      by_cases c1 : k < pj i
      · rw [if_neg (by omega), if_pos (by omega)]
        have := rule x i xn hi (by omega)
        unfold Jo at this; rw [if_neg g] at this
        have gi : ¬ P i ≤ S i := fun c => by rw [if_pos c] at this; exact this
        by_cases c2 : m ≤ po i
        · rw [if_pos c2]; split <;> omega
        · rw [if_neg c2, if_pos (by omega)]; omega
      · by_cases c2 : pj i = k
        · exact absurd (by rw [hx, ← c2, (qj i hi).2]) ix
        · rw [if_pos (by omega), if_neg (by omega)]
          by_cases gi : P i ≤ S i
          · by_cases c3 : po i ≤ m
            · rw [if_pos c3]; split <;> omega
            · rw [if_neg c3, if_pos (by omega)]; omega
          · have : po i ≤ m := by
              apply Classical.byContradiction; intro h
              exact hf (po i) (by omega) (qo i hi).1 (by rw [(qo i hi).2]; exact ⟨gi, by omega⟩)
            rw [if_pos this]; split <;> omega
    by_cases xy : x = y
    · refine sm_le fun i hi => ?_
      by_cases ix : i = x
      · subst ix
        have pos2 : po i = m := by rw [xy]; exact poy
        rw [if_pos (by omega), if_pos (by omega), if_pos (by omega), if_pos (by omega)]; exact Int.le_refl _
      · exact rest i hi ix (by omega)
    · refine two_le x y xy _ _ n xn yn rest ?_
      have yk : ¬ pj y = k := fun c => xy (by rw [hx, ← c, (qj y yn).2])
      have xm : po x ≤ m := by
        apply Classical.byContradiction; intro h
        exact hf (po x) (by omega) (qo x xn).1 (by rw [(qo x xn).2]; exact ⟨g, by omega⟩)
      have xm' : ¬ po x = m := fun c => xy (by rw [hy, ← c, (qo x xn).2])
      rw [if_pos (by omega), if_pos (by omega), if_pos (show pj y ≤ k by omega), if_neg (show ¬ k ≤ pj y by omega), if_pos (show po x ≤ m by omega), if_neg (show ¬ m ≤ po x by omega), if_pos (show po y ≤ m by omega), if_pos (show m ≤ po y by omega)]
      omega
where
  two_le (x y : Nat) (xy : x ≠ y) (F G : Nat → Int) : ∀ n, x < n → y < n → (∀ i, i < n → i ≠ x → i ≠ y → F i ≤ G i) → F x + F y ≤ G x + G y → sm F n ≤ sm G n := by
    intro n xn yn h1 h2
    have key : ∀ m, m ≤ n → sm F m + (if x < m then G x - F x else 0) + (if y < m then G y - F y else 0) ≤ sm G m := by
      intro m
      induction m with
      | zero => intro _; simp [sm]
      | succ m ih =>
        intro hm
        have := ih (by omega)
        simp only [sm]
        by_cases a : m = x
        · subst a
          rw [if_neg (by omega)] at this; rw [if_pos (by omega)]
          by_cases c : y < m
          · rw [if_pos c] at this; rw [if_pos (by omega)]; omega
          · rw [if_neg c] at this; rw [if_neg (by omega)]; omega
        · by_cases b : m = y
          · subst b
            rw [if_neg (show ¬ m < m by omega)] at this; rw [if_pos (show m < m + 1 by omega)]
            by_cases c : x < m
            · rw [if_pos c] at this; rw [if_pos (by omega)]; omega
            · rw [if_neg c] at this; rw [if_neg (by omega)]; omega
          · have := h1 m (by omega) a b
            have e1 : (if x < m + 1 then G x - F x else 0) = if x < m then G x - F x else 0 := by
              by_cases c : x < m
              · rw [if_pos c, if_pos (by omega)]
              · rw [if_neg c, if_neg (by omega)]
            have e2 : (if y < m + 1 then G y - F y else 0) = if y < m then G y - F y else 0 := by
              by_cases c : y < m
              · rw [if_pos c, if_pos (by omega)]
              · rw [if_neg c, if_neg (by omega)]
            rw [e1, e2]; omega
    have := key n (Nat.le_refl n)
    rw [if_pos xn, if_pos yn] at this
    omega
end Go.Proofs.Ythbgeikdamajlab.Prs
