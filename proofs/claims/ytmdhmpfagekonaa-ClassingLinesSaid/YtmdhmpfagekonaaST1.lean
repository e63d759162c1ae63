/- Plain: rows told by their places, rotations, the stable sort by insertion and symmetric merges. -/
set_option linter.unusedVariables false
namespace Go.Proofs.Ytmdhmpfagekonaa.Stb

/-- A change of places within [a, b). -/
def Pm (a b : Nat) (f g : Nat → Int) : Prop := ∃ s t : Nat → Nat, (∀ k, t (s k) = k) ∧ (∀ k, s (t k) = k) ∧ (∀ k, (k < a ∨ b ≤ k) → s k = k) ∧ (∀ k, (k < a ∨ b ≤ k) → t k = k) ∧ ∀ k, g k = f (s k)
theorem Pm.refl (a b : Nat) (f : Nat → Int) : Pm a b f f := ⟨id, id, fun _ => rfl, fun _ => rfl, fun _ _ => rfl, fun _ _ => rfl, fun _ => rfl⟩
theorem Pm.mono {a b c d : Nat} {f g : Nat → Int} (h : Pm a b f g) (h1 : c ≤ a) (h2 : b ≤ d) : Pm c d f g := by
  obtain ⟨s, t, ts, st, so, to, e⟩ := h
  exact ⟨s, t, ts, st, fun k hk => so k (by omega), fun k hk => to k (by omega), e⟩
theorem Pm.trans {a b : Nat} {f g h : Nat → Int} (x : Pm a b f g) (y : Pm a b g h) : Pm a b f h := by
  obtain ⟨s, t, ts, st, so, to, e⟩ := x
  obtain ⟨s', t', ts', st', so', to', e'⟩ := y
  refine ⟨fun k => s (s' k), fun k => t' (t k), fun k => by simp only [ts, ts'], fun k => by simp only [st, st'], fun k hk => by simp only [so' k hk, so k hk], fun k hk => by simp only [to k hk, to' k hk], fun k => by rw [e', e]⟩
theorem Pm.out {a b : Nat} {f g : Nat → Int} (h : Pm a b f g) {k : Nat} (hk : k < a ∨ b ≤ k) : g k = f k := by
  obtain ⟨s, t, ts, st, so, to, e⟩ := h
  rw [e, so k hk]
theorem Pm.src {a b : Nat} {f g : Nat → Int} (h : Pm a b f g) {k : Nat} (h1 : a ≤ k) (h2 : k < b) : ∃ j, a ≤ j ∧ j < b ∧ g k = f j := by
  obtain ⟨s, t, ts, st, so, to, e⟩ := h
  refine ⟨s k, ?_, ?_, e k⟩
  · apply Classical.byContradiction; intro h
    have := to (s k) (by omega); rw [ts] at this; omega
  · apply Classical.byContradiction; intro h
    have := to (s k) (by omega); rw [ts] at this; omega
theorem Pm.inj {a b : Nat} {f g : Nat → Int} (h : Pm a b f g) (hf : ∀ i j, f i = f j → i = j) : ∀ i j, g i = g j → i = j := by
  obtain ⟨s, t, ts, st, so, to, e⟩ := h
  intro i j hij
  rw [e, e] at hij
  have := congrArg t (hf _ _ hij)
  rwa [ts, ts] at this

/-- Two places change. -/
def swp (x y : Nat) (f : Nat → Int) : Nat → Int := fun k => if k = x then f y else if k = y then f x else f k
theorem Pm.swp {a b x y : Nat} (f : Nat → Int) (hx : a ≤ x) (hx' : x < b) (hy : a ≤ y) (hy' : y < b) : Pm a b f (swp x y f) := by
  refine ⟨fun k => if k = x then y else if k = y then x else k, fun k => if k = x then y else if k = y then x else k, fun k => ?_, fun k => ?_, fun k hk => ?_, fun k hk => ?_, fun k => ?_⟩
  · dsimp only; repeat' split
    all_goals omega
  · dsimp only; repeat' split
    all_goals omega
  · dsimp only; repeat' split
    all_goals omega
  · dsimp only; repeat' split
    all_goals omega
  · unfold Stb.swp; dsimp only; repeat' split
    all_goals rfl
/-- Two ranges change. -/
def swr (x y n : Nat) (f : Nat → Int) : Nat → Int := fun k => if x ≤ k ∧ k < x + n then f (k - x + y) else if y ≤ k ∧ k < y + n then f (k - y + x) else f k
theorem swr_zero (x y : Nat) (f : Nat → Int) : swr x y 0 f = f := by
  funext k; unfold swr; repeat' split
  all_goals first | omega | rfl
theorem swr_succ {x y n : Nat} (f : Nat → Int) (h : x + n < y) : swp (x + n) (y + n) (swr x y n f) = swr x y (n + 1) f := by
  funext k; unfold swp swr; repeat' split
  all_goals first | omega | (congr 1; omega) | rfl
/-- [a, m) and [m, b) change places. -/
def rot (a m b : Nat) (f : Nat → Int) : Nat → Int := fun k => if a ≤ k ∧ k < a + (b - m) then f (k + (m - a)) else if a + (b - m) ≤ k ∧ k < b then f (k - (b - m)) else f k
theorem rot_left {a m b : Nat} (f : Nat → Int) (h2 : m ≤ b) : rot m m b f = f := by
  funext k; unfold rot; repeat' split
  all_goals first | omega | (congr 1; omega) | rfl
theorem rot_right {a m : Nat} (f : Nat → Int) (h2 : a ≤ m) : rot a m m f = f := by
  funext k; unfold rot; repeat' split
  all_goals first | omega | (congr 1; omega) | rfl
theorem rot_more {m i j : Nat} (f : Nat → Int) (hi : i ≤ m) (h : j < i) : rot (m - i + j) m (m + j) (swr (m - i) m j f) = rot (m - i) m (m + j) f := by
  funext k; unfold rot swr; repeat' split
  all_goals first | omega | (congr 1; omega) | rfl
theorem rot_less {m i j : Nat} (f : Nat → Int) (hi : i ≤ m) (h : i < j) : rot (m - i) m (m + j - i) (swr (m - i) (m + j - i) i f) = rot (m - i) m (m + j) f := by
  funext k; unfold rot swr; repeat' split
  all_goals first | omega | (congr 1; omega) | rfl
theorem rot_same {m i : Nat} (f : Nat → Int) (hi : i ≤ m) : swr (m - i) m i f = rot (m - i) m (m + i) f := by
  funext k; unfold rot swr; repeat' split
  all_goals first | omega | (congr 1; omega) | rfl
theorem Pm.rot {a m b : Nat} (f : Nat → Int) (h1 : a ≤ m) (h2 : m ≤ b) : Pm a b f (rot a m b f) := by
  refine ⟨fun k => if a ≤ k ∧ k < a + (b - m) then k + (m - a) else if a + (b - m) ≤ k ∧ k < b then k - (b - m) else k, fun k => if a ≤ k ∧ k < m then k + (b - m) else if m ≤ k ∧ k < b then k - (m - a) else k, fun k => ?_, fun k => ?_, fun k hk => ?_, fun k hk => ?_, fun k => ?_⟩
  · dsimp only; repeat' split
    all_goals omega
  · dsimp only; repeat' split
    all_goals omega
  · dsimp only; repeat' split
    all_goals omega
  · dsimp only; repeat' split
    all_goals omega
  · unfold Stb.rot; dsimp only; repeat' split
    all_goals rfl
/-- One step of carrying the first behind. -/
theorem rot_up {a k : Nat} (f : Nat → Int) (h : a ≤ k) : swp k (k + 1) (rot a (a + 1) (k + 1) f) = rot a (a + 1) (k + 2) f := by
  funext j; unfold rot swp; dsimp only; repeat' split
  all_goals first | omega | (congr 1; omega) | rfl
theorem rot_down {k m : Nat} (f : Nat → Int) (h1 : 0 < k) (h : k ≤ m) : swp k (k - 1) (rot k m (m + 1) f) = rot (k - 1) m (m + 1) f := by
  funext j; unfold rot swp; dsimp only; repeat' split
  all_goals first | omega | (congr 1; omega) | rfl

section
variable {R : Int → Int → Prop}
def Srt (R : Int → Int → Prop) (a b : Nat) (f : Nat → Int) : Prop := ∀ i j, a ≤ i → i < j → j < b → R (f i) (f j)
theorem Srt.mono {a b c d : Nat} {f : Nat → Int} (h : Srt R a b f) (h1 : a ≤ c) (h2 : d ≤ b) : Srt R c d f := fun i j hi hij hj => h i j (by omega) hij (by omega)
theorem Srt.congr {a b : Nat} {f g : Nat → Int} (h : Srt R a b f) (e : ∀ k, a ≤ k → k < b → g k = f k) : Srt R a b g := fun i j hi hij hj => by
  rw [e i (by omega) (by omega), e j (by omega) (by omega)]; exact h i j hi hij hj
/-- An order, total on what is spoken of. -/
structure Tot (R : Int → Int → Prop) (V : Int → Prop) : Prop where
  tr : ∀ x y z, V x → V y → V z → R x y → R y z → R x z
  tot : ∀ x y, V x → V y → x ≠ y → ¬ R x y → R y x
/-- While the one at j goes down. -/
structure Ins (R : Int → Int → Prop) (a i j : Nat) (f : Nat → Int) : Prop where
  others : ∀ p q, a ≤ p → p < q → q ≤ i → p ≠ j → q ≠ j → R (f p) (f q)
  above : ∀ q, j < q → q ≤ i → R (f j) (f q)
theorem Ins.begin {a i : Nat} {f : Nat → Int} (h : Srt R a i f) : Ins R a i i f := ⟨fun p q h1 h2 h3 h4 h5 => h p q h1 h2 (by omega), fun q h1 h2 => by omega⟩
theorem Ins.step {a i j : Nat} {f : Nat → Int} (h : Ins R a i j f) (haj : a < j) (hji : j ≤ i) (hr : R (f j) (f (j - 1))) : Ins R a i (j - 1) (swp j (j - 1) f) := by
  constructor
  · intro p q h1 h2 h3 h4 h5
    unfold swp
    by_cases p1 : p = j
    · subst p1
      rw [if_pos rfl, if_neg (by omega), if_neg (by omega)]
      exact h.others (p - 1) q (by omega) (by omega) h3 (by omega) (by omega)
    · rw [if_neg p1, if_neg h4]
      by_cases q1 : q = j
      · subst q1
        rw [if_pos rfl]
        exact h.others p (q - 1) h1 (by omega) (by omega) p1 (by omega)
      · rw [if_neg q1, if_neg h5]
        exact h.others p q h1 h2 h3 p1 q1
  · intro q h1 h2
    unfold swp
    rw [if_neg (by omega), if_pos rfl]
    by_cases q1 : q = j
    · rw [if_pos q1]; exact hr
    · rw [if_neg q1, if_neg (by omega)]
      exact h.above q (by omega) h2
theorem Ins.done {V : Int → Prop} (T : Tot R V) {a i j : Nat} {f : Nat → Int} (h : Ins R a i j f) (haj : a ≤ j) (hji : j ≤ i) (hv : ∀ k, a ≤ k → k ≤ i → V (f k))
    (hr : j = a ∨ R (f (j - 1)) (f j)) : Srt R a (i + 1) f := by
  intro p q h1 h2 h3
  by_cases p1 : p = j
  · subst p1; exact h.above q h2 (by omega)
  · by_cases q1 : q = j
    · subst q1
      rcases hr with hr | hr
      · omega
      · by_cases p2 : p = q - 1
        · rw [p2]; exact hr
        · exact T.tr _ _ _ (hv p (by omega) (by omega)) (hv (q - 1) (by omega) (by omega)) (hv q (by omega) (by omega)) (h.others p (q - 1) h1 (by omega) (by omega) p1 (by omega)) hr
    · exact h.others p q h1 h2 (by omega) p1 q1

/-- Values of a block are the block's own places. -/
def Own (a b : Nat) (f : Nat → Int) : Prop := ∀ k, a ≤ k → k < b → (a : Int) ≤ f k ∧ f k < b
theorem Own.pm {a b : Nat} {f g : Nat → Int} (h : Own a b f) (p : Pm a b f g) : Own a b g := fun k h1 h2 => by
  obtain ⟨j, j1, j2, e⟩ := p.src h1 h2
  rw [e]; exact h j j1 j2
theorem Own.join {a m b : Nat} {f : Nat → Int} (h1 : Own a m f) (h2 : Own m b f) (am : a ≤ m) (mb : m ≤ b) : Own a b f := fun k k1 k2 => by
  by_cases c : k < m
  · have := h1 k k1 c; omega
  · have := h2 k (by omega) k2; omega
theorem Own.congr {a b : Nat} {f g : Nat → Int} (h : Own a b f) (e : ∀ k, a ≤ k → k < b → g k = f k) : Own a b g := fun k h1 h2 => by rw [e k h1 h2]; exact h k h1 h2

/-- From place p on, blocks of bs. -/
inductive Chain (R : Int → Int → Prop) (bs n : Nat) (f : Nat → Int) : Nat → Prop
  | stop {p : Nat} (h : n ≤ p) : Chain R bs n f p
  | step {p : Nat} (h : p < n) (s : Srt R p (min (p + bs) n) f) (o : Own p (min (p + bs) n) f) (t : Chain R bs n f (p + bs)) : Chain R bs n f p
/-- Up to place p, blocks of bs. -/
inductive Pre (R : Int → Int → Prop) (bs : Nat) (f : Nat → Int) : Nat → Prop
  | nil : Pre R bs f 0
  | snoc {p : Nat} (t : Pre R bs f p) (s : Srt R p (p + bs) f) (o : Own p (p + bs) f) : Pre R bs f (p + bs)
theorem Chain.congr {bs n p : Nat} {f g : Nat → Int} (h : Chain R bs n f p) (e : ∀ k, p ≤ k → g k = f k) : Chain R bs n g p := by
  induction h with
  | stop h => exact .stop h
  | step h s o t ih => exact .step h (s.congr fun k h1 h2 => e k h1) (o.congr fun k h1 h2 => e k h1) (ih fun k hk => e k (by omega))
theorem Pre.congr {bs p : Nat} {f g : Nat → Int} (h : Pre R bs f p) (e : ∀ k, k < p → g k = f k) : Pre R bs g p := by
  induction h with
  | nil => exact .nil
  | snoc t s o ih => exact .snoc (ih fun k hk => e k (by omega)) (s.congr fun k h1 h2 => e k (by omega)) (o.congr fun k h1 h2 => e k (by omega))
theorem Pre.chain {bs n p : Nat} {f : Nat → Int} (h : Pre R bs f p) : p ≤ n → 0 < bs → Chain R bs n f p → Chain R bs n f 0 := by
  induction h with
  | nil => intro _ _ h; exact h
  | @snoc p t s o ih =>
    intro hp hb hc
    refine ih (by omega) hb (.step (by omega) ?_ ?_ hc)
    · rw [Nat.min_eq_left hp]; exact s
    · rw [Nat.min_eq_left hp]; exact o
theorem Chain.two {bs n p : Nat} {f : Nat → Int} (h : Chain R bs n f p) (hn : p + 2 * bs ≤ n) (hb : 0 < bs) : Srt R p (p + bs) f ∧ Own p (p + bs) f ∧ Srt R (p + bs) (p + 2 * bs) f ∧ Own (p + bs) (p + 2 * bs) f ∧ Chain R bs n f (p + 2 * bs) := by
  cases h with
  | stop h => omega
  | step h s o t =>
    cases t with
    | stop h => omega
    | step h' s' o' t' =>
      rw [Nat.min_eq_left (by omega)] at s o s' o'
      rw [show p + bs + bs = p + 2 * bs by omega] at s' o' t'
      exact ⟨s, o, s', o', t'⟩
theorem Chain.last {bs n p : Nat} {f : Nat → Int} (h : Chain R bs n f p) (hn : p + bs < n) (hm : n < p + 2 * bs) : Srt R p (p + bs) f ∧ Own p (p + bs) f ∧ Srt R (p + bs) n f ∧ Own (p + bs) n f := by
  cases h with
  | stop h => omega
  | step h s o t =>
    cases t with
    | stop h => omega
    | step h' s' o' t' =>
      rw [Nat.min_eq_left (by omega)] at s o
      rw [Nat.min_eq_right (by omega)] at s' o'
      exact ⟨s, o, s', o'⟩
theorem Chain.one {bs n p : Nat} {f : Nat → Int} (h : Chain R bs n f p) (hn : p < n) (hm : n ≤ p + bs) : Srt R p n f ∧ Own p n f := by
  cases h with
  | stop h => omega
  | step h s o t => rw [Nat.min_eq_right hm] at s o; exact ⟨s, o⟩
theorem Chain.wide {bs n p : Nat} {f : Nat → Int} (s : Srt R p n f) (o : Own p n f) (h : n ≤ p + bs) : Chain R bs n f p := by
  by_cases c : p < n
  · exact .step c (by rw [Nat.min_eq_right h]; exact s) (by rw [Nat.min_eq_right h]; exact o) (.stop h)
  · exact .stop (by omega)

/-- [a, m) and [m, b), each in order, what is in the first older than what is in the second. -/
structure Mrg (R : Int → Int → Prop) (V : Int → Prop) (a m b : Nat) (f : Nat → Int) : Prop where
  s1 : Srt R a m f
  s2 : Srt R m b f
  old : ∀ i j, a ≤ i → i < m → m ≤ j → j < b → f i < f j
  ok : ∀ k, a ≤ k → k < b → V (f k)
theorem Mrg.of {V : Int → Prop} {a m b : Nat} {f : Nat → Int} (s1 : Srt R a m f) (o1 : Own a m f) (s2 : Srt R m b f) (o2 : Own m b f) (ok : ∀ k, a ≤ k → k < b → V (f k)) : Mrg R V a m b f :=
  ⟨s1, s2, fun i j h1 h2 h3 h4 => by have := o1 i h1 h2; have := o2 j h3 h4; omega, ok⟩
/-- The first alone goes behind what is less. -/
theorem Mrg.up {V : Int → Prop} (T : Tot R V) {a b i : Nat} {f : Nat → Int} (h : Mrg R V a (a + 1) b f) (h1 : a + 1 ≤ i) (h2 : i ≤ b) (lo : ∀ k, a + 1 ≤ k → k < i → R (f k) (f a)) (hi : ∀ k, i ≤ k → k < b → ¬ R (f k) (f a)) : Srt R a b (rot a (a + 1) i f) := by
  have hi' : ∀ k, i ≤ k → k < b → R (f a) (f k) := fun k k1 k2 => T.tot _ _ (h.ok k (by omega) k2) (h.ok a (by omega) (by omega)) (by have := h.old a k (by omega) (by omega) (by omega) k2; omega) (hi k k1 k2)
  intro p q p1 pq q1
  unfold rot
  by_cases c1 : p < i - 1
  · rw [if_pos (by omega), show p + (a + 1 - a) = p + 1 by omega]
    by_cases c2 : q < i - 1
    · rw [if_pos (by omega), show q + (a + 1 - a) = q + 1 by omega]; exact h.s2 _ _ (by omega) (by omega) (by omega)
    · rw [if_neg (by omega)]
      by_cases c3 : q < i
      · rw [if_pos (by omega), show q - (i - (a + 1)) = a by omega]; exact lo _ (by omega) (by omega)
      · rw [if_neg (by omega)]; exact h.s2 _ _ (by omega) (by omega) (by omega)
  · rw [if_neg (by omega)]
    by_cases c2 : p < i
    · rw [if_pos (by omega), show p - (i - (a + 1)) = a by omega, if_neg (by omega), if_neg (by omega)]; exact hi' _ (by omega) (by omega)
    · rw [if_neg (by omega), if_neg (by omega), if_neg (by omega)]; exact h.s2 _ _ (by omega) (by omega) (by omega)
/-- The last alone goes before what is greater. -/
theorem Mrg.down {V : Int → Prop} (T : Tot R V) {a m i : Nat} {f : Nat → Int} (h : Mrg R V a m (m + 1) f) (h1 : a ≤ i) (h2 : i ≤ m) (lo : ∀ k, a ≤ k → k < i → ¬ R (f m) (f k)) (hi : ∀ k, i ≤ k → k < m → R (f m) (f k)) : Srt R a (m + 1) (rot i m (m + 1) f) := by
  have lo' : ∀ k, a ≤ k → k < i → R (f k) (f m) := fun k k1 k2 => T.tot _ _ (h.ok m (by omega) (by omega)) (h.ok k (by omega) (by omega)) (by have := h.old k m (by omega) (by omega) (by omega) (by omega); omega) (lo k k1 k2)
  intro p q p1 pq q1
  unfold rot
  by_cases c1 : p < i
  · rw [if_neg (by omega), if_neg (by omega)]
    by_cases c2 : q < i
    · rw [if_neg (by omega), if_neg (by omega)]; exact h.s1 _ _ (by omega) (by omega) (by omega)
    · by_cases c3 : q = i
      · rw [if_pos (by omega), show q + (m - i) = m by omega]; exact lo' _ (by omega) (by omega)
      · rw [if_neg (by omega), if_pos (by omega)]; exact h.s1 _ _ (by omega) (by omega) (by omega)
  · by_cases c2 : p = i
    · rw [if_pos (by omega), show p + (m - i) = m by omega, if_neg (by omega), if_pos (by omega)]; exact hi _ (by omega) (by omega)
    · rw [if_neg (by omega), if_pos (by omega), if_neg (by omega), if_pos (by omega)]; exact h.s1 _ _ (by omega) (by omega) (by omega)
/-- The cut of a symmetric merge: what its search has found. -/
structure Cut (R : Int → Int → Prop) (a m b mid start : Nat) (f : Nat → Int) : Prop where
  lo : a ≤ start
  sm : start ≤ m
  smid : start ≤ mid
  eb : mid + m - start ≤ b
  before : ∀ k, a < start → mid + m - start < b → k = start - 1 → ¬ R (f (mid + m - start)) (f k)
  behind : start < m → m < mid + m - start → R (f (mid + m - start - 1)) (f start)
section
variable {V : Int → Prop} {a m b mid start : Nat} {f : Nat → Int}
theorem Cut.parts (T : Tot R V) (h : Mrg R V a m b f) (c : Cut R a m b mid start f) (am : a < mid) (mb : mid < b) :
    let g := rot start m (mid + m - start) f
    Mrg R V a start mid g ∧ Mrg R V mid (mid + m - start) b g ∧ (∀ i j, a ≤ i → i < mid → mid ≤ j → j < b → R (g i) (g j)) := by
  obtain ⟨lo, sm, smid, eb, bef, beh⟩ := c
  obtain ⟨e, he⟩ : ∃ e, e = mid + m - start := ⟨_, rfl⟩
  have e1 : m ≤ e := by omega
  rw [← he] at eb bef beh ⊢
  -- the four parts
  have g1 : ∀ k, k < start → rot start m e f k = f k := fun k hk => by unfold rot; rw [if_neg (by omega), if_neg (by omega)]
  have g2 : ∀ k, start ≤ k → k < mid → rot start m e f k = f (k + (m - start)) := fun k k1 k2 => by unfold rot; rw [if_pos (by omega)]
  have g3 : ∀ k, mid ≤ k → k < e → rot start m e f k = f (k - (e - m)) := fun k k1 k2 => by unfold rot; rw [if_neg (by omega), if_pos (by omega)]
  have g4 : ∀ k, e ≤ k → rot start m e f k = f k := fun k hk => by unfold rot; rw [if_neg (by omega), if_neg (by omega)]
  have ok : ∀ k, a ≤ k → k < b → V (rot start m e f k) := fun k k1 k2 => by
    obtain ⟨j, j1, j2, ej⟩ := ((Pm.rot f sm e1).mono lo eb).src k1 k2
    rw [ej]; exact h.ok j j1 j2
  have le : ∀ x y, a ≤ x → x < b → a ≤ y → y < b → f x ≠ f y → ¬ R (f x) (f y) → R (f y) (f x) := fun x y x1 x2 y1 y2 n => T.tot _ _ (h.ok x x1 x2) (h.ok y y1 y2) n
  -- A1 before B2
  have A1B2 : ∀ i j, a ≤ i → i < start → e ≤ j → j < b → R (f i) (f j) := fun i j i1 i2 j1 j2 => by
    have r0 : R (f (start - 1)) (f e) := le e (start - 1) (by omega) (by omega) (by omega) (by omega) (by have := h.old (start - 1) e (by omega) (by omega) (by omega) (by omega); omega) (bef _ (by omega) (by omega) rfl)
    have r1 : R (f (start - 1)) (f j) := by
      by_cases c : j = e
      · rw [c]; exact r0
      · exact T.tr _ _ _ (h.ok _ (by omega) (by omega)) (h.ok _ (by omega) (by omega)) (h.ok _ (by omega) (by omega)) r0 (h.s2 e j (by omega) (by omega) (by omega))
    by_cases c : i = start - 1
    · rw [c]; exact r1
    · exact T.tr _ _ _ (h.ok _ (by omega) (by omega)) (h.ok _ (by omega) (by omega)) (h.ok _ (by omega) (by omega)) (h.s1 i (start - 1) (by omega) (by omega) (by omega)) r1
  have B1A2 : ∀ i j, m ≤ i → i < e → start ≤ j → j < m → R (f i) (f j) := fun i j i1 i2 j1 j2 => by
    have r0 : R (f (e - 1)) (f start) := beh (by omega) (by omega)
    have r1 : R (f (e - 1)) (f j) := by
      by_cases c : j = start
      · rw [c]; exact r0
      · exact T.tr _ _ _ (h.ok _ (by omega) (by omega)) (h.ok _ (by omega) (by omega)) (h.ok _ (by omega) (by omega)) r0 (h.s1 start j (by omega) (by omega) (by omega))
    by_cases c : i = e - 1
    · rw [c]; exact r1
    · exact T.tr _ _ _ (h.ok _ (by omega) (by omega)) (h.ok _ (by omega) (by omega)) (h.ok _ (by omega) (by omega)) (h.s2 i (e - 1) (by omega) (by omega) (by omega)) r1
  refine ⟨⟨?_, ?_, ?_, fun k k1 k2 => ok k k1 (by omega)⟩, ⟨?_, ?_, ?_, fun k k1 k2 => ok k (by omega) k2⟩, ?_⟩
  · intro i j i1 ij j2; rw [g1 i (by omega), g1 j (by omega)]; exact h.s1 i j i1 ij (by omega)
  · intro i j i1 ij j2; rw [g2 i (by omega) (by omega), g2 j (by omega) (by omega)]; exact h.s2 _ _ (by omega) (by omega) (by omega)
  · intro i j i1 i2 j1 j2; rw [g1 i i2, g2 j j1 j2]; exact h.old _ _ i1 (by omega) (by omega) (by omega)
  · intro i j i1 ij j2; rw [g3 i (by omega) (by omega), g3 j (by omega) (by omega)]; exact h.s1 _ _ (by omega) (by omega) (by omega)
  · intro i j i1 ij j2; rw [g4 i (by omega), g4 j (by omega)]; exact h.s2 _ _ (by omega) (by omega) (by omega)
  · intro i j i1 i2 j1 j2; rw [g3 i i1 i2, g4 j j1]; exact h.old _ _ (by omega) (by omega) (by omega) (by omega)
  · intro i j i1 i2 j1 j2
    by_cases c1 : i < start
    · rw [g1 i c1]
      by_cases c2 : j < e
      · rw [g3 j j1 c2]; exact h.s1 _ _ i1 (by omega) (by omega)
      · rw [g4 j (by omega)]; exact A1B2 i j i1 c1 (by omega) j2
    · rw [g2 i (by omega) i2]
      by_cases c2 : j < e
      · rw [g3 j j1 c2]; exact B1A2 _ _ (by omega) (by omega) (by omega) (by omega)
      · rw [g4 j (by omega)]; exact h.s2 _ _ (by omega) (by omega) (by omega)
end
/-- Both sides in order, the first below the second. -/
theorem srt_join {a mid b : Nat} {f : Nat → Int} (s1 : Srt R a mid f) (s2 : Srt R mid b f) (x : ∀ i j, a ≤ i → i < mid → mid ≤ j → j < b → R (f i) (f j)) : Srt R a b f := fun i j i1 ij j2 => by
  by_cases c1 : j < mid
  · exact s1 i j i1 ij c1
  · by_cases c2 : i < mid
    · exact x i j i1 c2 (by omega) j2
    · exact s2 i j (by omega) ij j2
theorem cross_pm {a mid b : Nat} {f g h : Nat → Int} (x : ∀ i j, a ≤ i → i < mid → mid ≤ j → j < b → R (f i) (f j)) (p : Pm a mid f g) (q : Pm mid b g h) : ∀ i j, a ≤ i → i < mid → mid ≤ j → j < b → R (h i) (h j) := fun i j i1 i2 j1 j2 => by
  obtain ⟨i', a1, a2, e1⟩ := p.src i1 i2
  obtain ⟨j', b1, b2, e2⟩ := q.src j1 j2
  rw [q.out (.inl i2), e1, e2, p.out (.inr b1)]
  exact x _ _ a1 a2 b1 b2
end
end Go.Proofs.Ytmdhmpfagekonaa.Stb
