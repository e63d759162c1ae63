/- Press: searches, lists of tasks, the order by due times. -/
import Derived.Test.YthbgeikdamajlabPR1
import Derived.Test.YthbgeikdamajlabPC9
import Derived.Laws.CopyOwn
/- Press: going through assignments in lexicographic order, plain. -/
namespace Go.Proofs.Ythbgeikdamajlab.Sea
set_option linter.unusedVariables false
set_option linter.unusedSimpArgs false

/-- The exchange of two numbers. -/
def tr (a b j : Nat) : Nat := if j = a then b else if j = b then a else j
theorem tr_tr (a b j : Nat) : tr a b (tr a b j) = j := by unfold tr; split <;> (try split) <;> (try split) <;> omega
theorem tr_lt {a b M j : Nat} (ha : a < M) (hb : b < M) (hj : j < M) : tr a b j < M := by unfold tr; split <;> (try split) <;> omega
theorem tr_eq {a b i j : Nat} : tr a b i = j ↔ i = tr a b j := ⟨fun h => by rw [← h, tr_tr], fun h => by rw [h, tr_tr]⟩
section
variable {β : Type}
def up (s : Nat → β) (b : Nat) (y : β) : Nat → β := fun j => if j = b then y else s j
theorem up_same (s : Nat → β) (b : Nat) (y : β) : up s b y b = y := if_pos rfl
theorem up_ne (s : Nat → β) {b j : Nat} (y : β) (h : j ≠ b) : up s b y j = s j := if_neg h
theorem up_tr (s : Nat → β) (a c b : Nat) (y : β) : (fun j => up s b y (tr a c j)) = up (fun j => s (tr a c j)) (tr a c b) y := by
  funext j
  unfold up
  by_cases e : tr a c j = b
  · rw [if_pos e, if_pos (tr_eq.1 e)]
  · rw [if_neg e, if_neg (fun h => e (tr_eq.2 h))]
theorem up_swap (s : Nat → β) {p q : Nat} (y : β) (h : s q = s p) : up s q y = fun j => up s p y (tr p q j) := by
  funext j
  unfold up tr
  by_cases e1 : j = q
  · subst e1
    rw [if_pos rfl]
    by_cases e2 : j = p
    · rw [if_pos e2]; simp [e2]
    · rw [if_neg e2, if_pos rfl, if_pos rfl]
  · rw [if_neg e1]
    by_cases e2 : j = p
    · subst e2
      rw [if_pos rfl, if_neg (fun h => e1 h.symm)]; exact h.symm
    · rw [if_neg e2, if_neg e1, if_neg e2]
/-- The bins behind an assignment of what is to come; none: it may not be. -/
def fin (add : β → Int → Option β) : List Int → (Nat → β) → List Nat → Option (Nat → β)
  | [], s, [] => some s
  | t :: ts, s, b :: E => match add (s b) t with
    | some y => fin add ts (up s b y) E
    | none => none
  | _, _, _ => none
variable {add : β → Int → Option β}
theorem fin_len : ∀ {ts : List Int} {s s' : Nat → β} {E : List Nat}, fin add ts s E = some s' → E.length = ts.length
  | [], s, s', [], _ => rfl
  | [], s, s', b :: E, h => by simp [fin] at h
  | t :: ts, s, s', [], h => by simp [fin] at h
  | t :: ts, s, s', b :: E, h => by
    simp only [fin] at h
    split at h
    · simp [fin_len h]
    · cases h
theorem fin_tr (a c : Nat) : ∀ (ts : List Int) (s : Nat → β) (E : List Nat), fin add ts (fun j => s (tr a c j)) (E.map (tr a c)) = (fin add ts s E).map fun s' j => s' (tr a c j)
  | [], s, [] => rfl
  | [], s, b :: E => rfl
  | t :: ts, s, [] => rfl
  | t :: ts, s, b :: E => by
    simp only [List.map_cons, fin, tr_tr]
    cases add (s b) t with
    | none => rfl
    | some y =>
      dsimp only
      rw [← fin_tr a c ts (up s b y) E, up_tr]
/-- Numbers of bins below M. -/
def Ok (M : Nat) (E : List Nat) : Prop := ∀ b ∈ E, b < M
theorem Ok.tr {M a c : Nat} {E : List Nat} (h : Ok M E) (ha : a < M) (hc : c < M) : Ok M (E.map (tr a c)) := fun b hb => by
  obtain ⟨x, hx, rfl⟩ := List.mem_map.1 hb
  exact tr_lt ha hc (h x hx)
/-- Not later in the lexicographic order. -/
def lexle : List Nat → List Nat → Prop
  | a :: E, b :: F => a < b ∨ (a = b ∧ lexle E F)
  | _, _ => True
theorem lexle_refl : ∀ E, lexle E E
  | [] => trivial
  | a :: E => .inr ⟨rfl, lexle_refl E⟩
theorem lexle_anti : ∀ {E F : List Nat}, E.length = F.length → lexle E F → lexle F E → E = F
  | [], [], _, _, _ => rfl
  | [], b :: F, h, _, _ => by simp at h
  | a :: E, [], h, _, _ => by simp at h
  | a :: E, b :: F, h, h1, h2 => by
    rcases h1 with h1 | ⟨rfl, h1⟩
    · rcases h2 with h2 | ⟨rfl, h2⟩ <;> omega
    · rcases h2 with h2 | ⟨_, h2⟩
      · omega
      · rw [lexle_anti (by simpa using h) h1 h2]
theorem lexle_pre : ∀ (P E F : List Nat), lexle E F → lexle (P ++ E) (P ++ F)
  | [], E, F, h => h
  | p :: P, E, F, h => .inr ⟨rfl, lexle_pre P E F h⟩
/-- The first place where two lists part. -/
theorem lexle_part : ∀ {E F : List Nat} {k : Nat}, lexle E F → k < E.length → k < F.length → (∀ j, j < k → E[j]? = F[j]?) → E[k]? ≠ F[k]? → E.getD k 0 < F.getD k 0
  | [], F, k, _, h, _, _, _ => by simp at h
  | a :: E, [], k, _, _, h, _, _ => by simp at h
  | a :: E, b :: F, 0, h, _, _, _, ne => by
    rcases h with h | ⟨rfl, h⟩
    · simpa using h
    · simp at ne
  | a :: E, b :: F, k + 1, h, h1, h2, e, ne => by
    have e0 := e 0 (by omega)
    simp at e0
    subst e0
    rcases h with h | ⟨_, h⟩
    · omega
    · have := lexle_part h (by simpa using h1) (by simpa using h2) (fun j hj => by simpa using e (j + 1) (by omega)) (by simpa using ne)
      simpa using this

/-- What a search has found among assignments whose first bin is below p: the least value, and the first one that has it. -/
structure Sr (add : β → Int → Option β) (val : (Nat → β) → Int) (Fs : (Nat → β) → Prop) (M : Nat) (H : Nat → Prop) (ts : List Int) (s : Nat → β) (P : List Nat) (L : Int) (B : List Nat) (L' : Int) (B' : List Nat) : Prop where
  le : L' ≤ L
  low : ∀ E s', Ok M E → (∀ b E1, E = b :: E1 → H b) → fin add ts s E = some s' → L' ≤ val s'
  at_ : (L' = L ∧ B' = B) ∨ (L' < L ∧ ∃ E s', Ok M E ∧ (∀ b E1, E = b :: E1 → H b) ∧ fin add ts s E = some s' ∧ val s' = L' ∧ Fs s' ∧ B' = P ++ E ∧ ∀ E2 s2, Ok M E2 → (∀ b E1, E2 = b :: E1 → H b) → fin add ts s E2 = some s2 → val s2 = L' → lexle E E2)
variable {val : (Nat → β) → Int} {Fs : (Nat → β) → Prop} {M : Nat} {ts : List Int} {s : Nat → β} {P B B1 B2 : List Nat} {L L1 L2 : Int} {p : Nat}
theorem Sr.start (t : Int) : Sr add val Fs M (· < 0) (t :: ts) s P L B L B :=
  ⟨Int.le_refl _, fun E s' ok h e => by
    cases E with
    | nil => simp [fin] at e
    | cons b E => exact absurd (h b E rfl) (by omega), .inl ⟨rfl, rfl⟩⟩
theorem Sr.all {t : Int} (h : Sr add val Fs M (· < M) (t :: ts) s P L B L1 B1) : Sr add val Fs M (fun _ => True) (t :: ts) s P L B L1 B1 := by
  have k : ∀ E, Ok M E → ∀ b E1, E = b :: E1 → b < M := fun E ok b E1 e => ok b (by rw [e]; simp)
  refine ⟨h.le, fun E s' ok _ e => h.low E s' ok (k E ok) e, ?_⟩
  rcases h.at_ with a | ⟨a, E, s', ok, hb, e, v, f, B, l⟩
  · exact .inl a
  · exact .inr ⟨a, E, s', ok, fun _ _ _ => trivial, e, v, f, B, fun E2 s2 ok2 _ => l E2 s2 ok2 (k E2 ok2)⟩
/-- A bin like one before it can do no better. -/
theorem Sr.skip {t : Int} (sym : ∀ a c s, a < M → c < M → val (fun j => s (tr a c j)) = val s) (h : Sr add val Fs M (· < p) (t :: ts) s P L B L1 B1) {q : Nat} (hq : q < p) (hp : p < M) (e : s q = s p) : Sr add val Fs M (· < p + 1) (t :: ts) s P L B L1 B1 := by
  have mir : ∀ E s', Ok M (p :: E) → fin add (t :: ts) s (p :: E) = some s' → ∃ E', Ok M (q :: E') ∧ ∃ s2, fin add (t :: ts) s (q :: E') = some s2 ∧ val s2 = val s' := by
    intro E s' ok f
    simp only [fin] at f
    cases y : add (s p) t with
    | none => rw [y] at f; cases f
    | some x =>
      rw [y] at f
      dsimp only at f
      refine ⟨E.map (tr p q), fun b hb => ?_, fun j => s' (tr p q j), ?_, sym p q s' hp (by omega)⟩
      · rcases List.mem_cons.1 hb with rfl | hb
        · omega
        · exact (Ok.tr (fun b hb => ok b (List.mem_cons_of_mem _ hb)) hp (by omega)) b hb
      · simp only [fin]
        rw [e, y]
        dsimp only
        rw [up_swap s x e, fin_tr, f]
        rfl
  refine ⟨h.le, fun E s' ok hb f => ?_, ?_⟩
  · cases E with
    | nil => simp [fin] at f
    | cons b E =>
      have hb := hb b E rfl
      by_cases c : b < p
      · exact h.low _ s' ok (fun b' E1 e' => by cases e'; exact c) f
      · obtain rfl : b = p := by omega
        obtain ⟨E', ok', s2, f2, v⟩ := mir E s' ok f
        rw [← v]
        exact h.low _ s2 ok' (fun b' E1 e' => by cases e'; exact hq) f2
  · rcases h.at_ with a | ⟨a, E, s', ok, hb, f, v, fs, hB, l⟩
    · exact .inl a
    · refine .inr ⟨a, E, s', ok, fun b E1 e' => by have := hb b E1 e'; omega, f, v, fs, hB, fun E2 s2 ok2 hb2 f2 v2 => ?_⟩
      cases E2 with
      | nil => simp [fin] at f2
      | cons b E2 =>
        by_cases c : b < p
        · exact l _ s2 ok2 (fun b' E1 e' => by cases e'; exact c) f2 v2
        · have := hb2 b E2 rfl
          cases E with
          | nil => trivial
          | cons b1 E => exact .inl (by have := hb b1 E rfl; omega)
theorem Sr.bad {t : Int} (h : Sr add val Fs M (· < p) (t :: ts) s P L B L1 B1) (e : add (s p) t = none) : Sr add val Fs M (· < p + 1) (t :: ts) s P L B L1 B1 := by
  have no : ∀ E s', fin add (t :: ts) s E = some s' → (∀ b E1, E = b :: E1 → b < p + 1) → ∀ b E1, E = b :: E1 → b < p := fun E s' f hb b E1 e' => by
    have := hb b E1 e'
    apply Classical.byContradiction
    intro c
    obtain rfl : b = p := by omega
    subst e'
    simp only [fin] at f
    rw [e] at f
    cases f
  refine ⟨h.le, fun E s' ok hb f => h.low E s' ok (no E s' f hb) f, ?_⟩
  rcases h.at_ with a | ⟨a, E, s', ok, hb, f, v, fs, hB, l⟩
  · exact .inl a
  · exact .inr ⟨a, E, s', ok, fun b E1 e' => by have := hb b E1 e'; omega, f, v, fs, hB, fun E2 s2 ok2 hb2 f2 v2 => l E2 s2 ok2 (no E2 s2 f2 hb2) f2 v2⟩
theorem Sr.call {t : Int} {y : β} (h : Sr add val Fs M (· < p) (t :: ts) s P L B L1 B1) (e : add (s p) t = some y) (hp : p < M) (g : Sr add val Fs M (fun _ => True) ts (up s p y) (P ++ [p]) L1 B1 L2 B2) : Sr add val Fs M (· < p + 1) (t :: ts) s P L B L2 B2 := by
  have cut : ∀ E s', Ok M E → (∀ b E1, E = b :: E1 → b < p + 1) → fin add (t :: ts) s E = some s' → (∀ b E1, E = b :: E1 → b < p) ∨ ∃ E1, E = p :: E1 ∧ Ok M E1 ∧ fin add ts (up s p y) E1 = some s' := fun E s' ok hb f => by
    cases E with
    | nil => simp [fin] at f
    | cons b E =>
      have := hb b E rfl
      by_cases c : b < p
      · exact .inl fun b' E1 e' => by cases e'; exact c
      · obtain rfl : b = p := by omega
        simp only [fin] at f
        rw [e] at f
        exact .inr ⟨E, rfl, fun b hb => ok b (List.mem_cons_of_mem _ hb), f⟩
  refine ⟨Int.le_trans g.le h.le, fun E s' ok hb f => ?_, ?_⟩
  · rcases cut E s' ok hb f with c | ⟨E1, rfl, ok1, f1⟩
    · exact Int.le_trans g.le (h.low E s' ok c f)
    · exact g.low E1 s' ok1 (fun _ _ _ => trivial) f1
  · rcases g.at_ with ⟨rfl, rfl⟩ | ⟨a, E, s', ok, -, f, v, fs, hB, l⟩
    · rcases h.at_ with a | ⟨a, E, s', ok, hb, f, v, fs, hB, l⟩
      · exact .inl a
      · refine .inr ⟨a, E, s', ok, fun b E1 e' => by have := hb b E1 e'; omega, f, v, fs, hB, fun E2 s2 ok2 hb2 f2 v2 => ?_⟩
        rcases cut E2 s2 ok2 hb2 f2 with c | ⟨E1, rfl, ok1, f1⟩
        · exact l E2 s2 ok2 c f2 v2
        · cases E with
          | nil => trivial
          | cons b1 E => exact .inl (hb b1 E rfl)
    · refine .inr ⟨Int.lt_of_lt_of_le a h.le, p :: E, s', fun b hb => ?_, fun b E1 e' => by cases e'; omega, by simp only [fin]; rw [e]; exact f, v, fs, by rw [hB]; simp, fun E2 s2 ok2 hb2 f2 v2 => ?_⟩
      · rcases List.mem_cons.1 hb with rfl | hb
        · exact hp
        · exact ok b hb
      · rcases cut E2 s2 ok2 hb2 f2 with c | ⟨E1, rfl, ok1, f1⟩
        · have := h.low E2 s2 ok2 c f2
          omega
        · exact .inr ⟨rfl, l E1 s2 ok1 (fun _ _ _ => trivial) f1 v2⟩
theorem fin_mono (mono : ∀ s b y t, add (s b) t = some y → b < M → val s ≤ val (up s b y)) : ∀ {ts : List Int} {s s' : Nat → β} {E : List Nat}, Ok M E → fin add ts s E = some s' → val s ≤ val s'
  | [], s, s', [], _, h => by simp [fin] at h; rw [h]; exact Int.le_refl _
  | [], s, s', b :: E, _, h => by simp [fin] at h
  | t :: ts, s, s', [], _, h => by simp [fin] at h
  | t :: ts, s, s', b :: E, ok, h => by
    simp only [fin] at h
    cases y : add (s b) t with
    | none => rw [y] at h; cases h
    | some x =>
      rw [y] at h
      exact Int.le_trans (mono s b x t y (ok b (by simp))) (fin_mono mono (fun b hb => ok b (List.mem_cons_of_mem _ hb)) h)
/-- What is no better already is let be. -/
theorem Sr.prune (mono : ∀ s b y t, add (s b) t = some y → b < M → val s ≤ val (up s b y)) (h : L ≤ val s) : Sr add val Fs M (fun _ => True) ts s P L B L B :=
  ⟨Int.le_refl _, fun E s' ok _ f => Int.le_trans h (fin_mono mono ok f), .inl ⟨rfl, rfl⟩⟩
theorem Sr.leaf (h : val s < L) (fs : Fs s) : Sr add val Fs M (fun _ => True) [] s P L B (val s) P := by
  refine ⟨Int.le_of_lt h, fun E s' ok _ f => ?_, .inr ⟨h, [], s, fun b hb => by simp at hb, fun _ _ _ => trivial, rfl, rfl, fs, by simp, fun E2 s2 _ _ _ _ => ?_⟩⟩
  · cases E with
    | nil => simp [fin] at f; rw [f]; exact Int.le_refl _
    | cons b E => simp [fin] at f
  · cases E2 <;> trivial
end
end Go.Proofs.Ythbgeikdamajlab.Sea

/- Press: loads of bins, plain; the longest first is within (4m - 1)/3m. -/
namespace Go.Proofs.Ythbgeikdamajlab.Sea
open Go.Proofs.Ythbgeikdamajlab.Prs
set_option linter.unusedVariables false
set_option linter.unusedSimpArgs false

/-- What the first k things put into bin b. -/
def ldf (a : Nat → Nat) (w : Nat → Int) (k b : Nat) : Int := sm (fun i => if a i = b then w i else 0) k
theorem ldf_succ (a : Nat → Nat) (w : Nat → Int) (k b : Nat) : ldf a w (k + 1) b = ldf a w k b + if a k = b then w k else 0 := rfl
theorem ldf_nonneg {a : Nat → Nat} {w : Nat → Int} {k b : Nat} (h : ∀ i, i < k → 0 ≤ w i) : 0 ≤ ldf a w k b := sm_nonneg fun i hi => by
  have := h i hi
  split <;> omega
theorem ldf_mono {a : Nat → Nat} {w : Nat → Int} {j k b : Nat} (h : ∀ i, i < k → 0 ≤ w i) (hj : j ≤ k) : ldf a w j b ≤ ldf a w k b := sm_mono (fun i hi => by
  have := h i hi
  split <;> omega) hj
/-- All bins together. -/
theorem ldf_all {a : Nat → Nat} {w : Nat → Int} {m : Nat} : ∀ {k : Nat}, (∀ i, i < k → a i < m) → sm (fun b => ldf a w k b) m = sm w k
  | 0, _ => by
    have : ∀ m, sm (fun b => ldf a w 0 b) m = 0 := fun m => by
      induction m with
      | zero => rfl
      | succ m ih => simp only [sm]; rw [ih]; rfl
    rw [this]; rfl
  | k + 1, h => by
    have ih := ldf_all (w := w) (fun i hi => h i (Nat.lt_succ_of_lt hi))
    have one : ∀ (c : Nat) (x : Int) (m : Nat), sm (fun b => if c = b then x else 0) m = if c < m then x else 0 := fun c x m => by
      induction m with
      | zero => rfl
      | succ m ih =>
        simp only [sm]
        rw [ih]
        by_cases e : c = m
        · subst e; rw [if_neg (by omega), if_pos rfl, if_pos (by omega)]; omega
        · by_cases l : c < m
          · rw [if_pos l, if_neg e, if_pos (by omega)]; omega
          · rw [if_neg l, if_neg e, if_neg (by omega)]; omega
    have e := sm_add (fun b => ldf a w k b) (fun b => if a k = b then w k else 0) m
    rw [one, if_pos (h k (Nat.lt_succ_self k)), ih] at e
    exact e
theorem ldf_cnt {a : Nat → Nat} {w : Nat → Int} {b : Nat} {t : Int} : ∀ {k : Nat}, (∀ i, i < k → t ≤ w i) → t * ldf a (fun _ => 1) k b ≤ ldf a w k b
  | 0, _ => by simp [ldf, sm]
  | k + 1, h => by
    have ih := ldf_cnt (a := a) (b := b) (fun i hi => h i (Nat.lt_succ_of_lt hi))
    have hk := h k (Nat.lt_succ_self k)
    rw [ldf_succ, ldf_succ, Int.mul_add]
    split
    · omega
    · omega
theorem ldf_top {a : Nat → Nat} {w : Nat → Int} {b : Nat} {D : Int} : ∀ {k : Nat}, (∀ i, i < k → a i = b → w i ≤ D) → ldf a w k b ≤ D * ldf a (fun _ => 1) k b
  | 0, _ => by simp [ldf, sm]
  | k + 1, h => by
    have ih := ldf_top (fun i hi => h i (Nat.lt_succ_of_lt hi))
    rw [ldf_succ, ldf_succ, Int.mul_add]
    split
    · next e => have := h k (Nat.lt_succ_self k) e; omega
    · omega
/-- One thing of another size. -/
theorem ldf_swap {a : Nat → Nat} {w : Nat → Int} {b i : Nat} {t : Int} (ai : a i = b) : ∀ {k : Nat}, i < k → ldf a w k b = ldf a (fun j => if j = i then t else w j) k b + (w i - t)
  | 0, h => by omega
  | k + 1, h => by
    rw [ldf_succ, ldf_succ]
    by_cases e : i = k
    · subst e
      have g : ldf a (fun j => if j = i then t else w j) i b = ldf a w i b := sm_congr fun j hj => by
        by_cases c : a j = b
        · rw [if_pos c, if_pos c]; (try dsimp only); rw [if_neg (by omega)]
        · rw [if_neg c, if_neg c]
      rw [if_pos ai, if_pos ai, g]; (try dsimp only); rw [if_pos rfl]; omega
    · rw [ldf_swap (t := t) ai (show i < k by omega)]
      by_cases c : a k = b
      · rw [if_pos c, if_pos c]; (try dsimp only); rw [if_neg (by omega)]; omega
      · rw [if_neg c, if_neg c]; omega
theorem ldf_congr {a : Nat → Nat} {v w : Nat → Int} {k b : Nat} (h : ∀ i, i < k → a i = b → v i = w i) : ldf a v k b = ldf a w k b := sm_congr fun i hi => by
  by_cases c : a i = b
  · rw [if_pos c, if_pos c, h i hi c]
  · rw [if_neg c, if_neg c]
theorem ldf_le {a : Nat → Nat} {v w : Nat → Int} {k b : Nat} (h : ∀ i, i < k → v i ≤ w i) : ldf a v k b ≤ ldf a w k b := sm_le fun i hi => by
  have := h i hi
  split <;> omega
/-- .. in another order. -/
theorem ldf_ord {n : Nat} {o : Nat → Nat} (ho : Ord n o) (E : Nat → Nat) (T : Nat → Int) (b : Nat) : ldf (fun i => E (o i)) (fun i => T (o i)) n b = ldf E T n b := ho.sum fun i => if E i = b then T i else 0

/-- Graham: longest first is within (4m - 1)/3m of any assignment. -/
theorem lpt {m n : Nat} {T : Nat → Int} {o : Nat → Nat} {a E : Nat → Nat} {f g : Int} (m1 : 1 ≤ m) (m4 : m ≤ 4) (hT : ∀ i, i < n → 0 < T i) (ho : Ord n o) (hs : ∀ i j, i < j → j < n → T (o j) ≤ T (o i)) (ha : ∀ i, i < n → a i < m)
    (hmin : ∀ k, k < n → ∀ b, b < m → ldf a (fun i => T (o i)) k (a k) ≤ ldf a (fun i => T (o i)) k b) (hE : ∀ i, i < n → E i < m) (f0 : 0 ≤ f) (hf : ∀ b, b < m → ldf E T n b ≤ f)
    (hg : g = 0 ∨ ∃ b, b < m ∧ ldf a (fun i => T (o i)) n b = g) : 3 * (m : Int) * g ≤ (4 * (m : Int) - 1) * f := by
  have fin_ : g ≤ f → 3 * (m : Int) * g ≤ (4 * (m : Int) - 1) * f := fun h => by
    have : m = 1 ∨ m = 2 ∨ m = 3 ∨ m = 4 := by omega
    rcases this with rfl | rfl | rfl | rfl <;> simp <;> omega
  by_cases gf : g ≤ f
  · exact fin_ gf
  obtain ⟨b, bm, hb⟩ : ∃ b, b < m ∧ ldf a (fun i => T (o i)) n b = g := by
    rcases hg with h | h
    · omega
    · exact h
  let W : Nat → Int := fun i => T (o i)
  have hW : ∀ i, i < n → 0 < W i := fun i hi => hT _ (ho.lt i hi)
  -- the last thing that went into b
  obtain ⟨k, kn, ak, last⟩ : ∃ k, k < n ∧ a k = b ∧ ∀ j, k < j → j < n → ¬ a j = b := by
    refine last_of (n := n) (fun k => a k = b) ?_
    apply Classical.byContradiction
    intro no
    have : ldf a W n b ≤ 0 * ldf a (fun _ => 1) n b := ldf_top fun i hi e => absurd ⟨i, hi, e⟩ no
    have hb : ldf a W n b = g := hb
    omega
  obtain ⟨t, ht⟩ : ∃ t, t = W k := ⟨_, rfl⟩
  have t0 : 0 < t := by rw [ht]; exact hW k kn
  have gk : ldf a W k b + t = g := by
    have up : ∀ j, k < j → j ≤ n → ldf a W j b = ldf a W k b + t := by
      intro j
      induction j with
      | zero => intro h; omega
      | succ j ih =>
        intro h1 h2
        rw [ldf_succ]
        by_cases e : j = k
        · subst e; rw [if_pos ak, ht]
        · rw [ih (by omega) (by omega), if_neg (last j (by omega) (by omega))]; omega
    rw [← up n kn (Nat.le_refl n)]; exact hb
  have low : ∀ c, c < m → g - t ≤ ldf a W k c := fun c hc => by
    have := hmin k kn c hc
    rw [ak] at this
    have e : ldf a (fun i => T (o i)) k b = ldf a W k b := rfl
    have e' : ldf a (fun i => T (o i)) k c = ldf a W k c := rfl
    omega
  have big : ∀ i, i ≤ k → t ≤ W i := fun i hi => by
    by_cases e : i = k
    · rw [e, ht]; exact Int.le_refl _
    · rw [ht]; exact hs i k (by omega) kn
  -- the other assignment, told by the order
  let F : Nat → Nat := fun i => E (o i)
  have hF : ∀ i, i < n → F i < m := fun i hi => hE _ (ho.lt i hi)
  have lF : ∀ c, c < m → ldf F W (k + 1) c ≤ f := fun c hc => by
    have h1 : ldf F W n c = ldf E T n c := ldf_ord ho E T c
    have h2 := ldf_mono (a := F) (b := c) (fun i hi => Int.le_of_lt (hW i hi)) (show k + 1 ≤ n by omega)
    have := hf c hc
    omega
  by_cases c3 : 3 * t ≤ f
  · -- a small last thing: by the sums
    have s1 : sm (fun _ => g - t) m ≤ sm (fun c => ldf a W k c) m := sm_le fun c hc => low c hc
    rw [ldf_all (fun i hi => ha i (by omega))] at s1
    have s2 : sm (fun c => ldf F W (k + 1) c) m ≤ sm (fun _ => f) m := sm_le fun c hc => lF c hc
    rw [ldf_all (fun i hi => hF i (by omega))] at s2
    simp only [sm] at s2
    rw [← ht] at s2
    have : m = 1 ∨ m = 2 ∨ m = 3 ∨ m = 4 := by omega
    rcases this with rfl | rfl | rfl | rfl <;> simp [sm] at s1 s2 ⊢ <;> omega
  · -- a big one: by counting
    exfalso
    obtain ⟨D, hD⟩ : ∃ D, D = f - t := ⟨_, rfl⟩
    have D0 : 0 ≤ D := by
      have h1 : W k ≤ ldf F W (k + 1) (F k) := by
        rw [ldf_succ, if_pos rfl]
        have := ldf_nonneg (a := F) (b := F k) (k := k) (fun i hi => Int.le_of_lt (hW i (by omega)))
        omega
      have := lF (F k) (hF k kn)
      omega
    let V : Nat → Int := fun i => if D < W i then 1 else 0
    have V0 : ∀ i, 0 ≤ V i ∧ V i ≤ 1 := fun i => by
      show 0 ≤ (if D < W i then (1 : Int) else 0) ∧ (if D < W i then (1 : Int) else 0) ≤ 1
      split <;> omega
    have some_ : ∀ (q : Nat → Nat) (K c : Nat), 0 < ldf q V K c → ∃ i, i < K ∧ q i = c ∧ D < W i := fun q K c h => by
      apply Classical.byContradiction
      intro no
      have : ldf q V K c ≤ 0 * ldf q (fun _ => 1) K c := ldf_top fun i hi e => by
        show (if D < W i then (1 : Int) else 0) ≤ 0
        rw [if_neg (fun h => no ⟨i, hi, e, h⟩)]; exact Int.le_refl _
      omega
    have cntv : ∀ (q : Nat → Nat) (K c : Nat), ldf q V K c ≤ ldf q (fun _ => 1) K c := fun q K c => ldf_le fun i _ => (V0 i).2
    -- the other assignment: a big thing is alone, else there are two at most
    have up2 : ∀ c, c < m → ldf F (fun _ => 1) (k + 1) c + ldf F V (k + 1) c ≤ 2 := by
      intro c hc
      have h1 := lF c hc
      by_cases v : 0 < ldf F V (k + 1) c
      · obtain ⟨i, hi, qi, wi⟩ := some_ F (k + 1) c v
        have e := ldf_swap (w := W) (t := t) qi hi
        have h2 : t * ldf F (fun _ => 1) (k + 1) c ≤ ldf F (fun j => if j = i then t else W j) (k + 1) c := ldf_cnt fun j hj => by
          (try dsimp only)
          split
          · exact Int.le_refl _
          · exact big j (by omega)
        have h3 := cntv F (k + 1) c
        have h4 : ¬ 2 ≤ ldf F (fun _ => 1) (k + 1) c := fun h => by
          have : t * 2 ≤ t * ldf F (fun _ => 1) (k + 1) c := Int.mul_le_mul_of_nonneg_left h (by omega)
          omega
        omega
      · have h2 : t * ldf F (fun _ => 1) (k + 1) c ≤ ldf F W (k + 1) c := ldf_cnt fun j hj => big j (by omega)
        have h4 : ¬ 3 ≤ ldf F (fun _ => 1) (k + 1) c := fun h => by
          have : t * 3 ≤ t * ldf F (fun _ => 1) (k + 1) c := Int.mul_le_mul_of_nonneg_left h (by omega)
          omega
        omega
    -- longest first: two on each, or a big one
    have lo2 : ∀ c, c < m → 2 ≤ ldf a (fun _ => 1) k c + ldf a V k c := by
      intro c hc
      have h1 := low c hc
      have h3 := cntv a k c
      by_cases v : 0 < ldf a V k c
      · omega
      · have h2 : ldf a W k c ≤ D * ldf a (fun _ => 1) k c := ldf_top fun i hi e => by
          apply Classical.byContradiction
          intro n2
          have hv : ldf a V k c = ldf a (fun j => if j = i then 0 else V j) k c + (V i - 0) := ldf_swap e hi
          have h5 := ldf_nonneg (a := a) (w := fun j => if j = i then 0 else V j) (b := c) (k := k) (fun j _ => by
            (try dsimp only)
            split
            · exact Int.le_refl _
            · exact (V0 j).1)
          have h6 : V i = 1 := if_pos (by omega)
          omega
        have h4 : 0 ≤ ldf a (fun _ => 1) k c := ldf_nonneg fun _ _ => by omega
        have h7 : 0 ≤ ldf a V k c := ldf_nonneg fun i _ => (V0 i).1
        by_cases c0 : ldf a (fun _ => 1) k c = 0
        · rw [c0] at h2; omega
        · by_cases c1 : ldf a (fun _ => 1) k c = 1
          · rw [c1] at h2; omega
          · omega
    have t1 := sm_le (n := m) up2
    have t2 := sm_le (n := m) lo2
    have a1 := sm_add (fun c => ldf F (fun _ => 1) (k + 1) c) (fun c => ldf F V (k + 1) c) m
    have a2 := sm_add (fun c => ldf a (fun _ => 1) k c) (fun c => ldf a V k c) m
    rw [ldf_all (fun i hi => hF i (by omega)), ldf_all (fun i hi => hF i (by omega))] at a1
    rw [ldf_all (fun i hi => ha i (by omega)), ldf_all (fun i hi => ha i (by omega))] at a2
    simp only [sm] at a1
    have := (V0 k).1
    omega
/-- The greatest of the first m, and 0. -/
def mx (s : Nat → Int) : Nat → Int
  | 0 => 0
  | k + 1 => max (mx s k) (s k)
theorem mx_le {s : Nat → Int} {X : Int} : ∀ {m : Nat}, mx s m ≤ X ↔ 0 ≤ X ∧ ∀ b, b < m → s b ≤ X
  | 0 => ⟨fun h => ⟨h, fun b hb => by omega⟩, fun h => h.1⟩
  | m + 1 => by
    have ih := mx_le (s := s) (X := X) (m := m)
    constructor
    · intro h
      have h : max (mx s m) (s m) ≤ X := h
      have h1 := ih.1 (by omega)
      refine ⟨h1.1, fun b hb => ?_⟩
      by_cases e : b = m
      · subst e; omega
      · exact h1.2 b (by omega)
    · intro h
      show max (mx s m) (s m) ≤ X
      have h1 := ih.2 ⟨h.1, fun b hb => h.2 b (by omega)⟩
      have := h.2 m (by omega)
      omega
theorem mx_ge {s : Nat → Int} {m b : Nat} (h : b < m) : s b ≤ mx s m := (mx_le.1 (Int.le_refl (mx s m))).2 b h
theorem mx_nonneg (s : Nat → Int) (m : Nat) : 0 ≤ mx s m := (mx_le.1 (Int.le_refl (mx s m))).1
theorem mx_at (s : Nat → Int) : ∀ m, mx s m = 0 ∨ ∃ b, b < m ∧ s b = mx s m
  | 0 => .inl rfl
  | m + 1 => by
    show max (mx s m) (s m) = 0 ∨ ∃ b, b < m + 1 ∧ s b = max (mx s m) (s m)
    by_cases c : mx s m ≤ s m
    · exact .inr ⟨m, by omega, by omega⟩
    · rcases mx_at s m with h | ⟨b, h, e⟩
      · exact .inl (by omega)
      · exact .inr ⟨b, by omega, by omega⟩
theorem mx_tr (a c : Nat) (s : Nat → Int) {m : Nat} (ha : a < m) (hc : c < m) : mx (fun j => s (tr a c j)) m = mx s m := by
  apply Int.le_antisymm
  · rw [mx_le]
    exact ⟨mx_nonneg s m, fun b hb => mx_ge (tr_lt ha hc hb)⟩
  · rw [mx_le]
    refine ⟨mx_nonneg _ m, fun b hb => ?_⟩
    have := mx_ge (s := fun j => s (tr a c j)) (tr_lt ha hc hb)
    simp only [tr_tr] at this
    exact this
theorem mx_up {s : Nat → Int} {m b : Nat} {y : Int} (hb : b < m) (h : s b ≤ y) : mx (up s b y) m = max (mx s m) y := by
  apply Int.le_antisymm
  · rw [mx_le]
    have := mx_nonneg s m
    refine ⟨by omega, fun j hj => ?_⟩
    unfold up
    split
    · omega
    · have := mx_ge (s := s) hj; omega
  · have h1 : mx s m ≤ mx (up s b y) m := by
      rw [mx_le]
      refine ⟨mx_nonneg _ m, fun j hj => ?_⟩
      have := mx_ge (s := up s b y) hj
      by_cases e : j = b
      · subst e; rw [up_same] at this; omega
      · rw [up_ne s y e] at this; exact this
    have h2 := mx_ge (s := up s b y) hb
    rw [up_same] at h2
    omega
theorem mx_congr {s r : Nat → Int} {m : Nat} (h : ∀ b, b < m → s b = r b) : mx s m = mx r m := by
  induction m with
  | zero => rfl
  | succ m ih => show max _ _ = max _ _; rw [ih fun b hb => h b (by omega), h m (by omega)]
theorem mx_more (s : Nat → Int) (m : Nat) : mx s m ≤ mx s (m + 1) := by show mx s m ≤ max _ _; omega

/-- A work given to a press. -/
def addS (s t : Int) : Option Int := if 0 ≤ t then some (s + t) else none
theorem addS_at {s t : Int} (h : 0 ≤ t) : addS s t = some (s + t) := if_pos h
theorem addS_mono (m : Nat) : ∀ (s : Nat → Int) b y t, addS (s b) t = some y → b < m → mx s m ≤ mx (up s b y) m := fun s b y t e hb => by
  unfold addS at e
  split at e
  · simp at e
    rw [mx_up hb (by omega)]; omega
  · cases e
/-- What an assignment loads, by its numbers. -/
theorem fin_ldf : ∀ {ts : List Int} {s : Nat → Int} {E : List Nat}, E.length = ts.length → (∀ t ∈ ts, 0 ≤ t) → fin addS ts s E = some fun b => s b + ldf (fun i => E.getD i 0) (fun i => ts.getD i 0) ts.length b
  | [], s, [], _, _ => by simp [fin, ldf, sm]
  | [], s, b :: E, h, _ => by simp at h
  | t :: ts, s, [], h, _ => by simp at h
  | t :: ts, s, c :: E, h, ht => by
    have t0 := ht t (by simp)
    simp only [fin, addS_at t0]
    rw [fin_ldf (by simpa using h) (fun x hx => ht x (List.mem_cons_of_mem _ hx))]
    congr 1
    funext b
    have front : ∀ (F : Nat → Int) (n : Nat), sm F (n + 1) = F 0 + sm (fun i => F (i + 1)) n := fun F n => by
      induction n with
      | zero => simp [sm]
      | succ n ih => rw [sm, ih]; simp only [sm]; omega
    have e : ldf (fun i => (c :: E).getD i 0) (fun i => (t :: ts).getD i 0) (t :: ts).length b = (if c = b then t else 0) + ldf (fun i => E.getD i 0) (fun i => ts.getD i 0) ts.length b := by
      unfold ldf
      rw [List.length_cons, front]
      simp
    rw [e]
    unfold up
    by_cases c1 : b = c
    · subst c1; rw [if_pos rfl, if_pos rfl]; omega
    · rw [if_neg c1, if_neg (fun h => c1 h.symm)]; omega
end Go.Proofs.Ythbgeikdamajlab.Sea

/- Press: what a search gives in the end; boxes, plain. -/
namespace Go.Proofs.Ythbgeikdamajlab.Sea
open Go.Proofs.Ythbgeikdamajlab.Prs
set_option linter.unusedVariables false
set_option linter.unusedSimpArgs false

section
variable {β : Type} {add : β → Int → Option β} {val : (Nat → β) → Int} {Fs : (Nat → β) → Prop} {M : Nat} {ts : List Int} {s : Nat → β}
/-- The first of the best assignments. -/
structure Best (add : β → Int → Option β) (val : (Nat → β) → Int) (Fs : (Nat → β) → Prop) (M : Nat) (ts : List Int) (s : Nat → β) (L : Int) (E : List Nat) : Prop where
  ok : Ok M E
  fin_ : ∃ s', fin add ts s E = some s' ∧ val s' = L ∧ Fs s'
  low : ∀ E s', Ok M E → fin add ts s E = some s' → L ≤ val s'
  first : ∀ E2 s2, Ok M E2 → fin add ts s E2 = some s2 → val s2 = L → lexle E E2
theorem Sr.best {L L1 : Int} {B B1 : List Nat} (h : Sr add val Fs M (fun _ => True) ts s [] L B L1 B1) (ex : ∃ E s', Ok M E ∧ fin add ts s E = some s' ∧ val s' < L) : Best add val Fs M ts s L1 B1 := by
  obtain ⟨E0, s0, ok0, f0, v0⟩ := ex
  have lo := h.low E0 s0 ok0 (fun _ _ _ => trivial) f0
  rcases h.at_ with ⟨a, _⟩ | ⟨a, E, s', ok, -, f, v, fs, hB, l⟩
  · omega
  · obtain rfl : B1 = E := by simpa using hB
    exact ⟨ok, ⟨s', f, v, fs⟩, fun E s' ok f => h.low E s' ok (fun _ _ _ => trivial) f, fun E2 s2 ok2 f2 v2 => l E2 s2 ok2 (fun _ _ _ => trivial) f2 v2⟩
theorem Best.uniq {L L1 : Int} {E E1 : List Nat} {Fs1 : (Nat → β) → Prop} (h : Best add val Fs M ts s L E) (g : Best add val Fs1 M ts s L1 E1) : L = L1 ∧ E = E1 := by
  obtain ⟨s1, f1, v1, -⟩ := h.fin_
  obtain ⟨s2, f2, v2, -⟩ := g.fin_
  have a := h.low E1 s2 g.ok f2
  have b := g.low E s1 h.ok f1
  have e : L = L1 := by omega
  subst e
  exact ⟨rfl, lexle_anti (by rw [fin_len f1, fin_len f2]) (h.first E1 s2 g.ok f2 v2) (g.first E s1 h.ok f1 v1)⟩
theorem fin_weak {add' : β → Int → Option β} (w : ∀ x t y, add x t = some y → add' x t = some y) : ∀ {ts : List Int} {s s' : Nat → β} {E : List Nat}, fin add ts s E = some s' → fin add' ts s E = some s'
  | [], s, s', [], h => h
  | [], s, s', b :: E, h => by simp [fin] at h
  | t :: ts, s, s', [], h => by simp [fin] at h
  | t :: ts, s, s', b :: E, h => by
    simp only [fin] at h ⊢
    cases y : add (s b) t with
    | none => rw [y] at h; cases h
    | some x =>
      rw [y] at h
      rw [w _ _ _ y]
      exact fin_weak w h
theorem fin_snoc : ∀ {ts : List Int} {s : Nat → β} {E : List Nat} (t : Int) (b : Nat), E.length = ts.length → fin add (ts ++ [t]) s (E ++ [b]) = (fin add ts s E).bind fun s' => (add (s' b) t).map (up s' b)
  | [], s, [], t, b, _ => by
    simp only [List.nil_append, fin, Option.bind_some]
    cases add (s b) t <;> rfl
  | [], s, c :: E, t, b, h => by simp at h
  | x :: ts, s, [], t, b, h => by simp at h
  | x :: ts, s, c :: E, t, b, h => by
    simp only [List.cons_append, fin]
    cases y : add (s c) x with
    | none => rfl
    | some z => exact fin_snoc t b (by simpa using h)
theorem fin_snoc_inv {s'' : Nat → β} {t : Int} {E : List Nat} (h : fin add (ts ++ [t]) s E = some s'') : ∃ E1 b s' y, E = E1 ++ [b] ∧ fin add ts s E1 = some s' ∧ add (s' b) t = some y ∧ s'' = up s' b y := by
  have l := fin_len h
  rw [List.length_append] at l
  have ne : E ≠ [] := fun e => by rw [e] at l; simp at l
  have e := List.dropLast_concat_getLast ne
  have l1 : E.dropLast.length = ts.length := by simp at l ⊢; omega
  rw [← e, fin_snoc _ _ l1] at h
  cases f : fin add ts s E.dropLast with
  | none => rw [f] at h; cases h
  | some s' =>
    rw [f] at h
    simp only [Option.bind_some] at h
    cases y : add (s' (E.getLast ne)) t with
    | none => rw [y] at h; cases h
    | some z =>
      rw [y] at h
      simp at h
      exact ⟨_, _, s', z, e.symm, f, y, h.symm⟩
/-- The first k things. -/
theorem fin_take {E : List Nat} {k : Nat} {s' : Nat → β} (hk : k < ts.length) (hE : k < E.length) (h : fin add (ts.take k) s (E.take k) = some s') : fin add (ts.take (k + 1)) s (E.take (k + 1)) = (add (s' (E.getD k 0)) (ts.getD k 0)).map (up s' (E.getD k 0)) := by
  have e1 : ts.take (k + 1) = ts.take k ++ [ts.getD k 0] := by rw [List.take_succ_eq_append_getElem hk]; simp [hk]
  have e2 : E.take (k + 1) = E.take k ++ [E.getD k 0] := by rw [List.take_succ_eq_append_getElem hE]; simp [hE]
  rw [e1, e2, fin_snoc _ _ (by simp; omega), h]
  rfl
theorem fin_none {E : List Nat} : ∀ {ts : List Int} {s : Nat → β} {E : List Nat} {k : Nat}, fin add (ts.take k) s (E.take k) = none → E.length = ts.length → fin add ts s E = none
  | [], s, [], k, h, _ => by cases k <;> simp [fin] at h
  | [], s, b :: E, k, h, l => by simp at l
  | t :: ts, s, [], k, h, l => by simp at l
  | t :: ts, s, b :: E, 0, h, l => by simp [fin] at h
  | t :: ts, s, b :: E, k + 1, h, l => by
    simp only [List.take_succ_cons, fin] at h ⊢
    cases y : add (s b) t with
    | none => rfl
    | some z =>
      rw [y] at h
      exact fin_none (E := E) h (by simpa using l)
end

/-- How many of the first M boxes have something. -/
def cnt (M : Nat) (s : Nat → Int × Int) : Int := sm (fun b => if (s b).2 = 0 then 0 else 1) M
/-- A thing put into a box. -/
def addP (most each : Int) (x : Int × Int) (t : Int) : Option (Int × Int) := if 0 ≤ x.2 ∧ x.2 < each ∧ x.1 + t ≤ most then some (x.1 + t, x.2 + 1) else none
theorem tr_ord {a c M : Nat} (ha : a < M) (hc : c < M) : Ord M (tr a c) := ⟨fun k hk => tr_lt ha hc hk, fun i j _ _ e => by rw [← tr_tr a c i, e, tr_tr]⟩
theorem cnt_tr {M a c : Nat} (s : Nat → Int × Int) (ha : a < M) (hc : c < M) : cnt M (fun j => s (tr a c j)) = cnt M s := (tr_ord ha hc).sum fun b => if (s b).2 = 0 then 0 else 1
theorem cnt_mono {M : Nat} {most each : Int} : ∀ (s : Nat → Int × Int) b y t, addP most each (s b) t = some y → b < M → cnt M s ≤ cnt M (up s b y) := fun s b y t e hb => by
  unfold addP at e
  split at e
  · next h =>
    simp at e
    subst e
    refine sm_le fun j hj => ?_
    unfold up
    by_cases c : j = b
    · subst c
      rw [if_pos rfl]
      dsimp only
      rw [if_neg (show ¬ (s j).2 + 1 = 0 by omega)]
      split <;> omega
    · rw [if_neg c]; exact Int.le_refl _
  · cases e
theorem cnt_more {M : Nat} (s : Nat → Int × Int) {b : Nat} (y : Int × Int) (hb : b < M) : cnt M (up s b y) ≤ cnt M s + 1 := by
  have one : ∀ m, sm (fun j => if j = b then (1 : Int) else 0) m = if b < m then 1 else 0 := fun m => by
    induction m with
    | zero => rfl
    | succ m ih =>
      simp only [sm]
      rw [ih]
      by_cases e : m = b
      · subst e; rw [if_neg (by omega), if_pos rfl, if_pos (by omega)]; rfl
      · by_cases l : b < m
        · rw [if_pos l, if_neg e, if_pos (by omega)]; rfl
        · rw [if_neg l, if_neg e, if_neg (by omega)]; rfl
  have e := sm_add (fun b => if (s b).2 = 0 then (0 : Int) else 1) (fun j => if j = b then (1 : Int) else 0) M
  rw [one, if_pos hb] at e
  have l : cnt M (up s b y) ≤ sm (fun k => (if (s k).2 = 0 then (0 : Int) else 1) + if k = b then 1 else 0) M := sm_le fun j hj => by
    unfold up
    by_cases c : j = b
    · rw [if_pos c, if_pos c]; split <;> split <;> omega
    · rw [if_neg c, if_neg c]; omega
  rw [e] at l
  exact l
/-- The boxes 0 to below u have something, the others nothing. -/
structure Cn (s : Nat → Int × Int) (u : Nat) : Prop where
  lo : ∀ b, b < u → 0 < (s b).2
  hi : ∀ b, u ≤ b → s b = (0, 0)
theorem Cn.cnt {s : Nat → Int × Int} {u M : Nat} (h : Cn s u) (hu : u ≤ M) : cnt M s = u := by
  have : ∀ m, u ≤ m → sm (fun b => if (s b).2 = 0 then (0 : Int) else 1) m = u := by
    have low : ∀ m, m ≤ u → sm (fun b => if (s b).2 = 0 then (0 : Int) else 1) m = m := fun m => by
      induction m with
      | zero => intro _; rfl
      | succ m ih =>
        intro hm
        simp only [sm]
        rw [ih (by omega), if_neg (by have := h.lo m (by omega); omega)]
        omega
    intro m
    induction m with
    | zero => intro h0; rw [low 0 (by omega)]; omega
    | succ m ih =>
      intro hm
      by_cases e : u = m + 1
      · rw [low (m + 1) (by omega)]; omega
      · simp only [sm]
        rw [ih (by omega), h.hi m (by omega)]; simp
  exact this M hu
theorem Cn.put {s : Nat → Int × Int} {u b : Nat} {y : Int × Int} (h : Cn s u) (hb : b ≤ u) (y0 : 0 < y.2) : Cn (up s b y) (max u (b + 1)) := by
  refine ⟨fun j hj => ?_, fun j hj => ?_⟩
  · unfold up
    split
    · exact y0
    · exact h.lo j (by omega)
  · rw [up_ne s y (by omega)]
    exact h.hi j (by omega)
end Go.Proofs.Ythbgeikdamajlab.Sea

/- Press: there is an assignment; more room, more presses, one thing more; plain. -/
namespace Go.Proofs.Ythbgeikdamajlab.Sea
open Go.Proofs.Ythbgeikdamajlab.Prs
set_option linter.unusedVariables false
set_option linter.unusedSimpArgs false

theorem getD_all {ts : List Int} {p : Int → Prop} (h : ∀ t ∈ ts, p t) {i : Nat} (hi : i < ts.length) : p (ts.getD i 0) := by
  have : ts.getD i 0 = ts[i] := by simp [hi]
  rw [this]; exact h _ (List.getElem_mem hi)
theorem share_ex {ts : List Int} {m : Nat} (h12 : ts.length ≤ 12) (ht : ∀ t ∈ ts, 1 ≤ t ∧ t ≤ 1073741824) (hm : 1 ≤ m) : ∃ E s', Ok m E ∧ fin addS ts (fun _ => 0) E = some s' ∧ mx s' m < 9223372036854775807 := by
  refine ⟨List.replicate ts.length 0, _, fun b hb => by have := (List.mem_replicate.1 hb).2; omega, fin_ldf (by simp) (fun t h => by have := ht t h; omega), ?_⟩
  have : mx (fun b => 0 + ldf (fun i => (List.replicate ts.length 0).getD i 0) (fun i => ts.getD i 0) ts.length b) m ≤ ts.length * 1073741824 := by
    rw [mx_le]
    refine ⟨by omega, fun b hb => ?_⟩
    have := sm_top (F := fun i => if (List.replicate ts.length 0).getD i 0 = b then ts.getD i 0 else 0) (B := 1073741824) (n := ts.length) (fun k hk => by
      have := getD_all ht hk
      split <;> omega) (by omega)
    show 0 + sm (fun i => if (List.replicate ts.length 0).getD i 0 = b then ts.getD i 0 else 0) ts.length ≤ _
    omega
  omega
theorem fin_fresh {most each : Int} (he : 1 ≤ each) : ∀ {ts : List Int} {s : Nat → Int × Int} {E : List Nat}, E.length = ts.length → E.Nodup → (∀ b ∈ E, s b = (0, 0)) → (∀ t ∈ ts, t ≤ most) → ∃ s', fin (addP most each) ts s E = some s'
  | [], s, [], _, _, _, _ => ⟨s, rfl⟩
  | [], s, b :: E, h, _, _, _ => by simp at h
  | t :: ts, s, [], h, _, _, _ => by simp at h
  | t :: ts, s, b :: E, h, nd, hs, ht => by
    have e : addP most each (s b) t = some (t, 1) := by
      rw [hs b (by simp)]
      unfold addP
      rw [if_pos ⟨by simp, by simp; omega, by have := ht t (by simp); simp; omega⟩]
      simp
    rw [List.nodup_cons] at nd
    obtain ⟨s', hs'⟩ := fin_fresh (ts := ts) (s := up s b (t, 1)) (E := E) he (by simpa using h) nd.2 (fun c hc => by rw [up_ne s _ (fun e => nd.1 (by rw [← e]; exact hc))]; exact hs c (List.mem_cons_of_mem _ hc)) (fun x hx => ht x (List.mem_cons_of_mem _ hx))
    exact ⟨s', by simp only [fin]; rw [e]; exact hs'⟩
theorem cnt_len {M : Nat} {most each : Int} : ∀ {ts : List Int} {s s' : Nat → Int × Int} {E : List Nat}, Ok M E → fin (addP most each) ts s E = some s' → cnt M s' ≤ cnt M s + ts.length
  | [], s, s', [], _, h => by simp [fin] at h; rw [h]; simp
  | [], s, s', b :: E, _, h => by simp [fin] at h
  | t :: ts, s, s', [], _, h => by simp [fin] at h
  | t :: ts, s, s', b :: E, ok, h => by
    simp only [fin] at h
    cases y : addP most each (s b) t with
    | none => rw [y] at h; cases h
    | some x =>
      rw [y] at h
      have a := cnt_len (fun c hc => ok c (List.mem_cons_of_mem _ hc)) h
      have b := cnt_more s x (ok b (by simp))
      simp only [List.length_cons]
      omega
theorem cnt_zero (M : Nat) : cnt M (fun _ => (0, 0)) = 0 := by
  have : ∀ m, sm (fun _ => if ((0 : Int), (0 : Int)).2 = 0 then (0 : Int) else 1) m = 0 := fun m => by
    induction m with
    | zero => rfl
    | succ m ih => rw [sm, ih]; rfl
  exact this M
theorem pack_ex {ts : List Int} {M : Nat} {most each : Int} (hM : ts.length ≤ M) (ht : ∀ t ∈ ts, t ≤ most) (he : 1 ≤ each) : ∃ E s', Ok M E ∧ fin (addP most each) ts (fun _ => (0, 0)) E = some s' ∧ cnt M s' < ts.length + 1 := by
  have ok : Ok M (List.range ts.length) := fun b hb => by have := List.mem_range.1 hb; omega
  obtain ⟨s', h⟩ := fin_fresh (most := most) (each := each) he (ts := ts) (s := fun _ => (0, 0)) (E := List.range ts.length) (by simp) List.nodup_range (fun _ _ => rfl) ht
  refine ⟨_, s', ok, h, ?_⟩
  have := cnt_len ok h
  rw [cnt_zero] at this
  omega
/-- The final state of Pack. -/
def Can (M : Nat) (s : Nat → Int × Int) : Prop := ∃ u, u ≤ M ∧ Cn s u
abbrev BestS (m : Nat) (ts : List Int) (L : Int) (E : List Nat) : Prop := Best addS (fun s => mx s m) (fun _ => True) m ts (fun _ => 0) L E
abbrev BestP (most each : Int) (M : Nat) (ts : List Int) (L : Int) (E : List Nat) : Prop := Best (addP most each) (cnt M) (Can M) M ts (fun _ => (0, 0)) L E
theorem addP_weak {most each most' each' : Int} (h1 : most ≤ most') (h2 : each ≤ each') : ∀ x t y, addP most each x t = some y → addP most' each' x t = some y := fun x t y h => by
  unfold addP at h ⊢
  split at h
  · next g => rw [if_pos ⟨g.1, by omega, by omega⟩]; exact h
  · cases h
/-- More room never needs more boxes. -/
theorem BestP.room {most each most' each' : Int} {M : Nat} {ts : List Int} {L L' : Int} {E E' : List Nat} (h : BestP most each M ts L E) (g : BestP most' each' M ts L' E') (h1 : most ≤ most') (h2 : each ≤ each') : L' ≤ L := by
  obtain ⟨s1, f1, v1, -⟩ := h.fin_
  have := g.low E s1 h.ok (fin_weak (addP_weak h1 h2) f1)
  omega
/-- One thing more never needs fewer boxes, and one box more at most. -/
theorem BestP.more {most each t : Int} {M : Nat} {ts : List Int} {L L' : Int} {E E' : List Nat} (h : BestP most each M ts L E) (g : BestP most each M (ts ++ [t]) L' E') (hM : ts.length < M) (ht : t ≤ most) (he : 1 ≤ each) : L ≤ L' ∧ L' ≤ L + 1 := by
  constructor
  · obtain ⟨s2, f2, v2, -⟩ := g.fin_
    obtain ⟨E1, b, s', y, rfl, f1, a, rfl⟩ := fin_snoc_inv f2
    have ok1 : Ok M E1 := fun c hc => g.ok c (by simp [hc])
    have := h.low E1 s' ok1 f1
    have := cnt_mono (M := M) s' b y t a (g.ok b (by simp))
    omega
  · obtain ⟨s1, f1, v1, u, hu, cn⟩ := h.fin_
    have l := cnt_len h.ok f1
    rw [cnt_zero, cn.cnt hu] at l
    have hb : u < M := by omega
    have e : addP most each (s1 u) t = some (t, 1) := by
      rw [cn.hi u (Nat.le_refl u)]
      unfold addP
      rw [if_pos ⟨by simp, by simp; omega, by simp; omega⟩]
      simp
    have f2 : fin (addP most each) (ts ++ [t]) (fun _ => (0, 0)) (E ++ [u]) = some (up s1 u (t, 1)) := by
      rw [fin_snoc _ _ (fin_len f1), f1]
      simp only [Option.bind_some, e, Option.map_some]
    have := g.low (E ++ [u]) _ (fun c hc => by
      rcases List.mem_append.1 hc with hc | hc
      · exact h.ok c hc
      · simp at hc; omega) f2
    have := cnt_more s1 (t, 1) hb
    omega
/-- One press more never finishes later. -/
theorem BestS.press {m : Nat} {ts : List Int} {L L' : Int} {E E' : List Nat} (ht : ∀ t ∈ ts, 1 ≤ t ∧ t ≤ 1073741824) (h : BestS m ts L E) (g : BestS (m + 1) ts L' E') : L' ≤ L := by
  obtain ⟨s1, f1, v1, -⟩ := h.fin_
  have := g.low E s1 (fun b hb => Nat.lt_succ_of_lt (h.ok b hb)) f1
  have f2 := fin_ldf (s := fun _ => 0) (fin_len f1) (fun t k => by have := ht t k; omega)
  rw [f1] at f2
  have f2 := Option.some.inj f2
  have z : s1 m = 0 := by
    rw [f2]
    have le : ldf (fun i => E.getD i 0) (fun i => ts.getD i 0) ts.length m = 0 := by
      have : ∀ k, k ≤ ts.length → ldf (fun i => E.getD i 0) (fun i => ts.getD i 0) k m = 0 := fun k => by
        induction k with
        | zero => intro _; rfl
        | succ k ih =>
          intro hk
          rw [ldf_succ, ih (by omega), if_neg]
          · rfl
          · have hE : k < E.length := by rw [fin_len f1]; omega
            have := h.ok (E.getD k 0) (by simp [hE])
            omega
      exact this _ (Nat.le_refl _)
    show 0 + ldf (fun i => E.getD i 0) (fun i => ts.getD i 0) ts.length m = 0
    rw [le]; rfl
  have n0 := mx_nonneg s1 m
  have : mx s1 (m + 1) = max (mx s1 m) (s1 m) := rfl
  omega
end Go.Proofs.Ythbgeikdamajlab.Sea

/- Press: rows and boxes in memory; slices.Index, slices.Contains; checkTimes. -/
namespace Go.Proofs.Ythbgeikdamajlab
open Go.RowKit Go.Proofs.Ythbgeikdamajlab.Prs Go.Proofs.Ythbgeikdamajlab.Stb
set_option linter.unusedVariables false
set_option linter.unusedSimpArgs false

theorem gi_mem {H : List Int} {i : Nat} (h : i < H.length) : gi H i ∈ H := by
  unfold gi; rw [List.getElem?_eq_getElem h]; exact List.getElem_mem h
theorem mem_gi {H : List Int} {v : Int} (h : v ∈ H) : ∃ i, i < H.length ∧ gi H i = v := by
  obtain ⟨i, hi, e⟩ := List.mem_iff_getElem.1 h
  exact ⟨i, hi, by unfold gi; rw [List.getElem?_eq_getElem hi]; exact e⟩
set_option maxRecDepth 100000 in
set_option maxHeartbeats 4000000 in
theorem index_any (p : Option Addr) (c : Nat) (H : List Int) (v : Int) (w : World) (r : NumR w p H) (ln : H.length ≤ 1000000) :
    Calls Try.prog 35 #[.slice p H.length c, .int .i64 v] w fun e w' => ∃ x, e = .returned (.int .i64 x) ∧ ((x = -1 ∧ v ∉ H) ∨ (0 ≤ x ∧ v ∈ H)) ∧ Below w.heap.size w w' := by
  have R := Lib.hid r
  have HM := Lib.hid (fun i (hi : i < H.length) => gi_mem hi)
  have HG := Lib.hid (fun (h : v ∈ H) => mem_gi h)
  obtain ⟨n, hn⟩ : ∃ n, n = H.length := ⟨_, rfl⟩
  rw [← hn] at ln HM HG ⊢
  have HN := Lib.hid hn
  clear hn r
  go_enter Try.func35, Try.ntmps35
  go_wp2_with fail
  go_loopw [8] (fun kv wr => ∃ i : Nat, i ≤ n ∧ kv = .int .i64 i ∧ Hid (∀ j, j < i → gi H j ≠ v) ∧ Hid (Below w.heap.size w wr)) (fun kv _ => n - (intOf kv).toNat)
  case atStart => exact ⟨0, Nat.zero_le _, rfl, Lib.hid fun j h => absurd h (by omega), Lib.hid (Below.refl _ _)⟩
  case round =>
    obtain ⟨i, hi, rfl, HO, HB⟩ := hrel
    by_cases t2 : i < n
    · obtain ⟨x, rfl, kx, cx⟩ := (R.out.below HB.out) i (by have := HN.out; omega)
      have i1 : (0 : Int) ≤ (i : Int) := by omega
      have i2 : (i : Int) < (n : Int) := by omega
      have MI := Lib.hid (HM.out i t2)
      have SX := Lib.hid (show gi H i ≠ v → ∀ j, j < i + 1 → gi H j ≠ v from fun h j hj => by
          by_cases e : j = i
          · subst e; exact h
          · exact HO.out j (by omega))
      clear HO kx
      generalize gi H i = P at *
      by_cases hp : P = v
      · have MV := Lib.hid (hp ▸ MI.out)
        have eb : (v == P) = true := by simp [hp]
        clear hp SX MI HM HG
        go_wp2_with fail
        try (go_quiet (fail))
        try (go_wp2_with fail)
        go_ret
        exact ⟨i, rfl, .inr ⟨i1, MV.out⟩, (by first | exact HB.out | exact HB.out.drew | exact below_drewN HB.out _)⟩
      · have SN := Lib.hid (SX.out hp)
        have eb : (v == P) = false := by
          rw [beq_eq_false_iff_ne]; exact fun e => hp e.symm
        clear hp SX MI HM HG
        go_wp2_with fail
        try (go_quiet (fail))
        try (go_wp2_with fail)
        go_roundw
        case rel => exact ⟨i + 1, by omega, by go_num, SN, (by first | exact HB | exact Lib.hid HB.out.drew | exact Lib.hid (below_drewN HB.out _))⟩
        case measure => simp [intOf]; omega
    · obtain rfl : i = n := by omega
      have NM := Lib.hid (show v ∉ H from fun h => by
        obtain ⟨j, hj, e⟩ := HG.out h
        exact HO.out j hj e)
      clear HM HG HO
      go_wp2_with fail
      go_ret
      exact ⟨-1, rfl, .inl ⟨rfl, NM.out⟩, (by first | exact HB.out | exact HB.out.drew | exact below_drewN HB.out _)⟩

theorem contains_any (p : Option Addr) (c : Nat) (H : List Int) (v : Int) (w : World) (r : NumR w p H) (ln : H.length ≤ 1000000) :
    Calls Try.prog 33 #[.slice p H.length c, .int .i64 v] w fun e w' => e = .returned (.bool (decide (v ∈ H))) ∧ Below w.heap.size w w' := by
  have IX := Lib.hid (index_any p c H v w r ln)
  obtain ⟨n, hn⟩ : ∃ n, n = H.length := ⟨_, rfl⟩
  rw [← hn] at IX ⊢
  clear hn ln r
  go_enter Try.func33, Try.ntmps33
  go_wp2_with fail
  refine IX.out.mono ?_
  rintro e w1 ⟨x, rfl, hx, hb⟩
  have HB := Lib.hid hb
  have HX := Lib.hid (show decide (0 ≤ x) = decide (v ∈ H) from by
    rcases hx with ⟨rfl, h⟩ | ⟨h0, h⟩
    · simp [h]
    · simp [h, h0])
  clear hx hb IX
  go_wp2_with fail
  go_ret
  exact ⟨ret_b HX.out, (by first | exact HB.out | exact HB.out.drew | exact below_drewN HB.out _)⟩


/-- A row of numbers that is a block whole. -/
def IR (W : World) (g : Nat) (t : TypeId) (n : Nat) (f : Nat → Int) : Prop := W.heap[g]? = some (.cells ((List.range n).map fun k => Value.int .i64 (f k)).toArray t (0, 0))
/-- A box. -/
def BX (W : World) (b : Nat) (t : TypeId) (v : Value) : Prop := W.heap[b]? = some (.cells #[v] t (0, 0))
section
variable {W W' : World} {g b n : Nat} {t : TypeId} {f : Nat → Int} {v : Value}
theorem IR.cell (h : IR W g t n f) {k : Nat} (hk : k < n) : W.cell? ⟨g, k, none⟩ = some (.int .i64 (f k)) := by
  unfold IR at h
  simp [World.cell?, h, hk]
theorem IR.frozen (h : IR W g t n f) (k : Nat) : W.frozen? ⟨g, k, none⟩ = false := by
  unfold IR at h
  simp [World.frozen?, h]
theorem IR.lt (h : IR W g t n f) : g < W.heap.size := (Array.getElem?_eq_some_iff.1 h).1
theorem IR.ext {f' : Nat → Int} (h : IR W g t n f) (e : ∀ k, k < n → f k = f' k) : IR W g t n f' := by
  have e : ((List.range n).map fun k => Value.int .i64 (f k)) = (List.range n).map fun k => Value.int .i64 (f' k) := List.map_congr_left fun k hk => by rw [e k (List.mem_range.1 hk)]
  unfold IR at *
  rw [← e]; exact h
theorem IR.set (h : IR W g t n f) (k : Nat) (x : Int) : IR (W.setCell ⟨g, k, none⟩ (.int .i64 x)) g t n (upd f k x) := by
  have := heap_setCell_same W g k _ t (.int .i64 x) h
  unfold IR
  rw [this]
  congr 2
  apply Array.ext'
  simp only [Array.toList_setIfInBounds]
  apply List.ext_getElem
  · simp
  · intro i h1 h2
    simp only [List.getElem_set, List.getElem_map, List.getElem_range, upd]
    by_cases c : k = i
    · subst c; simp
    · rw [if_neg c, if_neg (fun e => c e.symm)]
theorem IR.keep (h : IR W g t n f) (e : W'.heap[g]? = W.heap[g]?) : IR W' g t n f := e.trans h
theorem BX.cell (h : BX W b t v) : W.cell? ⟨b, 0, none⟩ = some v := by
  unfold BX at h
  simp [World.cell?, h]
theorem BX.frozen (h : BX W b t v) : W.frozen? ⟨b, 0, none⟩ = false := by
  unfold BX at h
  simp [World.frozen?, h]
theorem BX.lt (h : BX W b t v) : b < W.heap.size := (Array.getElem?_eq_some_iff.1 h).1
theorem BX.keep (h : BX W b t v) (e : W'.heap[b]? = W.heap[b]?) : BX W' b t v := e.trans h
theorem BX.set (h : BX W b t v) (u : Value) : BX (W.setCell ⟨b, 0, none⟩ u) b t u := by
  have := heap_setCell_same W b 0 _ t u h
  unfold BX
  rw [this]; rfl
theorem IR.num (h : IR W g t n f) {m : Nat} (hm : m ≤ n) : NumR W (some ⟨g, 0, none⟩) ((List.range m).map f) := fun i hi => by
  have hi : i < m := by simpa using hi
  have e : (Addr.mk g 0 none).add i = ⟨g, i, none⟩ := by
    unfold Addr.add
    split
    · next h => subst h; rfl
    · simp
  refine ⟨⟨g, 0, none⟩, rfl, h.lt, ?_⟩
  rw [e, h.cell (by omega), gi_map hi]
theorem IR.of (h : W.ownsRow b t 1 (.slice (some ⟨g, 0, none⟩) n n) n ((List.range n).map fun k => .int .i64 (f k))) : IR W g t n f := by
  rcases h.2 with ⟨e, _⟩ | ⟨g', cap, cur, e, _, hg, hn, _, hs, ht⟩
  · cases e
  · simp at e
    obtain ⟨rfl, rfl⟩ := e
    unfold IR
    rw [hg]
    congr 2
    apply Array.ext'
    rw [← ht]
    simp only [Nat.mul_one] at hs ⊢
    rw [List.take_of_length_le (by simp [hs])]
end
/-- All blocks but some are as they were. -/
structure Fm (M : Nat → Prop) (w w' : World) : Prop where
  os : w'.os = w.os
  tape : w'.tape = w.tape
  output : w'.output = w.output
  size : w.heap.size ≤ w'.heap.size
  block : ∀ k, k < w.heap.size → ¬ M k → w'.heap[k]? = w.heap[k]?
theorem Fm.refl (M : Nat → Prop) (w : World) : Fm M w w := ⟨rfl, rfl, rfl, Nat.le_refl _, fun _ _ _ => rfl⟩
theorem Fm.trans {M : Nat → Prop} {a b c : World} (h : Fm M a b) (k : Fm M b c) : Fm M a c :=
  ⟨k.os.trans h.os, k.tape.trans h.tape, k.output.trans h.output, Nat.le_trans h.size k.size, fun q hq hm => (k.block q (Nat.lt_of_lt_of_le hq h.size) hm).trans (h.block q hq hm)⟩
theorem Fm.call {M : Nat → Prop} {w w' : World} (h : Below w.heap.size w w') : Fm M w w' := ⟨h.os, h.tape, h.output, h.size, fun k hk _ => h.block k hk⟩
theorem Fm.set {M : Nat → Prop} {w : World} (a : Addr) (v : Value) (h : M a.block) : Fm M w (w.setCell a v) :=
  ⟨rfl, rfl, rfl, by simp [World.setCell], fun k hk hm => by rw [Below.heap_setCell _ _ _ _ (fun e => hm (by rw [e]; exact h))]⟩
theorem Fm.setRow {M : Nat → Prop} {w : World} (g : Nat) (cs : Array Value) (h : M g) : Fm M w (w.setRow g cs) :=
  ⟨rfl, rfl, rfl, by simp [World.setRow], fun k hk hm => setRow_other w g k cs (fun e => hm (by rw [e]; exact h))⟩
/-- What the check of times answers. -/
def TmOk (T : List Int) (n : Nat) : Prop := ∀ i, i < n → 1 ≤ gi T i ∧ gi T i ≤ 1073741824
def TErr (T : List Int) (m : Int) (x : Int) : Prop := (12 < T.length ∧ x = 3) ∨ (T.length ≤ 12 ∧ ¬ (1 ≤ m ∧ m ≤ 4 ∧ TmOk T T.length) ∧ x = 2) ∨ (T.length ≤ 12 ∧ 1 ≤ m ∧ m ≤ 4 ∧ TmOk T T.length ∧ x = 0)
theorem TErr.fn {T : List Int} {m x y : Int} (h : TErr T m x) (g : TErr T m y) : x = y := by
  rcases h with ⟨a, b⟩ | ⟨a, b, c⟩ | ⟨a, b, c, d, e⟩ <;> rcases g with ⟨a', b'⟩ | ⟨a', b', c'⟩ | ⟨a', b', c', d', e'⟩ <;> first | omega | exact absurd ⟨b, c, d⟩ b' | exact absurd ⟨b', c', d'⟩ b
theorem TErr.good {T : List Int} {m : Int} (h : TErr T m 0) : T.length ≤ 12 ∧ 1 ≤ m ∧ m ≤ 4 ∧ TmOk T T.length := by
  rcases h with ⟨a, b⟩ | ⟨a, b, c⟩ | ⟨a, b, c, d, e⟩
  · omega
  · omega
  · exact ⟨a, b, c, d⟩

set_option maxRecDepth 100000 in
set_option maxHeartbeats 4000000 in
theorem checkTimes_any (p : Option Addr) (c : Nat) (T : List Int) (m : Int) (w : World) (r : NumR w p T) (ln : T.length ≤ 9223372036854775807) :
    Calls Try.prog 31 #[.slice p T.length c, .int .i64 m] w fun e w' => ∃ x, e = .returned (.int .i64 x) ∧ TErr T m x ∧ Below w.heap.size w w' := by
  have R := Lib.hid r
  obtain ⟨n, hn⟩ : ∃ n, n = T.length := ⟨_, rfl⟩
  have HE := Lib.hid (show ∀ x, TErr T m x = ((12 < n ∧ x = 3) ∨ (n ≤ 12 ∧ ¬ (1 ≤ m ∧ m ≤ 4 ∧ TmOk T n) ∧ x = 2) ∨ (n ≤ 12 ∧ 1 ≤ m ∧ m ≤ 4 ∧ TmOk T n ∧ x = 0)) from fun x => by rw [hn]; rfl)
  rw [← hn] at ln ⊢
  have HN := Lib.hid hn
  clear hn r
  by_cases t0 : 12 < n
  · have t1 : decide (12 < n) = true := decide_eq_true t0
    go_enter Try.func31, Try.ntmps31
    go_wp2_with fail
    go_ret
    exact ⟨3, rfl, by rw [HE.out]; exact .inl ⟨t0, rfl⟩, Below.refl _ _⟩
  have t1 : decide (12 < n) = false := decide_eq_false t0
  have N12 := Lib.hid (show n ≤ 12 by omega)
  by_cases m0 : 1 ≤ m ∧ m ≤ 4
  case neg =>
    have IW := Lib.hid (fun W => isWithin_b m 1 4 false (by rw [Bool.eq_false_iff]; intro h; simp at h; exact m0 h) W)
    have FE := Lib.hid (show TErr T m 2 from by rw [HE.out]; exact .inr (.inl ⟨N12.out, fun h => m0 ⟨h.1, h.2.1⟩, rfl⟩))
    clear m0 HE
    go_enter Try.func31, Try.ntmps31
    go_wp2_with fail
    refine (IW.out _).mono ?_
    rintro e w1 ⟨rfl, rfl⟩
    go_wp2_with fail
    go_ret
    exact ⟨2, rfl, FE.out, Below.refl _ _⟩
  have M0 := Lib.hid m0
  have IW := Lib.hid (fun W => isWithin_b m 1 4 true (by simp; exact M0.out) W)
  clear m0
  go_enter Try.func31, Try.ntmps31
  go_wp2_with fail
  refine (IW.out _).mono ?_
  rintro e w1 ⟨rfl, rfl⟩
  clear IW
  go_wp2_with fail
  go_loopw [15] (fun kv wr => ∃ i : Nat, i ≤ n ∧ kv = .int .i64 i ∧ Hid (TmOk T i) ∧ wr = w) (fun kv _ => n - (intOf kv).toNat)
  case atStart => exact ⟨0, Nat.zero_le _, rfl, Lib.hid fun i h => absurd h (by omega), rfl⟩
  case round =>
    obtain ⟨i, hi, rfl, HO, rfl⟩ := hrel
    by_cases t2 : i < n
    · obtain ⟨x, rfl, kx, cx⟩ := R.out i (by have := HN.out; omega)
      have i1 : (0 : Int) ≤ (i : Int) := by omega
      have i2 : (i : Int) < (n : Int) := by omega
      have SX := Lib.hid (show (1 ≤ gi T i ∧ gi T i ≤ 1073741824) → TmOk T (i + 1) from fun h j hj => by
        by_cases e : j = i
        · subst e; exact h
        · exact HO.out j (by omega))
      have NK := Lib.hid (show ¬ (1 ≤ gi T i ∧ gi T i ≤ 1073741824) → TErr T m 2 from fun h => by
        rw [HE.out]
        exact .inr (.inl ⟨N12.out, fun g => h (g.2.2 i t2), rfl⟩))
      clear HO kx
      generalize gi T i = P at *
      by_cases hp : 1 ≤ P ∧ P ≤ 1073741824
      · have IW := Lib.hid (fun W => isWithin_b P 1 1073741824 true (by simp; exact hp) W)
        have SN := Lib.hid (SX.out hp)
        clear hp SX NK
        go_wp2_with fail
        refine (IW.out _).mono ?_
        rintro e w1 ⟨rfl, rfl⟩
        clear IW
        go_wp2_with fail
        go_roundw
        case rel => exact ⟨i + 1, by omega, by go_num, SN, trivial⟩
        case measure => simp [intOf]; omega
      · have IW := Lib.hid (fun W => isWithin_b P 1 1073741824 false (by rw [Bool.eq_false_iff]; intro h; simp at h; exact hp h) W)
        have FE := Lib.hid (NK.out hp)
        clear hp SX NK
        go_wp2_with fail
        refine (IW.out _).mono ?_
        rintro e w1 ⟨rfl, rfl⟩
        clear IW
        go_wp2_with fail
        go_ret
        exact ⟨2, rfl, FE.out, Below.refl _ _⟩
    · obtain rfl : i = n := by omega
      have FE := Lib.hid (show TErr T m 0 from by rw [HE.out]; exact .inr (.inr ⟨N12.out, M0.out.1, M0.out.2, HO.out, rfl⟩))
      go_wp2_with fail
      go_ret
      exact ⟨0, rfl, FE.out, Below.refl _ _⟩
end Go.Proofs.Ythbgeikdamajlab

/- Press: the check of tasks; the longest of those that are chosen. -/
namespace Go.Proofs.Ythbgeikdamajlab
open Go.RowKit Go.Proofs.Ythbgeikdamajlab.Prs Go.Proofs.Ythbgeikdamajlab.Stb
set_option linter.unusedVariables false
set_option linter.unusedSimpArgs false

/-- The first n tasks are in their bounds: the time (pd), the due time (sd). -/
def TkOk (D : List (Int × Int)) (n : Nat) : Prop := ∀ i, i < n → (1 ≤ pd D i ∧ pd D i ≤ 1073741824) ∧ 0 ≤ sd D i ∧ sd D i ≤ 1073741824
/-- What the check of tasks answers. -/
def KErr (D : List (Int × Int)) (x : Int) : Prop := (64 < D.length ∧ x = 3) ∨ (D.length ≤ 64 ∧ TkOk D D.length ∧ x = 0) ∨ (D.length ≤ 64 ∧ ¬ TkOk D D.length ∧ x = 2)

set_option maxRecDepth 100000 in
set_option maxHeartbeats 4000000 in
theorem checkTasks_any (p : Option Addr) (c : Nat) (D : List (Int × Int)) (w : World) (r : DmpR w p D) (ln : D.length ≤ 1000000) :
    Calls Try.prog 24 #[.slice p D.length c] w fun e w' => ∃ x, e = .returned (.int .i64 x) ∧ KErr D x ∧ Below w.heap.size w w' := by
  have R := Lib.hid r
  obtain ⟨n, hn⟩ : ∃ n, n = D.length := ⟨_, rfl⟩
  have HE := Lib.hid (show ∀ x, KErr D x = ((64 < n ∧ x = 3) ∨ (n ≤ 64 ∧ TkOk D n ∧ x = 0) ∨ (n ≤ 64 ∧ ¬ TkOk D n ∧ x = 2)) from fun x => by rw [hn]; rfl)
  rw [← hn] at ln ⊢
  have HN := Lib.hid hn
  clear hn r
  by_cases t0 : 64 < n
  · have t1 : decide (64 < n) = true := decide_eq_true t0
    go_enter Try.func24, Try.ntmps24
    go_wp2_with fail
    go_ret
    exact ⟨3, rfl, by rw [HE.out]; exact .inl ⟨t0, rfl⟩, Below.refl _ _⟩
  have t1 : decide (64 < n) = false := decide_eq_false t0
  go_enter Try.func24, Try.ntmps24
  go_wp2_with fail
  go_loopw [10] (fun kv wr => ∃ i : Nat, i ≤ n ∧ kv = .int .i64 i ∧ Hid (TkOk D i) ∧ Hid (Below w.heap.size w wr)) (fun kv _ => n - (intOf kv).toNat)
  case atStart => exact ⟨0, Nat.zero_le _, rfl, Lib.hid fun i h => absurd h (by omega), Lib.hid (Below.refl _ _)⟩
  case round =>
    obtain ⟨i, hi, rfl, HO, HB⟩ := hrel
    by_cases t2 : i < n
    · obtain ⟨x, rfl, kx, cx, dx⟩ := (R.out.below HB.out) i (by have := HN.out; omega)
      have i1 : (0 : Int) ≤ (i : Int) := by omega
      have i2 : (i : Int) < (n : Int) := by omega
      have SX := Lib.hid (show TkOk D (i + 1) ↔ (1 ≤ pd D i ∧ pd D i ≤ 1073741824) ∧ 0 ≤ sd D i ∧ sd D i ≤ 1073741824 from
        ⟨fun h => by have := h i (by omega); omega, fun h j hj => by
          by_cases e : j = i
          · subst e; omega
          · exact HO.out j (by omega)⟩)
      have NO := Lib.hid (show ¬ TkOk D (i + 1) → ¬ TkOk D n from fun h g => h fun j hj => g j (by omega))
      clear HO
      generalize pd D i = P at *
      generalize sd D i = S at *
      by_cases hp : 1 ≤ P ∧ P ≤ 1073741824
      · by_cases hs : 0 ≤ S ∧ S ≤ 1073741824
        · have OK := Lib.hid (SX.out.2 ⟨hp, hs⟩)
          have C1 := Lib.hid (fun W => isWithin_b P 1 1073741824 true (by simp [hp]) W)
          have C2 := Lib.hid (fun W => isWithin_b S 0 1073741824 true (by simp [hs]) W)
          clear hp hs SX NO
          go_wp2_with fail
          refine (C1.out _).mono ?_
          rintro e w1 ⟨rfl, rfl⟩
          go_wp2_with fail
          refine (C2.out _).mono ?_
          rintro e w1 ⟨rfl, rfl⟩
          go_wp2_with fail
          go_roundw
          case rel => exact ⟨i + 1, by omega, by go_num, OK, Lib.hid (HB.out.alloc HB.out.size _)⟩
          case measure => simp [intOf]; omega
        · have NK := Lib.hid (NO.out fun h => hs (SX.out.1 h).2)
          have C1 := Lib.hid (fun W => isWithin_b P 1 1073741824 true (by simp [hp]) W)
          have C2 := Lib.hid (fun W => isWithin_b S 0 1073741824 false (by
            rw [Bool.and_eq_false_iff]
            by_cases c : 0 ≤ S
            · exact .inr (decide_eq_false (fun g => hs ⟨c, g⟩))
            · exact .inl (decide_eq_false c)) W)
          clear hp hs SX NO
          go_wp2_with fail
          refine (C1.out _).mono ?_
          rintro e w1 ⟨rfl, rfl⟩
          go_wp2_with fail
          refine (C2.out _).mono ?_
          rintro e w1 ⟨rfl, rfl⟩
          go_wp2_with fail
          go_ret
          exact ⟨2, rfl, by rw [HE.out]; exact .inr (.inr ⟨by omega, NK.out, rfl⟩), HB.out.alloc HB.out.size _⟩
      · have NK := Lib.hid (NO.out fun h => hp (SX.out.1 h).1)
        have C1 := Lib.hid (fun W => isWithin_b P 1 1073741824 false (by
            rw [Bool.and_eq_false_iff]
            by_cases c : 1 ≤ P
            · exact .inr (decide_eq_false (fun g => hp ⟨c, g⟩))
            · exact .inl (decide_eq_false c)) W)
        clear hp SX NO
        go_wp2_with fail
        refine (C1.out _).mono ?_
        rintro e w1 ⟨rfl, rfl⟩
        go_wp2_with fail
        go_ret
        exact ⟨2, rfl, by rw [HE.out]; exact .inr (.inr ⟨by omega, NK.out, rfl⟩), HB.out.alloc HB.out.size _⟩
    · obtain rfl : i = n := by omega
      go_wp2_with fail
      go_ret
      exact ⟨0, rfl, by rw [HE.out]; exact .inr (.inl ⟨by omega, HO.out, rfl⟩), HB.out⟩

/-- The last of the longest among the first i that are chosen. -/
def Lg (D : List (Int × Int)) (A : List Int) (i j : Nat) : Prop := (i = 0 ∧ j = 0) ∨ (j < i ∧ (∀ k, k < i → pd D (gi A k).toNat ≤ pd D (gi A j).toNat) ∧ ∀ k, j < k → k < i → pd D (gi A k).toNat < pd D (gi A j).toNat)
theorem Lg.ge {D : List (Int × Int)} {A : List Int} {i j : Nat} (h : Lg D A i j) (g : pd D (gi A j).toNat ≤ pd D (gi A i).toNat) : Lg D A (i + 1) i := by
  refine .inr ⟨by omega, fun k hk => ?_, fun k h1 h2 => by omega⟩
  by_cases e : k = i
  · rw [e]; exact Int.le_refl _
  · rcases h with ⟨h, _⟩ | ⟨_, h, _⟩
    · omega
    · exact Int.le_trans (h k (by omega)) g
theorem Lg.lt {D : List (Int × Int)} {A : List Int} {i j : Nat} (h : Lg D A i j) (g : ¬ pd D (gi A j).toNat ≤ pd D (gi A i).toNat) : Lg D A (i + 1) j := by
  rcases h with ⟨h1, h2⟩ | ⟨h1, h2, h3⟩
  · subst h1; subst h2; exact absurd (Int.le_refl _) g
  · refine .inr ⟨by omega, fun k hk => ?_, fun k k1 k2 => ?_⟩
    · by_cases e : k = i
      · rw [e]; omega
      · exact h2 k (by omega)
    · by_cases e : k = i
      · rw [e]; omega
      · exact h3 k k1 (by omega)

set_option maxRecDepth 100000 in
set_option maxHeartbeats 8000000 in
theorem longest_any (p : Option Addr) (c : Nat) (D : List (Int × Int)) (q : Option Addr) (d : Nat) (A : List Int) (w : World) (r : DmpR w p D) (ra : NumR w q A) (la : A.length ≤ 1000000) (ok : ∀ k, k < A.length → 0 ≤ gi A k ∧ gi A k < D.length) :
    Calls Try.prog 28 #[.slice p D.length c, .slice q A.length d] w fun e w' => ∃ j : Nat, e = .returned (.int .i64 j) ∧ Lg D A A.length j ∧ Below w.heap.size w w' := by
  have R := Lib.hid r
  have RA := Lib.hid ra
  have OK := Lib.hid ok
  obtain ⟨n, hn⟩ : ∃ n, n = D.length := ⟨_, rfl⟩
  obtain ⟨l, hl⟩ : ∃ l, l = A.length := ⟨_, rfl⟩
  rw [← hn, ← hl] at OK
  rw [← hn, ← hl]
  rw [← hl] at la
  have HN := Lib.hid (show n = D.length ∧ l = A.length from ⟨hn, hl⟩)
  clear hn hl r ra ok
  go_enter Try.func28, Try.ntmps28
  go_wp2_with fail
  go_loopw [5, 10] (fun jv kv wr => ∃ i j : Nat, i ≤ l ∧ (j = 0 ∨ j < i) ∧ kv = .int .i64 i ∧ jv = .int .i64 j ∧ Hid (Lg D A i j) ∧ Hid (Below w.heap.size w wr)) (fun _ kv _ => l - (intOf kv).toNat)
  case atStart => exact ⟨0, 0, Nat.zero_le _, .inl rfl, rfl, rfl, Lib.hid (.inl ⟨rfl, rfl⟩), Lib.hid (Below.refl _ _)⟩
  case round =>
    obtain ⟨i, j, hi', hj, rfl, rfl, LG, HB⟩ := hrel
    by_cases t1 : i < l
    · have i1 : (0 : Int) ≤ (i : Int) := by omega
      have i2 : (i : Int) < (l : Int) := by omega
      have j1 : (0 : Int) ≤ (j : Int) := by omega
      have j2 : (j : Int) < (l : Int) := by omega
      obtain ⟨y, rfl, ky, cy⟩ := (RA.out.below HB.out) i (by have := HN.out; omega)
      obtain ⟨y', ey, ky', cj⟩ := (RA.out.below HB.out) j (by have := HN.out; omega)
      cases ey
      have oi := OK.out i t1
      have oj := OK.out j (by omega)
      have LG1 := Lib.hid (LG.out.ge)
      have LG2 := Lib.hid (LG.out.lt)
      obtain ⟨u, hu⟩ := Int.eq_ofNat_of_zero_le oi.1
      obtain ⟨v, hv⟩ := Int.eq_ofNat_of_zero_le oj.1
      rw [hu] at cy oi LG1 LG2
      rw [hv] at cj oj LG1 LG2
      rw [Int.toNat_natCast, Int.toNat_natCast] at LG1 LG2
      have u1 : (0 : Int) ≤ (u : Int) := by omega
      have u2 : (u : Int) < (n : Int) := by omega
      have v1 : (0 : Int) ≤ (v : Int) := by omega
      have v2 : (v : Int) < (n : Int) := by omega
      obtain ⟨x, rfl, kx, cx, -⟩ := (R.out.below HB.out) u (by have := HN.out; omega)
      obtain ⟨x', ex, kx', cv, -⟩ := (R.out.below HB.out) v (by have := HN.out; omega)
      cases ex
      clear ky ky' kx kx' oi oj hu hv LG
      generalize pd D u = s at *
      generalize pd D v = t at *
      by_cases g : t ≤ s
      · have d1 : decide (t ≤ s) = true := decide_eq_true g
        have L2 := Lib.hid (LG1.out g)
        clear LG1 LG2 g
        go_upto_region 5 with fail
        go_quiet (fail)
        go_wp2_with fail
        go_roundw
        case rel => exact ⟨i + 1, i, by omega, by omega, by go_num, by first | rfl | trivial, L2, Lib.hid (below_drewN HB.out _)⟩
        case measure => simp [intOf]; omega
      · have d1 : decide (t ≤ s) = false := decide_eq_false g
        have L2 := Lib.hid (LG2.out g)
        clear LG1 LG2 g
        go_upto_region 5 with fail
        go_quiet (fail)
        go_wp2_with fail
        go_roundw
        case rel => exact ⟨i + 1, j, by omega, by omega, by go_num, by first | rfl | trivial, L2, Lib.hid (below_drewN HB.out _)⟩
        case measure => simp [intOf]; omega
    · obtain rfl : i = l := by omega
      have FF := Lib.hid (show Lg D A i j from LG.out)
      go_wp2_with fail
      go_ret
      exact ⟨j, rfl, FF.out, HB.out⟩
end Go.Proofs.Ythbgeikdamajlab

/- Press: the order by due times, plain: insertion gives the one order. -/
namespace Go.Proofs.Ythbgeikdamajlab
open Go.RowKit Go.Proofs.Ythbgeikdamajlab.Prs Go.Proofs.Ythbgeikdamajlab.Stb
set_option linter.unusedVariables false
set_option linter.unusedSimpArgs false

def dcD (D : List (Int × Int)) (x y : Int) : Int := sd D x.toNat - sd D y.toNat
def RDu (D : List (Int × Int)) (x y : Int) : Prop := dcD D x y < 0 ∨ (dcD D x y = 0 ∧ x < y)
theorem dc_neg (D : List (Int × Int)) (n : Nat) (x y : Int) (h : x < y) : dcD D y x < 0 ↔ RDu D y x := by unfold RDu; omega
theorem rd_irr {D : List (Int × Int)} {x : Int} (h : RDu D x x) : False := by unfold RDu dcD at h; omega
theorem rd_tr {D : List (Int × Int)} {x y z : Int} (h : RDu D x y) (h' : RDu D y z) : RDu D x z := by unfold RDu dcD at *; omega
theorem rd_tot3 {D : List (Int × Int)} {x y : Int} (h : x ≠ y) : RDu D x y ∨ RDu D y x := by unfold RDu dcD; omega
/-- Two orders by the rule are one. -/
theorem due_uniq {D : List (Int × Int)} {n : Nat} {O U : List Int} (hO : IsOrd n O) (hU : IsOrd n U) (sO : ∀ i j, i < j → j < n → RDu D (gi O i) (gi O j)) (sU : ∀ i j, i < j → j < n → RDu D (gi U i) (gi U j)) : O = U := by
  have one : ∀ {O U : List Int}, IsOrd n O → IsOrd n U → (∀ i j, i < j → j < n → RDu D (gi O i) (gi O j)) → (∀ i j, i < j → j < n → RDu D (gi U i) (gi U j)) → ∀ k, k < n → (∀ j, j < k → gi O j = gi U j) → RDu D (gi O k) (gi U k) → False := by
    intro O U hO hU sO sU k kn e r
    -- O's number at k stands in U somewhere
    obtain ⟨j, j1, j2⟩ : ∃ j, j < n ∧ gi U j = gi O k := by
      have b := hO.2.1 k kn
      obtain ⟨j, j1, j2⟩ := hU.ord.onto (gi O k).toNat (by omega)
      refine ⟨j, j1, ?_⟩
      have c := hU.2.1 j j1
      unfold od at j2
      omega
    rcases Nat.lt_trichotomy j k with l | rfl | l
    · exact hO.2.2 j k l kn (by rw [e j l, j2])
    · rw [j2] at r; exact rd_irr r
    · have a := sU k j l j1
      rw [j2] at a
      exact rd_irr (rd_tr r a)
  have all : ∀ k, k ≤ n → ∀ j, j < k → gi O j = gi U j := by
    intro k
    induction k with
    | zero => intro _ j h; omega
    | succ k ih =>
      intro hk j hj
      have e := ih (by omega)
      by_cases c : j = k
      · subst c
        apply Classical.byContradiction
        intro ne
        rcases rd_tot3 (D := D) ne with r | r
        · exact one hO hU sO sU j (by omega) e r
        · exact one hU hO sU sO j (by omega) (fun i hi => (e i hi).symm) r
      · exact e j (by omega)
  apply List.ext_getElem (by rw [hO.1, hU.1])
  intro k h1 h2
  have := all n (Nat.le_refl _) k (by rw [← hO.1]; exact h1)
  simpa [gi, h1, h2] using this
def insD (D : List (Int × Int)) (x : Int) : List Int → List Int
  | [] => [x]
  | y :: l => if dcD D x y < 0 then x :: y :: l else y :: insD D x l
def dueO (D : List (Int × Int)) : Nat → List Int
  | 0 => []
  | k + 1 => insD D k (dueO D k)
theorem insD_mem {D : List (Int × Int)} {x z : Int} : ∀ {l : List Int}, z ∈ insD D x l ↔ z = x ∨ z ∈ l
  | [] => by simp [insD]
  | y :: l => by
    unfold insD
    split
    · simp
    · rw [List.mem_cons, insD_mem, List.mem_cons]
      constructor
      · rintro (h | h | h) <;> simp [h]
      · rintro (h | h | h) <;> simp [h]
theorem insD_len (D : List (Int × Int)) (x : Int) : ∀ l : List Int, (insD D x l).length = l.length + 1
  | [] => rfl
  | y :: l => by
    unfold insD
    split
    · rfl
    · simp [insD_len D x l]
theorem dueO_len (D : List (Int × Int)) : ∀ k, (dueO D k).length = k
  | 0 => rfl
  | k + 1 => by rw [dueO, insD_len, dueO_len D k]
theorem dueO_mem (D : List (Int × Int)) (z : Int) : ∀ k, z ∈ dueO D k ↔ 0 ≤ z ∧ z < k
  | 0 => by simp [dueO] <;> omega
  | k + 1 => by rw [dueO, insD_mem, dueO_mem D z k]; omega
theorem insD_srt {D : List (Int × Int)} {x : Int} : ∀ {l : List Int}, (∀ z ∈ l, z < x) → l.Pairwise (RDu D) → (insD D x l).Pairwise (RDu D)
  | [], _, _ => by simp [insD]
  | y :: l, hx, h => by
    have hy := hx y (by simp)
    rw [List.pairwise_cons] at h
    unfold insD
    split
    · next c =>
      have r : RDu D x y := (dc_neg D 0 y x hy).1 c
      rw [List.pairwise_cons]
      refine ⟨fun z hz => ?_, List.pairwise_cons.2 h⟩
      rcases List.mem_cons.1 hz with rfl | hz
      · exact r
      · exact rd_tr r (h.1 z hz)
    · next c =>
      have r : RDu D y x := by
        rcases rd_tot3 (D := D) (show y ≠ x by omega) with r | r
        · exact r
        · exact absurd ((dc_neg D 0 y x hy).2 r) c
      rw [List.pairwise_cons]
      refine ⟨fun z hz => ?_, insD_srt (fun z hz => hx z (List.mem_cons_of_mem _ hz)) h.2⟩
      rcases insD_mem.1 hz with rfl | hz
      · exact r
      · exact h.1 z hz
theorem dueO_srt (D : List (Int × Int)) : ∀ k, (dueO D k).Pairwise (RDu D)
  | 0 => by simp [dueO]
  | k + 1 => insD_srt (fun z hz => by have := (dueO_mem D z k).1 hz; omega) (dueO_srt D k)
theorem gi_getD2 {l : List Int} {k : Nat} (h : k < l.length) : gi l k = l[k] := by simp [gi, h]
theorem dueO_rd (D : List (Int × Int)) (k : Nat) : ∀ i j, i < j → j < k → RDu D (gi (dueO D k) i) (gi (dueO D k) j) := fun i j ij jk => by
  have l := dueO_len D k
  rw [gi_getD2 (by omega), gi_getD2 (by omega)]
  exact (List.pairwise_iff_getElem.1 (dueO_srt D k)) i j (by omega) (by omega) ij
theorem dueO_ord (D : List (Int × Int)) (k : Nat) : IsOrd k (dueO D k) := by
  have l := dueO_len D k
  refine ⟨l, fun i hi => ?_, fun i j ij jk e => ?_⟩
  · rw [gi_getD2 (by omega)]
    exact (dueO_mem D _ k).1 (List.getElem_mem (by omega))
  · have r := dueO_rd D k i j ij jk
    rw [e] at r
    exact rd_irr r
/-- A step of the insertion. -/
theorem insD_cons (D : List (Int × Int)) (x y : Int) (l : List Int) : insD D x (y :: l) = if dcD D x y < 0 then x :: y :: l else y :: insD D x l := rfl
end Go.Proofs.Ythbgeikdamajlab
