/- Press: going through assignments in lexicographic order, plain. -/
namespace Go.Proofs.Ythbgeikdamajlab.Sea
set_option linter.unusedVariables false
set_option linter.unusedSimpArgs false

/-- The exchange of two numbers. -/
def tr (a b j : Nat) : Nat := if j = a then b else if j = b then a else j
theorem tr_tr (a b j : Nat) : tr a b (tr a b j) = j := by unfold tr; split <;> (try split) <;> (try split) <;> omega
theorem tr_lt {a b M j : Nat} (ha : a < M) (hb : b < M) (hj : j < M) : tr a b j < M := by unfold tr; split <;> (try split) <;> omega
theorem tr_eq {a b i j : Nat} : tr a b i = j ↔ i = tr a b j := ⟨fun h => by rw [← h, tr_tr], fun h => by rw [h, tr_tr]⟩
section
variable {β : Type}
def up (s : Nat → β) (b : Nat) (y : β) : Nat → β := fun j => if j = b then y else s j
theorem up_same (s : Nat → β) (b : Nat) (y : β) : up s b y b = y := if_pos rfl
theorem up_ne (s : Nat → β) {b j : Nat} (y : β) (h : j ≠ b) : up s b y j = s j := if_neg h
theorem up_tr (s : Nat → β) (a c b : Nat) (y : β) : (fun j => up s b y (tr a c j)) = up (fun j => s (tr a c j)) (tr a c b) y := by
  funext j
  unfold up
  by_cases e : tr a c j = b
  · rw [if_pos e, if_pos (tr_eq.1 e)]
  · rw [if_neg e, if_neg (fun h => e (tr_eq.2 h))]
theorem up_swap (s : Nat → β) {p q : Nat} (y : β) (h : s q = s p) : up s q y = fun j => up s p y (tr p q j) := by
  funext j
  unfold up tr
  by_cases e1 : j = q
  · subst e1
    rw [if_pos rfl]
    by_cases e2 : j = p
    · rw [if_pos e2]; simp [e2]
    · rw [if_neg e2, if_pos rfl, if_pos rfl]
  · rw [if_neg e1]
    by_cases e2 : j = p
    · subst e2
      rw [if_pos rfl, if_neg (fun h => e1 h.symm)]; exact h.symm
    · rw [if_neg e2, if_neg e1, if_neg e2]
/-- The bins behind an assignment of what is to come; none: it may not be. -/
def fin (add : β → Int → Option β) : List Int → (Nat → β) → List Nat → Option (Nat → β)
  | [], s, [] => some s
  | t :: ts, s, b :: E => match add (s b) t with
    | some y => fin add ts (up s b y) E
    | none => none
  | _, _, _ => none
variable {add : β → Int → Option β}
theorem fin_len : ∀ {ts : List Int} {s s' : Nat → β} {E : List Nat}, fin add ts s E = some s' → E.length = ts.length
  | [], s, s', [], _ => rfl
  | [], s, s', b :: E, h => by simp [fin] at h
  | t :: ts, s, s', [], h => by simp [fin] at h
  | t :: ts, s, s', b :: E, h => by
    simp only [fin] at h
    split at h
    · simp [fin_len h]
    · cases h
theorem fin_tr (a c : Nat) : ∀ (ts : List Int) (s : Nat → β) (E : List Nat), fin add ts (fun j => s (tr a c j)) (E.map (tr a c)) = (fin add ts s E).map fun s' j => s' (tr a c j)
  | [], s, [] => rfl
  | [], s, b :: E => rfl
  | t :: ts, s, [] => rfl
  | t :: ts, s, b :: E => by
    simp only [List.map_cons, fin, tr_tr]
    cases add (s b) t with
    | none => rfl
    | some y =>
      dsimp only
      rw [← fin_tr a c ts (up s b y) E, up_tr]
/-- Numbers of bins below M. -/
def Ok (M : Nat) (E : List Nat) : Prop := ∀ b ∈ E, b < M
theorem Ok.tr {M a c : Nat} {E : List Nat} (h : Ok M E) (ha : a < M) (hc : c < M) : Ok M (E.map (tr a c)) := fun b hb => by
  obtain ⟨x, hx, rfl⟩ := List.mem_map.1 hb
  exact tr_lt ha hc (h x hx)
/-- Not later in the lexicographic order. -/
def lexle : List Nat → List Nat → Prop
  | a :: E, b :: F => a < b ∨ (a = b ∧ lexle E F)
  | _, _ => True
theorem lexle_refl : ∀ E, lexle E E
  | [] => trivial
  | a :: E => .inr ⟨rfl, lexle_refl E⟩
theorem lexle_anti : ∀ {E F : List Nat}, E.length = F.length → lexle E F → lexle F E → E = F
  | [], [], _, _, _ => rfl
  | [], b :: F, h, _, _ => by simp at h
  | a :: E, [], h, _, _ => by simp at h
  | a :: E, b :: F, h, h1, h2 => by
    rcases h1 with h1 | ⟨rfl, h1⟩
    · rcases h2 with h2 | ⟨rfl, h2⟩ <;> omega
    · rcases h2 with h2 | ⟨_, h2⟩
      · omega
      · rw [lexle_anti (by simpa using h) h1 h2]
theorem lexle_pre : ∀ (P E F : List Nat), lexle E F → lexle (P ++ E) (P ++ F)
  | [], E, F, h => h
  | p :: P, E, F, h => .inr ⟨rfl, lexle_pre P E F h⟩
/-- The first place where two lists part. -/
theorem lexle_part : ∀ {E F : List Nat} {k : Nat}, lexle E F → k < E.length → k < F.length → (∀ j, j < k → E[j]? = F[j]?) → E[k]? ≠ F[k]? → E.getD k 0 < F.getD k 0
  | [], F, k, _, h, _, _, _ => by simp at h
  | a :: E, [], k, _, _, h, _, _ => by simp at h
  | a :: E, b :: F, 0, h, _, _, _, ne => by
    rcases h with h | ⟨rfl, h⟩
    · simpa using h
    · simp at ne
  | a :: E, b :: F, k + 1, h, h1, h2, e, ne => by
    have e0 := e 0 (by omega)
    simp at e0
    subst e0
    rcases h with h | ⟨_, h⟩
    · omega
    · have := lexle_part h (by simpa using h1) (by simpa using h2) (fun j hj => by simpa using e (j + 1) (by omega)) (by simpa using ne)
      simpa using this

/-- What a search has found among assignments whose first bin is below p: the least value, and the first one that has it. -/
structure Sr (add : β → Int → Option β) (val : (Nat → β) → Int) (Fs : (Nat → β) → Prop) (M : Nat) (H : Nat → Prop) (ts : List Int) (s : Nat → β) (P : List Nat) (L : Int) (B : List Nat) (L' : Int) (B' : List Nat) : Prop where
  le : L' ≤ L
  low : ∀ E s', Ok M E → (∀ b E1, E = b :: E1 → H b) → fin add ts s E = some s' → L' ≤ val s'
  at_ : (L' = L ∧ B' = B) ∨ (L' < L ∧ ∃ E s', Ok M E ∧ (∀ b E1, E = b :: E1 → H b) ∧ fin add ts s E = some s' ∧ val s' = L' ∧ Fs s' ∧ B' = P ++ E ∧ ∀ E2 s2, Ok M E2 → (∀ b E1, E2 = b :: E1 → H b) → fin add ts s E2 = some s2 → val s2 = L' → lexle E E2)
variable {val : (Nat → β) → Int} {Fs : (Nat → β) → Prop} {M : Nat} {ts : List Int} {s : Nat → β} {P B B1 B2 : List Nat} {L L1 L2 : Int} {p : Nat}
theorem Sr.start (t : Int) : Sr add val Fs M (· < 0) (t :: ts) s P L B L B :=
  ⟨Int.le_refl _, fun E s' ok h e => by
    cases E with
    | nil => simp [fin] at e
    | cons b E => exact absurd (h b E rfl) (by omega), .inl ⟨rfl, rfl⟩⟩
theorem Sr.all {t : Int} (h : Sr add val Fs M (· < M) (t :: ts) s P L B L1 B1) : Sr add val Fs M (fun _ => True) (t :: ts) s P L B L1 B1 := by
  have k : ∀ E, Ok M E → ∀ b E1, E = b :: E1 → b < M := fun E ok b E1 e => ok b (by rw [e]; simp)
  refine ⟨h.le, fun E s' ok _ e => h.low E s' ok (k E ok) e, ?_⟩
  rcases h.at_ with a | ⟨a, E, s', ok, hb, e, v, f, B, l⟩
  · exact .inl a
  · exact .inr ⟨a, E, s', ok, fun _ _ _ => trivial, e, v, f, B, fun E2 s2 ok2 _ => l E2 s2 ok2 (k E2 ok2)⟩
/-- A bin like one before it can do no better. -/
theorem Sr.skip {t : Int} (sym : ∀ a c s, a < M → c < M → val (fun j => s (tr a c j)) = val s) (h : Sr add val Fs M (· < p) (t :: ts) s P L B L1 B1) {q : Nat} (hq : q < p) (hp : p < M) (e : s q = s p) : Sr add val Fs M (· < p + 1) (t :: ts) s P L B L1 B1 := by
  have mir : ∀ E s', Ok M (p :: E) → fin add (t :: ts) s (p :: E) = some s' → ∃ E', Ok M (q :: E') ∧ ∃ s2, fin add (t :: ts) s (q :: E') = some s2 ∧ val s2 = val s' := by
    intro E s' ok f
    simp only [fin] at f
    cases y : add (s p) t with
    | none => rw [y] at f; cases f
    | some x =>
      rw [y] at f
      dsimp only at f
      refine ⟨E.map (tr p q), fun b hb => ?_, fun j => s' (tr p q j), ?_, sym p q s' hp (by omega)⟩
      · rcases List.mem_cons.1 hb with rfl | hb
        · omega
        · exact (Ok.tr (fun b hb => ok b (List.mem_cons_of_mem _ hb)) hp (by omega)) b hb
      · simp only [fin]
        rw [e, y]
        dsimp only
        rw [up_swap s x e, fin_tr, f]
        rfl
  refine ⟨h.le, fun E s' ok hb f => ?_, ?_⟩
  · cases E with
    | nil => simp [fin] at f
    | cons b E =>
      have hb := hb b E rfl
      by_cases c : b < p
      · exact h.low _ s' ok (fun b' E1 e' => by cases e'; exact c) f
      · obtain rfl : b = p := by omega
        obtain ⟨E', ok', s2, f2, v⟩ := mir E s' ok f
        rw [← v]
        exact h.low _ s2 ok' (fun b' E1 e' => by cases e'; exact hq) f2
  · rcases h.at_ with a | ⟨a, E, s', ok, hb, f, v, fs, hB, l⟩
    · exact .inl a
    · refine .inr ⟨a, E, s', ok, fun b E1 e' => by have := hb b E1 e'; omega, f, v, fs, hB, fun E2 s2 ok2 hb2 f2 v2 => ?_⟩
      cases E2 with
      | nil => simp [fin] at f2
      | cons b E2 =>
        by_cases c : b < p
        · exact l _ s2 ok2 (fun b' E1 e' => by cases e'; exact c) f2 v2
        · have := hb2 b E2 rfl
          cases E with
          | nil => trivial
          | cons b1 E => exact .inl (by have := hb b1 E rfl; omega)
theorem Sr.bad {t : Int} (h : Sr add val Fs M (· < p) (t :: ts) s P L B L1 B1) (e : add (s p) t = none) : Sr add val Fs M (· < p + 1) (t :: ts) s P L B L1 B1 := by
  have no : ∀ E s', fin add (t :: ts) s E = some s' → (∀ b E1, E = b :: E1 → b < p + 1) → ∀ b E1, E = b :: E1 → b < p := fun E s' f hb b E1 e' => by
    have := hb b E1 e'
    apply Classical.byContradiction
    intro c
    obtain rfl : b = p := by omega
    subst e'
    simp only [fin] at f
    rw [e] at f
    cases f
  refine ⟨h.le, fun E s' ok hb f => h.low E s' ok (no E s' f hb) f, ?_⟩
  rcases h.at_ with a | ⟨a, E, s', ok, hb, f, v, fs, hB, l⟩
  · exact .inl a
  · exact .inr ⟨a, E, s', ok, fun b E1 e' => by have := hb b E1 e'; omega, f, v, fs, hB, fun E2 s2 ok2 hb2 f2 v2 => l E2 s2 ok2 (no E2 s2 f2 hb2) f2 v2⟩
theorem Sr.call {t : Int} {y : β} (h : Sr add val Fs M (· < p) (t :: ts) s P L B L1 B1) (e : add (s p) t = some y) (hp : p < M) (g : Sr add val Fs M (fun _ => True) ts (up s p y) (P ++ [p]) L1 B1 L2 B2) : Sr add val Fs M (· < p + 1) (t :: ts) s P L B L2 B2 := by
  have cut : ∀ E s', Ok M E → (∀ b E1, E = b :: E1 → b < p + 1) → fin add (t :: ts) s E = some s' → (∀ b E1, E = b :: E1 → b < p) ∨ ∃ E1, E = p :: E1 ∧ Ok M E1 ∧ fin add ts (up s p y) E1 = some s' := fun E s' ok hb f => by
    cases E with
    | nil => simp [fin] at f
    | cons b E =>
      have := hb b E rfl
      by_cases c : b < p
      · exact .inl fun b' E1 e' => by cases e'; exact c
      · obtain rfl : b = p := by omega
        simp only [fin] at f
        rw [e] at f
        exact .inr ⟨E, rfl, fun b hb => ok b (List.mem_cons_of_mem _ hb), f⟩
  refine ⟨Int.le_trans g.le h.le, fun E s' ok hb f => ?_, ?_⟩
  · rcases cut E s' ok hb f with c | ⟨E1, rfl, ok1, f1⟩
    · exact Int.le_trans g.le (h.low E s' ok c f)
    · exact g.low E1 s' ok1 (fun _ _ _ => trivial) f1
  · rcases g.at_ with ⟨rfl, rfl⟩ | ⟨a, E, s', ok, -, f, v, fs, hB, l⟩
    · rcases h.at_ with a | ⟨a, E, s', ok, hb, f, v, fs, hB, l⟩
      · exact .inl a
      · refine .inr ⟨a, E, s', ok, fun b E1 e' => by have := hb b E1 e'; omega, f, v, fs, hB, fun E2 s2 ok2 hb2 f2 v2 => ?_⟩
        rcases cut E2 s2 ok2 hb2 f2 with c | ⟨E1, rfl, ok1, f1⟩
        · exact l E2 s2 ok2 c f2 v2
        · cases E with
          | nil => trivial
          | cons b1 E => exact .inl (hb b1 E rfl)
    · refine .inr ⟨Int.lt_of_lt_of_le a h.le, p :: E, s', fun b hb => ?_, fun b E1 e' => by cases e'; omega, by simp only [fin]; rw [e]; exact f, v, fs, by rw [hB]; simp, fun E2 s2 ok2 hb2 f2 v2 => ?_⟩
      · rcases List.mem_cons.1 hb with rfl | hb
        · exact hp
        · exact ok b hb
      · rcases cut E2 s2 ok2 hb2 f2 with c | ⟨E1, rfl, ok1, f1⟩
        · have := h.low E2 s2 ok2 c f2
          omega
        · exact .inr ⟨rfl, l E1 s2 ok1 (fun _ _ _ => trivial) f1 v2⟩
theorem fin_mono (mono : ∀ s b y t, add (s b) t = some y → b < M → val s ≤ val (up s b y)) : ∀ {ts : List Int} {s s' : Nat → β} {E : List Nat}, Ok M E → fin add ts s E = some s' → val s ≤ val s'
  | [], s, s', [], _, h => by simp [fin] at h; rw [h]; exact Int.le_refl _
  | [], s, s', b :: E, _, h => by simp [fin] at h
  | t :: ts, s, s', [], _, h => by simp [fin] at h
  | t :: ts, s, s', b :: E, ok, h => by
    simp only [fin] at h
    cases y : add (s b) t with
    | none => rw [y] at h; cases h
    | some x =>
      rw [y] at h
      exact Int.le_trans (mono s b x t y (ok b (by simp))) (fin_mono mono (fun b hb => ok b (List.mem_cons_of_mem _ hb)) h)
/-- What is no better already is let be. -/
theorem Sr.prune (mono : ∀ s b y t, add (s b) t = some y → b < M → val s ≤ val (up s b y)) (h : L ≤ val s) : Sr add val Fs M (fun _ => True) ts s P L B L B :=
  ⟨Int.le_refl _, fun E s' ok _ f => Int.le_trans h (fin_mono mono ok f), .inl ⟨rfl, rfl⟩⟩
theorem Sr.leaf (h : val s < L) (fs : Fs s) : Sr add val Fs M (fun _ => True) [] s P L B (val s) P := by
  refine ⟨Int.le_of_lt h, fun E s' ok _ f => ?_, .inr ⟨h, [], s, fun b hb => by simp at hb, fun _ _ _ => trivial, rfl, rfl, fs, by simp, fun E2 s2 _ _ _ _ => ?_⟩⟩
  · cases E with
    | nil => simp [fin] at f; rw [f]; exact Int.le_refl _
    | cons b E => simp [fin] at f
  · cases E2 <;> trivial
end
end Go.Proofs.Ythbgeikdamajlab.Sea
