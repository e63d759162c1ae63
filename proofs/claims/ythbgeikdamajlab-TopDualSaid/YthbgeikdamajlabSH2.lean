/- Press: what a search gives in the end; boxes, plain. -/
import Derived.Test.YthbgeikdamajlabSH1
namespace Go.Proofs.Ythbgeikdamajlab.Sea
open Go.Proofs.Ythbgeikdamajlab.Prs
set_option linter.unusedVariables false
set_option linter.unusedSimpArgs false

section
variable {β : Type} {add : β → Int → Option β} {val : (Nat → β) → Int} {Fs : (Nat → β) → Prop} {M : Nat} {ts : List Int} {s : Nat → β}
/-- The first of the best assignments. -/
structure Best (add : β → Int → Option β) (val : (Nat → β) → Int) (Fs : (Nat → β) → Prop) (M : Nat) (ts : List Int) (s : Nat → β) (L : Int) (E : List Nat) : Prop where
  ok : Ok M E
  fin_ : ∃ s', fin add ts s E = some s' ∧ val s' = L ∧ Fs s'
  low : ∀ E s', Ok M E → fin add ts s E = some s' → L ≤ val s'
  first : ∀ E2 s2, Ok M E2 → fin add ts s E2 = some s2 → val s2 = L → lexle E E2
theorem Sr.best {L L1 : Int} {B B1 : List Nat} (h : Sr add val Fs M (fun _ => True) ts s [] L B L1 B1) (ex : ∃ E s', Ok M E ∧ fin add ts s E = some s' ∧ val s' < L) : Best add val Fs M ts s L1 B1 := by
  obtain ⟨E0, s0, ok0, f0, v0⟩ := ex
  have lo := h.low E0 s0 ok0 (fun _ _ _ => trivial) f0
  rcases h.at_ with ⟨a, _⟩ | ⟨a, E, s', ok, -, f, v, fs, hB, l⟩
  · omega
  · obtain rfl : B1 = E := by simpa using hB
    exact ⟨ok, ⟨s', f, v, fs⟩, fun E s' ok f => h.low E s' ok (fun _ _ _ => trivial) f, fun E2 s2 ok2 f2 v2 => l E2 s2 ok2 (fun _ _ _ => trivial) f2 v2⟩
theorem Best.uniq {L L1 : Int} {E E1 : List Nat} {Fs1 : (Nat → β) → Prop} (h : Best add val Fs M ts s L E) (g : Best add val Fs1 M ts s L1 E1) : L = L1 ∧ E = E1 := by
  obtain ⟨s1, f1, v1, -⟩ := h.fin_
  obtain ⟨s2, f2, v2, -⟩ := g.fin_
  have a := h.low E1 s2 g.ok f2
  have b := g.low E s1 h.ok f1
  have e : L = L1 := by omega
  subst e
  exact ⟨rfl, lexle_anti (by rw [fin_len f1, fin_len f2]) (h.first E1 s2 g.ok f2 v2) (g.first E s1 h.ok f1 v1)⟩
theorem fin_weak {add' : β → Int → Option β} (w : ∀ x t y, add x t = some y → add' x t = some y) : ∀ {ts : List Int} {s s' : Nat → β} {E : List Nat}, fin add ts s E = some s' → fin add' ts s E = some s'
  | [], s, s', [], h => h
  | [], s, s', b :: E, h => by simp [fin] at h
  | t :: ts, s, s', [], h => by simp [fin] at h
  | t :: ts, s, s', b :: E, h => by
    simp only [fin] at h ⊢
    cases y : add (s b) t with
    | none => rw [y] at h; cases h
    | some x =>
      rw [y] at h
      rw [w _ _ _ y]
      exact fin_weak w h
theorem fin_snoc : ∀ {ts : List Int} {s : Nat → β} {E : List Nat} (t : Int) (b : Nat), E.length = ts.length → fin add (ts ++ [t]) s (E ++ [b]) = (fin add ts s E).bind fun s' => (add (s' b) t).map (up s' b)
  | [], s, [], t, b, _ => by
    simp only [List.nil_append, fin, Option.bind_some]
    cases add (s b) t <;> rfl
  | [], s, c :: E, t, b, h => by simp at h
  | x :: ts, s, [], t, b, h => by simp at h
  | x :: ts, s, c :: E, t, b, h => by
    simp only [List.cons_append, fin]
    cases y : add (s c) x with
    | none => rfl
    | some z => exact fin_snoc t b (by simpa using h)
theorem fin_snoc_inv {s'' : Nat → β} {t : Int} {E : List Nat} (h : fin add (ts ++ [t]) s E = some s'') : ∃ E1 b s' y, E = E1 ++ [b] ∧ fin add ts s E1 = some s' ∧ add (s' b) t = some y ∧ s'' = up s' b y := by
  have l := fin_len h
  rw [List.length_append] at l
  have ne : E ≠ [] := fun e => by rw [e] at l; simp at l
  have e := List.dropLast_concat_getLast ne
  have l1 : E.dropLast.length = ts.length := by simp at l ⊢; omega
  rw [← e, fin_snoc _ _ l1] at h
  cases f : fin add ts s E.dropLast with
  | none => rw [f] at h; cases h
  | some s' =>
    rw [f] at h
    simp only [Option.bind_some] at h
    cases y : add (s' (E.getLast ne)) t with
    | none => rw [y] at h; cases h
    | some z =>
      rw [y] at h
      simp at h
      exact ⟨_, _, s', z, e.symm, f, y, h.symm⟩
/-- The first k things. -/
theorem fin_take {E : List Nat} {k : Nat} {s' : Nat → β} (hk : k < ts.length) (hE : k < E.length) (h : fin add (ts.take k) s (E.take k) = some s') : fin add (ts.take (k + 1)) s (E.take (k + 1)) = (add (s' (E.getD k 0)) (ts.getD k 0)).map (up s' (E.getD k 0)) := by
  have e1 : ts.take (k + 1) = ts.take k ++ [ts.getD k 0] := by rw [List.take_succ_eq_append_getElem hk]; simp [hk]
  have e2 : E.take (k + 1) = E.take k ++ [E.getD k 0] := by rw [List.take_succ_eq_append_getElem hE]; simp [hE]
  rw [e1, e2, fin_snoc _ _ (by simp; omega), h]
  rfl
theorem fin_none {E : List Nat} : ∀ {ts : List Int} {s : Nat → β} {E : List Nat} {k : Nat}, fin add (ts.take k) s (E.take k) = none → E.length = ts.length → fin add ts s E = none
  | [], s, [], k, h, _ => by cases k <;> simp [fin] at h
  | [], s, b :: E, k, h, l => by simp at l
  | t :: ts, s, [], k, h, l => by simp at l
  | t :: ts, s, b :: E, 0, h, l => by simp [fin] at h
  | t :: ts, s, b :: E, k + 1, h, l => by
    simp only [List.take_succ_cons, fin] at h ⊢
    cases y : add (s b) t with
    | none => rfl
    | some z =>
      rw [y] at h
      exact fin_none (E := E) h (by simpa using l)
end

/-- How many of the first M boxes have something. -/
def cnt (M : Nat) (s : Nat → Int × Int) : Int := sm (fun b => if (s b).2 = 0 then 0 else 1) M
/-- A thing put into a box. -/
def addP (most each : Int) (x : Int × Int) (t : Int) : Option (Int × Int) := if 0 ≤ x.2 ∧ x.2 < each ∧ x.1 + t ≤ most then some (x.1 + t, x.2 + 1) else none
theorem tr_ord {a c M : Nat} (ha : a < M) (hc : c < M) : Ord M (tr a c) := ⟨fun k hk => tr_lt ha hc hk, fun i j _ _ e => by rw [← tr_tr a c i, e, tr_tr]⟩
theorem cnt_tr {M a c : Nat} (s : Nat → Int × Int) (ha : a < M) (hc : c < M) : cnt M (fun j => s (tr a c j)) = cnt M s := (tr_ord ha hc).sum fun b => if (s b).2 = 0 then 0 else 1
theorem cnt_mono {M : Nat} {most each : Int} : ∀ (s : Nat → Int × Int) b y t, addP most each (s b) t = some y → b < M → cnt M s ≤ cnt M (up s b y) := fun s b y t e hb => by
  unfold addP at e
  split at e
  · next h =>
    simp at e
    subst e
    refine sm_le fun j hj => ?_
    unfold up
    by_cases c : j = b
    · subst c
      rw [if_pos rfl]
      dsimp only
      rw [if_neg (show ¬ (s j).2 + 1 = 0 by omega)]
      split <;> omega
    · rw [if_neg c]; exact Int.le_refl _
  · cases e
theorem cnt_more {M : Nat} (s : Nat → Int × Int) {b : Nat} (y : Int × Int) (hb : b < M) : cnt M (up s b y) ≤ cnt M s + 1 := by
  have one : ∀ m, sm (fun j => if j = b then (1 : Int) else 0) m = if b < m then 1 else 0 := fun m => by
    induction m with
    | zero => rfl
    | succ m ih =>
      simp only [sm]
      rw [ih]
      by_cases e : m = b
      · subst e; rw [if_neg (by omega), if_pos rfl, if_pos (by omega)]; rfl
      · by_cases l : b < m
        · rw [if_pos l, if_neg e, if_pos (by omega)]; rfl
        · rw [if_neg l, if_neg e, if_neg (by omega)]; rfl
  have e := sm_add (fun b => if (s b).2 = 0 then (0 : Int) else 1) (fun j => if j = b then (1 : Int) else 0) M
  rw [one, if_pos hb] at e
  have l : cnt M (up s b y) ≤ sm (fun k => (if (s k).2 = 0 then (0 : Int) else 1) + if k = b then 1 else 0) M := sm_le fun j hj => by
    unfold up
    by_cases c : j = b
    · rw [if_pos c, if_pos c]; split <;> split <;> omega
    · rw [if_neg c, if_neg c]; omega
  rw [e] at l
  exact l
/-- The boxes 0 to below u have something, the others nothing. -/
structure Cn (s : Nat → Int × Int) (u : Nat) : Prop where
  lo : ∀ b, b < u → 0 < (s b).2
  hi : ∀ b, u ≤ b → s b = (0, 0)
theorem Cn.cnt {s : Nat → Int × Int} {u M : Nat} (h : Cn s u) (hu : u ≤ M) : cnt M s = u := by
  have : ∀ m, u ≤ m → sm (fun b => if (s b).2 = 0 then (0 : Int) else 1) m = u := by
    have low : ∀ m, m ≤ u → sm (fun b => if (s b).2 = 0 then (0 : Int) else 1) m = m := fun m => by
      induction m with
      | zero => intro _; rfl
      | succ m ih =>
        intro hm
        simp only [sm]
        rw [ih (by omega), if_neg (by have := h.lo m (by omega); omega)]
        omega
    intro m
    induction m with
    | zero => intro h0; rw [low 0 (by omega)]; omega
    | succ m ih =>
      intro hm
      by_cases e : u = m + 1
      · rw [low (m + 1) (by omega)]; omega
      · simp only [sm]
        rw [ih (by omega), h.hi m (by omega)]; simp
  exact this M hu
theorem Cn.put {s : Nat → Int × Int} {u b : Nat} {y : Int × Int} (h : Cn s u) (hb : b ≤ u) (y0 : 0 < y.2) : Cn (up s b y) (max u (b + 1)) := by
  refine ⟨fun j hj => ?_, fun j hj => ?_⟩
  · unfold up
    split
    · exact y0
    · exact h.lo j (by omega)
  · rw [up_ne s y (by omega)]
    exact h.hi j (by omega)
end Go.Proofs.Ythbgeikdamajlab.Sea
