/- Press: fewest boxes and least finish tell the same. Plain facts. -/
import Derived.Test.YthbgeikdamajlabSH3
namespace Go.Proofs.Ythbgeikdamajlab.Sea
open Go.Proofs.Ythbgeikdamajlab.Prs
set_option linter.unusedVariables false
set_option linter.unusedSimpArgs false

theorem addP_two {mo ea : Int} {x y : Int × Int} {t : Int} (h : addP mo ea x t = some y) : y = (x.1 + t, x.2 + 1) ∧ y.1 ≤ mo := by
  unfold addP at h
  split at h
  · next g => simp at h; subst h; exact ⟨rfl, g.2.2⟩
  · cases h
theorem finS_le : ∀ {ts : List Int} {s s' : Nat → Int} {E : List Nat}, fin addS ts s E = some s' → ∀ b, s b ≤ s' b ∧ ∀ t ∈ ts, (∃ c, c ∈ E ∧ s c + t ≤ s' c)
  | [], s, s', [], h, b => by simp [fin] at h; subst h; exact ⟨Int.le_refl _, fun t ht => by cases ht⟩
  | [], s, s', c :: E, h, b => by have := fin_len h; simp at this
  | t :: ts, s, s', [], h, b => by have := fin_len h; simp at this
  | t :: ts, s, s', c :: E, h, b => by
    simp only [fin] at h
    cases y : addS (s c) t with
    | none => rw [y] at h; cases h
    | some x =>
      rw [y] at h
      have x2 : x = s c + t ∧ 0 ≤ t := by
        unfold addS at y
        split at y
        · next g => simp at y; exact ⟨y.symm, g⟩
        · cases y
      have up_le : ∀ b, s b ≤ up s c x b := fun b => by
        by_cases e : b = c
        · subst e; rw [up_same]; omega
        · rw [up_ne _ _ e]; exact Int.le_refl _
      have ih := fun b => finS_le h b
      refine ⟨Int.le_trans (up_le b) (ih b).1, fun u hu => ?_⟩
      rcases List.mem_cons.1 hu with rfl | hu
      · refine ⟨c, by simp, ?_⟩
        have := (ih c).1
        rw [up_same] at this; omega
      · obtain ⟨d, hd, hl⟩ := (ih 0).2 u hu
        exact ⟨d, by simp [hd], by have := up_le d; omega⟩
/-- What may be loaded may be packed. -/
theorem fin_pack {mo ea : Int} : ∀ {ts : List Int} {s : Nat → Int × Int} {r : Nat → Int} {E : List Nat}, fin addS ts (fun b => (s b).1) E = some r → (∀ b, b ∈ E → r b ≤ mo) → (∀ b, 0 ≤ (s b).2 ∧ (s b).2 + ts.length ≤ ea) → ∃ s', fin (addP mo ea) ts s E = some s' ∧ ∀ b, b ∉ E → s' b = s b
  | [], s, r, [], h, _, _ => ⟨s, rfl, fun _ _ => rfl⟩
  | [], s, r, c :: E, h, _, _ => by have := fin_len h; simp at this
  | t :: ts, s, r, [], h, _, _ => by have := fin_len h; simp at this
  | t :: ts, s, r, c :: E, h, hm, hn => by
    simp only [fin] at h ⊢
    cases y : addS (s c).1 t with
    | none => rw [y] at h; cases h
    | some x =>
      rw [y] at h
      have x2 : x = (s c).1 + t := by
        unfold addS at y
        split at y
        · simp at y; exact y.symm
        · cases y
      have rc := (finS_le h c).1
      rw [up_same] at rc
      have h1 := hn c
      simp only [List.length_cons] at h1
      have e : addP mo ea (s c) t = some ((s c).1 + t, (s c).2 + 1) := by
        unfold addP
        rw [if_pos ⟨h1.1, by omega, by have := hm c (by simp); omega⟩]
      rw [e]
      have up1 : (fun b => (up s c ((s c).1 + t, (s c).2 + 1) b).1) = up (fun b => (s b).1) c x := by
        funext b
        by_cases e : b = c
        · subst e; rw [up_same, up_same]; exact x2.symm
        · rw [up_ne _ _ e, up_ne _ _ e]
      obtain ⟨s', f, g⟩ := fin_pack (mo := mo) (ea := ea) (ts := ts) (s := up s c ((s c).1 + t, (s c).2 + 1)) (r := r) (E := E) (by rw [up1]; exact h) (fun b hb => hm b (by simp [hb])) (fun b => by
        have := hn b
        simp only [List.length_cons] at this
        by_cases e : b = c
        · subst e; rw [up_same]; dsimp only; omega
        · rw [up_ne _ _ e]; omega)
      refine ⟨s', f, fun b hb => ?_⟩
      rw [g b (fun h => hb (by simp [h])), up_ne _ _ (fun e => hb (by simp [e]))]
/-- What is packed is loaded so. -/
theorem fin_load {mo ea : Int} : ∀ {ts : List Int} {s s' : Nat → Int × Int} {E : List Nat}, fin (addP mo ea) ts s E = some s' → (∀ t ∈ ts, 0 ≤ t) → fin addS ts (fun b => (s b).1) E = some (fun b => (s' b).1) ∧ (∀ b, b ∈ E → (s b).2 < (s' b).2) ∧ (∀ b, (s b).2 ≤ (s' b).2) ∧ ((∀ b, (s b).1 ≤ mo) → ∀ b, (s' b).1 ≤ mo)
  | [], s, s', [], h, _ => by simp [fin] at h; subst h; exact ⟨rfl, fun b hb => (by cases hb), fun _ => Int.le_refl _, fun h => h⟩
  | [], s, s', c :: E, h, _ => by have := fin_len h; simp at this
  | t :: ts, s, s', [], h, _ => by have := fin_len h; simp at this
  | t :: ts, s, s', c :: E, h, ht => by
    simp only [fin] at h ⊢
    cases y : addP mo ea (s c) t with
    | none => rw [y] at h; cases h
    | some x =>
      rw [y] at h
      obtain ⟨xe, xm⟩ := addP_two y
      rw [addS_at (ht t (by simp))]
      obtain ⟨f, u, g, m⟩ := fin_load h (fun z hz => ht z (by simp [hz]))
      have up1 : (fun b => (up s c x b).1) = up (fun b => (s b).1) c ((s c).1 + t) := by
        funext b
        by_cases e : b = c
        · subst e; rw [up_same, up_same, xe]
        · rw [up_ne _ _ e, up_ne _ _ e]
      rw [up1] at f
      have g2 : ∀ b, (s b).2 ≤ (up s c x b).2 := fun b => by
        by_cases e : b = c
        · subst e; rw [up_same, xe]; dsimp only; omega
        · rw [up_ne _ _ e]; exact Int.le_refl _
      refine ⟨f, fun b hb => ?_, fun b => Int.le_trans (g2 b) (g b), fun hm => m fun b => ?_⟩
      · rcases List.mem_cons.1 hb with rfl | hb
        · have := g b
          rw [up_same, xe] at this
          dsimp only at this; omega
        · have := u b hb
          have := g2 b
          omega
      · by_cases e : b = c
        · subst e; rw [up_same]; exact xm
        · rw [up_ne _ _ e]; exact hm b
theorem cnt_few {s : Nat → Int × Int} {m : Nat} (h : ∀ b, m ≤ b → (s b).2 = 0) : ∀ M, cnt M s ≤ m := by
  have : ∀ M, sm (fun b => if (s b).2 = 0 then (0 : Int) else 1) M ≤ m ∧ (sm (fun b => if (s b).2 = 0 then (0 : Int) else 1) M ≤ M) := by
    intro M
    induction M with
    | zero => simp [sm]
    | succ M ih =>
      simp only [sm]
      by_cases c : m ≤ M
      · rw [if_pos (h M c)]; omega
      · split <;> omega
  exact fun M => (this M).1
/-- Of one work more than there is room, no sharing ends in time. -/
theorem share_over {m : Nat} {ts : List Int} {f mo t : Int} {E : List Nat} (b : BestS m ts f E) (ht : t ∈ ts) (h : mo < t) : ¬ f ≤ mo := by
  obtain ⟨s', g, v, -⟩ := b.fin_
  obtain ⟨c, hc, hl⟩ := (finS_le g 0).2 t ht
  have := mx_ge (s := s') (b.ok c hc)
  have v : mx s' m = f := v
  omega
/-- The fewest boxes are at most m if and only if m presses end in time. -/
theorem dual {m : Nat} {ts : List Int} {f mo n : Int} {E F : List Nat} (b : BestS m ts f E) (p : BestP mo 12 12 ts n F) (n12 : ts.length ≤ 12) (ht : ∀ t ∈ ts, 1 ≤ t) (m12 : m ≤ 12) (mo0 : 0 ≤ mo) : f ≤ mo ↔ n ≤ m := by
  constructor
  · intro h
    obtain ⟨s', g, v, -⟩ := b.fin_
    have v : mx s' m = f := v
    obtain ⟨s2, g2, k⟩ := fin_pack (mo := mo) (ea := 12) (s := fun _ => (0, 0)) g (fun c hc => by have := mx_ge (s := s') (b.ok c hc); omega) (fun _ => ⟨Int.le_refl _, by dsimp only; omega⟩)
    have l := p.low E s2 (fun c hc => by have := b.ok c hc; omega) g2
    have l : n ≤ cnt 12 s2 := l
    have := cnt_few (s := s2) (m := m) (fun c hc => by rw [k c (fun g => by have := b.ok c g; omega)]) 12
    omega
  · intro h
    obtain ⟨s', g, v, u, hu, cn⟩ := p.fin_
    have v : cnt 12 s' = n := v
    rw [cn.cnt hu] at v
    obtain ⟨fl, us, -, mo'⟩ := fin_load g (fun t h => by have := ht t h; omega)
    have l := b.low F _ (fun c hc => by
      have := us c hc
      apply Classical.byContradiction; intro q
      rw [cn.hi c (by omega)] at this
      exact absurd this (by decide)) fl
    have l : f ≤ mx (fun b => (s' b).1) m := l
    have : mx (fun b => (s' b).1) m ≤ mo := mx_le.2 ⟨mo0, fun c _ => mo' (fun _ => mo0) c⟩
    omega
end Go.Proofs.Ythbgeikdamajlab.Sea
