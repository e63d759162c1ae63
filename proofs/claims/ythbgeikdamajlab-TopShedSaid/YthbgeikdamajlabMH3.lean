/- Press: boxes, dumps and tasks. -/
import Derived.Test.YthbgeikdamajlabMT1
import Derived.Test.YthbgeikdamajlabMT2
import Derived.Test.YthbgeikdamajlabMTP
/- Press: fewest boxes and least finish tell the same. Plain facts. -/
namespace Go.Proofs.Ythbgeikdamajlab.Sea
open Go.Proofs.Ythbgeikdamajlab.Prs
set_option linter.unusedVariables false
set_option linter.unusedSimpArgs false

theorem addP_two {mo ea : Int} {x y : Int × Int} {t : Int} (h : addP mo ea x t = some y) : y = (x.1 + t, x.2 + 1) ∧ y.1 ≤ mo := by
  unfold addP at h
  split at h
  · next g => simp at h; subst h; exact ⟨rfl, g.2.2⟩
  · cases h
theorem finS_le : ∀ {ts : List Int} {s s' : Nat → Int} {E : List Nat}, fin addS ts s E = some s' → ∀ b, s b ≤ s' b ∧ ∀ t ∈ ts, (∃ c, c ∈ E ∧ s c + t ≤ s' c)
  | [], s, s', [], h, b => by simp [fin] at h; subst h; exact ⟨Int.le_refl _, fun t ht => by cases ht⟩
  | [], s, s', c :: E, h, b => by have := fin_len h; simp at this
  | t :: ts, s, s', [], h, b => by have := fin_len h; simp at this
  | t :: ts, s, s', c :: E, h, b => by
    simp only [fin] at h
    cases y : addS (s c) t with
    | none => rw [y] at h; cases h
    | some x =>
      rw [y] at h
      have x2 : x = s c + t ∧ 0 ≤ t := by
        unfold addS at y
        split at y
        · next g => simp at y; exact ⟨y.symm, g⟩
        · cases y
      have up_le : ∀ b, s b ≤ up s c x b := fun b => by
        by_cases e : b = c
        · subst e; rw [up_same]; omega
        · rw [up_ne _ _ e]; exact Int.le_refl _
      have ih := fun b => finS_le h b
      refine ⟨Int.le_trans (up_le b) (ih b).1, fun u hu => ?_⟩
      rcases List.mem_cons.1 hu with rfl | hu
      · refine ⟨c, by simp, ?_⟩
        have := (ih c).1
        rw [up_same] at this; omega
      · obtain ⟨d, hd, hl⟩ := (ih 0).2 u hu
        exact ⟨d, by simp [hd], by have := up_le d; omega⟩
/-- What may be loaded may be packed. -/
theorem fin_pack {mo ea : Int} : ∀ {ts : List Int} {s : Nat → Int × Int} {r : Nat → Int} {E : List Nat}, fin addS ts (fun b => (s b).1) E = some r → (∀ b, b ∈ E → r b ≤ mo) → (∀ b, 0 ≤ (s b).2 ∧ (s b).2 + ts.length ≤ ea) → ∃ s', fin (addP mo ea) ts s E = some s' ∧ ∀ b, b ∉ E → s' b = s b
  | [], s, r, [], h, _, _ => ⟨s, rfl, fun _ _ => rfl⟩
  | [], s, r, c :: E, h, _, _ => by have := fin_len h; simp at this
  | t :: ts, s, r, [], h, _, _ => by have := fin_len h; simp at this
  | t :: ts, s, r, c :: E, h, hm, hn => by
    simp only [fin] at h ⊢
    cases y : addS (s c).1 t with
    | none => rw [y] at h; cases h
    | some x =>
      rw [y] at h
      have x2 : x = (s c).1 + t := by
        unfold addS at y
        split at y
        · simp at y; exact y.symm
        · cases y
      have rc := (finS_le h c).1
      rw [up_same] at rc
      have h1 := hn c
      simp only [List.length_cons] at h1
      have e : addP mo ea (s c) t = some ((s c).1 + t, (s c).2 + 1) := by
        unfold addP
        rw [if_pos ⟨h1.1, by omega, by have := hm c (by simp); omega⟩]
      rw [e]
      have up1 : (fun b => (up s c ((s c).1 + t, (s c).2 + 1) b).1) = up (fun b => (s b).1) c x := by
        funext b
        by_cases e : b = c
        · subst e; rw [up_same, up_same]; exact x2.symm
        · rw [up_ne _ _ e, up_ne _ _ e]
      obtain ⟨s', f, g⟩ := fin_pack (mo := mo) (ea := ea) (ts := ts) (s := up s c ((s c).1 + t, (s c).2 + 1)) (r := r) (E := E) (by rw [up1]; exact h) (fun b hb => hm b (by simp [hb])) (fun b => by
        have := hn b
        simp only [List.length_cons] at this
        by_cases e : b = c
        · subst e; rw [up_same]; dsimp only; omega
        · rw [up_ne _ _ e]; omega)
      refine ⟨s', f, fun b hb => ?_⟩
      rw [g b (fun h => hb (by simp [h])), up_ne _ _ (fun e => hb (by simp [e]))]
/-- What is packed is loaded so. -/
theorem fin_load {mo ea : Int} : ∀ {ts : List Int} {s s' : Nat → Int × Int} {E : List Nat}, fin (addP mo ea) ts s E = some s' → (∀ t ∈ ts, 0 ≤ t) → fin addS ts (fun b => (s b).1) E = some (fun b => (s' b).1) ∧ (∀ b, b ∈ E → (s b).2 < (s' b).2) ∧ (∀ b, (s b).2 ≤ (s' b).2) ∧ ((∀ b, (s b).1 ≤ mo) → ∀ b, (s' b).1 ≤ mo)
  | [], s, s', [], h, _ => by simp [fin] at h; subst h; exact ⟨rfl, fun b hb => (by cases hb), fun _ => Int.le_refl _, fun h => h⟩
  | [], s, s', c :: E, h, _ => by have := fin_len h; simp at this
  | t :: ts, s, s', [], h, _ => by have := fin_len h; simp at this
  | t :: ts, s, s', c :: E, h, ht => by
    simp only [fin] at h ⊢
    cases y : addP mo ea (s c) t with
    | none => rw [y] at h; cases h
    | some x =>
      rw [y] at h
      obtain ⟨xe, xm⟩ := addP_two y
      rw [addS_at (ht t (by simp))]
      obtain ⟨f, u, g, m⟩ := fin_load h (fun z hz => ht z (by simp [hz]))
      have up1 : (fun b => (up s c x b).1) = up (fun b => (s b).1) c ((s c).1 + t) := by
        funext b
        by_cases e : b = c
        · subst e; rw [up_same, up_same, xe]
        · rw [up_ne _ _ e, up_ne _ _ e]
      rw [up1] at f
      have g2 : ∀ b, (s b).2 ≤ (up s c x b).2 := fun b => by
        by_cases e : b = c
        · subst e; rw [up_same, xe]; dsimp only; omega
        · rw [up_ne _ _ e]; exact Int.le_refl _
      refine ⟨f, fun b hb => ?_, fun b => Int.le_trans (g2 b) (g b), fun hm => m fun b => ?_⟩
      · rcases List.mem_cons.1 hb with rfl | hb
        · have := g b
          rw [up_same, xe] at this
          dsimp only at this; omega
        · have := u b hb
          have := g2 b
          omega
      · by_cases e : b = c
        · subst e; rw [up_same]; exact xm
        · rw [up_ne _ _ e]; exact hm b
theorem cnt_few {s : Nat → Int × Int} {m : Nat} (h : ∀ b, m ≤ b → (s b).2 = 0) : ∀ M, cnt M s ≤ m := by
  have : ∀ M, sm (fun b => if (s b).2 = 0 then (0 : Int) else 1) M ≤ m ∧ (sm (fun b => if (s b).2 = 0 then (0 : Int) else 1) M ≤ M) := by
    intro M
    induction M with
    | zero => simp [sm]
    | succ M ih =>
      simp only [sm]
      by_cases c : m ≤ M
      · rw [if_pos (h M c)]; omega
      · split <;> omega
  exact fun M => (this M).1
/-- Of one work more than there is room, no sharing ends in time. -/
theorem share_over {m : Nat} {ts : List Int} {f mo t : Int} {E : List Nat} (b : BestS m ts f E) (ht : t ∈ ts) (h : mo < t) : ¬ f ≤ mo := by
  obtain ⟨s', g, v, -⟩ := b.fin_
  obtain ⟨c, hc, hl⟩ := (finS_le g 0).2 t ht
  have := mx_ge (s := s') (b.ok c hc)
  have v : mx s' m = f := v
  omega
/-- The fewest boxes are at most m if and only if m presses end in time. -/
theorem dual {m : Nat} {ts : List Int} {f mo n : Int} {E F : List Nat} (b : BestS m ts f E) (p : BestP mo 12 12 ts n F) (n12 : ts.length ≤ 12) (ht : ∀ t ∈ ts, 1 ≤ t) (m12 : m ≤ 12) (mo0 : 0 ≤ mo) : f ≤ mo ↔ n ≤ m := by
  constructor
  · intro h
    obtain ⟨s', g, v, -⟩ := b.fin_
    have v : mx s' m = f := v
    obtain ⟨s2, g2, k⟩ := fin_pack (mo := mo) (ea := 12) (s := fun _ => (0, 0)) g (fun c hc => by have := mx_ge (s := s') (b.ok c hc); omega) (fun _ => ⟨Int.le_refl _, by dsimp only; omega⟩)
    have l := p.low E s2 (fun c hc => by have := b.ok c hc; omega) g2
    have l : n ≤ cnt 12 s2 := l
    have := cnt_few (s := s2) (m := m) (fun c hc => by rw [k c (fun g => by have := b.ok c g; omega)]) 12
    omega
  · intro h
    obtain ⟨s', g, v, u, hu, cn⟩ := p.fin_
    have v : cnt 12 s' = n := v
    rw [cn.cnt hu] at v
    obtain ⟨fl, us, -, mo'⟩ := fin_load g (fun t h => by have := ht t h; omega)
    have l := b.low F _ (fun c hc => by
      have := us c hc
      apply Classical.byContradiction; intro q
      rw [cn.hi c (by omega)] at this
      exact absurd this (by decide)) fl
    have l : f ≤ mx (fun b => (s' b).1) m := l
    have : mx (fun b => (s' b).1) m ≤ mo := mx_le.2 ⟨mo0, fun c _ => mo' (fun _ => mo0) c⟩
    omega
end Go.Proofs.Ythbgeikdamajlab.Sea

/- Press: dumps that are packed, and all tasks in time. Plain facts. -/
namespace Go.Proofs.Ythbgeikdamajlab.Sea
theorem fin_keep {mo ea : Int} : ∀ {ts : List Int} {s s' : Nat → Int × Int} {E : List Nat}, fin (addP mo ea) ts s E = some s' → ∀ b, b ∉ E → s' b = s b
  | [], s, s', [], h, b, _ => by simp [fin] at h; rw [h]
  | [], s, s', c :: E, h, b, _ => by have := fin_len h; simp at this
  | t :: ts, s, s', [], h, b, _ => by have := fin_len h; simp at this
  | t :: ts, s, s', c :: E, h, b, hb => by
    simp only [fin] at h
    cases y : addP mo ea (s c) t with
    | none => rw [y] at h; cases h
    | some x =>
      rw [y] at h
      rw [fin_keep h b (fun g => hb (by simp [g])), up_ne _ _ (fun e => hb (by simp [e]))]
end Go.Proofs.Ythbgeikdamajlab.Sea
namespace Go.Proofs.Ythbgeikdamajlab
open Go.RowKit Go.Proofs.Ythbgeikdamajlab.Prs Go.Proofs.Ythbgeikdamajlab.Stb
set_option linter.unusedVariables false
set_option linter.unusedSimpArgs false

/-- What a packing says of the boxes' numbers. -/
theorem pack_boxes {mo ea L : Int} {T : List Int} {E : List Nat} (p : Sea.BestP mo ea 12 T L E) (ht : ∀ t ∈ T, 0 ≤ t) : ∃ u : Nat, L = u ∧ u ≤ 12 ∧ (∀ b ∈ E, b < u) ∧ ∀ b, b < u → b ∈ E := by
  obtain ⟨s', g, v, u, hu, cn⟩ := p.fin_
  have v : Sea.cnt 12 s' = L := v
  rw [cn.cnt hu] at v
  obtain ⟨-, us, -, -⟩ := Sea.fin_load g ht
  refine ⟨u, v.symm, hu, fun b hb => ?_, fun b hb => ?_⟩
  · have := us b hb
    apply Classical.byContradiction; intro q
    rw [cn.hi b (by omega)] at this
    exact absurd this (by decide)
  · apply Classical.byContradiction; intro q
    have := Sea.fin_keep g b q
    have h2 := cn.lo b hb
    rw [this] at h2
    exact absurd h2 (by decide)
/-- What the dumps are after the first i things. -/
def ShI (f : Nat → Int) (E : List Nat) (i : Nat) : Prop := ∀ b, 0 ≤ f (b * 2) ∧ f (b * 2) ≤ i * 97 ∧ 0 ≤ f (b * 2 + 1) ∧ f (b * 2 + 1) ≤ i * 89 ∧ ((∃ j, j < i ∧ E.getD j 0 = b) → 1 ≤ f (b * 2 + 1))
theorem ShI.step {f f1 f2 : Nat → Int} {E : List Nat} {i e : Nat} {a c : Int} (h : ShI f E i) (he : E.getD i 0 = e) (ha : 0 ≤ a ∧ a ≤ 96) (hc : 0 ≤ c ∧ c ≤ 88)
    (h1 : ∀ k, f1 k = if k = e * 2 then f (e * 2) + (1 + a) else f k) (h2 : ∀ k, f2 k = if k = e * 2 + 1 then f1 (e * 2 + 1) + (1 + c) else f1 k) : ShI f2 E (i + 1) := fun b => by
  obtain ⟨k1, k2, k3, k4, k5⟩ := h b
  have q : f2 (b * 2) = if b = e then f (b * 2) + (1 + a) else f (b * 2) := by
    rw [h2, if_neg (by omega), h1]
    by_cases eb : b = e
    · subst eb; rw [if_pos rfl, if_pos rfl]
    · rw [if_neg (by omega), if_neg eb]
  have r : f2 (b * 2 + 1) = if b = e then f (b * 2 + 1) + (1 + c) else f (b * 2 + 1) := by
    rw [h2]
    by_cases eb : b = e
    · subst eb; rw [if_pos rfl, if_pos rfl, h1, if_neg (by omega)]
    · rw [if_neg (by omega), if_neg eb, h1, if_neg (by omega)]
  rw [q, r]
  by_cases eb : b = e
  · rw [if_pos eb, if_pos eb]
    refine ⟨by omega, by omega, by omega, by omega, fun _ => by omega⟩
  · rw [if_neg eb, if_neg eb]
    refine ⟨by omega, by omega, by omega, by omega, fun ⟨j, hj, ej⟩ => k5 ⟨j, ?_, ej⟩⟩
    by_cases l : j = i
    · subst l; omega
    · omega
/-- The dumps as a list. -/
def FlD (f : Nat → Int) (u : Nat) : List (Int × Int) := (List.range u).map fun b => (f (b * 2), f (b * 2 + 1))
theorem FlD_len (f : Nat → Int) (u : Nat) : (FlD f u).length = u := by simp [FlD]
theorem FlD_p {f : Nat → Int} {u b : Nat} (h : b < u) : pd (FlD f u) b = f (b * 2) := by simp [FlD, pd, h]
theorem FlD_s {f : Nat → Int} {u b : Nat} (h : b < u) : sd (FlD f u) b = f (b * 2 + 1) := by simp [FlD, sd, h]
theorem tot_sm (D : List (Int × Int)) : ∀ (O : List Int), tot D O = sm (fun k => pd D (od O k)) O.length := by
  intro O
  have : ∀ k, k ≤ O.length → tot D (O.take k) = sm (fun k => pd D (od O k)) k := by
    intro k
    induction k with
    | zero => intro _; rfl
    | succ k ih =>
      intro hk
      rw [List.take_succ_eq_append_getElem (by omega), tot_app, ih (by omega), tot_cons]
      simp only [sm]
      have : od O k = (O[k]).toNat := by unfold od gi; rw [List.getElem?_eq_getElem (by omega)]; rfl
      rw [this]
      simp [tot, Sea.sums]
  have h := this O.length (Nat.le_refl _)
  rwa [List.take_length] at h
theorem tot_take {D : List (Int × Int)} (nn : ∀ i, 0 ≤ pd D i) (O : List Int) (i : Nat) : tot D (O.take i) ≤ tot D O := by
  have e := List.take_append_drop i O
  have h : ∀ l : List Int, 0 ≤ tot D l := fun l => by
    induction l with
    | nil => exact Int.le_refl _
    | cons x l ih => rw [tot_cons]; have := nn x.toNat; omega
  have := h (O.drop i)
  have q := tot_app D (O.take i) (O.drop i)
  rw [e] at q
  omega
/-- All tasks are kept that end in time. -/
theorem kept_all {D : List (Int × Int)} (nn : ∀ i, 0 ≤ pd D i) {O : List Int} {S : Int} (h : tot D O ≤ S) (hd : ∀ x ∈ O, sd D x.toNat = S) : ∀ i, i ≤ O.length → kept D O i = O.take i
  | 0, _ => by simp [kept]
  | i + 1, hi => by
    rw [kept_succ (by omega), kept_all nn h hd i (by omega), List.take_succ_eq_append_getElem (by omega)]
    have gO : gi O i = O[i]'(by omega) := by simp [gi, show i < O.length by omega]
    rw [gO]
    unfold mhs
    rw [← List.take_succ_eq_append_getElem (by omega), hd _ (List.getElem_mem _), if_neg]
    have := tot_take nn O (i + 1)
    omega
theorem left_none {K : List Int} {n : Nat} (h : ∀ j : Nat, j < n → (j : Int) ∈ K) : left K n = [] := by
  unfold left
  rw [List.map_eq_nil_iff, List.filter_eq_nil_iff]
  intro j hj
  have := h j (List.mem_range.1 hj)
  simpa using this
/-- The makespan is at least the sum of the straps, and at most that of all times. -/
theorem mks_straps {P S : Nat → Int} {n : Nat} {o : Nat → Nat} (hP : ∀ i, 0 ≤ P i) (ho : Ord n o) : sm S n ≤ mks P S o n := by
  rcases Nat.eq_zero_or_pos n with h | h
  · subst h; exact Int.le_refl _
  · have := mks_ge P S o n 0 h
    unfold vl at this
    simp only [sm] at this
    have e : sm (fun j => S (o j)) n = sm S n := ho.sum S
    have := hP (o 0)
    omega
theorem mks_sum {P S : Nat → Int} {o : Nat → Nat} (hP : ∀ i, 0 ≤ P i) (hS : ∀ i, 0 ≤ S i) : ∀ n, mks P S o n ≤ sm (fun j => P (o j)) n + sm (fun j => S (o j)) n
  | 0 => Int.le_refl _
  | n + 1 => by
    have ih := mks_sum (o := o) hP hS n
    have h0 : ∀ k, 0 ≤ sm (fun j => S (o j)) k := fun k => by
      induction k with
      | zero => exact Int.le_refl _
      | succ k ih => simp only [sm]; have := hS (o k); omega
    have := h0 n
    have := hP (o n)
    simp only [mks, sm]
    omega
/-- What is asked of the tasks: all are kept. -/
theorem shed_all {E : List (Int × Int)} {S : Int} (ok : TkOk E E.length) (hs : sm (pd E) E.length ≤ S) (hd : ∀ i, i < E.length → sd E i = S) : kept E (dueO E E.length) E.length = dueO E E.length ∧ left (dueO E E.length) E.length = [] := by
  have nn : ∀ i, 0 ≤ pd E i := fun i => by
    by_cases h : i < E.length
    · have := ok i h; omega
    · simp [pd, List.getElem?_eq_none (by omega : E.length ≤ i)]
  have l := dueO_len E E.length
  have o := dueO_ord E E.length
  have t : tot E (dueO E E.length) = sm (pd E) E.length := by
    rw [tot_sm, l]
    exact o.ord.sum (pd E)
  refine ⟨?_, left_none fun j hj => (dueO_mem E _ E.length).2 ⟨by omega, by omega⟩⟩
  have := kept_all nn (O := dueO E E.length) (S := S) (by omega) (fun x hx => hd _ (by have := (dueO_mem E x E.length).1 hx; omega)) E.length (by omega)
  rw [this, List.take_of_length_le (by omega)]
end Go.Proofs.Ythbgeikdamajlab

/- Press: Makespan of an order of any length. -/
namespace Go.Proofs.Ythbgeikdamajlab
open Go.RowKit Go.Proofs.Ythbgeikdamajlab.Prs
set_option linter.unusedVariables false
set_option linter.unusedSimpArgs false

set_option maxRecDepth 100000 in
set_option maxHeartbeats 4000000 in
theorem checkOrder_big (p : Option Addr) (c : Nat) (D : List (Int × Int)) (q : Option Addr) (d : Nat) (O : List Int) (w : World) (r : DmpR w p D) (ro : NumR w q O) (ln : D.length ≤ 1000000) (lo : O.length ≤ 9223372036854775807) :
    Calls Try.prog 46 #[.slice p D.length c, .slice q O.length d] w fun e w' => ∃ x, e = .returned (.int .i64 x) ∧ OErr D O x ∧ Below w.heap.size w w' := by
  have CD := Lib.hid (checkDumps_any p c D w r ln)
  have RO := Lib.hid ro
  obtain ⟨n, hn⟩ : ∃ n, n = D.length := ⟨_, rfl⟩
  obtain ⟨m, hm⟩ : ∃ m, m = O.length := ⟨_, rfl⟩
  rw [← hn] at ln CD ⊢
  rw [← hm] at lo ⊢
  have HN := Lib.hid (show n = D.length ∧ m = O.length from ⟨hn, hm⟩)
  clear hn hm r ro
  go_enter Try.func46, Try.ntmps46
  go_wp2_with fail
  refine CD.out.mono ?_
  rintro e w1 ⟨x, rfl, DE, st⟩
  have DE := Lib.hid DE
  have ST := Lib.hid st
  clear CD st
  by_cases x0 : x = 0
  case neg =>
    have x1 : (x == 0) = false := by simpa using x0
    have OE := Lib.hid (DE.out.order (O := O) x0)
    clear x0 DE
    go_wp2_with fail
    go_ret
    exact ⟨x, rfl, OE.out, ST.out⟩
  subst x0
  obtain ⟨n64, DK⟩ := DE.out.good rfl
  rw [← HN.out.1] at n64
  have DK := Lib.hid DK
  clear DE
  by_cases mn : m = n
  case neg =>
    have m1 : ((m : Int) == (n : Int)) = false := by simp; omega
    have OE := Lib.hid (show OErr D O 2 from .inr (.inr (.inr ⟨by rw [← HN.out.1]; exact n64, DK.out, fun h => mn (by rw [HN.out.1, HN.out.2]; exact h.1), rfl⟩)))
    clear mn DK
    go_wp2_with fail
    go_ret
    exact ⟨2, rfl, OE.out, ST.out⟩
  subst mn
  have HB := Lib.hid (RO.out.below ST.out)
  have N64 := Lib.hid n64
  go_wp2_with fail
  change Code.wp _ _ _ _ (w1.alloc (Obj.cells (Array.replicate 64 (Value.bool false)) 82))
  have M0 := Lib.hid (Marks64.begin w1 82 w.heap.size ST.out.size O)
  have B0 := Lib.hid (show Below w.heap.size w (w1.alloc (Obj.cells (Array.replicate 64 (Value.bool false)) 82)) from ST.out.alloc ST.out.size _)
  obtain ⟨b, hb⟩ : ∃ b, b = w1.heap.size := ⟨_, rfl⟩
  rw [← hb] at M0 ⊢
  clear hb HB
  generalize w1.alloc (Obj.cells (Array.replicate 64 (Value.bool false)) 82) = w2 at M0 B0 ⊢
  clear ST
  have W2 := Lib.hid B0.out.size
  go_loopw [21] (fun kv wr => ∃ i : Nat, i ≤ m ∧ kv = .int .i64 i ∧ Hid (OrdTo O m i) ∧ Hid (Marks64 wr b w.heap.size O i) ∧ Hid (Below w.heap.size w wr)) (fun kv _ => m - (intOf kv).toNat)
  case atStart => exact ⟨0, Nat.zero_le _, rfl, Lib.hid ⟨fun k hk => by omega, fun a b ab bi => by omega⟩, M0, B0⟩
  case round =>
    obtain ⟨i, hi, rfl, HO, HM, HB⟩ := hrel
    clear M0 B0
    by_cases t2 : i < m
    · obtain ⟨x, rfl, kx, cx⟩ := (RO.out.below HB.out) i (by have := HN.out; omega)
      have i1 : (0 : Int) ≤ (i : Int) := by omega
      have i2 : (i : Int) < (m : Int) := by omega
      obtain ⟨m1, hm1⟩ : ∃ m1, m1 = m - 1 := ⟨_, rfl⟩
      have em : IntKind.i64.wrap ((m : Int) - 1) = (m1 : Int) := wN (by omega) (by omega)
      have NB := Lib.hid (show (¬ (0 ≤ gi O i ∧ gi O i < m) ∨ ∃ j, j < i ∧ gi O j = gi O i) → OErr D O 2 from fun h => .inr (.inr (.inr ⟨by rw [← HN.out.1]; exact N64.out, DK.out, fun g => by
        rcases h with h | ⟨j, j1, j2⟩
        · exact h (by have := g.2.1 i (by rw [← HN.out.1]; exact t2); rwa [← HN.out.1] at this)
        · exact g.2.2 j i j1 (by rw [← HN.out.1]; exact t2) j2, rfl⟩)))
      by_cases g1 : 0 ≤ gi O i ∧ gi O i < m
      · obtain ⟨u, hu⟩ := Int.eq_ofNat_of_zero_le g1.1
        have um : u < m := by omega
        obtain ⟨tk, ct, ht⟩ := HM.out.at_ u (by have := N64.out; omega)
        have C1 := Lib.hid (fun W => isWithin_b (gi O i) 0 (m1 : Int) true (by
          have a1 : decide (0 ≤ gi O i) = true := decide_eq_true g1.1
          have a2 : decide (gi O i ≤ (m1 : Int)) = true := decide_eq_true (by omega)
          rw [a1, a2]; rfl) W)
        have u1 : (0 : Int) ≤ (u : Int) := by omega
        have u2 : (u : Int) < 64 := by have := N64.out; omega
        have HU := Lib.hid hu
        cases tk with
        | true =>
          have OE := Lib.hid (NB.out (.inr (by obtain ⟨j, j1, j2⟩ := ht.1 rfl; exact ⟨j, j1, by rw [j2, hu]⟩)))
          clear ht NB g1 hm1
          rw [hu] at cx C1
          clear hu
          go_wp2_with fail
          refine (C1.out _).mono ?_
          rintro e w3 ⟨rfl, rfl⟩
          go_wp2_with fail
          go_ret
          exact ⟨2, rfl, OE.out, HB.out⟩
        | false =>
          have OS := Lib.hid (HO.out.step g1 (fun ⟨j, j1, j2⟩ => by have := ht.2 ⟨j, j1, by rw [j2, hu]⟩; cases this))
          have MS := Lib.hid (HM.out.set (by have := N64.out; omega) hu)
          have fz := HM.out.fr u
          have BS := Lib.hid (HB.out.setCell (p := ⟨b, u, none⟩) HM.out.nb (.bool true))
          clear ht NB g1 hm1 HO HM HB
          rw [hu] at cx C1
          clear hu
          go_wp2_with fail
          refine (C1.out _).mono ?_
          rintro e w3 ⟨rfl, rfl⟩
          go_wp2_with fail
          go_roundw
          case rel => exact ⟨i + 1, by omega, by go_num, OS, MS, BS⟩
          case measure => simp [intOf]; omega
      · have OE := Lib.hid (NB.out (.inl g1))
        have C1 := Lib.hid (fun W => isWithin_b (gi O i) 0 (m1 : Int) false (by
          rw [Bool.and_eq_false_iff]
          by_cases c : 0 ≤ gi O i
          · exact .inr (decide_eq_false (fun g => g1 ⟨c, by omega⟩))
          · exact .inl (decide_eq_false c)) W)
        clear NB g1 hm1
        generalize gi O i = z at *
        go_wp2_with fail
        refine (C1.out _).mono ?_
        rintro e w3 ⟨rfl, rfl⟩
        go_wp2_with fail
        go_ret
        exact ⟨2, rfl, OE.out, HB.out⟩
    · obtain rfl : i = m := by omega
      go_wp2_with fail
      go_ret
      exact ⟨0, rfl, .inr (.inr (.inl ⟨by rw [← HN.out.1]; exact N64.out, DK.out, by rw [← HN.out.1]; exact ⟨HN.out.2.symm, HO.out.rng, HO.out.ne⟩, rfl⟩)), HB.out⟩

set_option maxRecDepth 100000 in
set_option maxHeartbeats 4000000 in
theorem Makespan_big (p : Option Addr) (c : Nat) (D : List (Int × Int)) (q : Option Addr) (d : Nat) (O : List Int) (w : World) (r : DmpR w p D) (ro : NumR w q O) (ln : D.length ≤ 1000000) (lo : O.length ≤ 9223372036854775807) :
    Calls Try.prog 22 #[.slice p D.length c, .slice q O.length d] w fun e w' => ∃ x m, e = .returned (.tuple #[.int .i64 m, .int .i64 x]) ∧ MkQ D O x m ∧ Below w.heap.size w w' := by
  have CO := Lib.hid (checkOrder_big p c D q d O w r ro ln lo)
  have MK := Lib.hid (fun W (st : Below w.heap.size w W) (h : OErr D O 0) => makespan_any p c D q d O W (r.below st) (ro.below st) h.good.1 h.good.2.1 h.good.2.2)
  clear r ro
  generalize hn : D.length = n at *
  generalize hm : O.length = m at *
  have HN := Lib.hid hn
  clear hn hm
  go_enter Try.func22, Try.ntmps22
  go_wp2_with fail
  refine CO.out.mono ?_
  rintro e w1 ⟨x, rfl, OE, st⟩
  have OE := Lib.hid OE
  have ST := Lib.hid st
  clear CO st
  by_cases x0 : x = 0
  · subst x0
    have MC := Lib.hid (MK.out w1 ST.out OE.out)
    clear MK
    go_wp2_with fail
    refine MC.out.mono ?_
    rintro e w2 ⟨rfl, rfl⟩
    go_wp2_with fail
    go_ret2
    exact ⟨0, _, rfl, ⟨OE.out, fun h => absurd rfl h, fun _ => by rw [HN.out]⟩, ST.out⟩
  · have x1 : (x == 0) = false := by simpa using x0
    have X0 := Lib.hid x0
    clear x0 MK
    go_wp2_with fail
    go_ret2
    exact ⟨x, 0, rfl, ⟨OE.out, fun _ => rfl, fun h => absurd h X0.out⟩, ST.out⟩
end Go.Proofs.Ythbgeikdamajlab
