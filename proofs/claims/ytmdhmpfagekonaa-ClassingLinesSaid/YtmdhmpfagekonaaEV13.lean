/- A run of closed code: all orders of a region. -/
import Derived.Test.YtmdhmpfagekonaaEV12
namespace Go.Proofs.Ytmdhmpfagekonaa.Ev
open Go.RowKit
set_option linter.unusedVariables false
set_option linter.unusedSimpArgs false

noncomputable def readyB (ops : Array Oper) (listed : Array Bool) : List Nat :=
  (List.range ops.size).filter fun i => !listed.getD i true && (match ops[i]? with | some o => o.after.toList.all (fun e => !Region.binds .any e || listed.getD e.on false) | none => false)
theorem readyB_eq (ops : Array Oper) (listed : Array Bool) : readyB ops listed = Region.ready .any ops listed := by
  unfold readyB Region.ready
  congr 1
  funext i
  congr 1
  cases ops[i]? with
  | none => rfl
  | some o => simp [Array.all_toList]

/-- Does i come ahead of j? -/
noncomputable def behind (ops : Array Oper) : Nat → Nat → Nat → Bool
  | 0, _, _ => false
  | n + 1, i, j => match ops[j]? with
    | some o => o.after.toList.any fun e => Region.binds .any e && (Nat.beq e.on i || behind ops n i e.on)
    | none => false
/-- All that comes ahead of what is done is done. -/
noncomputable def DC (ops : Array Oper) (listed : Array Bool) : Prop := ∀ k o, listed.getD k false = true → ops[k]? = some o → ∀ e ∈ o.after, Region.binds .any e = true → listed.getD e.on false = true
theorem DC.set {ops : Array Oper} {listed : Array Bool} (h : DC ops listed) {i : Nat} (hi : i ∈ Region.ready .any ops listed) : DC ops (listed.setIfInBounds i true) := by
  intro k o hk ho e he hb
  by_cases e1 : i = k
  · subst e1
    obtain ⟨_, o', ho', hall⟩ := mem_ready.1 hi
    rw [ho] at ho'; cases ho'
    exact getD_set_true (hall e he hb)
  · rw [getD_set_ne false e1] at hk
    exact getD_set_true (h k o hk ho e he hb)
theorem behind_listed {ops : Array Oper} {listed : Array Bool} (h : DC ops listed) : ∀ (n i j : Nat), behind ops n i j = true → listed.getD j false = true → listed.getD i false = true
  | 0, i, j, hb, _ => by simp [behind] at hb
  | n + 1, i, j, hb, hj => by
    simp only [behind] at hb
    cases ho : ops[j]? with
    | none => simp [ho] at hb
    | some o =>
      simp only [ho, List.any_eq_true, Bool.and_eq_true, Bool.or_eq_true, Nat.beq_eq] at hb
      obtain ⟨e, he, hbi, hor⟩ := hb
      have hl := h j o hj ho e (by simpa using he) hbi
      rcases hor with rfl | hor
      · exact hl
      · exact behind_listed h n i e.on hor hl
theorem behind_ready {ops : Array Oper} {listed : Array Bool} (h : DC ops listed) {n i j : Nat} (hb : behind ops n i j = true) (hj : j ∈ Region.ready .any ops listed) : listed.getD i false = true := by
  obtain ⟨_, o, ho, hall⟩ := mem_ready.1 hj
  cases n with
  | zero => simp [behind] at hb
  | succ n =>
    simp only [behind, ho, List.any_eq_true, Bool.and_eq_true, Bool.or_eq_true, Nat.beq_eq] at hb
    obtain ⟨e, he, hbi, hor⟩ := hb
    have hl := hall e (by simpa using he) hbi
    rcases hor with rfl | hor
    · exact hl
    · exact behind_listed h n i e.on hor hl

/-- May i be taken first? -/
noncomputable def freeB (q : Nat → Bool) (ops : Array Oper) (listed : Array Bool) (i : Nat) : Bool :=
  match ops[i]? with
  | some oi => !Nat.beq (kindOf oi.op) 3 && (List.range ops.size).all fun j => Nat.beq j i || listed.getD j true || behind ops 5 i j || commOk q ops i j
  | none => false

/-- May the look i be taken first, as the slots now stand? -/
noncomputable def settled (ops : Array Oper) (listed : Array Bool) (i j : Nat) : Bool :=
  match ops[i]?, ops[j]? with
  | some oi, some oj => (List.range ops.size).all fun k => Nat.beq k i || listed.getD k true || (match ops[k]? with
    | some ok => smallDst ok.dst && (match ok.dst with | some d => !(oi.looksAt ops).contains d && !(keyTmps oj).contains d | none => true)
    | none => true)
  | _, _ => false
noncomputable def freeD (q : Nat → Bool) (ops : Array Oper) (listed : Array Bool) (T : Tr Value) (i : Nat) : Bool :=
  match ops[i]? with
  | some oi => Nat.beq (kindOf oi.op) 1 && (List.range ops.size).all fun j => Nat.beq j i || listed.getD j true || behind ops 5 i j || commOk q ops i j || (settled ops listed i j && dynOk ops T i j)
  | none => false

noncomputable def concatAll {α β : Type} (f : α → Option (List β)) : List α → Option (List β)
  | [] => some []
  | x :: xs => match f x, concatAll f xs with
    | some a, some b => some (a ++ b)
    | _, _ => none
theorem concatAll_mem {α β : Type} {f : α → Option (List β)} : ∀ {xs : List α} {out : List β}, concatAll f xs = some out → ∀ x ∈ xs, ∃ a, f x = some a ∧ ∀ y ∈ a, y ∈ out
  | [], out, h, x, hx => by simp at hx
  | z :: zs, out, h, x, hx => by
    simp only [concatAll] at h
    split at h
    · rename_i a b ha hb
      cases h
      rcases List.mem_cons.1 hx with rfl | hx
      · exact ⟨a, ha, fun y hy => by simp [hy]⟩
      · obtain ⟨a', h1, h2⟩ := concatAll_mem hb x hx
        exact ⟨a', h1, fun y hy => by simp [h2 y hy]⟩
    · cases h

noncomputable def explore (call : CallT) (q : Nat → Bool) (P : Program) (N : Nat) (ops : Array Oper) (base : Nat) : Nat → Array Bool → St → Option (List St)
  | 0, listed, st => match readyB ops listed with | [] => some [st] | _ => none
  | n + 1, listed, st => match readyB ops listed with
    | [] => some [st]
    | i0 :: rs => match (match (i0 :: rs).find? (freeB q ops listed) with | some i => some i | none => (i0 :: rs).find? (freeD q ops listed st.T)) with
      | some i => match opStep call P N ops base i st with
        | some [st1] => explore call q P N ops base n (listed.setIfInBounds i true) st1
        | _ => none
      | none => concatAll (fun i => match opStep call P N ops base i st with
        | some outs => concatAll (explore call q P N ops base n (listed.setIfInBounds i true)) outs
        | none => none) (i0 :: rs)

noncomputable def AO (call : CallT) (P : Program) (N : Nat) (ops : Array Oper) (base : Nat) (F : St → Prop) : Nat → Array Bool → St → Prop
  | 0, listed, st => Fine st → Region.ready .any ops listed = [] ∧ F st
  | n + 1, listed, st => Fine st → (Region.ready .any ops listed = [] → F st) ∧
    ∀ i ∈ Region.ready .any ops listed, ∃ outs, opStep call P N ops base i st = some outs ∧ ∀ o ∈ outs, AO call P N ops base F n (listed.setIfInBounds i true) o

theorem AO.mono {call : CallT} {P : Program} {N : Nat} {ops : Array Oper} {base : Nat} {F G : St → Prop} (hFG : ∀ s, F s → G s) : ∀ {n : Nat} {listed : Array Bool} {st : St}, AO call P N ops base F n listed st → AO call P N ops base G n listed st
  | 0, _, _, h => fun f => ⟨(h f).1, hFG _ (h f).2⟩
  | n + 1, _, _, h => fun f => ⟨fun e => hFG _ ((h f).1 e), fun i hi => let ⟨outs, a, b⟩ := (h f).2 i hi; ⟨outs, a, fun o ho => (b o ho).mono hFG⟩⟩

theorem AO.first {call : CallT} {P : Program} {N : Nat} {ops : Array Oper} {base : Nat} {F D : St → Prop} {i : Nat} {oi : Oper} (hoi : ops[i]? = some oi) (k3 : kindOf oi.op ≠ 3) :
    ∀ (n : Nat) (listed : Array Bool) (st st1 : St), DC ops listed →
      (∀ j, j < ops.size → j ≠ i → listed.getD j true = false → behind ops 5 i j = false → ∀ s s1 outs1, Fine s → D s → opStep call P N ops base i s = some [s1] → opStep call P N ops base j s1 = some outs1 →
        ∃ outs, opStep call P N ops base j s = some outs ∧ ∀ o ∈ outs, ∃ o1 ∈ outs1, opStep call P N ops base i o = some [o1]) →
      (∀ j, j < ops.size → j ≠ i → listed.getD j true = false → ∀ s outs, Fine s → D s → opStep call P N ops base j s = some outs → ∀ o ∈ outs, D o) →
      D st → i ∈ Region.ready .any ops listed →
      opStep call P N ops base i st = some [st1] → AO call P N ops base F n (listed.setIfInBounds i true) st1 → AO call P N ops base F (n + 1) listed st := by
  intro n
  induction n with
  | zero =>
    intro listed st st1 hdc hfree hkeep hD hr h1 H f
    have f1 := opStep_fine hoi k3 f h1
    refine ⟨fun h => (by rw [h] at hr; cases hr), fun j hj => ?_⟩
    by_cases hji : j = i
    · subst hji; exact ⟨[st1], h1, fun o ho => by simp at ho; subst ho; exact H⟩
    · have := ready_mono hj hji
      rw [(H f1).1] at this; cases this
  | succ n ih =>
    intro listed st st1 hdc hfree hkeep hD hr h1 H f
    have f1 := opStep_fine hoi k3 f h1
    refine ⟨fun h => (by rw [h] at hr; cases hr), fun j hj => ?_⟩
    by_cases hji : j = i
    · subst hji; exact ⟨[st1], h1, fun o ho => by simp at ho; subst ho; exact H⟩
    · obtain ⟨outs1, h2, hall⟩ := (H f1).2 j (ready_mono hj hji)
      obtain ⟨hun, oj, hoj, _⟩ := mem_ready.1 hj
      have hlt : j < ops.size := (Array.getElem?_eq_some_iff.1 hoj).1
      have hnb : behind ops 5 i j = false := by
        cases hb : behind ops 5 i j with
        | false => rfl
        | true =>
          have h3 := behind_ready hdc hb hj
          have h4 := (mem_ready.1 hr).1
          rcases Nat.lt_or_ge i listed.size with h' | h'
          · simp [h'] at h3 h4; rw [h3] at h4; cases h4
          · simp [Array.getElem?_eq_none h'] at h3
      obtain ⟨outs, h5, h6⟩ := hfree j hlt hji hun hnb st st1 outs1 f hD h1 h2
      refine ⟨outs, h5, fun o ho => ?_⟩
      obtain ⟨o1, m1, h7⟩ := h6 o ho
      have un : ∀ k, (listed.setIfInBounds j true).getD k true = false → listed.getD k true = false := by
        intro k hunk
        by_cases hjk : j = k
        · subst hjk; exact hun
        · rwa [getD_set_ne true hjk] at hunk
      refine ih (listed.setIfInBounds j true) o o1 (hdc.set hj) (fun k hk hki hunk hb => hfree k hk hki (un k hunk) hb) (fun k hk hki hunk => hkeep k hk hki (un k hunk)) (hkeep j hlt hji hun st outs f hD h5 o ho) (ready_mono hr (Ne.symm hji)) h7 ?_
      have hsw : (listed.setIfInBounds j true).setIfInBounds i true = (listed.setIfInBounds i true).setIfInBounds j true := Array.setIfInBounds_comm _ _ hji
      rw [hsw]
      exact hall o1 m1

theorem AO.byB {call : CallT} {q : Nat → Bool} (hq : QuietOk call q) {P : Program} {N : Nat} {ops : Array Oper} {base n i : Nat} {F : St → Prop} {listed : Array Bool} {st st1 : St} (hdc : DC ops listed) (hmem : i ∈ Region.ready .any ops listed) (hfree : freeB q ops listed i = true)
    (hs : opStep call P N ops base i st = some [st1]) (H : AO call P N ops base F n (listed.setIfInBounds i true) st1) : AO call P N ops base F (n + 1) listed st := by
  unfold freeB at hfree
  cases hoi : ops[i]? with
  | none => simp [hoi] at hfree
  | some oi =>
    simp only [hoi, Bool.and_eq_true, List.all_eq_true, List.mem_range, Bool.or_eq_true] at hfree
    obtain ⟨hk, hall⟩ := hfree
    refine AO.first (D := fun _ => True) hoi (by intro e; rw [e] at hk; simp at hk) n listed st st1 hdc ?_ (fun _ _ _ _ _ _ _ _ _ _ _ => trivial) trivial hmem hs H
    intro j hj hji hun hb s s1 outs1 fs _ g1 g2
    rcases hall j hj with ((q | q) | q) | q
    · exact absurd (Nat.eq_of_beq_eq_true q) hji
    · rw [q] at hun; cases hun
    · rw [q] at hb; cases hb
    · exact opStep_comm hq (Ne.symm hji) q fs g1 g2

theorem AO.byD {call : CallT} {q : Nat → Bool} (hq : QuietOk call q) {P : Program} {N : Nat} {ops : Array Oper} {base n i : Nat} {F : St → Prop} {listed : Array Bool} {st st1 : St} (hdc : DC ops listed) (hmem : i ∈ Region.ready .any ops listed) (hfree : freeD q ops listed st.T i = true)
    (hs : opStep call P N ops base i st = some [st1]) (H : AO call P N ops base F n (listed.setIfInBounds i true) st1) : AO call P N ops base F (n + 1) listed st := by
  unfold freeD at hfree
  cases hoi : ops[i]? with
  | none => simp [hoi] at hfree
  | some oi =>
    simp only [hoi, Bool.and_eq_true, List.all_eq_true, List.mem_range, Bool.or_eq_true] at hfree
    obtain ⟨hk, hall⟩ := hfree
    have k1 : kindOf oi.op = 1 := Nat.eq_of_beq_eq_true hk
    -- what is watched: what i looks at, and what each settled j looks at
    let L : List Nat := oi.looksAt ops ++ (List.range ops.size).flatMap fun j => bif settled ops listed i j && lookOk ops oi && (match ops[j]? with | some oj => lookOk ops oj | none => false) then (match ops[j]? with | some oj => keyTmps oj | none => []) else []
    by_cases hany : ∃ j, j < ops.size ∧ settled ops listed i j = true ∧ dynOk ops st.T i j = true
    · have hlook : lookOk ops oi = true := by
        obtain ⟨j, _, _, hd⟩ := hany
        unfold dynOk at hd
        cases hoj : ops[j]? with
        | none => simp [hoi, hoj] at hd
        | some oj => simp only [hoi, hoj, Bool.and_eq_true] at hd; exact hd.1.1.1.1.1.1.2
      have hLs : ∀ t ∈ L, t < 512 := by
        intro t ht
        rcases List.mem_append.1 ht with ht | ht
        · unfold lookOk at hlook
          rw [List.all_eq_true] at hlook
          simpa [Nat.blt_eq] using hlook t ht
        · rw [List.mem_flatMap] at ht
          obtain ⟨j, _, ht⟩ := ht
          cases hoj : ops[j]? with
          | none => simp [hoj] at ht
          | some oj =>
            simp only [hoj] at ht
            cases hc : (settled ops listed i j && lookOk ops oi && lookOk ops oj) with
            | false => rw [hc] at ht; cases ht
            | true =>
              rw [hc] at ht
              simp only [Bool.and_eq_true] at hc
              have h9 := hc.2
              unfold lookOk at h9
              rw [List.all_eq_true] at h9
              simpa [Nat.blt_eq] using h9 t (keyTmps_look t ht)
      obtain ⟨j0, _, hset0, _⟩ := hany
      have hdst : ∀ k ok, k < ops.size → k ≠ i → listed.getD k true = false → ops[k]? = some ok → smallDst ok.dst = true ∧ ∀ d, ok.dst = some d → d ∉ L := by
        intro k ok hk hki hun hok
        have get : ∀ j oj, ops[j]? = some oj → settled ops listed i j = true → smallDst ok.dst = true ∧ ∀ d, ok.dst = some d → d ∉ oi.looksAt ops ∧ d ∉ keyTmps oj := by
          intro j oj hoj hset
          unfold settled at hset
          simp only [hoi, hoj, List.all_eq_true, List.mem_range, Bool.or_eq_true] at hset
          rcases hset k hk with (q | q) | q
          · exact absurd (Nat.eq_of_beq_eq_true q) hki
          · rw [q] at hun; cases hun
          · simp only [hok, Bool.and_eq_true] at q
            refine ⟨q.1, fun d hd => ?_⟩
            have q2 := q.2
            rw [hd] at q2
            simp only [Bool.and_eq_true, Bool.not_eq_true', List.contains_eq_mem, decide_eq_false_iff_not] at q2
            exact q2
        have hj0 : ∃ oj, ops[j0]? = some oj := by
          cases hoj : ops[j0]? with
          | none => unfold settled at hset0; simp [hoi, hoj] at hset0
          | some oj => exact ⟨oj, rfl⟩
        obtain ⟨oj0, hoj0⟩ := hj0
        have g0 := get j0 oj0 hoj0 hset0
        refine ⟨g0.1, fun d hd hmemL => ?_⟩
        rcases List.mem_append.1 hmemL with hm | hm
        · exact (g0.2 d hd).1 hm
        · rw [List.mem_flatMap] at hm
          obtain ⟨j, _, hm⟩ := hm
          cases hoj : ops[j]? with
          | none => simp [hoj] at hm
          | some oj =>
            simp only [hoj] at hm
            cases hc : (settled ops listed i j && lookOk ops oi && lookOk ops oj) with
            | false => rw [hc] at hm; cases hm
            | true =>
              rw [hc] at hm
              simp only [Bool.and_eq_true] at hc
              exact ((get j oj hoj hc.1.1).2 d hd).2 hm
      refine AO.first (D := Watch L st.T) hoi (by omega) n listed st st1 hdc ?_ ?_ (fun _ _ => rfl) hmem hs H
      · intro j hj hji hun hb s s1 outs1 fs hw g1 g2
        rcases hall j hj with (((q | q) | q) | q) | q
        · exact absurd (Nat.eq_of_beq_eq_true q) hji
        · rw [q] at hun; cases hun
        · rw [q] at hb; cases hb
        · exact opStep_comm hq (Ne.symm hji) q fs g1 g2
        · refine opStep_dyn (L := L) (Ne.symm hji) q.2 ?_ ?_ fs hw g1 g2
          · intro o ho t ht
            rw [hoi] at ho; cases ho; exact List.mem_append_left _ ht
          · intro o ho t ht
            refine List.mem_append_right _ (List.mem_flatMap.2 ⟨j, by simpa using hj, ?_⟩)
            have hlj : lookOk ops o = true := by
              have q2 := q.2
              unfold dynOk at q2
              simp only [hoi, ho, Bool.and_eq_true] at q2
              exact q2.1.1.1.1.1.2
            simp only [ho]
            rw [q.1, hlook, hlj]
            exact ht
      · intro j hj hji hun s outs' fs hw g1 o ho
        cases hoj : ops[j]? with
        | none => unfold opStep at g1; simp [hoj] at g1
        | some oj =>
          obtain ⟨a1, a2⟩ := hdst j oj hj hji hun hoj
          exact opStep_watch hoj a1 hLs a2 fs hw g1 o ho
    · refine AO.first (D := fun _ => True) hoi (by omega) n listed st st1 hdc ?_ (fun _ _ _ _ _ _ _ _ _ _ _ => trivial) trivial hmem hs H
      intro j hj hji hun hb s s1 outs1 fs _ g1 g2
      rcases hall j hj with (((q | q) | q) | q) | q
      · exact absurd (Nat.eq_of_beq_eq_true q) hji
      · rw [q] at hun; cases hun
      · rw [q] at hb; cases hb
      · exact opStep_comm hq (Ne.symm hji) q fs g1 g2
      · exact absurd ⟨j, hj, q.1, q.2⟩ hany

theorem explore_ok {call : CallT} {q : Nat → Bool} (hq : QuietOk call q) {P : Program} {N : Nat} {ops : Array Oper} {base : Nat} : ∀ (n : Nat) (listed : Array Bool) (st : St) (outs : List St), DC ops listed → explore call q P N ops base n listed st = some outs →
    AO call P N ops base (fun s => s ∈ outs) n listed st
  | 0, listed, st, outs, hdc, h => by
    simp only [explore, readyB_eq] at h
    split at h
    · rename_i hr; cases h; exact fun _ => ⟨hr, by simp⟩
    · cases h
  | n + 1, listed, st, outs, hdc, h => by
    simp only [explore, readyB_eq] at h
    split at h
    · rename_i hr
      cases h
      exact fun _ => ⟨fun _ => by simp, fun i hi => by rw [hr] at hi; cases hi⟩
    · rename_i i0 rs hr
      split at h
      · rename_i i hi
        have hor : (i ∈ Region.ready .any ops listed ∧ freeB q ops listed i = true) ∨ (i ∈ Region.ready .any ops listed ∧ freeD q ops listed st.T i = true) := by
          split at hi
          · rename_i i' hi'
            cases hi
            exact .inl ⟨by rw [hr]; exact List.mem_of_find?_eq_some hi', List.find?_some hi'⟩
          · exact .inr ⟨by rw [hr]; exact List.mem_of_find?_eq_some hi, List.find?_some hi⟩
        split at h
        · rename_i st1 hs
          rcases hor with ⟨hmem, hfree⟩ | ⟨hmem, hfree⟩
          · exact AO.byB hq hdc hmem hfree hs (explore_ok hq n _ st1 outs (hdc.set hmem) h)
          · exact AO.byD hq hdc hmem hfree hs (explore_ok hq n _ st1 outs (hdc.set hmem) h)
        · cases h
      · rename_i hnone
        intro f
        refine ⟨fun e => (by rw [hr] at e; cases e), fun i hi => ?_⟩
        rw [hr] at hi
        obtain ⟨a, h1, h2⟩ := concatAll_mem h i hi
        split at h1
        · rename_i os hos
          refine ⟨os, hos, fun o ho => ?_⟩
          obtain ⟨b, h3, h4⟩ := concatAll_mem h1 o ho
          have hmem : i ∈ Region.ready .any ops listed := by rw [hr]; exact hi
          exact (explore_ok hq n _ o b (hdc.set hmem) h3).mono fun s hs => h2 s (h4 s hs)
        · cases h1

/-! A plan: the order in which a region is gone through, made ahead. -/
noncomputable def dynS (ops : Array Oper) (i j : Nat) : Bool :=
  match ops[i]?, ops[j]? with
  | some oi, some oj => oi.apart ops oj && lookOk ops oi && lookOk ops oj && smallDst oi.dst && smallDst oj.dst && Nat.beq (kindOf oi.op) 1 && Nat.beq (kindOf oj.op) 3
  | _, _ => false
noncomputable def dynT (T : Tr Value) (oi oj : Oper) : Bool := match looksBlk (evA T) oi, touches (evA T) oj with | some bi, some bs => !Nat.beq bi bs | _, _ => false
/-- Which operations have to be asked before the look i may be taken first. -/
noncomputable def asksS (q : Nat → Bool) (ops : Array Oper) (listed : Array Bool) (i : Nat) : List Nat → Option (List Oper)
  | [] => some []
  | j :: r => match asksS q ops listed i r with
    | none => none
    | some l => bif Nat.beq j i || listed.getD j true || behind ops 5 i j || commOk q ops i j then some l else
      bif settled ops listed i j && dynS ops i j then (match ops[j]? with | some oj => some (oj :: l) | none => none) else none
noncomputable def freeS (q : Nat → Bool) (ops : Array Oper) (listed : Array Bool) (i : Nat) : Option (List Oper) :=
  match ops[i]? with
  | some oi => bif Nat.beq (kindOf oi.op) 1 then asksS q ops listed i (List.range ops.size) else none
  | none => none
structure Step where
  i : Nat
  o : Oper
  lone : Bool
  asks : List Oper
noncomputable def findS (q : Nat → Bool) (ops : Array Oper) (listed : Array Bool) : List Nat → Option (Nat × List Oper)
  | [] => none
  | i :: r => match freeS q ops listed i with
    | some l => some (i, l)
    | none => findS q ops listed r
noncomputable def plan (q : Nat → Bool) (ops : Array Oper) : Nat → Array Bool → Option (List Step)
  | 0, listed => match readyB ops listed with | [] => some [] | _ => none
  | n + 1, listed => match readyB ops listed with
    | [] => some []
    | [i] => match ops[i]?, plan q ops n (listed.setIfInBounds i true) with
      | some o, some l => some (⟨i, o, true, []⟩ :: l)
      | _, _ => none
    | rs => match rs.find? (freeB q ops listed) with
      | some i => match ops[i]?, plan q ops n (listed.setIfInBounds i true) with
        | some o, some l => some (⟨i, o, false, []⟩ :: l)
        | _, _ => none
      | none => match findS q ops listed rs with
        | some (i, asks) => match ops[i]?, plan q ops n (listed.setIfInBounds i true) with
          | some o, some l => some (⟨i, o, false, asks⟩ :: l)
          | _, _ => none
        | none => none

/-! Operations made ready ahead. -/
noncomputable def stoV (n : Nat) (H : Tr Blk) : Option Value → Option Value → Option (Tr Blk)
  | some (.pointer (some ⟨b, o, none⟩)), some v => match H.at b with
    | some B =>
      bif B.live && Nat.beq v.cells.size n && Nat.ble (o + v.cells.size) B.n && v.cells.toList.all oneA && Nat.blt b 4096 then some (H.put b { elem := B.elem, cells := ofL v.cells.toList o B.cells, n := B.n, live := true, mp := false }) else none
    | none => none
  | _, _ => none
noncomputable def stoO (n : Nat) : Option (Tr Blk) → Option (List Out)
  | some H => some [(undef, H, n)]
  | none => none
structure Box where
  run : CallT → Tr Value → Tr Blk → Nat → Nat → Option (List Out)
noncomputable def one (r : Option Value) (H : Tr Blk) (n : Nat) : Option (List Out) := match r with
  | some v => some [(v, H, n)]
  | none => none
noncomputable def slotAdd (off : Nat) : Option Value → Option Value
  | some (.pointer (some ⟨b, o, none⟩)) => some (.pointer (some ⟨b, o + off, none⟩))
  | _ => none
noncomputable def liveAt (H : Tr Blk) (b : Nat) : Option Blk := match H.at b with
  | some B => bif B.live && Nat.blt b 4096 then some B else none
  | none => none
noncomputable def ldS (H : Tr Blk) : Option Value → Option Value
  | some (.pointer (some ⟨b, o, none⟩)) => match liveAt H b with
    | some B => B.cells.at o
    | none => none
  | _ => none
noncomputable def ldA (k : Nat) (H : Tr Blk) : Option Value → Option Value
  | some (.pointer (some ⟨b, o, none⟩)) => match liveAt H b with
    | some B => match readL B.cells k o with
      | some vs => some (.agg vs.toArray)
      | none => none
    | none => none
  | _ => none
noncomputable def ixS (s : Nat) : Option Value → Option Value → Option Value
  | some (.slice (some ⟨b, o, none⟩) len _), some (.int _ (.ofNat n)) => bif Nat.blt n len then some (.pointer (some ⟨b, o + n * s, none⟩)) else none
  | _, _ => none
/-! Numbers, quickly. -/
def ltI : Int → Int → Bool
  | .ofNat a, .ofNat b => Nat.blt a b
  | .ofNat _, .negSucc _ => false
  | .negSucc _, .ofNat _ => true
  | .negSucc a, .negSucc b => Nat.blt b a
theorem ltI_eq (a b : Int) : ltI a b = decide (a < b) := by
  cases a <;> cases b <;> simp only [ltI] <;> rw [Bool.eq_iff_iff] <;> simp [Nat.blt_eq] <;> omega
def eqI : Int → Int → Bool
  | .ofNat a, .ofNat b => Nat.beq a b
  | .negSucc a, .negSucc b => Nat.beq a b
  | _, _ => false
theorem eqI_eq (a b : Int) : eqI a b = (a == b) := by
  cases a <;> cases b <;> simp only [eqI] <;> rw [Bool.eq_iff_iff] <;> simp <;> omega
def addI : Int → Int → Int
  | .ofNat a, .ofNat b => .ofNat (Nat.add a b)
  | a, b => a + b
theorem addI_eq (a b : Int) : addI a b = a + b := by
  cases a <;> cases b <;> simp only [addI] <;> rfl
def wrapI (k : IntKind) (n : Int) : Int :=
  match k, n with
  | .i64, .ofNat a => bif Nat.blt a 9223372036854775808 then .ofNat a else k.wrap n
  | .i64, .negSucc a => bif Nat.blt a 9223372036854775808 then .negSucc a else k.wrap n
  | _, _ => k.wrap n
theorem wrap_in (n : Int) (h1 : -9223372036854775808 ≤ n) (h2 : n < 9223372036854775808) : IntKind.i64.wrap n = n := by rw [IntKind.wrap_i64]; omega
theorem cond_same {α : Type} {b : Bool} {x y : α} (h : b = true → x = y) : (bif b then x else y) = y := by
  cases b
  · rfl
  · exact h rfl
theorem blt_big {a c : Nat} (h : Nat.blt a c = true) : a < c := by rw [Nat.blt_eq] at h; exact h
theorem wrapI_eq (k : IntKind) (n : Int) : wrapI k n = k.wrap n := by
  cases k with
  | i64 => cases n with
    | ofNat a =>
      refine cond_same fun h => ?_
      have h2 := blt_big h
      have e : (Int.ofNat a) = (a : Int) := rfl
      exact (wrap_in (Int.ofNat a) (by omega) (by omega)).symm
    | negSucc a =>
      refine cond_same fun h => ?_
      have h2 := blt_big h
      have e : Int.negSucc a = -((a : Int) + 1) := Int.negSucc_eq a
      exact (wrap_in (Int.negSucc a) (by omega) (by omega)).symm
  | _ => rfl
structure FBox where
  f : IntKind → Int → Int → Option Value
noncomputable def intF : BinOp → FBox
  | .add => ⟨fun k a b => some (.int k (wrapI k (addI a b)))⟩
  | .sub => ⟨fun k a b => some (.int k (wrapI k (a - b)))⟩
  | .mul => ⟨fun k a b => some (.int k (wrapI k (a * b)))⟩
  | .eql => ⟨fun _ a b => some (.bool (eqI a b))⟩
  | .neq => ⟨fun _ a b => some (.bool (!eqI a b))⟩
  | .lss => ⟨fun _ a b => some (.bool (ltI a b))⟩
  | .leq => ⟨fun _ a b => some (.bool (!ltI b a))⟩
  | .gtr => ⟨fun _ a b => some (.bool (ltI b a))⟩
  | .geq => ⟨fun _ a b => some (.bool (!ltI a b))⟩
  | _ => ⟨fun _ _ _ => none⟩
noncomputable def binC (P : Program) (F : FBox) (o : Oper) (op : BinOp) (t : TypeId) (x y : Operand) (T : Tr Value) : Option Value → Option Value → Option Value
  | some (.int k a), some (.int k' b) => bif decide (k = k') then (match F.f k a b with | some v => some v | none => binA P (evA T) o op t x y) else binA P (evA T) o op t x y
  | _, _ => binA P (evA T) o op t x y
noncomputable def callC (call : CallT) (g : Nat) (H : Tr Blk) (n : Nat) : Option (List Value) → Option (List Out)
  | some vs => call g vs H n
  | none => none

noncomputable def compA (P : Program) (ops : Array Oper) (o : Oper) : Box :=
  match o.guard with
  | some _ => ⟨fun call T H n id => resAll call P ops o T H n id⟩
  | none => match o.op with
    | .move x => ⟨fun _ T H n _ => one (evA T x) H n⟩
    | .assign x => ⟨fun _ T H n _ => one (evA T x) H n⟩
    | .fieldAddr t x f => match P.underlying t with
      | some (.struct fs) => match fs[f]? with
        | some fd => match sizeT P fd.type with
          | some (_ + 1) => ⟨fun _ T H n _ => one (slotAdd fd.offset (evA T x)) H n⟩
          | _ => ⟨fun call T H n id => resAll call P ops o T H n id⟩
        | none => ⟨fun call T H n id => resAll call P ops o T H n id⟩
      | _ => ⟨fun call T H n id => resAll call P ops o T H n id⟩
    | .load t x => match aggT P t, sizeT P t with
      | some true, some k => ⟨fun _ T H n _ => one (ldA k H (evA T x)) H n⟩
      | some false, _ => ⟨fun _ T H n _ => one (ldS H (evA T x)) H n⟩
      | _, _ => ⟨fun call T H n id => resAll call P ops o T H n id⟩
    | .indexAddr t x y => match P.underlying t with
      | some (.slice e) => match sizeT P e with
        | some s => ⟨fun _ T H n _ => one (ixS s (evA T x) (evA T y)) H n⟩
        | none => ⟨fun call T H n id => resAll call P ops o T H n id⟩
      | _ => ⟨fun call T H n id => resAll call P ops o T H n id⟩
    | .binOp op t x y _ => ⟨fun _ T H n _ => one (binC P (intF op) o op t x y T (evA T x) (evA T y)) H n⟩
    | .store t a x => match sizeT P t with
      | some k => ⟨fun _ T H n _ => stoO n (stoV k H (evA T a) (evA T x))⟩
      | none => ⟨fun call T H n id => resAll call P ops o T H n id⟩
    | .call { callee := .value (.func g), args, argTypes := _ } => bif Nat.blt g yieldBase then ⟨fun call T H n _ => callC call g H n (evAll (evA T) args.toList)⟩ else ⟨fun call T H n id => resAll call P ops o T H n id⟩
    | _ => ⟨fun call T H n id => resAll call P ops o T H n id⟩

theorem callee_none' {ev : Operand → Option Value} {o : Oper} {t : TypeId} {a x : Operand} (ho : o.op = .store t a x) : calleeA ev o = none := by unfold calleeA; rw [ho]
theorem resAll_mem {call : CallT} {P : Program} {ops : Array Oper} {o : Oper} {T : Tr Value} {H : Tr Blk} {n id : Nat} (hg : o.guard = none) (hc : calleeA (evA T) o = none) :
    resAll call P ops o T H n id = match memStep P (evA T) o H id with | some (v, H') => some [(v, H', n)] | none => none := by
  unfold resAll wantedA
  simp only [hg, opRes, hc]
  cases memStep P (evA T) o H id <;> rfl
theorem resAll_pure {call : CallT} {P : Program} {ops : Array Oper} {o : Oper} {T : Tr Value} {H : Tr Blk} {n id : Nat} (hg : o.guard = none) (hk : kindOf o.op = 0) : resAll call P ops o T H n id = one (pureVal P (evA T) o) H n := by
  rw [resAll_mem hg (callee_none (by omega))]
  unfold memStep one
  simp only [hk]
  cases pureVal P (evA T) o <;> rfl
theorem intF_ok {P : Program} {op : BinOp} {t : TypeId} {k : IntKind} {a b : Int} {v : Value} (h : (intF op).f k a b = some v) : semRun P (Go.binOp op t (.int k a) (.int k b)) = some v ∧ plain2 v = true := by
  cases op <;> simp only [intF, Option.some.injEq, reduceCtorEq] at h <;> subst h <;> refine ⟨?_, rfl⟩ <;> simp [Go.binOp, Op.intArith, Op.intCmp, semRun, pure, wrapI_eq, addI_eq, eqI_eq, ltI_eq] <;> first | rfl | (rw [Bool.eq_iff_iff]; simp [Int.not_lt])

theorem compA_ok {call : CallT} {P : Program} {ops : Array Oper} {o : Oper} {T : Tr Value} {H : Tr Blk} {n id : Nat} : (compA P ops o).run call T H n id = resAll call P ops o T H n id := by
  unfold compA
  split
  · rfl
  · rename_i hg
    split
    · rename_i x ho
      rw [resAll_pure hg (by rw [ho]; rfl)]
      unfold pureVal; rw [ho]
    · rename_i x ho
      rw [resAll_pure hg (by rw [ho]; rfl)]
      unfold pureVal; rw [ho]
    · rename_i t x f ho
      split
      · rename_i fs hu
        split
        · rename_i fd hf
          split
          · rename_i q hs
            rw [resAll_pure hg (by rw [ho]; rfl)]
            unfold pureVal; rw [ho]
            simp only
            congr 1
            cases hv : evA T x with
            | none => rfl
            | some u =>
              simp only [fieldAddrA, hu]
              cases u with
              | pointer a =>
                cases a with
                | none => rfl
                | some a =>
                  obtain ⟨b, off, sp⟩ := a
                  cases sp with
                  | none => simp only [slotAdd, hf, hs]
                  | some q => rfl
              | _ => rfl
          · rfl
        · rfl
      · rfl
    · rename_i t x ho
      split
      · rename_i k ha hs
        rw [resAll_mem hg (callee_none (by rw [ho]; simp [kindOf]))]
        unfold memStep
        simp only [ho, kindOf]
        unfold loadA one
        cases hv : evA T x with
        | none => rfl
        | some u =>
          cases u with
          | pointer a =>
            cases a with
            | none => rfl
            | some a =>
              obtain ⟨b, off, sp⟩ := a
              cases sp with
              | some q => rfl
              | none =>
                simp only [ldA, liveAt]
                cases hB : H.at b with
                | none => rfl
                | some B =>
                  simp only
                  cases hc : (B.live && Nat.blt b 4096) with
                  | false => rfl
                  | true =>
                    simp only [cond_true, ha, hs]
                    cases readL B.cells k off <;> rfl
          | _ => rfl
      · rename_i ha
        rw [resAll_mem hg (callee_none (by rw [ho]; simp [kindOf]))]
        unfold memStep
        simp only [ho, kindOf]
        unfold loadA one
        cases hv : evA T x with
        | none => rfl
        | some u =>
          cases u with
          | pointer a =>
            cases a with
            | none => rfl
            | some a =>
              obtain ⟨b, off, sp⟩ := a
              cases sp with
              | some q => rfl
              | none =>
                simp only [ldS, liveAt]
                cases hB : H.at b with
                | none => rfl
                | some B =>
                  simp only
                  cases hc : (B.live && Nat.blt b 4096) with
                  | false => rfl
                  | true =>
                    simp only [cond_true, ha]
                    cases B.cells.at off <;> rfl
          | _ => rfl
      · rfl
    · rename_i t x y ho
      split
      · rename_i e hu
        split
        · rename_i s hs
          rw [resAll_pure hg (by rw [ho]; rfl)]
          unfold pureVal; rw [ho]
          simp only
          congr 1
          cases hx : evA T x with
          | none => cases hy : evA T y <;> rfl
          | some u =>
            cases hy : evA T y with
            | none => cases u <;> first | rfl | (rename_i a l c; cases a <;> first | rfl | (rename_i a; obtain ⟨b, o', sp⟩ := a; cases sp <;> rfl))
            | some i =>
              simp only [indexAddrA, hu]
              cases i with
              | int k z =>
                cases z with
                | ofNat m =>
                  simp only [natA]
                  cases u with
                  | slice a l c =>
                    cases a with
                    | none => rfl
                    | some a => obtain ⟨b, o', sp⟩ := a; cases sp with
                      | none => simp only [ixS, hs]
                      | some q => rfl
                  | pointer a => cases a with
                    | none => rfl
                    | some a => obtain ⟨b, o', sp⟩ := a; cases sp <;> rfl
                  | _ => rfl
                | negSucc m =>
                  cases u <;> first | rfl | (rename_i a l c; cases a <;> first | rfl | (rename_i a; obtain ⟨b, o', sp⟩ := a; cases sp <;> rfl))
              | _ => cases u <;> first | rfl | (rename_i a l c; cases a <;> first | rfl | (rename_i a; obtain ⟨b, o', sp⟩ := a; cases sp <;> rfl))
        · rfl
      · rfl
    · rename_i op t x y u ho
      rw [resAll_pure hg (by rw [ho]; rfl)]
      unfold pureVal; rw [ho]
      simp only
      congr 1
      unfold binC
      split
      · rename_i k a k' b hx hy
        cases hk : decide (k = k') with
        | false => rfl
        | true =>
          have hkk := of_decide_eq_true hk
          subst hkk
          simp only [cond_true]
          split
          · rename_i v hv
            obtain ⟨h1, h2⟩ := intF_ok (P := P) (t := t) hv
            unfold binA
            simp only [hx, hy, h1, h2, cond_true]
          · rfl
      · rfl
    · rename_i t a x ho
      split
      · rename_i k hs
        rw [resAll_mem hg (callee_none' ho)]
        unfold memStep
        simp only [ho, kindOf]
        unfold storeA
        cases ha : evA T a with
        | none => cases hx : evA T x <;> rfl
        | some u =>
          cases hx : evA T x with
          | none => cases u <;> first | rfl | (rename_i q; cases q <;> first | rfl | (rename_i q; obtain ⟨b, o', sp⟩ := q; cases sp <;> rfl))
          | some v =>
            simp only [hs]
            cases u with
            | pointer q =>
              cases q with
              | none => rfl
              | some q =>
                obtain ⟨b, o', sp⟩ := q
                cases sp with
                | some z => rfl
                | none =>
                  simp only [stoV]
                  cases hB : H.at b with
                  | none => rfl
                  | some B =>
                    simp only
                    cases hc : (B.live && Nat.beq v.cells.size k && Nat.ble (o' + v.cells.size) B.n && v.cells.toList.all oneA && Nat.blt b 4096) <;> rfl
            | _ => rfl
      · rfl
    · rename_i g args tys ho
      cases hlt : Nat.blt g yieldBase with
      | false => rfl
      | true =>
      simp only [cond_true]
      unfold resAll wantedA
      simp only [hg, opRes, calleeA, ho, evA, hlt, cond_true]
      cases ha : evAll (evA T) args.toList with
      | none =>
        simp only [callC, memStep, kindOf, ho, appOf, copyOf, mapOf]
      | some vs => simp [callC, hlt]
    · rfl

noncomputable def opStepO (call : CallT) (P : Program) (N : Nat) (ops : Array Oper) (id : Nat) (o : Oper) (st : St) : Option (List St) :=
  match (compA P ops o).run call st.T st.H st.next id with
  | some outs => putAll N st.T o.dst outs
  | none => none
theorem opStep_O {call : CallT} {P : Program} {N base i : Nat} {ops : Array Oper} {o : Oper} (h : ops[i]? = some o) (st : St) : opStep call P N ops base i st = opStepO call P N ops (base + i) o st := by
  unfold opStep opStepO; simp only [h, compA_ok]; cases resAll call P ops o st.T st.H st.next (base + i) <;> rfl

noncomputable def runPlan (call : CallT) (P : Program) (N : Nat) (ops : Array Oper) (base : Nat) : List Step → St → Option (List St)
  | [], st => some [st]
  | s :: r, st => bif s.asks.all (dynT st.T s.o) then
      match opStepO call P N ops (base + s.i) s.o st with
      | some [s1] => runPlan call P N ops base r s1
      | some outs => bif s.lone then concatAll (runPlan call P N ops base r) outs else none
      | none => none
    else none

theorem asksS_ok {q : Nat → Bool} {ops : Array Oper} {listed : Array Bool} {i : Nat} {T : Tr Value} {oi : Oper} (hoi : ops[i]? = some oi) : ∀ {js : List Nat} {l : List Oper}, asksS q ops listed i js = some l → l.all (dynT T oi) = true →
    ∀ j ∈ js, (Nat.beq j i || listed.getD j true || behind ops 5 i j || commOk q ops i j || (settled ops listed i j && dynOk ops T i j)) = true
  | [], l, h, ha, j, hj => by simp at hj
  | k :: r, l, h, ha, j, hj => by
    simp only [asksS] at h
    split at h
    · cases h
    · rename_i l' hl'
      cases hc : (Nat.beq k i || listed.getD k true || behind ops 5 i k || commOk q ops i k) with
      | true =>
        rw [hc] at h; cases h
        rcases List.mem_cons.1 hj with rfl | hj
        · rw [hc]; rfl
        · exact asksS_ok hoi hl' ha j hj
      | false =>
        rw [hc] at h
        simp only [cond_false] at h
        cases hd : (settled ops listed i k && dynS ops i k) with
        | false => rw [hd] at h; cases h
        | true =>
          rw [hd] at h
          simp only [cond_true] at h
          split at h
          · rename_i oj hoj
            cases h
            simp only [List.all_cons, Bool.and_eq_true] at ha
            rcases List.mem_cons.1 hj with rfl | hj
            · simp only [Bool.and_eq_true] at hd
              have h2 := hd.2
              unfold dynS at h2
              simp only [hoi, hoj] at h2
              have h3 : dynOk ops T i j = true := by
                unfold dynOk
                simp only [hoi, hoj]
                rw [h2]
                exact ha.1
              rw [hd.1, h3]; simp
            · exact asksS_ok hoi hl' ha.2 j hj
          · cases h
theorem findS_ok {q : Nat → Bool} {ops : Array Oper} {listed : Array Bool} : ∀ {rs : List Nat} {i : Nat} {l : List Oper}, findS q ops listed rs = some (i, l) → i ∈ rs ∧ freeS q ops listed i = some l
  | [], i, l, h => by simp [findS] at h
  | k :: r, i, l, h => by
    simp only [findS] at h
    split at h
    · rename_i l' hl; cases h; exact ⟨by simp, hl⟩
    · obtain ⟨a, b⟩ := findS_ok h; exact ⟨by simp [a], b⟩
theorem freeS_D {q : Nat → Bool} {ops : Array Oper} {listed : Array Bool} {i : Nat} {T : Tr Value} {l : List Oper} {oi : Oper} (hoi : ops[i]? = some oi) (h : freeS q ops listed i = some l) (ha : l.all (dynT T oi) = true) : freeD q ops listed T i = true := by
  unfold freeS at h
  unfold freeD
  simp only [hoi] at h ⊢
  cases hk : Nat.beq (kindOf oi.op) 1 with
  | false => rw [hk] at h; cases h
  | true =>
    rw [hk] at h
    simp only [cond_true] at h
    simp only [Bool.true_and, List.all_eq_true]
    exact fun j hj => asksS_ok hoi h ha j hj

theorem plan_ok {call : CallT} {q : Nat → Bool} (hq : QuietOk call q) {P : Program} {N : Nat} {ops : Array Oper} {base : Nat} : ∀ (n : Nat) (listed : Array Bool) (l : List Step) (st : St) (outs : List St), DC ops listed → plan q ops n listed = some l → runPlan call P N ops base l st = some outs →
    AO call P N ops base (fun s => s ∈ outs) n listed st
  | 0, listed, l, st, outs, hdc, hp, h => by
    simp only [plan, readyB_eq] at hp
    split at hp
    · rename_i hr; cases hp; simp [runPlan] at h; subst h; exact fun _ => ⟨hr, by simp⟩
    · cases hp
  | n + 1, listed, l, st, outs, hdc, hp, h => by
    simp only [plan, readyB_eq] at hp
    split at hp
    · rename_i hr
      cases hp; simp [runPlan] at h; subst h
      exact fun _ => ⟨fun _ => by simp, fun i hi => by rw [hr] at hi; cases hi⟩
    · rename_i i hr
      split at hp
      · rename_i o l' ho hl'
        cases hp
        have hmem : i ∈ Region.ready .any ops listed := by rw [hr]; simp
        simp only [runPlan, List.all_nil, cond_true] at h
        intro f
        refine ⟨fun e => (by rw [hr] at e; cases e), fun k hk => ?_⟩
        rw [hr] at hk
        simp only [List.mem_singleton] at hk
        subst hk
        rw [opStep_O ho]
        split at h
        · rename_i s1 hs
          exact ⟨[s1], hs, fun o' ho' => by simp only [List.mem_singleton] at ho'; subst ho'; exact plan_ok hq n _ l' _ outs (hdc.set hmem) hl' h⟩
        · rename_i os _ hs
          refine ⟨os, hs, fun o' ho' => ?_⟩
          obtain ⟨b, h1, h2⟩ := concatAll_mem h o' ho'
          exact (plan_ok hq n _ l' _ b (hdc.set hmem) hl' h1).mono fun s hs => h2 s hs
        · cases h
      · cases hp
    · split at hp
      · rename_i i hi
        split at hp
        · rename_i o l' ho hl'
          cases hp
          have hmem := List.mem_of_find?_eq_some hi
          have hfree := List.find?_some hi
          simp only [runPlan, List.all_nil, cond_true, cond_false] at h
          split at h
          · rename_i s1 hs
            exact AO.byB hq hdc hmem hfree (by rw [opStep_O ho]; exact hs) (plan_ok hq n _ l' s1 outs (hdc.set hmem) hl' h)
          · cases h
          · cases h
        · cases hp
      · split at hp
        · rename_i i asks hi
          obtain ⟨hmem, hfs⟩ := findS_ok hi
          split at hp
          · rename_i o l' ho hl'
            cases hp
            simp only [runPlan] at h
            cases ha : asks.all (dynT st.T o) with
            | false => rw [ha] at h; cases h
            | true =>
              rw [ha] at h
              simp only [cond_true, cond_false] at h
              split at h
              · rename_i s1 hs
                exact AO.byD hq hdc hmem (freeS_D ho hfs ha) (by rw [opStep_O ho]; exact hs) (plan_ok hq n _ l' s1 outs (hdc.set hmem) hl' h)
              · cases h
              · cases h
          · cases hp
        · cases hp

theorem AO_any {ds : List Deferred} {call : CallT} {P : Program} {N : Nat} {ops : Array Oper} {base : Nat} {F : St → Prop} {w0 : World} {m0 : Names} {Q : Exit → Act → World → Prop} {ro : Option Nat} (hcall : CallOk P call) (hQ : ∀ st, F st → ∀ a w, Good ds w0 m0 N st a w → Q .normal a w) :
    ∀ (n : Nat) (listed : Array Bool) (st : St) (a : Act) (w : World), AO call P N ops base F n listed st → Good ds w0 m0 N st a w → wpAnyIn (FR ro) 0 P .any ops Q n listed a w
  | 0, listed, st, a, w, h, g => by
    have f : Fine st := by obtain ⟨m, _, r, rT, _⟩ := g; exact ⟨r.fine, rT.1⟩
    exact ⟨(h f).1, hQ st (h f).2 a w g⟩
  | n + 1, listed, st, a, w, h, g => by
    have f : Fine st := by obtain ⟨m, _, r, rT, _⟩ := g; exact ⟨r.fine, rT.1⟩
    refine ⟨fun e => hQ st ((h f).1 e) a w g, fun i hi => ?_⟩
    obtain ⟨outs, h1, h2⟩ := (h f).2 i hi
    exact opStep_ok hcall g h1 fun st' hst' a' w' g' => AO_any hcall hQ n _ st' a' w' (h2 st' hst') g'

end Go.Proofs.Ytmdhmpfagekonaa.Ev
