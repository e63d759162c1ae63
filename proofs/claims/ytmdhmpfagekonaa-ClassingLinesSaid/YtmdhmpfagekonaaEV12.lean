/- A run of closed code: a region in every order. -/
import Derived.Test.YtmdhmpfagekonaaEV11
namespace Go.Proofs.Ytmdhmpfagekonaa.Ev
open Go.RowKit
set_option linter.unusedVariables false
set_option linter.unusedSimpArgs false

noncomputable def Fine (st : St) : Prop := Tr.fine deep st.H ∧ Tr.fine 9 st.T

/-! Two operations that do not meet. -/
noncomputable def kindsOk : Nat → Nat → Bool
  | 0, _ => true
  | 1, 0 => true
  | 1, 1 => true
  | 1, 2 => true
  | 2, 0 => true
  | 2, 2 => true
  | _, _ => false
noncomputable def smallDst : Option Nat → Bool | none => true | some d => Nat.blt d 512
/-- A call of a function that only looks. -/
noncomputable def quietCall (q : Nat → Bool) (o : Oper) : Bool :=
  match o.op with
  | .call c => match c.callee with
    | .value (.func g) => q g
    | _ => false
  | _ => false
noncomputable def QuietOk (call : CallT) (q : Nat → Bool) : Prop := ∀ g, q g = true → ∀ args H n outs, call g args H n = some outs → ∀ x ∈ outs, x.2.1 = H
noncomputable def commOk (q : Nat → Bool) (ops : Array Oper) (i j : Nat) : Bool :=
  match ops[i]?, ops[j]? with
  | some oi, some oj => oi.apart ops oj && lookOk ops oi && lookOk ops oj && smallDst oi.dst && smallDst oj.dst && (kindsOk (kindOf oi.op) (kindOf oj.op) || (Nat.beq (kindOf oi.op) 1 && quietCall q oj))
  | _, _ => false
theorem quietCall_res {call : CallT} {P : Program} {q : Nat → Bool} (hq : QuietOk call q) {ops : Array Oper} {o : Oper} {T : Tr Value} {H : Tr Blk} {n id : Nat} {res : List Out} (h : quietCall q o = true) (hr : resAll call P ops o T H n id = some res) : ∀ x ∈ res, x.2.1 = H := by
  intro x hx
  unfold resAll at hr
  split at hr
  · cases hr
  · cases hr; simp at hx; subst hx; rfl
  · unfold quietCall at h
    split at h
    · rename_i c ho
      split at h
      · rename_i g hc
        unfold opRes at hr
        split at hr
        · rename_i g' args hcal
          unfold calleeA at hcal
          rw [ho] at hcal
          simp only [hc, evA] at hcal
          split at hcal
          · rename_i g2 f1 f2 aas e1 e2
            cases e1
            cases hlt : Nat.blt g yieldBase with
            | false => rw [hlt] at hcal; cases hcal
            | true =>
              rw [hlt] at hcal
              cases hcal
              exact hq _ h _ _ _ _ hr x hx
          · rename_i e1 e2; cases e1
          · cases hcal
        · rename_i hcal
          split at hr
          · rename_i v H' hm
            exfalso
            unfold memStep at hm
            rw [ho] at hm
            have hk : kindOf (Op.call c) = 3 := by
              obtain ⟨cal, aas, tys⟩ := c
              simp only at hc; subst hc; rfl
            rw [hk] at hm
            simp only [appOf, copyOf, mapOf, ho, hc] at hm
            cases hm
          · cases hr
      · cases h
    · cases h

theorem callee_none {ev : Operand → Option Value} {o : Oper} (h : kindOf o.op ≠ 3) : calleeA ev o = none := by
  unfold calleeA
  split
  · rename_i c ho
    split
    · rename_i f hc
      exfalso; apply h
      rw [ho]
      obtain ⟨cal, args, tys⟩ := c
      simp only at hc
      subst hc
      rfl
    · rfl
  · rfl

/-- What an operation of kind 0, 1 or 2 comes to. -/
noncomputable def eff (P : Program) (ops : Array Oper) (o : Oper) (T : Tr Value) (H : Tr Blk) (id : Nat) : Option (Value × Tr Blk) :=
  match wantedA ops o T with
  | none => none
  | some false => some (undef, H)
  | some true => memStep P (evA T) o H id
theorem resAll_eff {call : CallT} {P : Program} {ops : Array Oper} {o : Oper} {T : Tr Value} {H : Tr Blk} {n id : Nat} (h : kindOf o.op ≠ 3) :
    resAll call P ops o T H n id = match eff P ops o T H id with | some (v, H') => some [(v, H', n)] | none => none := by
  unfold resAll eff
  cases wantedA ops o T with
  | none => rfl
  | some b => cases b with
    | false => rfl
    | true => simp only [opRes, callee_none h]; cases memStep P (evA T) o H id <;> rfl

theorem eff0 {P : Program} {ops : Array Oper} {o : Oper} {T : Tr Value} {H H' H2 : Tr Blk} {id : Nat} {v : Value} (h : kindOf o.op = 0) (e : eff P ops o T H id = some (v, H')) : H' = H ∧ eff P ops o T H2 id = some (v, H2) := by
  unfold eff at *
  split at e
  · cases e
  · cases e; exact ⟨rfl, rfl⟩
  · unfold memStep at *
    simp only [h] at *
    split at e
    · cases e; exact ⟨rfl, rfl⟩
    · cases e
theorem eff1 {P : Program} {ops : Array Oper} {o : Oper} {T : Tr Value} {H H' : Tr Blk} {id : Nat} {v : Value} (h : kindOf o.op = 1) (e : eff P ops o T H id = some (v, H')) : H' = H := by
  unfold eff at *
  split at e
  · cases e
  · cases e; rfl
  · unfold memStep at *
    simp only [h] at *
    split at e
    · split at e
      · cases e; rfl
      · cases e
    · cases e
theorem at_of_none {H : Tr Blk} (f : Tr.fine deep H) {id b : Nat} {B blk : Blk} (hn : H.at id = none) (hid : id < 4096) (hb : b < 4096) (h : H.at b = some B) : (H.put id blk).at b = some B := by
  rw [Tr.at_put_ne f (by rintro rfl; rw [hn] at h; cases h) (by simpa [deep] using hid) (by simpa [deep] using hb)]; exact h
theorem load_put {P : Program} {ev : Operand → Option Value} {H : Tr Blk} {t : TypeId} {x : Operand} {v : Value} (f : Tr.fine deep H) {id : Nat} (hn : H.at id = none) (hid : id < 4096) (blk : Blk) (h : loadA P ev H t x = some v) : loadA P ev (H.put id blk) t x = some v := by
  unfold loadA at *
  split at h
  · rename_i b o hx
    cases hB : H.at b with
    | none => simp [hB] at h
    | some B =>
      simp only [hB] at h
      cases hc : (B.live && Nat.blt b 4096) with
      | false => rw [hc] at h; cases h
      | true =>
        have hb : b < 4096 := by simp only [Bool.and_eq_true, Nat.blt_eq] at hc; exact hc.2
        rw [hc] at h
        simp only [at_of_none f hn hid hb hB, hc]
        exact h
  · cases h
/-- A new block, or none at all. -/
theorem eff2 {P : Program} {ops : Array Oper} {o : Oper} {T : Tr Value} {H H' : Tr Blk} {id : Nat} {v : Value} (h : kindOf o.op = 2) (e : eff P ops o T H id = some (v, H')) :
    (H' = H ∧ ∀ H2, eff P ops o T H2 id = some (v, H2)) ∨ ∃ blk, H' = H.put id blk ∧ H.at id = none ∧ id < 4096 ∧ ∀ H2, H2.at id = none → eff P ops o T H2 id = some (v, H2.put id blk) := by
  unfold eff at *
  split at e
  · cases e
  · cases e; exact .inl ⟨rfl, fun _ => rfl⟩
  · unfold memStep at *
    simp only [h] at *
    split at e
    · rename_i n hn
      unfold newOf at *
      cases hc : (okNew n && isNone (H.at id) && Nat.blt id 4096) with
      | false => rw [hc] at e; cases e
      | true =>
        rw [hc] at e
        cases e
        simp only [Bool.and_eq_true, Nat.blt_eq] at hc
        refine .inr ⟨_, rfl, ?_, hc.2, fun H2 h2 => ?_⟩
        · cases q : H.at id with
          | none => rfl
          | some x => rw [q] at hc; cases hc.1.2
        · rw [h2]
          have : (okNew n && isNone (none : Option Blk) && Nat.blt id 4096) = true := by simp [hc.1.1, isNone, hc.2]
          rw [this]; rfl
    · cases e

theorem fine_eff {P : Program} {ops : Array Oper} {o : Oper} {T : Tr Value} {H H' : Tr Blk} {id : Nat} {v : Value} (h : kindOf o.op ≠ 3) (f : Tr.fine deep H) (e : eff P ops o T H id = some (v, H')) : Tr.fine deep H' := by
  have hk : kindOf o.op = 0 ∨ kindOf o.op = 1 ∨ kindOf o.op = 2 := by
    have : kindOf o.op ≤ 3 := kindOf_le _
    omega
  rcases hk with hk | hk | hk
  · rw [(eff0 (H2 := H) hk e).1]; exact f
  · rw [eff1 hk e]; exact f
  · rcases eff2 hk e with ⟨rfl, _⟩ | ⟨blk, rfl, _⟩
    · exact f
    · exact Tr.put_fine _ _ f

/-- Two effects in the other order: if i then j goes, j then i goes to the same. -/
theorem eff_swap {P : Program} {ops : Array Oper} {oi oj : Oper} {Ti Tj : Tr Value} {H Hi Hij : Tr Blk} {a b : Nat} {vi vj : Value} (hk : kindsOk (kindOf oi.op) (kindOf oj.op) = true) (h3 : kindOf oj.op ≠ 3) (f : Tr.fine deep H) (hab : a ≠ b)
    (e1 : eff P ops oi Ti H a = some (vi, Hi)) (e2 : eff P ops oj Tj Hi b = some (vj, Hij)) : ∃ Hj, eff P ops oj Tj H b = some (vj, Hj) ∧ eff P ops oi Ti Hj a = some (vi, Hij) := by
  have hki : kindOf oi.op = 0 ∨ kindOf oi.op = 1 ∨ kindOf oi.op = 2 := by
    generalize kindOf oi.op = x at *
    generalize kindOf oj.op = y at *
    match x with
    | 0 => simp
    | 1 => simp
    | 2 => simp
    | n + 3 => simp [kindsOk] at hk
  rcases hki with hi | hi | hi
  · obtain ⟨rfl, _⟩ := eff0 (H2 := H) hi e1
    exact ⟨Hij, e2, (eff0 (H2 := Hij) hi e1).2⟩
  · have := eff1 hi e1
    subst this
    have hj : kindOf oj.op = 0 ∨ kindOf oj.op = 1 ∨ kindOf oj.op = 2 := by
      have : kindOf oj.op ≤ 3 := kindOf_le _
      omega
    rcases hj with hj | hj | hj
    · obtain ⟨rfl, _⟩ := eff0 (H2 := Hi) hj e2; exact ⟨_, e2, e1⟩
    · have := eff1 hj e2; subst this; exact ⟨_, e2, e1⟩
    · rcases eff2 hj e2 with ⟨rfl, _⟩ | ⟨blk, rfl, hn, hid, _⟩
      · exact ⟨_, e2, e1⟩
      · refine ⟨_, e2, ?_⟩
        unfold eff at e1 ⊢
        split at e1
        · cases e1
        · cases e1; rfl
        · unfold memStep at e1 ⊢
          simp only [hi] at e1 ⊢
          split at e1
          · split at e1
            · rename_i u hu
              cases e1
              rw [load_put f hn hid blk hu]
            · cases e1
          · cases e1
  · have hj : kindOf oj.op = 0 ∨ kindOf oj.op = 2 := by
      rw [hi] at hk
      generalize kindOf oj.op = y at *
      match y with
      | 0 => simp
      | 1 => simp [kindsOk] at hk
      | 2 => simp
      | n + 3 => simp [kindsOk] at hk
    rcases hj with hj | hj
    · obtain ⟨rfl, _⟩ := eff0 (H2 := Hi) hj e2
      exact ⟨H, (eff0 (H2 := H) hj e2).2, e1⟩
    · rcases eff2 hi e1 with ⟨rfl, g1⟩ | ⟨blki, rfl, hni, hidi, g1⟩
      · exact ⟨Hij, e2, g1 Hij⟩
      · rcases eff2 hj e2 with ⟨rfl, g2⟩ | ⟨blkj, rfl, hnj, hidj, g2⟩
        · exact ⟨H, g2 H, e1⟩
        · have h1 : a < 2 ^ deep := by simpa [deep] using hidi
          have h2 : b < 2 ^ deep := by simpa [deep] using hidj
          have hnj' : H.at b = none := by rw [Tr.at_put_ne f hab h1 h2] at hnj; exact hnj
          refine ⟨H.put b blkj, g2 H hnj', ?_⟩
          rw [g1 (H.put b blkj) (by rw [Tr.at_put_ne f (Ne.symm hab) h2 h1]; exact hni), Tr.put_comm H blki blkj hab h1 h2]

theorem putAll_single {N : Nat} {T : Tr Value} {d : Option Nat} {v : Value} {H : Tr Blk} {n : Nat} {l : List St} (h : putAll N T d [(v, H, n)] = some l) : ∃ s, putT N ⟨T, H, n⟩ d v = some s ∧ l = [s] := by
  simp only [putAll] at h
  split at h
  · rename_i s l' hs hl
    cases hl; cases h
    exact ⟨s, hs, rfl⟩
  · cases h
theorem putAll_inv {N : Nat} {T : Tr Value} {d : Option Nat} : ∀ {l : List Out} {outs : List St}, putAll N T d l = some outs → ∀ s ∈ outs, ∃ x ∈ l, putT N ⟨T, x.2.1, x.2.2⟩ d x.1 = some s
  | [], outs, h, s, hs => by simp [putAll] at h; subst h; simp at hs
  | (v, H, n) :: r, outs, h, s, hs => by
    simp only [putAll] at h
    split at h
    · rename_i s0 l h0 hl
      cases h
      rcases List.mem_cons.1 hs with rfl | hs
      · exact ⟨(v, H, n), by simp, h0⟩
      · obtain ⟨x, hx, e⟩ := putAll_inv hl s hs
        exact ⟨x, by simp [hx], e⟩
    · cases h
theorem putT_some {N : Nat} {T T' : Tr Value} {H H' : Tr Blk} {n n' : Nat} {d : Option Nat} {v v' : Value} {s : St} (h : putT N ⟨T, H, n⟩ d v = some s) : ∃ s', putT N ⟨T', H', n'⟩ d v' = some s' := by
  cases d with
  | none => exact ⟨_, rfl⟩
  | some d =>
    simp only [putT] at *
    cases hc : (Nat.blt d N && Nat.blt d 512) with
    | false => rw [hc] at h; cases h
    | true => exact ⟨_, rfl⟩
theorem putAll_some {N : Nat} {T T' : Tr Value} {d : Option Nat} : ∀ {l : List Out} {outs : List St}, putAll N T d l = some outs → ∃ outs', putAll N T' d l = some outs'
  | [], outs, h => ⟨[], rfl⟩
  | (v, H, n) :: r, outs, h => by
    simp only [putAll] at h ⊢
    split at h
    · rename_i s0 l h0 hl
      obtain ⟨s', h'⟩ := putT_some (T' := T') (H' := H) (n' := n) (v' := v) h0
      obtain ⟨l', hl'⟩ := putAll_some (T' := T') hl
      exact ⟨_, by rw [h', hl']⟩
    · cases h
/-- The slots behind a put. -/
noncomputable def putD (T : Tr Value) (d : Option Nat) (v : Value) : Tr Value := match d with | none => T | some d => T.putS d v
theorem putT_eq {N : Nat} {T : Tr Value} {H : Tr Blk} {n : Nat} {d : Option Nat} {v : Value} {s : St} (h : putT N ⟨T, H, n⟩ d v = some s) : s = ⟨putD T d v, H, n⟩ := by
  cases d with
  | none => simp [putT] at h; exact h.symm
  | some d =>
    simp only [putT] at h
    cases hc : (Nat.blt d N && Nat.blt d 512) with
    | false => rw [hc] at h; cases h
    | true => rw [hc] at h; cases h; rfl
theorem putD_fine {T : Tr Value} {d : Option Nat} {v : Value} (f : Tr.fine 9 T) : Tr.fine 9 (putD T d v) := by
  cases d with
  | none => exact f
  | some d => exact Tr.putS_fine _ _ f
theorem putD_comm {T : Tr Value} {d e : Option Nat} {v u : Value} (h : ∀ x, d = some x → e ≠ some x) (hd : smallDst d = true) (he : smallDst e = true) : putD (putD T d v) e u = putD (putD T e u) d v := by
  cases d with
  | none => rfl
  | some x =>
    cases e with
    | none => rfl
    | some y =>
      have hne : x ≠ y := fun q => h x rfl (q ▸ rfl)
      simp only [smallDst, Nat.blt_eq] at hd he
      exact Tr.putS_comm T (k := y) (k' := x) u v (Ne.symm hne) he hd
theorem resAll_putD {call : CallT} {P : Program} {T : Tr Value} {H : Tr Blk} {n id : Nat} {d : Option Nat} {v : Value} {ops : Array Oper} {o : Oper} (f : Tr.fine 9 T) (hd : smallDst d = true) (hn : ∀ x, d = some x → x ∉ o.looksAt ops) (hl : lookOk ops o = true) :
    resAll call P ops o (putD T d v) H n id = resAll call P ops o T H n id := by
  cases d with
  | none => rfl
  | some x =>
    simp only [smallDst, Nat.blt_eq] at hd
    exact resAll_put f hd (hn x rfl) hl

/-- If i and then j goes, then j and then i goes to the same. -/
theorem opStep_comm {call : CallT} {P : Program} {q : Nat → Bool} (hq : QuietOk call q) {N base i j : Nat} {ops : Array Oper} (hij : i ≠ j) (hc : commOk q ops i j = true) {st st1 : St} {outs1 : List St} (f : Fine st)
    (h1 : opStep call P N ops base i st = some [st1]) (h2 : opStep call P N ops base j st1 = some outs1) :
    ∃ outs, opStep call P N ops base j st = some outs ∧ ∀ o ∈ outs, ∃ o1 ∈ outs1, opStep call P N ops base i o = some [o1] := by
  obtain ⟨T, H, n⟩ := st
  obtain ⟨fH, fT⟩ := f
  simp only at fH fT
  unfold commOk at hc
  unfold opStep at h1 h2 ⊢
  cases hoi : ops[i]? with
  | none => simp [hoi] at hc
  | some oi =>
  cases hoj : ops[j]? with
  | none => simp [hoi, hoj] at hc
  | some oj =>
  simp only [hoi, hoj] at hc h1 h2 ⊢
  simp only [Bool.and_eq_true] at hc
  obtain ⟨⟨⟨⟨⟨c1, c2⟩, c3⟩, c4⟩, c5⟩, c6⟩ := hc
  obtain ⟨p1, p2, p3⟩ := Oper.apart_spec c1
  rw [Bool.or_eq_true] at c6
  have k3 : kindOf oi.op ≠ 3 := by
    rcases c6 with c6 | c6
    · intro e; rw [e] at c6; simp [kindsOk] at c6
    · simp only [Bool.and_eq_true, Nat.beq_eq] at c6; omega
  rw [resAll_eff k3] at h1
  cases he : eff P ops oi T H (base + i) with
  | none => simp [he] at h1
  | some vH =>
  obtain ⟨vi, Hi⟩ := vH
  simp only [he] at h1
  obtain ⟨s, hs, hl⟩ := putAll_single h1
  cases hl
  have e1 := putT_eq hs
  subst e1
  simp only at h2
  rw [resAll_putD fT c4 p1 c3] at h2
  rcases c6 with c6 | c6
  rotate_left
  · simp only [Bool.and_eq_true, Nat.beq_eq] at c6
    obtain ⟨k1, cq⟩ := c6
    have hHi := eff1 k1 he
    subst hHi
    cases hr : resAll call P ops oj T Hi n (base + j) with
    | none => simp [hr] at h2
    | some res =>
      simp only [hr] at h2
      have hsame := quietCall_res hq cq hr
      obtain ⟨outs, ho⟩ := putAll_some (T' := T) h2
      refine ⟨outs, ho, fun o hmem => ?_⟩
      obtain ⟨⟨vj, Hj, nj⟩, hx, hp⟩ := putAll_inv ho o hmem
      have e2 := putT_eq hp
      subst e2
      obtain ⟨o1, ho1, hp1⟩ := putAll_mem h2 (vj, Hj, nj) hx
      have e3 := putT_eq hp1
      have hHj : Hj = Hi := hsame _ hx
      subst hHj
      refine ⟨o1, ho1, ?_⟩
      simp only
      rw [resAll_putD fT c5 p3 c2, resAll_eff k3, he]
      simp only [putAll]
      obtain ⟨s', hs'⟩ := putT_some (T' := putD T oj.dst vj) (H' := Hj) (n' := nj) (v' := vi) hs
      rw [hs']
      have e4 := putT_eq hs'
      simp only [Option.some.injEq, List.cons.injEq, and_true]
      rw [e4, e3, putD_comm p2 c4 c5]
  by_cases k0 : kindOf oi.op = 0
  · obtain ⟨rfl, hall⟩ := eff0 (H2 := H) k0 he
    cases hr : resAll call P ops oj T Hi n (base + j) with
    | none => simp [hr] at h2
    | some res =>
      simp only [hr] at h2
      obtain ⟨outs, ho⟩ := putAll_some (T' := T) h2
      refine ⟨outs, ho, fun o hmem => ?_⟩
      obtain ⟨⟨vj, Hj, nj⟩, hx, hp⟩ := putAll_inv ho o hmem
      have e2 := putT_eq hp
      subst e2
      obtain ⟨o1, ho1, hp1⟩ := putAll_mem h2 (vj, Hj, nj) hx
      have e3 := putT_eq hp1
      refine ⟨o1, ho1, ?_⟩
      simp only
      rw [resAll_putD fT c5 p3 c2, resAll_eff k3, (eff0 (H2 := Hj) k0 he).2]
      simp only [putAll]
      obtain ⟨s', hs'⟩ := putT_some (T' := putD T oj.dst vj) (H' := Hj) (n' := nj) (v' := vi) hs
      rw [hs']
      have e4 := putT_eq hs'
      simp only [Option.some.injEq, List.cons.injEq, and_true]
      rw [e4, e3, putD_comm p2 c4 c5]
  · have j3 : kindOf oj.op ≠ 3 := by
      intro e
      rw [e] at c6
      have : kindOf oi.op ≤ 3 := kindOf_le _
      have h12 : kindOf oi.op = 1 ∨ kindOf oi.op = 2 := by omega
      rcases h12 with q | q <;> rw [q] at c6 <;> simp [kindsOk] at c6
    rw [resAll_eff j3] at h2 ⊢
    cases hej : eff P ops oj T Hi (base + j) with
    | none => simp [hej] at h2
    | some vHj =>
    obtain ⟨vj, Hij⟩ := vHj
    simp only [hej] at h2
    obtain ⟨s2, hs2, hl2⟩ := putAll_single h2
    subst hl2
    have e5 := putT_eq hs2
    obtain ⟨Hj, g1, g2⟩ := eff_swap c6 j3 fH (by omega) he hej
    simp only [g1]
    obtain ⟨s3, hs3⟩ := putT_some (T' := T) (H' := Hj) (n' := n) (v' := vj) hs2
    refine ⟨[s3], by simp [putAll, hs3], fun o hmem => ⟨s2, by simp, ?_⟩⟩
    simp only [List.mem_singleton] at hmem
    subst hmem
    have e6 := putT_eq hs3
    subst e6
    simp only
    rw [resAll_putD fT c5 p3 c2, resAll_eff k3, g2]
    simp only [putAll]
    obtain ⟨s', hs'⟩ := putT_some (T' := putD T oj.dst vj) (H' := Hij) (n' := n) (v' := vi) hs
    rw [hs']
    have e4 := putT_eq hs'
    simp only [Option.some.injEq, List.cons.injEq, and_true]
    rw [e4, e5, putD_comm p2 c4 c5]

/-! A look beside a store or an append elsewhere. -/
noncomputable def touches (ev : Operand → Option Value) (o : Oper) : Option Nat :=
  match o.op with
  | .store _ a _ => match ev a with
    | some (.pointer (some ⟨b, _, _⟩)) => some b
    | _ => none
  | .call c => match c.callee, c.args.toList with
    | .builtin .append, [s, _] => match ev s with
      | some (.slice (some ⟨b, _, _⟩) _ _) => some b
      | some (.slice none 0 0) => some 4096
      | _ => none
    | _, _ => none
  | _ => none
noncomputable def looksBlk (ev : Operand → Option Value) (o : Oper) : Option Nat :=
  match o.op with
  | .load _ x => match ev x with
    | some (.pointer (some ⟨b, _, _⟩)) => some b
    | _ => none
  | _ => none

theorem load_other {P : Program} {ev : Operand → Option Value} {H H' : Tr Blk} {t : TypeId} {x : Operand} {v : Value} {b o : Nat} {sp : Option Nat} (hx : ev x = some (.pointer (some ⟨b, o, sp⟩))) (hat : ∀ B, b < 4096 → H.at b = some B → H'.at b = some B)
    (h : loadA P ev H t x = some v) : loadA P ev H' t x = some v := by
  unfold loadA at *
  rw [hx] at h ⊢
  cases sp with
  | some q => cases h
  | none =>
    simp only at h ⊢
    cases hB : H.at b with
    | none => simp [hB] at h
    | some B =>
      simp only [hB] at h
      cases hc : (B.live && Nat.blt b 4096) with
      | false => rw [hc] at h; cases h
      | true =>
        have hb : b < 4096 := by simp only [Bool.and_eq_true, Nat.blt_eq] at hc; exact hc.2
        rw [hc] at h
        simp only [hat B hb hB, hc]
        exact h

/-- What a store or an append leaves of the other blocks. -/
theorem mem_other {P : Program} {ev : Operand → Option Value} {o : Oper} {H H' : Tr Blk} {id bs : Nat} {v : Value} (f : Tr.fine deep H) (hk : kindOf o.op = 3) (ht : touches ev o = some bs) (h : memStep P ev o H id = some (v, H')) :
    ∀ b B, b < 4096 → b ≠ bs → H.at b = some B → H'.at b = some B := by
  intro b B hb hne hB
  have hb' : b < 2 ^ deep := by simpa [deep] using hb
  unfold memStep at h
  simp only [hk] at h
  split at h
  · rename_i t a x ho
    split at h
    · rename_i H2 hs
      cases h
      unfold touches at ht
      rw [ho] at ht
      simp only at ht
      unfold storeA at hs
      split at hs
      · rename_i b0 off v0 n ha hx hn
        rw [ha] at ht
        cases ht
        cases hB0 : H.at bs with
        | none => simp [hB0] at hs
        | some B0 =>
          simp only [hB0] at hs
          cases hc : (B0.live && Nat.beq v0.cells.size n && Nat.ble (off + v0.cells.size) B0.n && v0.cells.toList.all oneA && Nat.blt bs 4096) with
          | false => rw [hc] at hs; cases hs
          | true =>
            rw [hc] at hs
            cases hs
            simp only [Bool.and_eq_true, Nat.blt_eq] at hc
            rw [Tr.at_put_ne f (Ne.symm hne) (by simpa [deep] using hc.2) hb']; exact hB
      · cases hs
    · cases h
  · rename_i c ho
    have hcopy : copyOf P ev c H = none := by
      unfold touches at ht
      rw [ho] at ht
      simp only at ht
      unfold copyOf
      split
      · rename_i d s t t' hc _ _
        rw [hc] at ht
        cases ht
      · rfl
    have hmap : mapOf P ev o H id = none := by
      unfold touches at ht
      rw [ho] at ht
      simp only at ht
      unfold mapOf
      rw [ho]
      simp only
      split
      · rename_i x t hc _ _
        rw [hc] at ht
        cases ht
      · rfl
    have h0 : appOf P ev c H id = some (v, H') := by
      split at h
      · rename_i rr hrr; cases h; exact hrr
      · rw [hcopy] at h; simp only at h; rw [hmap] at h; cases h
    clear h
    have h := h0
    unfold appOf at h
    split at h
    · rename_i s x t t' hc ha htt
      cases hbq : Nat.beq t t' with
      | false => rw [hbq] at h; cases h
      | true =>
        rw [hbq] at h
        simp only [cond_true] at h
        split at h
        · rename_i sv xv hsv hxv
          unfold touches at ht
          rw [ho] at ht
          simp only [hc, ha, hsv] at ht
          unfold appA at h
          split at h
          · rename_i e hu
            split at h
            · rename_i i z hi hz
              split at h
              · split at h
                · cases h; exact hB
                · cases h
              · rename_i n vs hn
                cases hcc : (Nat.ble i.bytes 65536 && isNone (H.at id) && Nat.blt id 4096 && Nat.beq z.size i.size) with
                | false => rw [hcc] at h; cases h
                | true =>
                rw [hcc] at h
                simp only [cond_true] at h
                simp only [Bool.and_eq_true, Nat.blt_eq] at hcc
                have hid : id < 2 ^ deep := by simpa [deep] using hcc.1.2
                have hnid : H.at id = none := by cases q : H.at id with | none => rfl | some y => rw [q] at hcc; cases hcc.1.1.2
                have hbid : id ≠ b := by rintro rfl; rw [hnid] at hB; cases hB
                split at h
                · cases hq : Nat.ble (n + 1) 4096 with
                  | false => rw [hq] at h; cases h
                  | true =>
                    rw [hq] at h; cases h
                    rw [Tr.at_put_ne f hbid hid hb']; exact hB
                · rename_i b0 off len cc
                  cases ht
                  cases hB0 : H.at bs with
                  | none => simp [hB0] at h
                  | some B0 =>
                  simp only [hB0] at h
                  cases hc2 : (B0.live && Nat.beq B0.elem e && Nat.ble (len + (n + 1)) 4096 && Nat.blt bs 4096) with
                  | false => rw [hc2] at h; cases h
                  | true =>
                  rw [hc2] at h
                  simp only [cond_true] at h
                  simp only [Bool.and_eq_true, Nat.blt_eq] at hc2
                  have hb0 : bs < 2 ^ deep := by simpa [deep] using hc2.2
                  cases hk2 : Nat.beq (cc % 2) 1 with
                  | true =>
                    rw [hk2] at h
                    simp only [cond_true] at h
                    cases hr : Nat.ble (len + (n + 1)) (cc / 2) with
                    | true =>
                      rw [hr] at h
                      simp only [cond_true] at h
                      cases hft : Nat.ble (off + len * i.size + vs.length) B0.n with
                      | false => rw [hft] at h; cases h
                      | true =>
                        rw [hft] at h; cases h
                        rw [Tr.at_put_ne f (Ne.symm hne) hb0 hb']; exact hB
                    | false =>
                      rw [hr] at h
                      simp only [cond_false] at h
                      split at h
                      · cases h; rw [Tr.at_put_ne f hbid hid hb']; exact hB
                      · cases h
                  | false =>
                    rw [hk2] at h
                    simp only [cond_false] at h
                    cases hsz : Nat.beq (cc / 2) i.size with
                    | false => rw [hsz] at h; cases h
                    | true =>
                      rw [hsz] at h
                      simp only [cond_true] at h
                      split at h
                      · cases h
                        rw [Tr.at_put_ne (Tr.put_fine _ _ f) hbid hid hb', Tr.at_put_ne f (Ne.symm hne) hb0 hb']; exact hB
                      · cases h
                · cases h
              · cases h
            · cases h
          · cases h
        · cases h
    · cases h
  · rename_i n1 n2
    unfold touches at ht
    split at ht
    · rename_i t a x ho; exact (n1 t a x ho).elim
    · rename_i c ho; exact (n2 c ho).elim
    · cases ht

noncomputable def dynOk (ops : Array Oper) (T : Tr Value) (i j : Nat) : Bool :=
  match ops[i]?, ops[j]? with
  | some oi, some oj => oi.apart ops oj && lookOk ops oi && lookOk ops oj && smallDst oi.dst && smallDst oj.dst && Nat.beq (kindOf oi.op) 1 && Nat.beq (kindOf oj.op) 3 &&
    (match looksBlk (evA T) oi, touches (evA T) oj with | some bi, some bs => !Nat.beq bi bs | _, _ => false)
  | _, _ => false

theorem touches_congr {ev ev' : Operand → Option Value} {o : Oper} (h : ∀ x ∈ o.op.operands, ev x = ev' x) : touches ev o = touches ev' o := by
  unfold touches
  split
  · rename_i t a x ho; rw [ho] at h; rw [h a (by simp [Op.operands])]
  · rename_i c ho
    rw [ho] at h
    split
    · rename_i s x hc hx; rw [h s (by simp [Op.operands, Call.operands, hc, arr2 hx])]
    · rfl
  · rfl
theorem looksBlk_congr {ev ev' : Operand → Option Value} {o : Oper} (h : ∀ x ∈ o.op.operands, ev x = ev' x) : looksBlk ev o = looksBlk ev' o := by
  unfold looksBlk
  split
  · rename_i t x ho; rw [ho] at h; rw [h x (by simp [Op.operands])]
  · rfl

/-- The slot that names the block. -/
noncomputable def keyTmps (o : Oper) : List Nat :=
  match o.op with
  | .store _ (.tmp a) _ => [a]
  | .call c => match c.args.toList with
    | .tmp s :: _ => [s]
    | _ => []
  | _ => []
theorem keyTmps_look {ops : Array Oper} {o : Oper} : ∀ t ∈ keyTmps o, t ∈ o.looksAt ops := by
  intro t ht
  unfold keyTmps at ht
  split at ht
  · rename_i ty a x ho
    simp at ht; subst ht
    exact List.mem_append_left _ (List.mem_filterMap.2 ⟨.tmp t, by rw [ho]; simp [Op.operands], rfl⟩)
  · rename_i c ho
    split at ht
    · rename_i s r hc
      simp at ht; subst ht
      have hm : Operand.tmp t ∈ c.args := by rw [← Array.mem_toList_iff, hc]; simp
      exact List.mem_append_left _ (List.mem_filterMap.2 ⟨.tmp t, by rw [ho]; simp [Op.operands, Call.operands, hm], rfl⟩)
    · simp at ht
  · simp at ht
theorem touches_watch {T T0 : Tr Value} {o : Oper} (h : ∀ t ∈ keyTmps o, T.at t = T0.at t) : touches (evA T) o = touches (evA T0) o := by
  unfold touches
  split
  · rename_i ty a x ho
    have : evA T a = evA T0 a := by
      cases a with
      | tmp q => exact h q (by unfold keyTmps; rw [ho]; simp)
      | _ => rfl
    rw [this]
  · rename_i c ho
    split
    · rename_i s x hc hx
      have : evA T s = evA T0 s := by
        cases s with
        | tmp q => exact h q (by unfold keyTmps; rw [ho]; simp [hx])
        | _ => rfl
      rw [this]
    · rfl
  · rfl

/-- The slots that are watched are as they were. -/
noncomputable def Watch (L : List Nat) (T0 : Tr Value) (st : St) : Prop := ∀ t ∈ L, st.T.at t = T0.at t
theorem watch_ev {L : List Nat} {T0 : Tr Value} {st : St} {ops : Array Oper} {o : Oper} (h : Watch L T0 st) (hL : ∀ t ∈ o.looksAt ops, t ∈ L) : ∀ x ∈ o.op.operands, evA st.T x = evA T0 x := by
  intro x hx
  cases x with
  | tmp t => exact h t (hL t (List.mem_append_left _ (List.mem_filterMap.2 ⟨.tmp t, by simpa using hx, rfl⟩)))
  | const u => rfl
  | global g => rfl
  | func g => rfl

theorem opStep_dyn {call : CallT} {P : Program} {N base i j : Nat} {ops : Array Oper} {L : List Nat} {T0 : Tr Value} (hij : i ≠ j) (hc : dynOk ops T0 i j = true) (hLi : ∀ o, ops[i]? = some o → ∀ t ∈ o.looksAt ops, t ∈ L) (hLj : ∀ o, ops[j]? = some o → ∀ t ∈ keyTmps o, t ∈ L)
    {st st1 : St} {outs1 : List St} (f : Fine st) (hw : Watch L T0 st) (h1 : opStep call P N ops base i st = some [st1]) (h2 : opStep call P N ops base j st1 = some outs1) :
    ∃ outs, opStep call P N ops base j st = some outs ∧ ∀ o ∈ outs, ∃ o1 ∈ outs1, opStep call P N ops base i o = some [o1] := by
  obtain ⟨T, H, n⟩ := st
  obtain ⟨fH, fT⟩ := f
  simp only at fH fT
  unfold dynOk at hc
  unfold opStep at h1 h2 ⊢
  cases hoi : ops[i]? with
  | none => simp [hoi] at hc
  | some oi =>
  cases hoj : ops[j]? with
  | none => simp [hoi, hoj] at hc
  | some oj =>
  have wi := watch_ev hw (hLi oi hoi)
  have wj : touches (evA T) oj = touches (evA T0) oj := touches_watch fun t ht => hw t (hLj oj hoj t ht)
  simp only at wi
  simp only [hoi, hoj] at hc h1 h2 ⊢
  simp only [Bool.and_eq_true] at hc
  obtain ⟨⟨⟨⟨⟨⟨⟨c1, c2⟩, c3⟩, c4⟩, c5⟩, c6⟩, c7⟩, c8⟩ := hc
  have ki : kindOf oi.op = 1 := Nat.eq_of_beq_eq_true c6
  have kj : kindOf oj.op = 3 := Nat.eq_of_beq_eq_true c7
  obtain ⟨p1, p2, p3⟩ := Oper.apart_spec c1
  have k3 : kindOf oi.op ≠ 3 := by omega
  rw [← looksBlk_congr wi, ← wj] at c8
  rw [resAll_eff k3] at h1
  cases he : eff P ops oi T H (base + i) with
  | none => simp [he] at h1
  | some vH =>
  obtain ⟨vi, Hi⟩ := vH
  simp only [he] at h1
  obtain ⟨s, hs, hl⟩ := putAll_single h1
  cases hl
  have e1 := putT_eq hs
  subst e1
  simp only at h2
  rw [resAll_putD fT c4 p1 c3] at h2
  have hHi := eff1 ki he
  subst hHi
  cases hr : resAll call P ops oj T Hi n (base + j) with
  | none => simp [hr] at h2
  | some res =>
    simp only [hr] at h2
    obtain ⟨outs, ho⟩ := putAll_some (T' := T) h2
    -- what j leaves where i looks
    have hleft : ∀ x ∈ res, eff P ops oi T x.2.1 (base + i) = some (vi, x.2.1) := by
      intro x hx
      unfold eff at he ⊢
      split at he
      · cases he
      · cases he; rfl
      · unfold memStep at he ⊢
        simp only [ki] at he ⊢
        split at he
        · rename_i t y hop
          split at he
          · rename_i u hu
            cases he
            split at c8
            · rename_i bi bs hbi hbs
              have hne : bi ≠ bs := by intro e; rw [beq_of_eq e] at c8; cases c8
              unfold looksBlk at hbi
              rw [hop] at hbi
              simp only at hbi
              split at hbi
              · rename_i b off sp hy
                cases hbi
                have hmem : ∀ B, bi < 4096 → Hi.at bi = some B → x.2.1.at bi = some B := by
                  intro B hb hB
                  unfold resAll at hr
                  split at hr
                  · cases hr
                  · cases hr; simp at hx; subst hx; exact hB
                  · unfold opRes at hr
                    have hcn : calleeA (evA T) oj = none := by
                      unfold calleeA
                      split
                      · rename_i c hopj
                        split
                        · rename_i ff hcal
                          exfalso
                          unfold touches at hbs
                          rw [hopj] at hbs
                          simp only [hcal] at hbs
                          cases hbs
                        · rfl
                      · rfl
                    rw [hcn] at hr
                    simp only at hr
                    split at hr
                    · rename_i v' H' hm
                      cases hr
                      simp at hx
                      subst hx
                      exact mem_other fH kj hbs hm bi B hb hne hB
                    · cases hr
                rw [load_other hy hmem hu]
              · cases hbi
            · cases c8
          · cases he
        · cases he
    refine ⟨outs, ho, fun o hmem => ?_⟩
    obtain ⟨⟨vj, Hj, nj⟩, hx, hp⟩ := putAll_inv ho o hmem
    have e2 := putT_eq hp
    subst e2
    obtain ⟨o1, ho1, hp1⟩ := putAll_mem h2 (vj, Hj, nj) hx
    have e3 := putT_eq hp1
    refine ⟨o1, ho1, ?_⟩
    simp only
    rw [resAll_putD fT c5 p3 c2, resAll_eff k3, hleft (vj, Hj, nj) hx]
    simp only [putAll]
    obtain ⟨s', hs'⟩ := putT_some (T' := putD T oj.dst vj) (H' := Hj) (n' := nj) (v' := vi) hs
    rw [hs']
    have e4 := putT_eq hs'
    simp only [Option.some.injEq, List.cons.injEq, and_true]
    rw [e4, e3, putD_comm p2 c4 c5]

/-- Slots that nobody writes stay. -/
theorem opStep_watch {call : CallT} {P : Program} {N base j : Nat} {ops : Array Oper} {L : List Nat} {T0 : Tr Value} {oj : Oper} (hoj : ops[j]? = some oj) (hd : smallDst oj.dst = true) (hL : ∀ t ∈ L, t < 512) (hn : ∀ d, oj.dst = some d → d ∉ L)
    {st : St} {outs : List St} (f : Fine st) (hw : Watch L T0 st) (h : opStep call P N ops base j st = some outs) : ∀ o ∈ outs, Watch L T0 o := by
  intro o ho
  unfold opStep at h
  simp only [hoj] at h
  split at h
  · rename_i res hres
    obtain ⟨x, _, hp⟩ := putAll_inv h o ho
    rw [putT_eq hp]
    intro t ht
    have := hw t ht
    rw [← this]
    cases hdst : oj.dst with
    | none => rfl
    | some d =>
      rw [hdst] at hd
      simp only [smallDst, Nat.blt_eq] at hd
      exact Tr.at_putS_ne f.2 (fun e => hn d hdst (e ▸ ht)) hd (hL t ht)
  · cases h

/-- What is taken first keeps the tables in order. -/
theorem opStep_fine {call : CallT} {P : Program} {N base i : Nat} {ops : Array Oper} {oi : Oper} (hoi : ops[i]? = some oi) (k3 : kindOf oi.op ≠ 3) {st st1 : St} (f : Fine st) (h1 : opStep call P N ops base i st = some [st1]) : Fine st1 := by
  obtain ⟨T, H, n⟩ := st
  unfold opStep at h1
  simp only [hoi] at h1
  rw [resAll_eff k3] at h1
  cases he : eff P ops oi T H (base + i) with
  | none => simp [he] at h1
  | some vH =>
    obtain ⟨vi, Hi⟩ := vH
    simp only [he] at h1
    obtain ⟨s, hs, hl⟩ := putAll_single h1
    cases hl
    rw [putT_eq hs]
    exact ⟨fine_eff k3 f.1 he, putD_fine f.2⟩

end Go.Proofs.Ytmdhmpfagekonaa.Ev
