/- A run of closed code: rounds of loops over functions. -/
import Derived.Test.YtmdhmpfagekonaaEV14
import Derived.RangeFuncLeaves
namespace Go.Proofs.Ytmdhmpfagekonaa.Ev
open Go.RowKit Go.MapKept
set_option linter.unusedVariables false
set_option linter.unusedSimpArgs false

/-- A loop's record goes from one state to another. -/
noncomputable def turn (H : Tr Blk) (b fr to : Nat) : Option (Tr Blk) :=
  match H.at b with
  | some B => bif B.mp then none else bif B.live then none else match B.lp with
    | some _ => bif Nat.beq B.n fr then some (H.put b { B with n := to }) else none
    | none => none
  | none => none
theorem LoopAt.to {m : Names} {B : Blk} {L : LoopT} {r : Loop} (h : LoopAt m B L r) {n : Nat} {s : LoopState} {p : Option Code} (hs : StateAt n s p) : LoopAt m { B with n := n } L { r with state := s, pending := p } :=
  ⟨h.fine, h.tmps, h.size, h.params, h.assign, h.body, hs⟩
theorem turn_at {H H' : Tr Blk} {b fr to : Nat} (h : turn H b fr to = some H') : ∃ B L, H.at b = some B ∧ B.mp = false ∧ B.live = false ∧ B.lp = some L ∧ B.n = fr ∧ H' = H.put b { B with n := to } := by
  unfold turn at h
  split at h
  · rename_i B hB
    cases hp : B.mp with
    | true => rw [hp] at h; cases h
    | false =>
    rw [hp] at h
    simp only [cond_false] at h
    cases hl : B.live with
    | true => rw [hl] at h; cases h
    | false =>
    rw [hl] at h
    simp only [cond_false] at h
    split at h
    · rename_i L hL
      cases hn : Nat.beq B.n fr with
      | false => rw [hn] at h; cases h
      | true =>
        rw [hn] at h
        simp only [cond_true, Option.some.injEq] at h
        exact ⟨B, L, hB, hp, hl, hL, Nat.eq_of_beq_eq_true hn, by rw [← h, hl, hp]⟩
    · cases h
  · cases h
theorem turn_ok {w0 : World} {m : Names} {H H' : Tr Blk} {w : World} {b fr to : Nat} (r : Rel w0 m H w) (h : turn H b fr to = some H') {C R : Nat} (hm : m b = some (C, 0, R)) :
    ∃ rec, w.heap[C]? = some (.loop rec) ∧ StateAt fr rec.state rec.pending ∧ ∀ s p, StateAt to s p → Rel w0 m H' (w.putObj C (.loop { rec with state := s, pending := p })) := by
  obtain ⟨B, L, hB, hp, hl, hL, hn, rfl⟩ := turn_at h
  have ho : B.own = true := by simp [Blk.own, hL]
  obtain ⟨C', R', o, a1, a2, a3, a4⟩ := r.oth.own b B hB ho
  rw [hm] at a1; cases a1
  cases a4 with
  | map es cl h1 h2 h3 h4 h5 => rw [hp] at h1; cases h1
  | defd h0 h1 h2 h3 => rw [hL] at h1; cases h1
  | loop L' rec h0 h1 h2 h3 =>
    rw [hL] at h1; cases h1
    refine ⟨rec, a3, hn ▸ h3.state, fun s p hs => ?_⟩
    have hbd := (r.dom b _ hm).1
    obtain ⟨s1, s2⟩ := heap_set (o' := Obj.loop { rec with state := s, pending := p }) a3
    refine ⟨below_set r.bel a2 _, Tr.put_fine _ _ r.fine, ?_, ?_, ?_, ?_⟩
    · intro b' x hx
      obtain ⟨hlt, B', hB'⟩ := r.dom b' x hx
      refine ⟨hlt, ?_⟩
      by_cases e : b = b'
      · subst e; exact ⟨_, Tr.at_put _ _ _⟩
      · exact ⟨B', by rw [Tr.at_put_ne r.fine e hbd hlt]; exact hB'⟩
    · intro b' B' hB' hl'
      rcases Tr.at_put_some r.fine hB' with ⟨rfl, rfl⟩ | ⟨hne, hB'⟩
      · simp [hl] at hl'
      · obtain ⟨C2, k2, R2, c2, b1, b2, b3, b4, b5, b6⟩ := r.blk b' B' hB' hl'
        have : C2 ≠ C := by rintro rfl; rw [a3] at b3; cases b3
        exact ⟨C2, k2, R2, c2, b1, b2, (s2 _ this).trans b3, b4, b5, b6⟩
    · intro x y B1 B2 C1 k1 R1 C2 k2 R2 h1 h2 l1 l2 hne m1 m2
      rcases Tr.at_put_some r.fine h1 with ⟨rfl, rfl⟩ | ⟨n1, h1⟩
      · simp [hl] at l1
      · rcases Tr.at_put_some r.fine h2 with ⟨rfl, rfl⟩ | ⟨n2, h2⟩
        · simp [hl] at l2
        · exact r.inj x y B1 B2 C1 k1 R1 C2 k2 R2 h1 h2 l1 l2 hne m1 m2
    · refine r.oth.upd (B := { B with n := to }) (.refl m) hm a2 s1 (.loop L _ hp hL hl (h3.to hs))
        (fun B' hB' => ?_) (fun b' B' hne hB' ho' => ?_) (fun C' x hne hx _ => (s2 _ hne).trans hx) (fun b' B' C' k' R' hne hB' ho' hm' => Ne.symm (r.oth.apart b b' B B' C 0 R C' k' R' hB hB' ho ho' (Ne.symm hne) hm hm'))
      · rcases Tr.at_put_some r.fine hB' with ⟨_, h⟩ | ⟨h, _⟩
        · exact h
        · exact absurd rfl h
      · rcases Tr.at_put_some r.fine hB' with ⟨e, _⟩ | ⟨_, h⟩
        · exact absurd e.symm hne
        · exact h

/-- The arguments of yield in the loop's slots. -/
noncomputable def putPs (N : Nat) (T : Tr Value) : List Nat → List Value → Option (Tr Value)
  | [], [] => some T
  | d :: ds, v :: vs => bif Nat.blt d 512 && Nat.blt d N then putPs N (T.putS d v) ds vs else none
  | _, _ => none
theorem putPs_ok {m : Names} {N : Nat} : ∀ {ds : List Nat} {vs vs' : List Value} {T T' : Tr Value} {tm : Array Value}, putPs N T ds vs = some T' → VL m vs vs' → RelT m T tm → N ≤ tm.size →
    RelT m T' ((ds.zip vs').foldl (fun t (x : Nat × Value) => t.setIfInBounds x.1 x.2) tm) ∧ N ≤ ((ds.zip vs').foldl (fun t (x : Nat × Value) => t.setIfInBounds x.1 x.2) tm).size ∧ ds.length = vs'.length
  | [], [], _, T, T', tm, h, .nil, rT, hN => by simp only [putPs, Option.some.injEq] at h; subst h; exact ⟨rT, hN, rfl⟩
  | d :: ds, v :: vs, _, T, T', tm, h, .cons hv ht, rT, hN => by
    simp only [putPs] at h
    cases hd : (Nat.blt d 512 && Nat.blt d N) with
    | false => rw [hd] at h; cases h
    | true =>
      rw [hd] at h
      simp only [cond_true] at h
      simp only [Bool.and_eq_true, Nat.blt_eq] at hd
      obtain ⟨a, b, c⟩ := putPs_ok h ht (rT.put (d := d) (by omega) hv) (by simpa using hN)
      exact ⟨a, b, by simp [c]⟩
  | [], _ :: _, _, _, _, _, h, _, _, _ => by simp [putPs] at h
  | _ :: _, [], _, _, _, _, h, _, _, _ => by simp [putPs] at h

/-- How a round ends. -/
noncomputable def endAll (b : Nat) : Outs → Option (List Out)
  | [] => some []
  | (e, s) :: r => match turn s.st.H b 1 (match e with | .normal => 0 | .ret => 2 | .exit id => 3 + id), endAll b r with
    | some H', some o => some ((.bool (match e with | .normal => true | _ => false), H', s.st.next) :: o)
    | _, _ => none
theorem endAll_mem {b : Nat} : ∀ {os : Outs} {outs : List Out}, endAll b os = some outs → ∀ x ∈ os, ∃ H', turn x.2.st.H b 1 (match x.1 with | .normal => 0 | .ret => 2 | .exit id => 3 + id) = some H' ∧ (.bool (match x.1 with | .normal => true | _ => false), H', x.2.st.next) ∈ outs
  | [], outs, h, x, hx => by simp at hx
  | (e, s) :: r, outs, h, x, hx => by
    simp only [endAll] at h
    split at h
    · rename_i H' o h1 h2
      cases h
      rcases List.mem_cons.1 hx with rfl | hx
      · exact ⟨H', h1, by simp⟩
      · obtain ⟨H2, a, c⟩ := endAll_mem h2 x hx
        exact ⟨H2, a, List.mem_cons_of_mem _ c⟩
    · cases h
/-- The body, behind what is assigned. -/
noncomputable def roundAll (ih : CodeT) (b : Nat) (L : LoopT) : Outs → Option (List Out)
  | [] => some []
  | (.normal, s) :: r => match turn s.st.H b 0 1 with
    | some H' => match ih L.N L.body ⟨⟨s.st.T, H', s.st.next⟩, s.marks, s.round⟩ with
      | some os => match endAll b os, roundAll ih b L r with
        | some x, some y => some (x ++ y)
        | _, _ => none
      | none => none
    | none => none
  | _ => none
theorem roundAll_mem {ih : CodeT} {b : Nat} {L : LoopT} : ∀ {os : Outs} {outs : List Out}, roundAll ih b L os = some outs → ∀ x ∈ os, x.1 = .normal ∧ ∃ H' os' o, turn x.2.st.H b 0 1 = some H' ∧ ih L.N L.body ⟨⟨x.2.st.T, H', x.2.st.next⟩, x.2.marks, x.2.round⟩ = some os' ∧ endAll b os' = some o ∧ ∀ y ∈ o, y ∈ outs
  | [], outs, h, x, hx => by simp at hx
  | (.normal, s) :: r, outs, h, x, hx => by
    simp only [roundAll] at h
    split at h
    · rename_i H' hH
      split at h
      · rename_i os' hos
        split at h
        · rename_i u v h1 h2
          cases h
          rcases List.mem_cons.1 hx with rfl | hx
          · exact ⟨rfl, H', os', u, hH, hos, h1, fun y hy => by simp [hy]⟩
          · obtain ⟨a, H2, os2, o, c1, c2, c3, c4⟩ := roundAll_mem h2 x hx
            exact ⟨a, H2, os2, o, c1, c2, c3, fun y hy => by simp [c4 y hy]⟩
        · cases h
      · cases h
    · cases h
  | (.exit _, _) :: _, outs, h, x, hx => by simp [roundAll] at h
  | (.ret, _) :: _, outs, h, x, hx => by simp [roundAll] at h

/-- A call of a loop's yield. -/
noncomputable def yieldOf (ih : CodeT) (b : Nat) (args : List Value) (H : Tr Blk) (next : Nat) : Option (List Out) :=
  match H.at b with
  | some B => bif B.mp then none else match B.lp with
    | some L => match putPs L.N L.T L.params args with
      | some T => match ih L.N L.assign ⟨⟨T, H, next⟩, [], some b⟩ with
        | some os => roundAll ih b L os
        | none => none
      | none => none
    | none => none
  | none => none

theorem yieldOf_ok {P : Program} {ih : CodeT} (hih : CodeOk P ih) {b : Nat} {args : List Value} {H : Tr Blk} {n : Nat} {outs : List Out} (h : yieldOf ih b args H n = some outs) {w0 : World} {m : Names} {w : World} {args' : List Value} {l R : Nat} (r : Rel w0 m H w) (hv : VL m args args') (hm : m b = some (l, 0, R)) :
    ∃ f tmps assign body, (Instr.yield l args'.toArray).run P w = .ok (.round l f tmps assign body) w ∧ RoundIn Fence.wide 0 P l f tmps assign body w (Comes w0 m outs) := by
  unfold yieldOf at h
  split at h
  · rename_i B hB
    cases hp : B.mp with
    | true => rw [hp] at h; cases h
    | false =>
    rw [hp] at h
    simp only [cond_false] at h
    split at h
    · rename_i L hL
      split at h
      · rename_i T hT
        split at h
        · rename_i os hos
          have ho : B.own = true := by simp [Blk.own, hL]
          obtain ⟨C', R', o, a1, a2, a3, a4⟩ := r.oth.own b B hB ho
          rw [hm] at a1; cases a1
          cases a4 with
          | map es cl h1 h2 h3 h4 h5 => rw [hp] at h1; cases h1
          | defd h0 h1 h2 h3 => rw [hL] at h1; cases h1
          | loop L' rec h0 h1 h2 h3 =>
            rw [hL] at h1; cases h1
            have rT0 : RelT m L.T rec.tmps := ⟨h3.fine, h3.tmps⟩
            obtain ⟨rT, hN, hlen⟩ := putPs_ok hT hv rT0 h3.size
            have hsz : args'.toArray.size = rec.params.size := by
              rw [List.size_toArray, ← hlen, ← h3.params, Array.length_toList]
            have hfold : (rec.params.zip args'.toArray).foldl (fun tmps (t, a) => tmps.setIfInBounds t a) rec.tmps = (L.params.zip args').foldl (fun t (x : Nat × Value) => t.setIfInBounds x.1 x.2) rec.tmps := by
              rw [← Array.foldl_toList, Array.toList_zip, h3.params]
            have hy := run_yield (P := P) a3 hsz
            rw [hfold] at hy
            refine ⟨_, _, _, _, hy, ?_⟩
            rw [h3.assign, h3.body]
            refine roundIn_of_wpIn trivial ?_
            have g0 : GoodC (some l) w0 m L.N ⟨⟨T, H, n⟩, [], some b⟩ { tmps := (L.params.zip args').foldl (fun t (x : Nat × Value) => t.setIfInBounds x.1 x.2) rec.tmps, defers := [] } w := ⟨m, .refl m, r, rT, hN, .nil, R, hm⟩
            refine hih _ _ _ _ hos (some l) w0 m _ w _ g0 fun x hx a1 w1 g1 => ?_
            obtain ⟨e, H', os', oo, t1, t2, t3, t4⟩ := roundAll_mem h x hx
            rw [e]
            obtain ⟨m1, s1, r1, rT1, hN1, hD1, hR1⟩ := g1
            obtain ⟨rec1, b1, b2, b3⟩ := turn_ok r1 t1 (s1 _ _ hm)
            have hready : rec1.state = .ready := by
              rcases b2 with ⟨_, q, _⟩ | ⟨q, _⟩ | ⟨q, _⟩ | ⟨q, _⟩
              · exact q
              · cases q
              · cases q
              · omega
            refine ⟨_, run_beginRound b1 hready, ?_⟩
            have r2 := b3 .busy rec1.pending (.inr (.inl ⟨rfl, rfl⟩))
            refine hih _ _ _ _ t2 (some l) w0 m1 a1 _ _ ⟨m1, .refl m1, r2, rT1, hN1, hD1, hR1⟩ fun y hy2 a3 w3 g3 => ?_
            obtain ⟨m3, s3, r3, rT3, hN3, hD3, hR3⟩ := g3
            obtain ⟨H3, u1, u2⟩ := endAll_mem t3 y hy2
            obtain ⟨rec3, c1, c2, c3⟩ := turn_ok r3 u1 (s3 _ _ (s1 _ _ hm))
            obtain ⟨ye, ys⟩ := y
            cases ye with
            | normal => exact ⟨_, _, run_endRound none c1, _, rfl, _, t4 _ u2, m3, s1.trans s3, c3 .ready none (.inl ⟨rfl, rfl, rfl⟩), .bool _⟩
            | ret => exact ⟨_, _, run_endRound (some .ret) c1, _, rfl, _, t4 _ u2, m3, s1.trans s3, c3 .done (some .ret) (.inr (.inr (.inl ⟨rfl, rfl, rfl⟩))), .bool _⟩
            | exit id => exact ⟨_, _, run_endRound (some (.exit id)) c1, _, rfl, _, t4 _ u2, m3, s1.trans s3, c3 .done (some (.exit id)) (.inr (.inr (.inr ⟨by simp only; omega, rfl, by simp only; congr 2; omega⟩))), .bool _⟩
        · cases h
      · cases h
    · cases h
  · cases h

end Go.Proofs.Ytmdhmpfagekonaa.Ev
