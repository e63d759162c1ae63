/- A run of closed code: calls, and what a run that says true is worth. -/
import Derived.Test.YtmdhmpfagekonaaEVY
namespace Go.Proofs.Ytmdhmpfagekonaa.Ev
open Go.RowKit
set_option linter.unusedVariables false
set_option linter.unusedSimpArgs false

/-! Results. -/
noncomputable def resL (P : Program) (T : Tr Value) (H : Tr Blk) : List ResultVar → Option (List Value)
  | [] => some []
  | .tmp t :: r => match T.at t, resL P T H r with
    | some v, some vs => some (v :: vs)
    | _, _ => none
  | .cell a ty :: r => match loadA P (evA T) H ty (.tmp a), resL P T H r with
    | some v, some vs => some (v :: vs)
    | _, _ => none
noncomputable def resOne (P : Program) (tmps : Array Value) : ResultVar → Sem Value := fun
  | .tmp t => pure (tmps.getD t undef)
  | .cell a t => do loadVar t (← asAddr (tmps.getD a undef))
theorem load_run {P : Program} {w0 : World} {m : Names} {T : Tr Value} {H : Tr Blk} {w : World} {a : Act} {t : TypeId} {x : Nat} {v : Value} (he : Evs m (evA T) a.eval) (r : Rel w0 m H w) (h : loadA P (evA T) H t (.tmp x) = some v) :
    ∃ v', (resOne P a.tmps (.cell x t)).run P w = .ok v' w ∧ VR m v v' := by
  obtain ⟨v', h1, h2⟩ := loadA_ok (o := { dst := none, op := .load t (.tmp x), type := 0, pos := "", after := #[], guard := none }) rfl he r h
  refine ⟨v', ?_, h2⟩
  have hp : ∃ ad, a.eval (.tmp x) = .pointer (some ad) := by
    unfold loadA at h
    split at h
    · rename_i b o hx
      have := he _ _ hx
      generalize a.eval (.tmp x) = q at this
      cases this
      exact ⟨_, rfl⟩
    · cases h
  obtain ⟨ad, hp⟩ := hp
  simp only [execOp, Instr.loadAt, hp, Instr.sureAddr, Sem.run_bind, Sem.run_pure, Result.andThen_ok] at h1
  have hq : a.tmps.getD x undef = .pointer (some ad) := hp
  simp only [resOne, hq, asAddr, Sem.run_bind, Sem.run_pure, Result.andThen_ok]
  generalize (loadVar t ad).run P w = q at *
  cases q with
  | ok u w2 => simp at h1; rw [h1.1, h1.2]
  | halt x w2 => simp at h1
theorem resL_ok {P : Program} {w0 : World} {m : Names} {T : Tr Value} {H : Tr Blk} {w : World} {a : Act} (rT : RelT m T a.tmps) (r : Rel w0 m H w) : ∀ {l : List ResultVar} {vs : List Value}, resL P T H l = some vs →
    ∃ vs', VL m vs vs' ∧ (l.mapM (resOne P a.tmps)).run P w = .ok vs' w
  | [], vs, h => by simp [resL] at h; subst h; exact ⟨[], .nil, by simp⟩
  | .tmp t :: q, vs, h => by
    simp only [resL] at h
    split at h
    · rename_i v us hv hus
      cases h
      obtain ⟨us', h1, h2⟩ := resL_ok rT r hus
      obtain ⟨v', h3, h4⟩ := rT.2 t v hv
      refine ⟨v' :: us', .cons h4 h1, ?_⟩
      have hg : a.tmps.getD t undef = v' := by simp [h3]
      simp [List.mapM_cons, resOne, h2, h3]
    · cases h
  | .cell x t :: q, vs, h => by
    simp only [resL] at h
    split at h
    · rename_i v us hv hus
      cases h
      obtain ⟨us', h1, h2⟩ := resL_ok rT r hus
      obtain ⟨v', h3, h4⟩ := load_run (evA_ok rT) r hv
      exact ⟨v' :: us', .cons h4 h1, by simp [List.mapM_cons, h3, h2]⟩
    · cases h

noncomputable def retVal : List Value → Value
  | [v] => v
  | vs => .tuple vs.toArray
theorem retVal_ok {m : Names} {a b : List Value} (h : VL m a b) : VR m (retVal a) (if h : b.toArray.size = 1 then b.toArray[0] else .tuple b.toArray) := by
  cases h with
  | nil => exact .tuple _ _ rfl (fun i x y hx => by simp at hx)
  | cons hx ht => cases ht with
    | nil => exact hx
    | cons hy hz =>
      have := (VL.cons hx (VL.cons hy hz)).to
      rw [dif_neg (by simp)]
      exact .tuple _ _ this.1 this.2

/-- The marked blocks for deferred calls are taken over, and shut. -/
noncomputable def shut : Tr Blk → List Nat → Option (Tr Blk)
  | H, [] => some H
  | H, b :: r => match H.at b with
    | some B => bif B.df && (!B.mp && noLp B.lp) then shut (H.put b deadB) r else none
    | none => none
theorem shut_ok {P : Program} {F : Fence} {w0 : World} {m : Names} {fn : Func} {tmps : Array Value} {R : Ending → World → Prop} {H' : Tr Blk} {bs : List Nat} {ds : List Deferred} (hM : Marks m bs ds) : ∀ {H : Tr Blk} {w : World}, Rel w0 m H w → shut H bs = some H' →
    (∀ w', Rel w0 m H' w' → LeavesIn F 0 P fn tmps R [] .returning w') → LeavesInM F 0 P fn tmps R ds .returning w := by
  induction hM with
  | nil => intro H w r h hl; simp only [shut, Option.some.injEq] at h; subst h; exact hl w r
  | @cons b C R' bs ds hm t ih =>
    intro H w r h hl
    simp only [shut] at h
    split at h
    · rename_i B hB
      cases hc : (B.df && (!B.mp && noLp B.lp)) with
      | false => rw [hc] at h; cases h
      | true =>
        rw [hc] at h
        simp only [cond_true] at h
        simp only [Bool.and_eq_true, Bool.not_eq_true'] at hc
        obtain ⟨c1, c2, c3⟩ := hc
        have ho : B.own = true := by simp [Blk.own, c1]
        obtain ⟨C', R2, o, a1, a2, a3, a4⟩ := r.oth.own b B hB ho
        rw [hm] at a1; cases a1
        cases a4 with
        | map es cl x1 x2 x3 x4 x5 => rw [c2] at x1; cases x1
        | loop L' rec x0 x1 x2 x3 => rw [x1] at c3; cases c3
        | defd x0 x1 x2 x3 =>
          refine ⟨by simp, .inl ⟨C, _, rfl, run_takeDeferred a3, ?_⟩⟩
          exact ih (r.drop hB ho hm (.deferred none)) h hl
    · cases h

noncomputable def retOne (P : Program) (l : List ResultVar) (s : CSt) : Option Out := match shut s.st.H s.marks with
  | some H' => match resL P s.st.T H' l with
    | some vs => some (retVal vs, H', s.st.next)
    | none => none
  | none => none
noncomputable def retAll (P : Program) (l : List ResultVar) : Outs → Option (List Out)
  | [] => some []
  | (.normal, s) :: r => match retOne P l s, retAll P l r with
    | some v, some o => some (v :: o)
    | _, _ => none
  | (.ret, s) :: r => match retOne P l s, retAll P l r with
    | some v, some o => some (v :: o)
    | _, _ => none
  | (.exit _, _) :: _ => none
theorem retAll_mem {P : Program} {l : List ResultVar} : ∀ {os : Outs} {outs : List Out}, retAll P l os = some outs → ∀ x ∈ os, (x.1 = .normal ∨ x.1 = .ret) ∧ ∃ v, retOne P l x.2 = some v ∧ v ∈ outs
  | [], outs, h, x, hx => by simp at hx
  | (.normal, s) :: r, outs, h, x, hx => by
    simp only [retAll] at h
    split at h
    · rename_i v o h1 h2
      cases h
      rcases List.mem_cons.1 hx with rfl | hx
      · exact ⟨.inl rfl, v, h1, by simp⟩
      · obtain ⟨a, v', b, c⟩ := retAll_mem h2 x hx
        exact ⟨a, v', b, by simp [c]⟩
    · cases h
  | (.ret, s) :: r, outs, h, x, hx => by
    simp only [retAll] at h
    split at h
    · rename_i v o h1 h2
      cases h
      rcases List.mem_cons.1 hx with rfl | hx
      · exact ⟨.inr rfl, v, h1, by simp⟩
      · obtain ⟨a, v', b, c⟩ := retAll_mem h2 x hx
        exact ⟨a, v', b, by simp [c]⟩
    · cases h
  | (.exit id, s) :: r, outs, h, x, hx => by simp [retAll] at h

/-! What the library does beside Go's text: the comparison of bytes. -/
def bytesL : List Value → Option (List UInt8)
  | [] => some []
  | .int .u8 n :: r => match bytesL r with
    | some l => some (n.toNat.toUInt8 :: l)
    | none => none
  | _ :: _ => none
noncomputable def bytesA (H : Tr Blk) (v : Value) : Option ByteArray :=
  match v with
  | .slice (some ⟨b, o, none⟩) len _ => match H.at b with
    | some B => bif B.live then (match readL B.cells len o with
        | some vs => match bytesL vs with
          | some l => some ⟨l.toArray⟩
          | none => none
        | none => none) else none
    | none => none
  | _ => none
theorem bytesL_load {P : Program} {w : World} {C : Nat} {c : Array Value} {e : TypeId} (hc : w.heap[C]? = some (.cells c e (0, 0))) : ∀ {vs : List Value} {l : List UInt8} (k : Nat) (acc : ByteArray), bytesL vs = some l → (∀ (j : Nat) (v : Value), vs[j]? = some v → c[k + j]? = some v) →
    (Extern.Bytes.loadBytes ⟨C, k, none⟩ vs.length acc).run P w = .ok ⟨acc.data ++ l.toArray⟩ w
  | [], l, k, acc, h, hv => by simp [bytesL] at h; subst h; simp [Extern.Bytes.loadBytes]
  | .int .u8 n :: r, l, k, acc, h, hv => by
    simp only [bytesL] at h
    split at h
    · rename_i l' hl
      cases h
      have h0 := hv 0 _ rfl
      have hcell : w.cell? ⟨C, k, none⟩ = some (.int .u8 n) := by rw [cell_of hc]; simpa using h0
      have ih := bytesL_load (P := P) hc (k + 1) (acc.push n.toNat.toUInt8) hl (fun j v hj => by have := hv (j + 1) v (by simpa using hj); rwa [show k + (j + 1) = k + 1 + j by omega] at this)
      simp only [List.length_cons, Extern.Bytes.loadBytes, Sem.run_bind, run_load, hcell, Result.andThen_ok, add_at, ih]
      congr 2
      simp [ByteArray.push]
    · cases h
  | .bool _ :: _, _, _, _, h, _ | .float .. :: _, _, _, _, h, _ | .complex .. :: _, _, _, _, h, _ | .string _ :: _, _, _, _, h, _ | .pointer _ :: _, _, _, _, h, _ | .slice .. :: _, _, _, _, h, _ | .map _ :: _, _, _, _, h, _ | .chan _ :: _, _, _, _, h, _
  | .func .. :: _, _, _, _, h, _ | .nilFunc :: _, _, _, _, h, _ | .iface .. :: _, _, _, _, h, _ | .nilIface :: _, _, _, _, h, _ | .agg _ :: _, _, _, _, h, _ | .tuple _ :: _, _, _, _, h, _ => by simp [bytesL] at h
  | .int .i8 _ :: _, _, _, _, h, _ | .int .i16 _ :: _, _, _, _, h, _ | .int .i32 _ :: _, _, _, _, h, _ | .int .i64 _ :: _, _, _, _, h, _ | .int .u16 _ :: _, _, _, _, h, _ | .int .u32 _ :: _, _, _, _, h, _ | .int .u64 _ :: _, _, _, _, h, _ => by simp [bytesL] at h
theorem bytesL_eq {m : Names} : ∀ {vs vs' : List Value} {l : List UInt8}, bytesL vs = some l → VL m vs vs' → vs' = vs
  | [], _, _, _, .nil => rfl
  | x :: xs, _, l, h, .cons hx ht => by
    cases x <;> first | (simp [bytesL] at h; done) | skip
    rename_i k n
    cases k <;> first | (simp [bytesL] at h; done) | skip
    simp only [bytesL] at h
    split at h
    · rename_i l' hl
      cases hx
      rw [bytesL_eq hl ht]
    · cases h
theorem bytesA_ok {P : Program} {w0 : World} {m : Names} {H : Tr Blk} {w : World} {v v' : Value} {x : ByteArray} (r : Rel w0 m H w) (hv : VR m v v') (h : bytesA H v = some x) : (Extern.Bytes.bytesOf v').run P w = .ok x w := by
  unfold bytesA at h
  split at h
  · rename_i b o len cc
    cases hv with
    | slice b o C k len cap cc hm h1 h2 =>
    cases hB : H.at b with
    | none => simp [hB] at h
    | some B =>
    simp only [hB] at h
    cases hl : B.live with
    | false => simp [hl] at h
    | true =>
    simp only [hl, cond_true] at h
    split at h
    · rename_i vs hvs
      split at h
      · rename_i l hbl
        cases h
        obtain ⟨_, _, _, c, a1, a2, a3, a4, a5, a6⟩ := r.blk b B hB hl
        rw [hm] at a1; cases a1
        obtain ⟨o1, vs', l1, l2, l3⟩ := readL_ok a6 hvs
        have e := bytesL_eq hbl l2
        subst e
        have := bytesL_load (P := P) a3 (k + o) .empty hbl (fun j u hj => l3 j u hj)
        rw [l1] at this
        simp only [Extern.Bytes.bytesOf, this]
        simp [ByteArray.empty, ByteArray.emptyWithCapacity]
        try rfl
      · cases h
    · cases h
  · cases h

/-- A comparison of bytes by the library. -/
noncomputable def extOf (args : List Value) (H : Tr Blk) (next : Nat) : Option (List Out) :=
  match args with
  | [a, b] => match bytesA H a, bytesA H b with
    | some x, some y => some [(.int .i64 (Extern.BytealgCompare.cmp x y), H, next)]
    | _, _ => none
  | _ => none
/-- The functions without a Go body that compare bytes. -/
def ExtOk (P : Program) (ext : Nat → Bool) : Prop := ∀ g, ext g = true → ∃ fn, P.funcs[g]? = some fn ∧ (fn.name == "runtime.NumGoroutine") = false ∧ fn.body.isNone = true ∧ Extern.findNext fn = none ∧ Extern.find fn = some Extern.BytealgCompare.compare
theorem ExtOk.none (P : Program) : ExtOk P fun _ => false := by intro g h; cases h

noncomputable def callOf (P : Program) (ext : Nat → Bool) (ih : CodeT) : CallT := fun g args H next =>
  bif !Nat.blt g yieldBase then yieldOf ih (g - yieldBase) args H next else
  match P.funcs[g]? with
  | some fn => match fn.body with
    | some c => bif fn.name == "runtime.NumGoroutine" then none else
      match ih fn.ntmps c ⟨⟨ofL args 0 .nil, H, next⟩, [], none⟩ with
      | some os => retAll P fn.results.toList os
      | none => none
    | none => bif ext g then extOf args H next else none
  | none => none

theorem callOf_ok {P : Program} {ext : Nat → Bool} (hx : ExtOk P ext) {ih : CodeT} (hih : CodeOk P ih) : CallOk P (callOf P ext ih) := by
  intro g args H n outs h
  unfold callOf at h
  cases hlt : Nat.blt g yieldBase with
  | false =>
    rw [hlt] at h
    have hge : ¬ g < yieldBase := fun k => by rw [← Nat.blt_eq] at k; rw [hlt] at k; cases k
    exact .inr (.inr ⟨g - yieldBase, by omega, fun w0 m w args' l R r hv hm => yieldOf_ok hih h r hv hm⟩)
  | true =>
  rw [hlt] at h
  simp only [Bool.not_true, cond_false] at h
  have hlt : g < yieldBase := by simpa [Nat.blt_eq] using hlt
  split at h
  · rename_i fn hf
    split at h
    · rename_i c hb
      cases hn : (fn.name == "runtime.NumGoroutine") with
      | true => rw [hn] at h; cases h
      | false =>
      rw [hn] at h
      simp only [cond_false] at h
      refine .inl ⟨hlt, ⟨fn, c, hf, hn, hb⟩, ?_⟩
      split at h
      · rename_i os hos
        intro w0 m w args' r hv
        refine callsIn_FR.1 (callsIn_of_wp_marks (F := FR none) (n := 0) hf hb trivial ?_)
        have g0 : GoodC none w0 m fn.ntmps ⟨⟨ofL args 0 .nil, H, n⟩, [], none⟩ { tmps := args'.toArray ++ Array.replicate (fn.ntmps - args'.toArray.size) undef, defers := [] } w := by
          refine ⟨m, .refl m, r, ⟨ofL_fine _ _ _ (Tr.fine_nil _), fun i v hi => ?_⟩, by simp; omega, .nil, trivial⟩
          rcases ofL_at _ _ _ (Tr.fine_nil _) i v hi with ⟨_, h2⟩ | ⟨_, h2⟩
          · obtain ⟨y, q1, q2⟩ := hv.get (i := i) (x := v) (by simpa using h2)
            refine ⟨y, ?_, q2⟩
            have hlt := (List.getElem?_eq_some_iff.1 q1).1
            simp only
            rw [Array.getElem?_append_left (by simpa using hlt)]
            simpa using q1
          · unfold Tr.at at h2; simp [Tr.get_nil] at h2
        refine hih _ _ _ _ hos none w0 m _ w _ g0 fun out hout a' w' g' => ?_
        obtain ⟨hxx, v, h1, h2⟩ := retAll_mem h out hout
        obtain ⟨m', s', r', rT', hN', hM', _⟩ := g'
        have done : LeavesInM (FR none) 0 P fn a'.tmps (Comes w0 m outs) a'.defers .returning w' := by
          unfold retOne at h1
          split at h1
          · rename_i H2 hs2
            split at h1
            · rename_i vs hvs
              cases h1
              refine shut_ok hM' r' hs2 fun w2 r2 => ?_
              obtain ⟨vs', v1, v2⟩ := resL_ok rT' r2 hvs
              have hres : (results fn a'.tmps).run P w2 = .ok (if h : vs'.toArray.size = 1 then vs'.toArray[0] else .tuple vs'.toArray) w2 := by
                have hmm : (fn.results.mapM (resOne P a'.tmps)).run P w2 = .ok vs'.toArray w2 := by
                  rw [Array.mapM_eq_mapM_toList, Sem.run_map, v2]; rfl
                unfold results
                have heq : (fun x => match x with | .tmp t => pure (a'.tmps.getD t undef) | .cell a t => (do loadVar t (← asAddr (a'.tmps.getD a undef))) : ResultVar → Sem Value) = resOne P a'.tmps := by
                  funext x; cases x <;> rfl
                rw [Sem.run_bind]
                first | (rw [heq, hmm]; rfl) | (erw [hmm]; rfl)
              exact ⟨_, hres, _, rfl, _, h2, m', s', r2, retVal_ok v1⟩
            · cases h1
          · cases h1
        rcases hxx with hxx | hxx <;> rw [hxx] <;> exact done
      · cases h
    · cases he : ext g with
      | false => rw [he] at h; cases h
      | true =>
        rw [he] at h
        simp only [cond_true] at h
        obtain ⟨fn', e1, e2, e3, e4, e5⟩ := hx g he
        refine .inr (.inl ⟨hlt, fun w0 m w args' r hv => ?_⟩)
        unfold extOf at h
        split at h
        · rename_i a b
          split at h
          · rename_i x y hxa hyb
            cases h
            cases hv with
            | @cons _ y1 _ _ ha ht =>
            cases ht with
            | @cons _ y2 _ _ hb hn =>
            cases hn
            have hcmp : (Extern.BytealgCompare.compare [y1, y2].toArray).run P w = .ok (.int .i64 (Extern.BytealgCompare.cmp x y)) w := by
              change Sem.run P (do pure (goInt (Extern.BytealgCompare.cmp (← Extern.Bytes.bytesOf y1) (← Extern.Bytes.bytesOf y2)))) w = _
              simp [bytesA_ok r ha hxa, bytesA_ok r hb hyb, goInt]
            refine ⟨.int .i64 (Extern.BytealgCompare.cmp x y), ?_, (.int .i64 (Extern.BytealgCompare.cmp x y), H, n), by simp, m, .refl m, r, .int _ _⟩
            rw [run_callFunc_extern e1 e2 e3 e4 e5]
            rw [hcmp]; rfl
          · cases h
        · cases h
  · cases h

noncomputable def evN (P : Program) (ext q : Nat → Bool) : Nat → CodeT
  | 0 => fun _ _ _ => none
  | n + 1 => evStep (callOf P ext (evN P ext q n)) q (evN P ext q n) P
/-- The functions that are said to be quiet are so by their text. -/
noncomputable def quietFn (P : Program) (q : Nat → Bool) (g : Nat) : Bool := Nat.blt g yieldBase && match P.funcs[g]? with
  | some fn => match fn.body with
    | some c => quietCode q c
    | none => true
  | none => true
theorem retAll_inv {P : Program} {l : List ResultVar} : ∀ {os : Outs} {outs : List Out}, retAll P l os = some outs → ∀ y ∈ outs, ∃ x ∈ os, retOne P l x.2 = some y
  | [], outs, h, y, hy => by simp [retAll] at h; subst h; simp at hy
  | (.normal, s) :: r, outs, h, y, hy => by
    simp only [retAll] at h
    split at h
    · rename_i v o h1 h2
      cases h
      rcases List.mem_cons.1 hy with rfl | hy
      · exact ⟨(.normal, s), by simp, h1⟩
      · obtain ⟨x, a, b⟩ := retAll_inv h2 y hy
        exact ⟨x, by simp [a], b⟩
    · cases h
  | (.ret, s) :: r, outs, h, y, hy => by
    simp only [retAll] at h
    split at h
    · rename_i v o h1 h2
      cases h
      rcases List.mem_cons.1 hy with rfl | hy
      · exact ⟨(.ret, s), by simp, h1⟩
      · obtain ⟨x, a, b⟩ := retAll_inv h2 y hy
        exact ⟨x, by simp [a], b⟩
    · cases h
  | (.exit id, s) :: r, outs, h, y, hy => by simp [retAll] at h
theorem retAll_H {P : Program} {l : List ResultVar} {H : Tr Blk} {os : Outs} {outs : List Out} (hH : ∀ x ∈ os, x.2.st.H = H ∧ x.2.marks = []) (h : retAll P l os = some outs) : ∀ y ∈ outs, y.2.1 = H := by
  intro y hy
  obtain ⟨x, hx, h1⟩ := retAll_inv h y hy
  obtain ⟨e1, e2⟩ := hH x hx
  unfold retOne at h1
  rw [e2, e1] at h1
  simp only [shut] at h1
  split at h1
  · cases h1; rfl
  · cases h1
theorem callOf_H {P : Program} {ext q : Nat → Bool} (hqf : ∀ g, q g = true → quietFn P q g = true) {ih : CodeT} (hih : QuietIh q ih) : QuietOk (callOf P ext ih) q := by
  intro g hg args H n outs h x hx
  have hb := hqf g hg
  unfold quietFn at hb
  unfold callOf at h
  cases hlt : Nat.blt g yieldBase with
  | false => rw [hlt] at hb; cases hb
  | true =>
  rw [hlt] at h hb
  simp only [Bool.true_and] at hb
  simp only [Bool.not_true, cond_false] at h
  split at h
  · rename_i fn hf
    simp only [hf] at hb
    split at h
    · rename_i c hc
      simp only [hc] at hb
      cases hn : (fn.name == "runtime.NumGoroutine") with
      | true => rw [hn] at h; cases h
      | false =>
        rw [hn] at h
        simp only [cond_false] at h
        split at h
        · rename_i os hos
          exact retAll_H (hih _ _ _ _ hb hos) h x hx
        · cases h
    · cases he : ext g with
      | false => rw [he] at h; cases h
      | true =>
        rw [he] at h
        simp only [cond_true] at h
        unfold extOf at h
        split at h
        · split at h
          · cases h; simp at hx; subst hx; rfl
          · cases h
        · cases h
  · cases h
theorem evN_H {P : Program} {ext q : Nat → Bool} (hqf : ∀ g, q g = true → quietFn P q g = true) : ∀ n, QuietIh q (evN P ext q n)
  | 0 => by intro N c st outs _ h; simp [evN] at h
  | n + 1 => evStep_H (callOf_H hqf (evN_H hqf n)) (evN_H hqf n)
theorem evN_ok {P : Program} (hm : P.follows .mixedOrders = true) {ext q : Nat → Bool} (hx : ExtOk P ext) (hqf : ∀ g, q g = true → quietFn P q g = true) : ∀ n, CodeOk P (evN P ext q n)
  | 0 => by intro N c st outs h; simp [evN] at h
  | n + 1 => evStep_ok hm (callOf_H hqf (evN_H hqf n)) (callOf_ok hx (evN_ok hm hx hqf n)) (evN_ok hm hx hqf n)
/-- The quiet functions, as a list. -/
def listQ (l : List Nat) (g : Nat) : Bool := l.any fun k => Nat.beq k g
theorem listQ_ok {P : Program} {l : List Nat} (h : l.all (quietFn P (listQ l)) = true) : ∀ g, listQ l g = true → quietFn P (listQ l) g = true := by
  intro g hg
  unfold listQ at hg
  rw [List.any_eq_true] at hg
  obtain ⟨k, hk, he⟩ := hg
  have := Nat.eq_of_beq_eq_true he
  subst this
  rw [List.all_eq_true] at h
  exact h k hk

def isTrue : Out → Bool
  | (.bool true, _, _) => true
  | _ => false
def allTrue : Option (List Out) → Bool
  | some l => l.all isTrue
  | none => false
theorem VL.plain {m : Names} : ∀ {l : List Value}, l.all plain2 = true → VL m l l
  | [], _ => .nil
  | v :: r, h => by
    simp only [List.all_cons, Bool.and_eq_true] at h
    exact .cons (VR.of2 h.1) (VL.plain h.2)
/-- A call at plain arguments that the run finds true. -/
theorem closed_true {P : Program} (hm : P.follows .mixedOrders = true) {ext q : Nat → Bool} (hx : ExtOk P ext) (hqf : ∀ g, q g = true → quietFn P q g = true) {f n : Nat} {args : List Value} (ha : args.all plain2 = true) (h : allTrue (callOf P ext (evN P ext q n) f args .nil 0) = true) (hent : Enters P f) (w : World) (hlt : Nat.blt f yieldBase = true := by kernel_rfl) :
    Calls P f args.toArray w fun e w' => e = .returned (.bool true) ∧ Below w.heap.size w w' := by
  cases hc : callOf P ext (evN P ext q n) f args .nil 0 with
  | none => rw [hc] at h; cases h
  | some outs =>
    rw [hc] at h
    have r : Rel w (fun _ => none) .nil w := by
      refine ⟨.refl _ _, Tr.fine_nil _, fun b x hx => (by cases hx), fun b B hB => ?_, fun b b' B B' C k R C' k' R' hB => ?_, ⟨fun b B hB => ?_, fun b b' B B' C k R C' k' R' hB => ?_⟩⟩
      all_goals (unfold Tr.at at hB; simp [Tr.get_nil] at hB)
    rcases callOf_ok hx (evN_ok hm hx hqf n) _ _ _ _ _ hc with ⟨_, _, hcall⟩ | ⟨_, hext⟩ | ⟨b, hb, _⟩
    · refine (hcall w (fun _ => none) w args r (VL.plain ha)).mono ?_
      rintro e w' ⟨v', rfl, out, hout, m', hs, r', hv⟩
      simp only [allTrue, List.all_eq_true] at h
      have := h out hout
      obtain ⟨v, H, k⟩ := out
      unfold isTrue at this
      split at this
      · rename_i H' k' e
        cases e
        cases hv
        exact ⟨rfl, r'.bel⟩
      · cases this
    · obtain ⟨v', hrun, _⟩ := hext w (fun _ => none) w args r (VL.plain ha)
      obtain ⟨fn, cc, e1, e2, e3⟩ := hent
      have e2' : fn.name ≠ "runtime.NumGoroutine" := by simpa using e2
      simp [callFunc, e1, e2', e3] at hrun
    · rw [Nat.blt_eq] at hlt; omega

end Go.Proofs.Ytmdhmpfagekonaa.Ev
