/- A run of closed code: operations on memory. -/
import Derived.Test.YtmdhmpfagekonaaEV6
import Derived.Great.BuildSlice
namespace Go.Proofs.Ytmdhmpfagekonaa.Ev
open Go.RowKit
set_option linter.unusedVariables false
set_option linter.unusedSimpArgs false

/-- What an operation on memory comes to. -/
noncomputable def Does (P : Program) (w0 : World) (m : Names) (s : Sem Next) (w : World) (v : Value) (H' : Tr Blk) : Prop :=
  ∃ m' w' v', Sub m m' ∧ Rel w0 m' H' w' ∧ VR m' v v' ∧ (s.run P w = .ok (.value v') w' ∨ (s.run P w = .ok .skip w' ∧ v' = undef))

/-! Load. -/
noncomputable def loadA (P : Program) (ev : Operand → Option Value) (H : Tr Blk) (t : TypeId) (x : Operand) : Option Value :=
  match ev x with
  | some (.pointer (some ⟨b, o, none⟩)) => match H.at b with
    | some B => bif B.live && Nat.blt b 4096 then
        match aggT P t, sizeT P t with
        | some true, some n => match readL B.cells n o with
          | some vs => some (.agg vs.toArray)
          | none => none
        | some false, _ => B.cells.at o
        | _, _ => none
      else none
    | none => none
  | _ => none
theorem loadA_ok {P : Program} {w0 : World} {m : Names} {ev : Operand → Option Value} {ρ : Operand → Value} {H : Tr Blk} {w : World} {o : Oper} {t : TypeId} {x : Operand} {v : Value} (ho : o.op = .load t x) (he : Evs m ev ρ) (r : Rel w0 m H w)
    (h : loadA P ev H t x = some v) : ∃ v', (execOp ρ o).run P w = .ok (.value v') w ∧ VR m v v' := by
  unfold loadA at h
  split at h
  · rename_i b off hx
    have hv := he x _ hx
    generalize hr : ρ x = rx at hv
    cases hv with
    | ptr b o C k hm =>
      cases hB : H.at b with
      | none => simp [hB] at h
      | some B =>
        simp only [hB] at h
        cases hlb : (B.live && Nat.blt b 4096) with
        | false => rw [hlb] at h; cases h
        | true =>
          rw [hlb] at h
          simp only [cond_true] at h
          simp only [Bool.and_eq_true] at hlb
          have hl := hlb.1
          obtain ⟨C', k', R', c, a1, a2, a3, a4, a5, a6⟩ := r.blk b B hB hl
          rw [hm] at a1; cases a1
          split at h
          · rename_i n ha hs
            split at h
            · rename_i vs hvs
              cases h
              obtain ⟨_, vs', l1, l2, l3⟩ := readL_ok a6 hvs
              refine ⟨.agg vs'.toArray, ?_, .agg _ _ l2.to.1 l2.to.2⟩
              have hld := run_loadCells_list (P := P) w ⟨C, k + off, none⟩ vs' (fun j u hj => by rw [add_at, cell_of a3]; exact l3 j u hj)
              rw [l1] at hld
              simp [execOp, ho, hr, Instr.loadAt, Instr.sureAddr, loadVar, aggT_ok ha, sizeT_ok hs, hld]
            · cases h
          · rename_i ha
            obtain ⟨v', q1, q2, q3⟩ := a6 off v h
            refine ⟨v', ?_, q2⟩
            have hc : w.cell? ⟨C, k + off, none⟩ = some v' := by rw [cell_of a3]; exact q1
            simp [execOp, ho, hr, Instr.loadAt, Instr.sureAddr, loadVar, aggT_ok ha, hc]
          · cases h
  · cases h

/-! New blocks. -/
/-- The value at a new name, the element's type, and the cells. -/
structure New where
  len : Option (Nat × Nat)
  elem : TypeId
  cells : List Value
noncomputable def New.val (n : New) (id : Nat) : Value := match n.len with
  | none => .pointer (some ⟨id, 0, none⟩)
  | some (l, c) => .slice (some ⟨id, 0, none⟩) l (2 * c + 1)
noncomputable def okNew (n : New) : Bool := n.cells.all oneA && (match n.len with | none => true | some (l, c) => Nat.ble l c)

noncomputable def zerosA (P : Program) (e : TypeId) (n : Nat) : Option (Array Value) :=
  bif Nat.beq n 0 then some #[] else match zeroT P e with
    | some z => bif Nat.beq z.size 0 then none else some ((Array.range n).map (z[· % z.size]!))
    | none => none
noncomputable def newA (P : Program) (ev : Operand → Option Value) (o : Oper) : Option New :=
  match o.op with
  | .alloc e => match zeroT P e with
    | some cs => some ⟨none, e, cs.toList⟩
    | none => none
  | .box e x => match ev x with
    | some v => some ⟨none, e, v.cells.toList⟩
    | none => none
  | .buildSlice t len parts => match P.underlying t with
    | some (.slice e) => match sizeT P e, evParts ev parts.toList with
      | some s, some ps => bif Nat.ble (len * s) 4096 then match zerosA P e (len * s) with
          | some z => match Instr.fill (fun i => some (i * s, s)) z ps with
            | some cs => some ⟨some (len, len), e, cs.toList⟩
            | none => none
          | none => none
        else none
      | _, _ => none
    | _ => none
  | .makeSlice t l c => match P.underlying t, ev l, ev c with
    | some (.slice e), some lv, some cv => match natA lv, natA cv, P.info? e, zeroT P e with
      | some l, some c, some i, some z => bif Nat.ble l c && Nat.ble (c * i.size) 4096 && Nat.ble c 4096 && Nat.ble i.bytes 65536 && !Nat.beq z.size 0 then some ⟨some (l, c), e, ((Array.range (c * i.size)).map (z[· % z.size]!)).toList⟩ else none
      | _, _, _, _ => none
    | _, _, _ => none
  | _ => none

theorem zeros_plain {z : Array Value} (hz : z.toList.all plain1 = true) (n : Nat) (hs : n = 0 ∨ z.size ≠ 0) : ((Array.range n).map (z[· % z.size]!)).toList.all plain1 = true := by
  rw [List.all_eq_true] at *
  intro x hx
  simp only [Array.toList_map, List.mem_map] at hx
  obtain ⟨i, hi, rfl⟩ := hx
  rcases hs with rfl | hs
  · simp at hi
  · have hlt : i % z.size < z.size := Nat.mod_lt _ (by omega)
    refine hz _ ?_
    rw [getElem!_pos z (i % z.size) hlt]
    exact Array.getElem_mem_toList hlt

theorem newA_ok {P : Program} {m : Names} {ev : Operand → Option Value} {ρ : Operand → Value} {w : World} {o : Oper} {n : New} (he : Evs m ev ρ) (h : newA P ev o = some n) (hk : okNew n = true) :
    ∃ vs', VL m n.cells vs' ∧ (execOp ρ o).run P w = .ok (.value (match n.len with | none => .pointer (some ⟨w.heap.size, 0, none⟩) | some (l, c) => .slice (some ⟨w.heap.size, 0, none⟩) l c)) (w.alloc (.cells vs'.toArray n.elem)) := by
  unfold newA at h
  split at h
  · rename_i e ho
    cases hz : zeroT P e with
    | none => simp [hz] at h
    | some cs =>
      simp only [hz, Option.some.injEq] at h
      subst h
      obtain ⟨hp, z, hzc, hzr⟩ := zeroT_ok hz
      refine ⟨cs.toList, (VRs.refl_of hp).toVL, ?_⟩
      simp [execOp, ho, Instr.alloc, hzr, newVar, newRow, hzc]
  · rename_i e x ho
    cases hx : ev x with
    | none => simp [hx] at h
    | some v =>
      simp only [hx, Option.some.injEq] at h
      subst h
      refine ⟨(ρ x).cells.toList, (he x v hx).cells.toVL, ?_⟩
      simp [execOp, ho, Instr.box, newVar, newRow]
  · rename_i t len parts ho
    split at h
    · rename_i e hu
      split at h
      · rename_i s ps hs hps
        cases hb : Nat.ble (len * s) 4096 with
        | false => simp [hb] at h
        | true =>
          simp only [hb, cond_true] at h
          split at h
          · rename_i z hz
            split at h
            · rename_i cs hf
              cases h
              have hsm : len * s ≤ 4096 := by simpa [Nat.ble_eq] using hb
              have hbig : ¬ (len * s > 2 ^ 24) := by omega
              unfold zerosA at hz
              cases h0 : Nat.beq (len * s) 0 with
              | true =>
                simp only [h0, cond_true, Option.some.injEq] at hz
                subst hz
                have h00 : len * s = 0 := Nat.eq_of_beq_eq_true h0
                obtain ⟨out', hf', hv⟩ := fill_ok (m := m) (cs' := #[]) (evParts_ok he hps) (VRs.refl_of rfl) hf
                refine ⟨out'.toList, hv.toVL, ?_⟩
                have e0 : (Array.range (len * s)).map ((#[] : Array Value)[· % (#[] : Array Value).size]!) = #[] := by rw [h00]; simp [Array.range_zero']
                simp only [execOp, ho, Instr.buildSlice, Sem.run_bind, run_underlying hu, Result.andThen_ok, sizeT_ok hs, Sem.run_ite, if_neg hbig, Sem.run_pure, h00, if_true, parts_list]
                rw [h00] at e0
                have hf2 : Instr.fill (fun i => some (i * s, s)) ((Array.range 0).map ((#[] : Array Value)[· % (#[] : Array Value).size]!)) (parts.toList.map fun (i, x) => (i, ρ x)) = some out' := by rw [e0]; exact hf'
                simp only [hf2]
                simp [newRow]
              | false =>
                simp only [h0, cond_false] at hz
                have h00 : ¬ len * s = 0 := Nat.ne_of_beq_eq_false h0
                cases hzt : zeroT P e with
                | none => simp [hzt] at hz
                | some z0 =>
                  simp only [hzt] at hz
                  cases hze : Nat.beq z0.size 0 with
                  | true => simp [hze] at hz
                  | false =>
                  simp only [hze, cond_false, Option.some.injEq] at hz
                  subst hz
                  obtain ⟨hp, zz, hzc, hzr⟩ := zeroT_ok hzt
                  have hz0 : z0.size ≠ 0 := Nat.ne_of_beq_eq_false hze
                  obtain ⟨out', hf', hv⟩ := fill_ok (m := m) (evParts_ok he hps) (VRs.refl_of (zeros_plain hp (len * s) (.inr hz0))) hf
                  refine ⟨out'.toList, hv.toVL, ?_⟩
                  simp only [execOp, ho, Instr.buildSlice, Sem.run_bind, run_underlying hu, Result.andThen_ok, sizeT_ok hs, Sem.run_ite, if_neg hbig, if_neg h00, hzr, Sem.run_pure, hzc, parts_list, hf']
                  simp [newRow]
            · cases h
          · cases h
      · cases h
    · cases h
  · rename_i t l c ho
    split at h
    · rename_i e lv cv hu hl hc
      split at h
      · rename_i ln cn i z hln hcn hi hz
        cases hb : (Nat.ble ln cn && Nat.ble (cn * i.size) 4096 && Nat.ble cn 4096 && Nat.ble i.bytes 65536 && !Nat.beq z.size 0) with
        | false => simp [hb] at h
        | true =>
          simp only [hb, cond_true, Option.some.injEq] at h
          subst h
          simp only [Bool.and_eq_true, Nat.ble_eq, Bool.not_eq_true'] at hb
          obtain ⟨⟨⟨⟨b1, b2⟩, b3⟩, b4⟩, b5⟩ := hb
          have hz0 : z.size ≠ 0 := Nat.ne_of_beq_eq_false b5
          obtain ⟨k1, hk1⟩ := natA_ok hln (he l lv hl)
          obtain ⟨k2, hk2⟩ := natA_ok hcn (he c cv hc)
          obtain ⟨hp, zz, hzc, hzr⟩ := zeroT_ok hz
          have hzz : i.zero = some zz := by
            have := hzr default
            simp only [zeroValue, typeInfo, Sem.run_bind, run_program, Result.andThen_ok, hi, Sem.run_pure] at this
            cases hz1 : i.zero with
            | none => simp [hz1] at this
            | some q => simp [hz1] at this; rw [this]
          have hbytes : (i.bytes : Int) * (cn : Int) ≤ 281474976710656 := by
            have : i.bytes * cn ≤ 65536 * 4096 := Nat.mul_le_mul b4 b3
            have h3 : ((i.bytes * cn : Nat) : Int) ≤ ((65536 * 4096 : Nat) : Int) := by exact_mod_cast this
            rw [Int.natCast_mul] at h3
            omega
          have hmk := run_make (P := P) w t e i zz hu hi hzz k1 k2 (ln : Int) (cn : Int) (by omega) (by omega) hbytes (by omega)
          refine ⟨((Array.range (cn * i.size)).map (z[· % z.size]!)).toList, ?_, ?_⟩
          · exact (VRs.refl_of (zeros_plain hp _ (.inr hz0))).toVL
          · simp only [execOp, ho, hk1, hk2, Sem.run_bind, hmk, Result.andThen_ok, hzc, madeCells, Int.toNat_natCast, Sem.run_pure, Array.toArray_toList]
      · cases h
    · cases h
  · cases h

end Go.Proofs.Ytmdhmpfagekonaa.Ev
