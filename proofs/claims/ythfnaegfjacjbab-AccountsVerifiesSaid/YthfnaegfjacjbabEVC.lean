/- Two calls beside the machine: attempt (a deferred recover that finds nothing) and maps.Clone. -/
import Derived.Test.YthfnaegfjacjbabEV16
import Derived.Test.YthfnaegfjacjbabProg
import Derived.Defers
import Derived.Recover
import Derived.Shelf.SlMaps.Clone
namespace Go.Proofs.Ythfnaegfjacjbab
open Go.RowKit
set_option linter.unusedVariables false
set_option linter.unusedSimpArgs false

/-- The deferred function, while nothing panics. -/
theorem att_idle (p : Addr) (w : World) :
    CallsD Try.prog 98 #[.pointer (some p)] .returning w fun e u' w' => e = .returned (.tuple #[]) ∧ u' = .returning ∧ w' = w := by
  refine callsD_of_wpS Try.func98 rfl fun c₀ cs hu => ?_
  apply wpS_seq
  apply wpS_region
  simp [wpOpsS, go_sem, recoverD, hu, Try.ntmps98, Exit.thenS]
  have hq : ∀ w, (Go.binOp .eql 20 .nilIface .nilIface).run Try.prog w = .ok (.bool true) w := fun w => by
    have hm : Op.maxDepth = (Op.maxDepth - 1) + 1 := by decide
    unfold Go.binOp Op.equal
    rw [hm]
    simp [Op.equalIn, run_underlying Try.underlying20]
  refine wpS_of_wp ?_
  simp [Array.replicate]
  go_wp2
  cases c₀
  simp_all [bodyPostS, results, Try.results98]

set_option maxRecDepth 100000 in
theorem att_any (g : Nat) (he : Ev.Enters Try.prog g) (c1 c2 : Array Value) (w : World) (R : Ending → World → Prop)
    (h : Calls Try.prog g (c1 ++ #[] ++ c2) (w.alloc (.cells #[.int .i64 0] 24)) fun e w' => ∃ v, e = .returned v ∧ (∃ x, w'.cell? ⟨w.heap.size, 0, none⟩ = some x) ∧ w'.frozen? ⟨w.heap.size, 0, none⟩ = false ∧ R (.returned (.tuple #[v, .int .i64 0])) (w'.setCell ⟨w.heap.size, 0, none⟩ (.int .i64 0))) :
    Calls Try.prog 60 #[.func (.func g) c1 c2] w R := by
  have hmf : ∀ (fn : Fn) (first cap : Array Value) (w : World), (Instr.makeFunc fn first cap).run Try.prog w = .ok (.func fn first cap) w := fun _ _ _ _ => rfl
  go_enter_defers Try.func60, Try.ntmps60
  go_wp2
  obtain ⟨fn, cc, e1, e2, e3⟩ := he
  have e2' : fn.name ≠ "runtime.NumGoroutine" := by simpa using e2
  have hr : ∀ args w, (callFunc g args).run Try.prog w = .ok (.enter g args) w := fun args w => by simp [callFunc, e1, e2', e3]
  rw [hr]
  simp only [Oper.upon]
  rw [Array.append_empty] at h
  refine h.mono ?_
  rintro e w' ⟨v, rfl, ⟨x, hc⟩, hz, hR⟩
  dsimp only
  go_wp2
  refine leaves_cons (f := 98) (args := #[.pointer (some ⟨w.heap.size, 0, none⟩)]) (by simp) (by simp [go_sem]) ?_
  refine (att_idle ⟨w.heap.size, 0, none⟩ _).mono ?_
  rintro e u' w'' ⟨rfl, rfl, rfl⟩
  simp [Leaves, settle, results, Try.results60, go_sem, hc]
  exact hR

set_option maxRecDepth 100000 in
theorem clone_any (b : Nat) (es : Array MapEntry) (clock : Nat) (w : World) (hb : w.heap[b]? = some (.map es clock)) :
    Calls Try.prog 79 #[.map (some b)] w fun e w' => e = .returned (.map (some w.heap.size)) ∧ w' = w.alloc (.map es clock) := by
  have hq := fun w => run_eql_map_nil_sl (P := Try.prog) w 56 _ _ (some b) Try.underlying56
  go_enter Try.func79, Try.ntmps79
  go_wp2
  rw [run_callFunc_extern Try.func110 (by kernel_rfl) (by kernel_rfl) (by kernel_rfl) (e := Extern.MapsClone.clone) (by kernel_rfl), run_maps_clone_sl w _ hb]
  simp only [Result.andThen]
  rw [Oper.upon_value]
  go_wp2
  rw [run_typeAssert_map_sl _ 56 _ _ _ _ Try.underlying56]
  simp only [Result.andThen]
  rw [Oper.upon_value]
  go_wp2
  go_ret
  exact ⟨rfl, rfl⟩

namespace Ev
/-- A map's copy. -/
theorem Rel.allocCopy {w0 : World} {m : Names} {H : Tr Blk} {w : World} (r : Rel w0 m H w) {id : Nat} (hf : H.at id = none) (hi : id < 2 ^ deep) {b : Nat} {B : Blk} (hB : H.at b = some B) (hp : B.mp = true) {es : Array MapEntry} {cl : Nat}
    (h1 : B.live = false) (h2 : Tr.fine 9 B.cells) (h3 : B.n ≤ 200) (h4 : MapAt m B es) :
    Sub m (named m id w.heap.size 0 0) ∧ Rel w0 (named m id w.heap.size 0 0) (H.put id B) (w.alloc (.map es cl)) := by
  have hs := named_sub (C := w.heap.size) (k := 0) (R := 0) (r.fresh hf)
  refine ⟨hs, r.bel.alloc r.bel.size _, Tr.put_fine _ _ r.fine, ?_, ?_, ?_, ?_⟩
  · intro b x hx
    by_cases hb : b = id
    · subst hb; exact ⟨hi, _, Tr.at_put _ _ _⟩
    · rw [named_ne hb] at hx
      obtain ⟨hlt, B, hB⟩ := r.dom b x hx
      exact ⟨hlt, B, by rw [Tr.at_put_ne r.fine (Ne.symm hb) hi hlt]; exact hB⟩
  · intro b' B' hB' hl
    rcases Tr.at_put_some r.fine hB' with ⟨rfl, rfl⟩ | ⟨hne, hB'⟩
    · rw [h1] at hl; cases hl
    · obtain ⟨C, k, R, c', a1, a2, a3, a4, a5, a6⟩ := r.blk b' B' hB' hl
      have hlt := r.old hB' hl a1
      refine ⟨C, k, R, c', hs _ _ a1, a2, by rw [Below.heap_alloc _ _ _ hlt]; exact a3, a4, a5, fun i v hv => ?_⟩
      obtain ⟨v', x, y, z⟩ := a6 i v hv
      exact ⟨v', x, y.mono hs, z⟩
  · intro x y Bx By C k R C' k' R' hx hy hl hl' hne hm hm'
    rcases Tr.at_put_some r.fine hx with ⟨rfl, rfl⟩ | ⟨n1, hx⟩
    · rw [h1] at hl; cases hl
    · rcases Tr.at_put_some r.fine hy with ⟨rfl, rfl⟩ | ⟨n2, hy⟩
      · rw [h1] at hl'; cases hl'
      · rw [named_ne (Ne.symm n1)] at hm
        rw [named_ne (Ne.symm n2)] at hm'
        exact r.inj x y Bx By C k R C' k' R' hx hy hl hl' hne hm hm'
  · refine r.oth.upd hs (b := id) (B := B) (C := w.heap.size) (named_id _ _ _ _ _) r.bel.size (show (w.heap.push _)[w.heap.size]? = some (.map es cl) by simp) (.map es cl hp h1 h2 h3 (h4.mono hs))
      (fun B' hB' => ?_) (fun b' B' hne hB' ho => ?_) (fun C' x hne hx _ => ?_) (fun b' B' C' k' R' hne hB' ho hm => ?_)
    · rcases Tr.at_put_some r.fine hB' with ⟨_, h⟩ | ⟨h, _⟩
      · exact h
      · exact absurd rfl h
    · rcases Tr.at_put_some r.fine hB' with ⟨e, _⟩ | ⟨_, h⟩
      · exact absurd e.symm hne
      · exact h
    · rw [Below.heap_alloc _ _ _ (Array.getElem?_eq_some_iff.1 hx).1]; exact hx
    · have := r.oldo hB' ho hm; omega

noncomputable def copyMap (H : Tr Blk) (b n : Nat) : Option (Tr Blk) := match H.at b, H.at n with
  | some B, none => bif B.mp && Nat.blt n 4096 then some (H.put n B) else none
  | _, _ => none
theorem copyMap_inv {H H' : Tr Blk} {b n : Nat} (h : copyMap H b n = some H') : ∃ B, H.at b = some B ∧ H.at n = none ∧ B.mp = true ∧ n < 4096 ∧ H' = H.put n B := by
  unfold copyMap at h
  split at h
  · rename_i B hB hn
    cases hc : (B.mp && Nat.blt n 4096) with
    | false => rw [hc] at h; cases h
    | true =>
      rw [hc] at h
      cases h
      simp only [Bool.and_eq_true, Nat.blt_eq] at hc
      exact ⟨B, hB, hn, hc.1, hc.2, rfl⟩
  · cases h
/-- A piece: maps.Clone. -/
theorem clone_entry {q : Nat → Bool} (hq : q 79 = false) {b n : Nat} {H H' : Tr Blk} (h : copyMap H b n = some H') :
    EntryOk Try.prog q ⟨79, [.map (some b)], H, n, [(.map (some n), H', n + 1)]⟩ := by
  obtain ⟨B, hB, hf, hp, hn, rfl⟩ := copyMap_inv h
  refine ⟨.inl ⟨(show 79 < yieldBase by decide), ⟨_, _, Try.func79, by kernel_rfl, rfl⟩, fun w0 m w args' r hv => ?_⟩, fun e => by rw [hq] at e; cases e⟩
  cases hv with
  | cons h1 h2 =>
  cases h2
  cases h1 with
  | mapr b C hmb =>
  obtain ⟨x1, x2, x3, C', R', es, cl, a1, a2, a3, a4⟩ := r.mps b B hB hp
  rw [hmb] at a1; cases a1
  refine (clone_any C es cl w a3).mono ?_
  rintro e w' ⟨rfl, rfl⟩
  obtain ⟨s, r'⟩ := Rel.allocCopy r (cl := cl) hf (by show n < 4096; exact hn) hB hp x1 x2 x3 a4
  exact ⟨_, rfl, _, List.mem_singleton.2 rfl, _, s, r', .mapr n _ (named_id _ _ _ _ _)⟩

/-- The two operands of the store of no error. -/
noncomputable def attEv (n : Nat) : Operand → Option Value := fun x => match x with
  | .tmp 0 => some (.pointer (some ⟨n, 0, none⟩))
  | .tmp 1 => some (.int .i64 0)
  | _ => none
noncomputable def attTo (C : Nat) : Operand → Value := fun x => match x with
  | .tmp 0 => .pointer (some ⟨C, 0, none⟩)
  | _ => .int .i64 0
theorem attEv_ok {m : Names} {n C R : Nat} (h : m n = some (C, 0, R)) : Evs m (attEv n) (attTo C) := by
  intro x v hx
  unfold attEv at hx
  split at hx
  · cases hx
    have := VR.ptr (m := m) n 0 C 0 h
    simpa [attTo] using this
  · cases hx; exact .int _ _
  · cases hx
noncomputable def attIn (H : Tr Blk) (n : Nat) : Tr Blk := H.put n (newBlk 24 [.int .i64 0])
noncomputable def attOut (H : Tr Blk) (n : Nat) : Option (Tr Blk) := storeA Try.prog (attEv n) H 24 (.tmp 0) (.tmp 1)
theorem storeA_blk {P : Program} {ev : Operand → Option Value} {H H' : Tr Blk} {t : TypeId} {a x : Operand} {b o : Nat} (ha : ev a = some (.pointer (some ⟨b, o, none⟩))) {v : Value} (hx : ev x = some v) (h1 : v.cells.size = 1) (h : storeA P ev H t a x = some H') : ∃ B, H.at b = some B ∧ B.live = true ∧ o + 1 ≤ B.n := by
  unfold storeA at h
  rw [ha, hx] at h
  split at h
  · rename_i b' o' v' n e1 e2 hn
    cases e1; cases e2
    split at h
    · rename_i B hB
      cases hc : (B.live && Nat.beq v.cells.size n && Nat.ble (o + v.cells.size) B.n && v.cells.toList.all oneA && Nat.blt b 4096) with
      | false => rw [hc] at h; cases h
      | true =>
        simp only [Bool.and_eq_true] at hc
        exact ⟨B, hB, hc.1.1.1.1, by have := Nat.le_of_ble_eq_true hc.1.1.2; omega⟩
    · cases h
  · cases h

/-- A piece: a call of attempt, by the piece of the call that it makes. -/
theorem att_entry {q : Nat → Bool} (hq : q 60 = false) {E : Entry} (e : EntryOk Try.prog q E) {g n n2 : Nat} {c1 c2 : Array Value} {H H2 H3 : Tr Blk} {v : Value}
    (hg : Enters Try.prog g) (hlt : Nat.blt g yieldBase = true) (hf : E.fits g (c1.toList ++ c2.toList) (attIn H n) (n + 1) = true) (ho : comesTo (some E.outs) (v, H2, n2) = true)
    (hn : (H.at n).isNone = true) (hb : Nat.blt n 4096 = true) (hs : attOut H2 n = some H3) :
    EntryOk Try.prog q ⟨60, [.func (.func g) c1 c2], H, n, [(.tuple #[v, .int .i64 0], H3, n2)]⟩ := by
  have hn' : H.at n = none := by simpa using hn
  rw [Nat.blt_eq] at hb hlt
  obtain ⟨E1, E2, E3, E4⟩ := Entry.fits_ok hf
  have hcall : ∀ w0 m w args', Rel w0 m (attIn H n) w → VL m (c1.toList ++ c2.toList) args' → Calls Try.prog g args'.toArray w (Comes w0 m E.outs) := by
    have := e.1
    rw [E1, E3, E4] at this
    rcases this with ⟨_, _, h⟩ | ⟨_, h⟩ | ⟨b, h, _⟩
    · exact h
    · intro w0 m w args' r hv
      exfalso
      obtain ⟨v', hrun, _⟩ := h w0 m w args' r hv
      obtain ⟨fn, cc, e1, e2, e3⟩ := hg
      have e2' : fn.name ≠ "runtime.NumGoroutine" := by simpa using e2
      simp [callFunc, e1, e2', e3] at hrun
    · omega
  have hone : ∀ x ∈ E.outs, x = (v, H2, n2) := by
    cases hE : E.outs with
    | nil => rw [hE] at ho; cases ho
    | cons y l => rw [hE] at ho; exact allOne_ok (l := y :: l) ho
  refine ⟨.inl ⟨(show 60 < yieldBase by decide), ⟨_, _, Try.func60, by kernel_rfl, rfl⟩, fun w0 m w args' r hv => ?_⟩, fun e => by rw [hq] at e; cases e⟩
  cases hv with
  | cons h1 h2 =>
  cases h2
  cases h1 with
  | func fn hfn xs ys us vs hs1 hh hs2 hh' =>
  obtain ⟨s1, r1⟩ := r.alloc hn' 24 (vs := [.int .i64 0]) #[.int .i64 0] (by simp) (fun i u hu => by
    match i, hu with
    | 0, hu => simp at hu; subst hu; exact ⟨_, rfl, .int _ _⟩) (by show n < 4096; exact hb) (by rfl)
  have v1 : VL m c1.toList ys.toList := VRs.toVL ⟨hs1, hh⟩
  have v3 : VL m c2.toList vs.toList := VRs.toVL ⟨hs2, hh'⟩
  refine att_any g hg ys vs w _ ?_
  have hc := hcall w0 _ _ _ r1 ((v1.append v3).mono s1)
  have earr : (ys.toList ++ vs.toList).toArray = ys ++ #[] ++ vs := by apply Array.ext'; simp
  rw [earr] at hc
  refine hc.mono ?_
  rintro e w' ⟨v', rfl, out, hout, m', s2, r2, hvr⟩
  rw [hone out hout] at r2 hvr
  obtain ⟨B, hB, hl, hB1⟩ := storeA_blk (a := .tmp 0) (x := .tmp 1) (b := n) (o := 0) rfl (v := .int .i64 0) rfl rfl hs
  obtain ⟨C, k, R, c, a1, a2, a3, a4, a5, a6⟩ := r2.blk n B hB hl
  have hm2 := s2 n _ (named_id m n w.heap.size 0 _)
  rw [hm2] at a1; cases a1
  obtain ⟨w'', hrun, r3⟩ := storeA_ok (o := { dst := none, op := .store 24 (.tmp 0) (.tmp 1), type := 0, pos := "", after := #[], guard := none }) rfl (attEv_ok hm2) r2 hs
  have hcz : 0 < c.size := by have := a5.1; have := a5.2; omega
  have hcell : w'.cell? ⟨w.heap.size, 0, none⟩ = some c[0] := by rw [cell_of a3]; simp [hcz]
  have hfz : w'.frozen? ⟨w.heap.size, 0, none⟩ = false := by simp [World.frozen?, a3]
  refine ⟨v', rfl, ⟨_, hcell⟩, hfz, ?_⟩
  have hw : w'' = w'.setCell ⟨w.heap.size, 0, none⟩ (.int .i64 0) := by
    simp [execOp, attTo, go_sem, hcell, hfz] at hrun
    exact hrun.symm
  rw [← hw]
  have := (VL.cons hvr (VL.cons (VR.int .i64 0) .nil)).to
  exact ⟨_, rfl, _, List.mem_singleton.2 rfl, m', s1.trans s2, r3, .tuple _ _ this.1 this.2⟩
end Ev
end Go.Proofs.Ythfnaegfjacjbab
