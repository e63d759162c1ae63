/- A run of closed code: maps. -/
import Derived.Test.YtmdhmpfagekonaaEV9
import Derived.MapKept
import Derived.Carry
namespace Go.Proofs.Ytmdhmpfagekonaa.Ev
open Go.RowKit Go.MapKept
set_option linter.unusedVariables false
set_option linter.unusedSimpArgs false

noncomputable def keyEq : Value → Value → Option Bool
  | .int k a, .int k' b => bif decide (k = k') then some (decide (a = b)) else none
  | .string a, .string b => some (eqBy a.data.toList b.data.toList)
  | .bool a, .bool b => some (Bool.rec (!b) b a)
  | _, _ => none
noncomputable def isKeyB : TypeDesc → Value → Bool
  | .bool, .bool _ => true
  | .int k, .int k' _ => decide (k' = k)
  | .string, .string _ => true
  | _, _ => false
theorem isKeyB_ok {d : TypeDesc} {k : Value} (h : isKeyB d k = true) : IsKey d k := by
  unfold isKeyB at h
  split at h
  · trivial
  · rename_i k k' n
    have : k' = k := of_decide_eq_true h
    exact this
  · trivial
  · cases h
theorem keyEq_ok {d : TypeDesc} {k k' : Value} {b : Bool} (hk : isKeyB d k = true) (h : keyEq k k' = some b) : Instr.sameNow d k k' = some b := by
  unfold keyEq at h
  split at h
  · rename_i j a j' b'
    cases hj : decide (j = j') with
    | false => rw [hj] at h; cases h
    | true =>
      rw [hj] at h
      have := of_decide_eq_true hj
      subst this
      cases h
      cases d <;> simp [isKeyB] at hk
      simp only [Instr.sameNow, if_true]
      first | done | (congr 1; done) | (congr 1; rw [Bool.eq_iff_iff]; simp)
  · rename_i a b'
    cases h
    cases d <;> simp [isKeyB] at hk
    rw [← eqBy_eq]; rfl
  · rename_i a b'
    cases h
    cases d <;> simp [isKeyB] at hk
    cases a <;> cases b' <;> rfl
  · cases h

/-- Where a key stands. -/
noncomputable def findA (k : Value) (c : Tr Value) : Nat → Nat → Option (Option Nat)
  | 0, _ => some none
  | n + 1, i => match c.at (2 * i) with
    | some k' => match keyEq k k' with
      | some true => some (some i)
      | some false => findA k c n (i + 1)
      | none => none
    | none => none
theorem findA_ok {m : Names} {d : TypeDesc} {k : Value} {B : Blk} {es : Array MapEntry} (hk : isKeyB d k = true) (hm : MapAt m B es) : ∀ (n i : Nat) (r : Option Nat), i + n = B.n → findA k B.cells n i = some r →
    match r with
    | none => Instr.findNow d k (es.toList.drop i) i = some none
    | some j => j < B.n ∧ ∃ e, es[j]? = some e ∧ Instr.findNow d k (es.toList.drop i) i = some (some (j, e.val))
  | 0, i, r, hi, h => by
    simp only [findA, Option.some.injEq] at h
    subst h
    have : es.toList.drop i = [] := by apply List.drop_eq_nil_of_le; have := hm.1; simp; omega
    simp [this, Instr.findNow]
  | n + 1, i, r, hi, h => by
    obtain ⟨e, k', v, h1, h2, h3, h4, h5⟩ := hm.2 i (by omega)
    simp only [findA, h2] at h
    have hd : es.toList.drop i = e :: es.toList.drop (i + 1) := by
      have hlt : i < es.toList.length := by have := hm.1; simp; omega
      rw [List.drop_eq_getElem_cons hlt]
      congr 1
      have : es.toList[i]? = some e := by simpa using h1
      rw [List.getElem?_eq_getElem hlt] at this
      exact Option.some.inj this
    cases hq : keyEq k k' with
    | none => simp [hq] at h
    | some b =>
      have hs := keyEq_ok hk hq
      rw [← h4] at hs
      cases b with
      | true =>
        simp only [hq, Option.some.injEq] at h
        subst h
        exact ⟨by omega, e, h1, by rw [hd]; simp [Instr.findNow, hs]⟩
      | false =>
        simp only [hq] at h
        have ih := findA_ok hk hm n (i + 1) r (by omega) h
        cases r with
        | none => rw [hd]; simp only [Instr.findNow, hs]; exact ih
        | some j =>
          obtain ⟨a, e', b', c'⟩ := ih
          exact ⟨a, e', b', by rw [hd]; simp only [Instr.findNow, hs]; exact c'⟩

/-- A new map. -/
theorem Rel.allocMap {w0 : World} {m : Names} {H : Tr Blk} {w : World} (r : Rel w0 m H w) {id : Nat} (hf : H.at id = none) (hi : id < 2 ^ deep) :
    Sub m (named m id w.heap.size 0 0) ∧ Rel w0 (named m id w.heap.size 0 0) (H.put id { elem := 0, cells := .nil, n := 0, live := false, mp := true }) (w.alloc (.map #[] 0)) := by
  have hs := named_sub (C := w.heap.size) (k := 0) (R := 0) (r.fresh hf)
  refine ⟨hs, r.bel.alloc r.bel.size _, Tr.put_fine _ _ r.fine, ?_, ?_, ?_, ?_⟩
  · intro b x hx
    by_cases hb : b = id
    · subst hb; exact ⟨hi, _, Tr.at_put _ _ _⟩
    · rw [named_ne hb] at hx
      obtain ⟨hlt, B, hB⟩ := r.dom b x hx
      exact ⟨hlt, B, by rw [Tr.at_put_ne r.fine (Ne.symm hb) hi hlt]; exact hB⟩
  · intro b B hB hl
    rcases Tr.at_put_some r.fine hB with ⟨rfl, rfl⟩ | ⟨hne, hB⟩
    · cases hl
    · obtain ⟨C, k, R, c', a1, a2, a3, a4, a5, a6⟩ := r.blk b B hB hl
      have hlt := r.old hB hl a1
      refine ⟨C, k, R, c', hs _ _ a1, a2, by rw [Below.heap_alloc _ _ _ hlt]; exact a3, a4, a5, fun i v hv => ?_⟩
      obtain ⟨v', x, y, z⟩ := a6 i v hv
      exact ⟨v', x, y.mono hs, z⟩
  · intro b b' B B' C k R C' k' R' hB hB' hl hl' hne hm hm'
    rcases Tr.at_put_some r.fine hB with ⟨rfl, rfl⟩ | ⟨n1, hB⟩
    · cases hl
    · rcases Tr.at_put_some r.fine hB' with ⟨rfl, rfl⟩ | ⟨n2, hB'⟩
      · cases hl'
      · rw [named_ne (Ne.symm n1)] at hm
        rw [named_ne (Ne.symm n2)] at hm'
        exact r.inj b b' B B' C k R C' k' R' hB hB' hl hl' hne hm hm'
  · refine r.oth.upd hs (b := id) (B := { elem := 0, cells := .nil, n := 0, live := false, mp := true }) (C := w.heap.size) (named_id _ _ _ _ _) r.bel.size (show (w.heap.push _)[w.heap.size]? = some (.map #[] 0) by simp) (.map #[] 0 rfl rfl (Tr.fine_nil _) (Nat.zero_le _) ⟨rfl, fun i hi => absurd hi (Nat.not_lt_zero i)⟩)
      (fun B' hB' => ?_) (fun b' B' hne hB' ho => ?_) (fun C' x hne hx _ => ?_) (fun b' B' C' k' R' hne hB' ho hm => ?_)
    · rcases Tr.at_put_some r.fine hB' with ⟨_, h⟩ | ⟨h, _⟩
      · exact h
      · exact absurd rfl h
    · rcases Tr.at_put_some r.fine hB' with ⟨e, _⟩ | ⟨_, h⟩
      · exact absurd e.symm hne
      · exact h
    · rw [Below.heap_alloc _ _ _ (Array.getElem?_eq_some_iff.1 hx).1]; exact hx
    · have := r.oldo hB' ho hm; omega

theorem below_set {w0 w : World} {C : Nat} (h : Below w0.heap.size w0 w) (hC : w0.heap.size ≤ C) (o : Obj) : Below w0.heap.size w0 { w with heap := w.heap.setIfInBounds C o } :=
  ⟨h.os, h.tape, h.output, by simpa using h.size, fun k hk => by
    show (w.heap.setIfInBounds C o)[k]? = _
    rw [Array.getElem?_setIfInBounds_ne (by omega)]
    exact h.block k hk⟩

/-- One more entry. -/
theorem Rel.mapPut {w0 : World} {m : Names} {H : Tr Blk} {w : World} (r : Rel w0 m H w) {b : Nat} {B : Blk} (hB : H.at b = some B) (hp : B.mp = true) {C R : Nat} (hm : m b = some (C, 0, R)) {es : Array MapEntry} {cl : Nat}
    (hc : w.heap[C]? = some (.map es cl)) {k v v' : Value} (hv : VR m v v') (hn : B.n < 200) :
    Rel w0 m (H.put b { elem := B.elem, cells := (B.cells.putS (2 * B.n) k).putS (2 * B.n + 1) v, n := B.n + 1, live := false, mp := true }) { w with heap := w.heap.setIfInBounds C (.map (es.push { key := k, val := v', born := cl }) (cl + 1)) } := by
  obtain ⟨x1, x2, x3, C', R', es', cl', a1, a2, a3, a4⟩ := r.mps b B hB hp
  rw [hm] at a1; cases a1
  rw [hc] at a3; cases a3
  have hbd := (r.dom b _ hm).1
  obtain ⟨s1, s2⟩ := heap_set (o' := Obj.map (es.push { key := k, val := v', born := cl }) (cl + 1)) hc
  refine ⟨below_set r.bel a2 _, Tr.put_fine _ _ r.fine, ?_, ?_, ?_, ?_⟩
  · intro b' x hx
    obtain ⟨hlt, B', hB'⟩ := r.dom b' x hx
    refine ⟨hlt, ?_⟩
    by_cases e : b = b'
    · subst e; exact ⟨_, Tr.at_put _ _ _⟩
    · exact ⟨B', by rw [Tr.at_put_ne r.fine e hbd hlt]; exact hB'⟩
  · intro b' B' hB' hl'
    rcases Tr.at_put_some r.fine hB' with ⟨rfl, rfl⟩ | ⟨hne, hB'⟩
    · cases hl'
    · obtain ⟨C2, k2, R2, c2, b1, b2, b3, b4, b5, b6⟩ := r.blk b' B' hB' hl'
      have : C2 ≠ C := by rintro rfl; rw [hc] at b3; cases b3
      exact ⟨C2, k2, R2, c2, b1, b2, (s2 _ this).trans b3, b4, b5, b6⟩
  · intro x y B1 B2 C1 k1 R1 C2 k2 R2 h1 h2 l1 l2 hne m1 m2
    rcases Tr.at_put_some r.fine h1 with ⟨rfl, rfl⟩ | ⟨n1, h1⟩
    · cases l1
    · rcases Tr.at_put_some r.fine h2 with ⟨rfl, rfl⟩ | ⟨n2, h2⟩
      · cases l2
      · exact r.inj x y B1 B2 C1 k1 R1 C2 k2 R2 h1 h2 l1 l2 hne m1 m2
  · have f1 := Tr.putS_fine (2 * B.n) k x2
    refine r.oth.upd (B := { elem := B.elem, cells := (B.cells.putS (2 * B.n) k).putS (2 * B.n + 1) v, n := B.n + 1, live := false, mp := true }) (.refl m) hm a2 s1 (.map _ _ rfl rfl (Tr.putS_fine _ _ f1) (by show B.n + 1 ≤ 200; omega) ⟨by simp [a4.1], fun i hi => ?_⟩)
      (fun B' hB' => ?_) (fun b' B' hne hB' ho => ?_) (fun C' x hne hx _ => (s2 _ hne).trans hx) (fun b' B' C' k' R' hne hB' ho hm' => Ne.symm (r.oth.apart b b' B B' C 0 R C' k' R' hB hB' (own_of_mp hp) ho (Ne.symm hne) hm hm'))
    · have hi' : i < B.n + 1 := hi
      by_cases e : i = B.n
      · subst e
        refine ⟨{ key := k, val := v', born := cl }, k, v, by rw [← a4.1]; simp, ?_, Tr.at_putS _ _ _, rfl, hv⟩
        show ((B.cells.putS (2 * B.n) k).putS (2 * B.n + 1) v).at (2 * B.n) = some k
        rw [Tr.at_putS_ne f1 (by omega) (by omega) (by omega)]
        exact Tr.at_putS _ _ _
      · obtain ⟨en, k', u, q1, q2, q3, q4, q5⟩ := a4.2 i (by omega)
        refine ⟨en, k', u, ?_, ?_, ?_, q4, q5⟩
        · rw [Array.getElem?_push, if_neg (by rw [a4.1]; exact e)]; exact q1
        · show ((B.cells.putS (2 * B.n) k).putS (2 * B.n + 1) v).at (2 * i) = some k'
          rw [Tr.at_putS_ne f1 (by omega) (by omega) (by omega), Tr.at_putS_ne x2 (by omega) (by omega) (by omega)]; exact q2
        · show ((B.cells.putS (2 * B.n) k).putS (2 * B.n + 1) v).at (2 * i + 1) = some u
          rw [Tr.at_putS_ne f1 (by omega) (by omega) (by omega), Tr.at_putS_ne x2 (by omega) (by omega) (by omega)]; exact q3
    · rcases Tr.at_put_some r.fine hB' with ⟨_, h⟩ | ⟨h, _⟩
      · exact h
      · exact absurd rfl h
    · rcases Tr.at_put_some r.fine hB' with ⟨e, _⟩ | ⟨_, h⟩
      · exact absurd e.symm hne
      · exact h

noncomputable def zeroV (P : Program) (t : TypeId) : Option Value := match P.info? t with
  | some i => match i.zero with
    | some z => bif plain2 z then some z else none
    | none => none
  | none => none
theorem zeroV_ok {P : Program} {t : TypeId} {z : Value} (h : zeroV P t = some z) : plain2 z = true ∧ ∀ w, (zeroValue t).run P w = .ok z w := by
  unfold zeroV at h
  cases hi : P.info? t with
  | none => simp [hi] at h
  | some i =>
    simp only [hi] at h
    cases hz : i.zero with
    | none => simp [hz] at h
    | some z' =>
      simp only [hz] at h
      cases hp : plain2 z' with
      | false => simp [hp] at h
      | true =>
        simp only [hp, cond_true, Option.some.injEq] at h
        subst h
        exact ⟨hp, fun w => by simp [zeroValue, typeInfo, hi, hz]⟩
noncomputable def okV (ok : Bool) (v : Value) (b : Bool) : Value := bif ok then .tuple #[v, .bool b] else v
theorem okV_ok {m : Names} {v v' : Value} (h : VR m v v') (ok b : Bool) : VR m (okV ok v b) (if ok then .tuple #[v', .bool b] else v') := by
  cases ok with
  | false => exact h
  | true =>
    have := (VL.cons h (VL.cons (VR.bool b) .nil)).to
    exact .tuple _ _ this.1 this.2

/-- A look into a map. -/
noncomputable def lookA (P : Program) (H : Tr Blk) (t : TypeId) (ok : Bool) (mv k : Value) : Option Value :=
  match mv, P.underlying t with
  | .map (some b), some (.map kt et) => match P.underlying kt, H.at b with
    | some d, some B => bif B.mp && isKeyB d k then match findA k B.cells B.n 0 with
        | some none => match zeroV P et with
          | some z => some (okV ok z false)
          | none => none
        | some (some j) => match B.cells.at (2 * j + 1) with
          | some v => some (okV ok v true)
          | none => none
        | none => none
      else none
    | _, _ => none
  | _, _ => none
theorem isKeyB_eq {m : Names} {d : TypeDesc} {k k' : Value} (h : isKeyB d k = true) (hv : VR m k k') : k' = k := by
  unfold isKeyB at h
  split at h <;> first | (cases h; done) | (cases hv; rfl)
theorem lookA_ok {P : Program} {w0 : World} {m : Names} {H : Tr Blk} {w : World} {t : TypeId} {ok : Bool} {mv k mv' k' v : Value} (r : Rel w0 m H w) (hm : VR m mv mv') (hk : VR m k k') (h : lookA P H t ok mv k = some v) :
    ∃ v', (Instr.lookup t mv' k' ok).run P w = .ok v' w ∧ VR m v v' := by
  unfold lookA at h
  split at h
  · rename_i b kt et ht
    split at h
    · rename_i d B hd hB
      cases hc : (B.mp && isKeyB d k) with
      | false => rw [hc] at h; cases h
      | true =>
        rw [hc] at h
        simp only [Bool.and_eq_true] at hc
        simp only [cond_true] at h
        have := isKeyB_eq hc.2 hk
        subst this
        cases hm with
        | mapr b C hmb =>
          obtain ⟨x1, x2, x3, C', R', es, cl, a1, a2, a3, a4⟩ := r.mps b B hB hc.1
          rw [hmb] at a1; cases a1
          have hck : ∀ e, (Instr.checkKey e 10000 kt k').run P w = .ok () w := fun e => run_checkKey (P := P) (w := w) hd (isKeyB_ok hc.2) e 9999
          cases hf : findA k' B.cells B.n 0 with
          | none => simp [hf] at h
          | some q =>
            have key := findA_ok hc.2 a4 B.n 0 q (by omega) hf
            cases q with
            | none =>
              simp only [hf] at h
              cases hz : zeroV P et with
              | none => simp [hz] at h
              | some z =>
                simp only [hz, Option.some.injEq] at h
                subst h
                obtain ⟨z1, z2⟩ := zeroV_ok hz
                have hfk := run_findKey (P := P) (w := w) hd (l := es.toList) (a := none) (by simpa using key)
                refine ⟨_, ?_, okV_ok (VR.of2 z1) ok false⟩
                simp [Instr.lookup, run_underlying ht, Go.MapKept.run_getObj_map a3, hck, hfk, z2]
            | some j =>
              simp only [hf] at h
              obtain ⟨j1, e, j2, j3⟩ := key
              obtain ⟨e', kk, u, q1, q2, q3, q4, q5⟩ := a4.2 j j1
              rw [j2] at q1; cases q1
              simp only [q3, Option.some.injEq] at h
              subst h
              have hfk := run_findKey (P := P) (w := w) hd (l := es.toList) (by simpa using j3)
              refine ⟨_, ?_, okV_ok q5 ok true⟩
              simp [Instr.lookup, run_underlying ht, Go.MapKept.run_getObj_map a3, hck, hfk]
    · cases h
  · cases h

theorem keyEq_true {k k' : Value} (h : keyEq k k' = some true) : k = k' := by
  unfold keyEq at h
  split at h
  · rename_i j a j' b'
    cases hj : decide (j = j') with
    | false => rw [hj] at h; cases h
    | true =>
      rw [hj] at h
      simp only [cond_true, Option.some.injEq, decide_eq_true_eq] at h
      rw [of_decide_eq_true hj, h]
  · rename_i a b'
    obtain ⟨a⟩ := a
    obtain ⟨b'⟩ := b'
    simp only [Option.some.injEq] at h
    have := Array.ext' (eqBy_ok h)
    subst this; rfl
  · rename_i a b'
    cases a <;> cases b' <;> first | rfl | (simp at h)
  · cases h
theorem findA_key {k : Value} {c : Tr Value} : ∀ (n i j : Nat), findA k c n i = some (some j) → c.at (2 * j) = some k
  | 0, i, j, h => by simp [findA] at h
  | n + 1, i, j, h => by
    simp only [findA] at h
    split at h
    · rename_i k' hk
      split at h
      · rename_i he
        simp only [Option.some.injEq] at h
        subst h
        rw [hk, keyEq_true he]
      · exact findA_key n (i + 1) j h
      · cases h
    · cases h
/-- An entry's new value. -/
theorem Rel.mapSet {w0 : World} {m : Names} {H : Tr Blk} {w : World} (r : Rel w0 m H w) {b : Nat} {B : Blk} (hB : H.at b = some B) (hp : B.mp = true) {C R : Nat} (hm : m b = some (C, 0, R)) {es : Array MapEntry} {cl : Nat}
    (hc : w.heap[C]? = some (.map es cl)) {k v v' : Value} (hv : VR m v v') {j : Nat} (hj : j < B.n) (hk : B.cells.at (2 * j) = some k) :
    Rel w0 m (H.put b { elem := B.elem, cells := B.cells.putS (2 * j + 1) v, n := B.n, live := false, mp := true }) { w with heap := w.heap.setIfInBounds C (.map (es.modify j fun e => { e with key := k, val := v' }) cl) } := by
  obtain ⟨x1, x2, x3, C', R', es', cl', a1, a2, a3, a4⟩ := r.mps b B hB hp
  rw [hm] at a1; cases a1
  rw [hc] at a3; cases a3
  have hbd := (r.dom b _ hm).1
  obtain ⟨s1, s2⟩ := heap_set (o' := Obj.map (es.modify j fun e => { e with key := k, val := v' }) cl) hc
  refine ⟨below_set r.bel a2 _, Tr.put_fine _ _ r.fine, ?_, ?_, ?_, ?_⟩
  · intro b' x hx
    obtain ⟨hlt, B', hB'⟩ := r.dom b' x hx
    refine ⟨hlt, ?_⟩
    by_cases e : b = b'
    · subst e; exact ⟨_, Tr.at_put _ _ _⟩
    · exact ⟨B', by rw [Tr.at_put_ne r.fine e hbd hlt]; exact hB'⟩
  · intro b' B' hB' hl'
    rcases Tr.at_put_some r.fine hB' with ⟨rfl, rfl⟩ | ⟨hne, hB'⟩
    · cases hl'
    · obtain ⟨C2, k2, R2, c2, b1, b2, b3, b4, b5, b6⟩ := r.blk b' B' hB' hl'
      have : C2 ≠ C := by rintro rfl; rw [hc] at b3; cases b3
      exact ⟨C2, k2, R2, c2, b1, b2, (s2 _ this).trans b3, b4, b5, b6⟩
  · intro x y B1 B2 C1 k1 R1 C2 k2 R2 h1 h2 l1 l2 hne m1 m2
    rcases Tr.at_put_some r.fine h1 with ⟨rfl, rfl⟩ | ⟨n1, h1⟩
    · cases l1
    · rcases Tr.at_put_some r.fine h2 with ⟨rfl, rfl⟩ | ⟨n2, h2⟩
      · cases l2
      · exact r.inj x y B1 B2 C1 k1 R1 C2 k2 R2 h1 h2 l1 l2 hne m1 m2
  · refine r.oth.upd (B := { elem := B.elem, cells := B.cells.putS (2 * j + 1) v, n := B.n, live := false, mp := true }) (.refl m) hm a2 s1 (.map _ _ rfl rfl (Tr.putS_fine _ _ x2) x3 ⟨by simp [a4.1], fun i hi => ?_⟩)
      (fun B' hB' => ?_) (fun b' B' hne hB' ho => ?_) (fun C' x hne hx _ => (s2 _ hne).trans hx) (fun b' B' C' k' R' hne hB' ho hm' => Ne.symm (r.oth.apart b b' B B' C 0 R C' k' R' hB hB' (own_of_mp hp) ho (Ne.symm hne) hm hm'))
    · have hi' : i < B.n := hi
      obtain ⟨en, k', u, q1, q2, q3, q4, q5⟩ := a4.2 i hi'
      by_cases e : i = j
      · subst e
        rw [hk] at q2; cases q2
        refine ⟨{ en with key := k, val := v' }, k, v, by simp [Array.getElem?_modify, q1], ?_, Tr.at_putS _ _ _, rfl, hv⟩
        show (B.cells.putS (2 * i + 1) v).at (2 * i) = some k
        rw [Tr.at_putS_ne x2 (by omega) (by omega) (by omega)]; exact hk
      · refine ⟨en, k', u, ?_, ?_, ?_, q4, q5⟩
        · rw [Array.getElem?_modify, if_neg (fun z => e z.symm)]; exact q1
        · show (B.cells.putS (2 * j + 1) v).at (2 * i) = some k'
          rw [Tr.at_putS_ne x2 (by omega) (by omega) (by omega)]; exact q2
        · show (B.cells.putS (2 * j + 1) v).at (2 * i + 1) = some u
          rw [Tr.at_putS_ne x2 (by omega) (by omega) (by omega)]; exact q3
    · rcases Tr.at_put_some r.fine hB' with ⟨_, h⟩ | ⟨h, _⟩
      · exact h
      · exact absurd rfl h
    · rcases Tr.at_put_some r.fine hB' with ⟨e, _⟩ | ⟨_, h⟩
      · exact absurd e.symm hne
      · exact h

/-- A new key's entry, or an old one's new value. -/
noncomputable def updA (P : Program) (H : Tr Blk) (t : TypeId) (mv k v : Value) : Option (Tr Blk) :=
  match mv, P.underlying t with
  | .map (some b), some (.map kt et) => match P.underlying kt, H.at b with
    | some d, some B => bif B.mp && isKeyB d k && Nat.blt B.n 200 then match findA k B.cells B.n 0 with
        | some none => some (H.put b { elem := B.elem, cells := (B.cells.putS (2 * B.n) k).putS (2 * B.n + 1) v, n := B.n + 1, live := false, mp := true })
        | some (some j) => some (H.put b { elem := B.elem, cells := B.cells.putS (2 * j + 1) v, n := B.n, live := false, mp := true })
        | none => none
      else none
    | _, _ => none
  | _, _ => none
theorem updA_ok {P : Program} {w0 : World} {m : Names} {H H' : Tr Blk} {w : World} {t : TypeId} {mv k v mv' k' v' : Value} (r : Rel w0 m H w) (hm : VR m mv mv') (hk : VR m k k') (hv : VR m v v') (h : updA P H t mv k v = some H') :
    ∃ w', (Instr.mapUpdate t mv' k' v').run P w = .ok () w' ∧ Rel w0 m H' w' := by
  unfold updA at h
  split at h
  · rename_i b kt et ht
    split at h
    · rename_i d B hd hB
      cases hc : (B.mp && isKeyB d k && Nat.blt B.n 200) with
      | false => rw [hc] at h; cases h
      | true =>
        rw [hc] at h
        simp only [Bool.and_eq_true, Nat.blt_eq] at hc
        simp only [cond_true] at h
        have := isKeyB_eq hc.1.2 hk
        subst this
        cases hm with
        | mapr b C hmb =>
          obtain ⟨x1, x2, x3, C', R', es, cl, a1, a2, a3, a4⟩ := r.mps b B hB hc.1.1
          rw [hmb] at a1; cases a1
          have hck : ∀ e, (Instr.checkKey e 10000 kt k').run P w = .ok () w := fun e => run_checkKey (P := P) (w := w) hd (isKeyB_ok hc.1.2) e 9999
          split at h
          · rename_i hf
            cases h
            have key := findA_ok hc.1.2 a4 B.n 0 none (by omega) hf
            have hfk := run_findKey (P := P) (w := w) hd (l := es.toList) (a := none) (by simpa using key)
            refine ⟨_, ?_, r.mapPut hB hc.1.1 hmb a3 hv hc.2⟩
            simp [Instr.mapUpdate, run_underlying ht, Go.MapKept.run_getObj_map a3, hck, hfk, Go.MapKept.run_setObj_map _ a3]
          · rename_i j hf
            cases h
            have hkj := findA_key _ _ _ hf
            obtain ⟨j1, e, j2, j3⟩ := findA_ok hc.1.2 a4 B.n 0 (some j) (by omega) hf
            obtain ⟨e', kk, u, q1, q2, q3, q4, q5⟩ := a4.2 j j1
            rw [j2] at q1; cases q1
            rw [hkj] at q2; cases q2
            have hfk := run_findKey (P := P) (w := w) hd (l := es.toList) (by simpa using j3)
            refine ⟨_, ?_, r.mapSet hB hc.1.1 hmb a3 hv j1 hkj⟩
            simp [Instr.mapUpdate, run_underlying ht, Go.MapKept.run_getObj_map a3, hck, hfk, Go.MapKept.run_setObj_map _ a3, j2, q4, run_keyThatStays (isKeyB_ok hc.1.2), Result.andThen]
          · cases h
    · cases h
  · cases h

noncomputable def mlenA (P : Program) (H : Tr Blk) (t : TypeId) (mv : Value) : Option Value :=
  match mv, P.underlying t with
  | .map (some b), some (.map _ _) => match H.at b with
    | some B => bif B.mp then some (.int .i64 (.ofNat B.n)) else none
    | none => none
  | .map none, some (.map _ _) => some (.int .i64 0)
  | _, _ => none
theorem mlenA_ok {P : Program} {w0 : World} {m : Names} {H : Tr Blk} {w : World} {t ty : TypeId} {mv mv' v : Value} (r : Rel w0 m H w) (hm : VR m mv mv') (h : mlenA P H t mv = some v) :
    (Builtin.len_ #[t] ty #[mv']).run P w = .ok v w ∧ VR m v v := by
  unfold mlenA at h
  split at h
  · rename_i b kt et ht
    cases hB : H.at b with
    | none => simp [hB] at h
    | some B =>
      simp only [hB] at h
      cases hp : B.mp with
      | false => simp [hp] at h
      | true =>
        simp only [hp, cond_true, Option.some.injEq] at h
        subst h
        cases hm with
        | mapr b C hmb =>
          obtain ⟨x1, x2, x3, C', R', es, cl, a1, a2, a3, a4⟩ := r.mps b B hB hp
          rw [hmb] at a1; cases a1
          refine ⟨?_, .int _ _⟩
          simp [Builtin.len_, run_underlying ht, Go.MapKept.run_getObj_map a3, goInt, a4.1]
  · rename_i kt et ht
    cases h
    cases hm
    exact ⟨by simp [Builtin.len_, run_underlying ht, goInt], .int _ _⟩
  · cases h
end Go.Proofs.Ytmdhmpfagekonaa.Ev
