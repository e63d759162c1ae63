/- A run of closed code: stores and appends. -/
import Derived.Test.YtmdhmpfagekonaaEV7
namespace Go.Proofs.Ytmdhmpfagekonaa.Ev
open Go.RowKit
set_option linter.unusedVariables false
set_option linter.unusedSimpArgs false

theorem VL.all_one {m : Names} {a b : List Value} (h : VL m a b) (h1 : a.all oneA = true) : ∀ v ∈ b, v.oneCell' = true := by
  induction h with
  | nil => intro v hv; simp at hv
  | cons hx _ ih =>
    simp only [List.all_cons, Bool.and_eq_true] at h1
    intro v hv
    simp only [List.mem_cons] at hv
    rcases hv with rfl | hv
    · rw [hx.one]; exact h1.1
    · exact ih h1.2 v hv

/-! Store. -/
noncomputable def storeA (P : Program) (ev : Operand → Option Value) (H : Tr Blk) (t : TypeId) (a x : Operand) : Option (Tr Blk) :=
  match ev a, ev x, sizeT P t with
  | some (.pointer (some ⟨b, o, none⟩)), some v, some n => match H.at b with
    | some B =>
      bif B.live && Nat.beq v.cells.size n && Nat.ble (o + v.cells.size) B.n && v.cells.toList.all oneA && Nat.blt b 4096 then some (H.put b { elem := B.elem, cells := ofL v.cells.toList o B.cells, n := B.n, live := true, mp := false }) else none
    | none => none
  | _, _, _ => none
theorem storeA_ok {P : Program} {w0 : World} {m : Names} {ev : Operand → Option Value} {ρ : Operand → Value} {H H' : Tr Blk} {w : World} {o : Oper} {t : TypeId} {a x : Operand} (ho : o.op = .store t a x) (he : Evs m ev ρ) (r : Rel w0 m H w)
    (h : storeA P ev H t a x = some H') : ∃ w', (execOp ρ o).run P w = .ok .skip w' ∧ Rel w0 m H' w' := by
  unfold storeA at h
  split at h
  · rename_i b off v n hx hv hn
    have hp := he a _ hx
    have hq := he x v hv
    generalize hr : ρ a = ra at hp
    cases hp with
    | ptr b o C k hm =>
      cases hB : H.at b with
      | none => simp [hB] at h
      | some B =>
        simp only [hB] at h
        cases hc : (B.live && Nat.beq v.cells.size n && Nat.ble (off + v.cells.size) B.n && v.cells.toList.all oneA && Nat.blt b 4096) with
        | false => rw [hc] at h; cases h
        | true =>
          rw [hc] at h
          simp only [cond_true, Option.some.injEq] at h
          subst h
          simp only [Bool.and_eq_true, Nat.beq_eq, Nat.ble_eq] at hc
          obtain ⟨⟨⟨⟨c1, c2⟩, c3⟩, c4⟩, _⟩ := hc
          obtain ⟨C', k', R', c, a1, a2, a3, a4, a5, a6⟩ := r.blk b B hB c1
          rw [hm] at a1; cases a1
          have hvl := hq.cells.toVL
          obtain ⟨q1, q2⟩ := r.store hB c1 hm a3 hvl (o := off) (by simpa using c3) c4
          have hst := run_storeCells_at (P := P) C (k + off) B.elem (ρ x).cells.toList 0 c w a3 (by simpa using q2) (hvl.all_one c4)
          have hsz : (ρ x).cells.size = n := by rw [← hq.cells.1]; exact c2
          refine ⟨_, ?_, q1⟩
          simp [execOp, ho, hr, Instr.storeAt, Instr.sureAddr, storeVar, sizeT_ok hn, hsz, hst]
  · cases h

/-! Append. -/
theorem firstCells_ok {w : World} {C k : Nat} {c : Array Value} {e : TypeId} (hc : w.heap[C]? = some (.cells c e (0, 0))) {o : Nat} {vs' : List Value}
    (hv : ∀ (j : Nat) (v : Value), vs'[j]? = some v → c[k + o + j]? = some v) : ∀ (j : Nat) (v : Value), vs'[j]? = some v → w.cell? ((⟨C, k + o, none⟩ : Addr).add j) = some v := fun j v h => by
  rw [add_at, cell_of hc]; exact hv j v h

/-- The values that are appended. -/
noncomputable def newsA (H : Tr Blk) (s : Nat) (x : Value) : Option (Nat × List Value) :=
  match x with
  | .slice (some ⟨b, o, none⟩) n _ => match H.at b with
    | some B => bif B.live then match readL B.cells (n * s) o with
        | some vs => some (n, vs)
        | none => none
      else none
    | none => none
  | _ => none
theorem newsA_ok {w0 : World} {m : Names} {H : Tr Blk} {w : World} {s n : Nat} {x x' : Value} {vs : List Value} (r : Rel w0 m H w) (hx : VR m x x') (h : newsA H s x = some (n, vs)) :
    ∃ a cap, ∃ vs' : List Value, x' = .slice (some a) n cap ∧ vs'.length = n * s ∧ VL m vs vs' ∧ vs.all oneA = true ∧ ∀ (j : Nat) (v : Value), vs'[j]? = some v → w.cell? (a.add j) = some v := by
  unfold newsA at h
  split at h
  · rename_i b off n' cc
    cases hx with
    | slice b o C k len cap cc hm h1 h2 =>
      cases hB : H.at b with
      | none => simp [hB] at h
      | some B =>
        simp only [hB] at h
        cases hl : B.live with
        | false => simp [hl] at h
        | true =>
          simp only [hl, cond_true] at h
          split at h
          · rename_i us hus
            cases h
            obtain ⟨C', k', R', c, a1, a2, a3, a4, a5, a6⟩ := r.blk b B hB hl
            rw [hm] at a1; cases a1
            obtain ⟨o1, vs', l1, l2, l3⟩ := readL_ok a6 hus
            exact ⟨_, _, vs', rfl, l1, l2, o1, firstCells_ok a3 l3⟩
          · cases h
  · cases h

noncomputable def isNone {α : Type} : Option α → Bool | none => true | some _ => false
/-- An append of elements to a slice; the block of which it is not known whether there is room is used no more. -/
noncomputable def appA (P : Program) (H : Tr Blk) (id : Nat) (t : TypeId) (sv xv : Value) : Option (Value × Tr Blk) :=
  match P.underlying t with
  | some (.slice e) => match P.info? e, zeroT P e with
    | some i, some z => match newsA H i.size xv with
      | some (0, _) => match sv with
        | .slice _ _ _ => some (sv, H)
        | _ => none
      | some (n + 1, vs) =>
        bif Nat.ble i.bytes 65536 && isNone (H.at id) && Nat.blt id 4096 && Nat.beq z.size i.size then
          match sv with
          | .slice none 0 0 => bif Nat.ble (n + 1) 4096 then some (.slice (some ⟨id, 0, none⟩) (n + 1) (2 * i.size), H.put id (newBlk e vs)) else none
          | .slice (some ⟨b, o, none⟩) len cc => match H.at b with
            | some B =>
              bif B.live && Nat.beq B.elem e && Nat.ble (len + (n + 1)) 4096 && Nat.blt b 4096 then
                bif Nat.beq (cc % 2) 1 then
                  bif Nat.ble (len + (n + 1)) (cc / 2) then
                    bif Nat.ble (o + len * i.size + vs.length) B.n then some (.slice (some ⟨b, o, none⟩) (len + (n + 1)) cc, H.put b { elem := B.elem, cells := ofL vs (o + len * i.size) B.cells, n := B.n, live := true, mp := false }) else none
                  else match readL B.cells (len * i.size) o with
                    | some olds => some (.slice (some ⟨id, 0, none⟩) (len + (n + 1)) (2 * i.size), H.put id (newBlk e (olds ++ vs)))
                    | none => none
                else bif Nat.beq (cc / 2) i.size then
                  match readL B.cells (len * i.size) o with
                  | some olds => some (.slice (some ⟨id, 0, none⟩) (len + (n + 1)) (2 * i.size), (H.put b { elem := B.elem, cells := .nil, n := 0, live := false, mp := false }).put id (newBlk e (olds ++ vs)))
                  | none => none
                else none
              else none
            | none => none
          | _ => none
        else none
      | none => none
    | _, _ => none
  | _ => none

/-- An append where there is room. -/
theorem run_append_in {P : Program} (w : World) (t ty e : TypeId) (i : TypeInfo) (ht : P.underlying t = some (.slice e)) (hi : P.info? e = some i) (C p sLen sCap : Nat) {c : Array Value} (hc : w.heap[C]? = some (.cells c e (0, 0)))
    (a : Addr) (n cp : Nat) (news : List Value) (hl : news.length = n * i.size) (hnews : ∀ (j : Nat) (v : Value), news[j]? = some v → w.cell? (a.add j) = some v) (hroom : sLen + n ≤ sCap) (hfit : p + sLen * i.size + news.length ≤ c.size)
    (h1 : ∀ v ∈ news, v.oneCell' = true) :
    (Builtin.append_ #[t, t] ty #[.slice (some ⟨C, p, none⟩) sLen sCap, .slice (some a) n cp]).run P w =
      .ok (.slice (some ⟨C, p, none⟩) (sLen + n) sCap) (w.setRow C (c.toList.take (p + sLen * i.size) ++ news ++ c.toList.drop (p + sLen * i.size + news.length)).toArray) := by
  have hf := run_firstCells_some (P := P) w i.size n a n cp news hl hnews
  have hst := run_storeCells_at (P := P) C (p + sLen * i.size) e news 0 c w hc (by simpa using hfit) h1
  simp [Builtin.append_, run_underlying ht, sizeOf, typeInfo, hi, Builtin.lenOf, hroom, hf, add_at, hst]

/-! Copy. -/
def takeN : Nat → List Value → List Value
  | 0, _ => []
  | n + 1, v :: r => v :: takeN n r
  | _ + 1, [] => []
/-- A copy of one slice into another: how many, and the memory behind it. -/
noncomputable def copyA (P : Program) (H : Tr Blk) (t : TypeId) (dv sv : Value) : Option (Value × Tr Blk) :=
  match P.underlying t with
  | some (.slice e) => match sizeT P e, dv, sv with
    | some s, .slice (some ⟨b, o, none⟩) dl _, .slice (some ⟨b', o', none⟩) sl _ => match H.at b, H.at b' with
      | some B, some B' => match readL B'.cells (Nat.min sl dl * s) o' with
        | some vs => bif B.live && B'.live && Nat.ble (o + vs.length) B.n && Nat.blt b 4096 then some (.int .i64 (.ofNat (Nat.min sl dl)), H.put b { elem := B.elem, cells := ofL vs o B.cells, n := B.n, live := true, mp := false }) else none
        | none => none
      | _, _ => none
    | _, _, _ => none
  | _ => none
theorem copyA_ok {P : Program} {w0 : World} {m : Names} {H H' : Tr Blk} {w : World} {t t' ty : TypeId} {dv sv dv' sv' v : Value} (r : Rel w0 m H w) (hd : VR m dv dv') (hs : VR m sv sv') (h : copyA P H t dv sv = some (v, H')) :
    ∃ w', Rel w0 m H' w' ∧ VR m v v ∧ (Builtin.copy_ #[t, t'] ty #[dv', sv']).run P w = .ok v w' := by
  unfold copyA at h
  split at h
  · rename_i e ht
    split at h
    · rename_i s b o dl cc b' o' sl cc' hz
      cases hB : H.at b with
      | none => simp [hB] at h
      | some B =>
      cases hB' : H.at b' with
      | none => simp [hB, hB'] at h
      | some B' =>
      simp only [hB, hB'] at h
      split at h
      · rename_i vs hvs
        cases hc : (B.live && B'.live && Nat.ble (o + vs.length) B.n && Nat.blt b 4096) with
        | false => rw [hc] at h; cases h
        | true =>
          rw [hc] at h
          simp only [cond_true, Option.some.injEq, Prod.mk.injEq] at h
          obtain ⟨rfl, rfl⟩ := h
          simp only [Bool.and_eq_true, Nat.ble_eq] at hc
          obtain ⟨⟨⟨c1, c2⟩, c3⟩, _⟩ := hc
          cases hd with
          | slice b o C k dl dcap cc hm h1 h2 =>
          cases hs with
          | slice b' o' C' k' sl scap cc' hm' h1' h2' =>
          obtain ⟨_, _, _, c, a1, a2, a3, a4, a5, a6⟩ := r.blk b B hB c1
          rw [hm] at a1; cases a1
          obtain ⟨_, _, _, c', b1, b2, b3, b4, b5, b6⟩ := r.blk b' B' hB' c2
          rw [hm'] at b1; cases b1
          obtain ⟨o1, vs', l1, l2, l3⟩ := readL_ok b6 hvs
          obtain ⟨q1, q2⟩ := r.store hB c1 hm a3 l2 (o := o) c3 o1
          have hf := run_firstCells_some (P := P) w s (Nat.min sl dl) ⟨C', k' + o', none⟩ sl scap vs' l1 (firstCells_ok b3 l3)
          have hst := run_storeCells_at (P := P) C (k + o) B.elem vs' 0 c w a3 (by simpa using q2) (l2.all_one o1)
          refine ⟨_, q1, .int _ _, ?_⟩
          simp [Builtin.copy_, run_underlying ht, sizeT_ok hz, Builtin.lenOf, hf, hst, goInt]
      · cases h
    · cases h
  · cases h

end Go.Proofs.Ytmdhmpfagekonaa.Ev
