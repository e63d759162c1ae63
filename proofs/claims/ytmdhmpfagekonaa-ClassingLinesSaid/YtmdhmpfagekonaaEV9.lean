/- A run of closed code: an append, whatever the room. -/
import Derived.Test.YtmdhmpfagekonaaEV8
namespace Go.Proofs.Ytmdhmpfagekonaa.Ev
open Go.RowKit
set_option linter.unusedVariables false
set_option linter.unusedSimpArgs false

theorem le_grownCap (w : World) (need old : Nat) (e : TypeId) : need ≤ grownCap w need old e := by
  unfold grownCap; simp only [Question.cut]; omega

theorem zeroT_at {P : Program} {t : TypeId} {cs : Array Value} {i : TypeInfo} (hi : P.info? t = some i) (h : zeroT P t = some cs) : ∃ z, i.zero = some z ∧ z.cells = cs := by
  unfold zeroT at h
  simp only [hi] at h
  cases hz : i.zero with
  | none => simp [hz] at h
  | some z =>
    simp only [hz] at h
    cases ha : z.cells.toList.all plain1 with
    | false => simp [ha] at h
    | true => simp only [ha, cond_true, Option.some.injEq] at h; exact ⟨z, rfl, h⟩

/-- A block that nobody names any more may hold what it will. -/
theorem Rel.dead {w0 : World} {m : Names} {H : Tr Blk} {w : World} (r : Rel w0 m H w) {C : Nat} (hC : w0.heap.size ≤ C) (hother : ∀ b' B' C' k' R', H.at b' = some B' → B'.live = true → m b' = some (C', k', R') → C ≠ C') {c0 : Array Value} {e0 : TypeId} (hc0 : w.heap[C]? = some (.cells c0 e0 (0, 0))) (cs : Array Value) :
    Rel w0 m H (w.setRow C cs) := by
  refine ⟨below_setRow r.bel hC _, r.fine, r.dom, ?_, r.inj, r.oth.keep (.refl m) (fun _ _ h _ => h) (fun C' x hx hn => ?_)⟩
  rotate_left
  · have : C' ≠ C := by rintro rfl; rw [hc0] at hx; cases hx; exact hn _ _ _ rfl
    rw [setRow_other _ _ _ _ this]; exact hx
  intro b B hB hl
  obtain ⟨C', k', R', c', a1, a2, a3, a4⟩ := r.blk b B hB hl
  exact ⟨C', k', R', c', a1, a2, by rw [setRow_other _ _ _ _ (Ne.symm (hother b B C' k' R' hB hl a1))]; exact a3, a4⟩

theorem VL.get {m : Names} {a b : List Value} (h : VL m a b) {i : Nat} {x : Value} (hx : a[i]? = some x) : ∃ y, b[i]? = some y ∧ VR m x y := by
  obtain ⟨y, h1, h2⟩ := h.to.get (i := i) (x := x) (by simpa using hx)
  exact ⟨y, by simpa using h1, h2⟩

theorem list_nil_of {l : List Value} {s : Nat} (h : l.length = 0 * s) : l = [] := List.eq_nil_of_length_eq_zero (by simpa using h)

theorem appA_ok {P : Program} {w0 : World} {m : Names} {H H' : Tr Blk} {w : World} {id : Nat} {t ty : TypeId} {sv xv sv' xv' v : Value} (r : Rel w0 m H w) (hs : VR m sv sv') (hx : VR m xv xv') (h : appA P H id t sv xv = some (v, H')) :
    ∃ m' w' v', Sub m m' ∧ Rel w0 m' H' w' ∧ VR m' v v' ∧ (Builtin.append_ #[t, t] ty #[sv', xv']).run P w = .ok v' w' := by
  unfold appA at h
  split at h
  · rename_i e ht
    split at h
    · rename_i i z hi hz
      split at h
      · rename_i us hn
        split at h
        · cases h
          obtain ⟨a, cp, vs', rfl, l1, l2, l3, l4⟩ := newsA_ok r hx hn
          have hnil := list_nil_of l1
          subst hnil
          refine ⟨m, w, sv', .refl m, r, hs, ?_⟩
          have hf := run_firstCells_some (P := P) w i.size 0 a 0 cp [] (by simp) l4
          cases hs with
          | snil => simp [Builtin.append_, run_underlying ht, sizeOf, typeInfo, hi, Builtin.lenOf, hf, storeCells]
          | slice b o C k len cap cc hm h1 h2 => simp [Builtin.append_, run_underlying ht, sizeOf, typeInfo, hi, Builtin.lenOf, hf, storeCells, h1]
        · cases h
      · rename_i n vs hn
        cases hc : (Nat.ble i.bytes 65536 && isNone (H.at id) && Nat.blt id 4096 && Nat.beq z.size i.size) with
        | false => rw [hc] at h; cases h
        | true =>
        rw [hc] at h
        simp only [cond_true] at h
        simp only [Bool.and_eq_true, Nat.ble_eq, Nat.blt_eq, Nat.beq_eq] at hc
        obtain ⟨⟨⟨c1, c2⟩, c3⟩, c4⟩ := hc
        have hf : H.at id = none := by cases e : H.at id with | none => rfl | some x => rw [e] at c2; cases c2
        have hid : id < 2 ^ deep := by simpa [deep] using c3
        obtain ⟨a, cp, vs', rfl, l1, l2, l3, l4⟩ := newsA_ok r hx hn
        obtain ⟨zz, hzz, hzc⟩ := zeroT_at hi hz
        replace l1 : vs'.length = (n + 1) * i.size := l1
        have hlen := l2.length
        have bytes_le : ∀ q, q ≤ 4096 → q * i.bytes ≤ 140737488355328 := fun q hq => by
          have : q * i.bytes ≤ 4096 * 65536 := Nat.mul_le_mul hq c1
          omega
        have hone := l2.all_one l3
        split at h
        · cases hb : Nat.ble (n + 1) 4096 with
          | false => rw [hb] at h; cases h
          | true =>
            rw [hb] at h
            simp only [cond_true, Option.some.injEq, Prod.mk.injEq] at h
            obtain ⟨rfl, rfl⟩ := h
            have hn4 : n + 1 ≤ 4096 := by simpa [Nat.ble_eq] using hb
            cases hs
            have hrun := run_append_nil (P := P) w t ty e i zz ht hi hzz a (n + 1) cp vs' l1 l4 (by omega) (by omega) (by have := bytes_le (n + 1) hn4; omega)
            have hcap := le_grownCap w (n + 1) 0 e
            generalize hg : grownCap w (n + 1) 0 e = cap at *
            obtain ⟨hsub, r'⟩ := r.drew.alloc hf e (vs := vs) (vs'.toArray ++ Builtin.zeroCells zz.cells (cap - (n + 1))) (by simp; omega) (fun j u hj => by
              obtain ⟨y, q1, q2⟩ := l2.get hj
              exact ⟨y, by rw [Array.getElem?_append_left (by have := (List.getElem?_eq_some_iff.1 q1).1; simpa using this)]; simpa using q1, q2⟩) hid l3
            refine ⟨_, _, _, hsub, r', ?_, hrun⟩
            have hsz : (vs'.toArray ++ Builtin.zeroCells zz.cells (cap - (n + 1))).size = cap * i.size := by
              rw [Array.size_append, size_zeroCells, hzc, c4]
              simp only [List.size_toArray, l1]
              rw [← Nat.add_mul]; congr 1; omega
            refine VR.slice id 0 w.heap.size 0 _ cap _ (named_id _ _ _ _ _) hcap (.inr ⟨i.size, rfl, ?_⟩)
            rw [hsz]; omega
        · rename_i b off len cc
          cases hB : H.at b with
          | none => simp [hB] at h
          | some B =>
          simp only [hB] at h
          cases hcc : (B.live && Nat.beq B.elem e && Nat.ble (len + (n + 1)) 4096 && Nat.blt b 4096) with
          | false => rw [hcc] at h; cases h
          | true =>
          rw [hcc] at h
          simp only [cond_true] at h
          simp only [Bool.and_eq_true, Nat.ble_eq, Nat.beq_eq] at hcc
          obtain ⟨⟨⟨hl, d1⟩, d2⟩, _⟩ := hcc
          cases hs with
          | @slice b o C k len cap cc R hm h1 h2 =>
          obtain ⟨C', k', R', c, a1, a2, a3, a4, a5, a6⟩ := r.blk b B hB hl
          rw [hm] at a1; cases a1
          have hbd := (r.dom b _ hm).1
          have hbid : b ≠ id := by rintro rfl; rw [hf] at hB; cases hB
          subst d1
          have grow : ∀ (H1 : Tr Blk) (olds : List Value), Rel w0 m H1 w → H1.at id = none → readL B.cells (len * i.size) off = some olds → cap < len + (n + 1) →
              ∃ m' w' v', Sub m m' ∧ Rel w0 m' (H1.put id (newBlk B.elem (olds ++ vs))) w' ∧ VR m' (.slice (some ⟨id, 0, none⟩) (len + (n + 1)) (2 * i.size)) v' ∧
                (Builtin.append_ #[t, t] ty #[.slice (some ⟨C, k + off, none⟩) len cap, .slice (some a) (n + 1) cp]).run P w = .ok v' w' := by
            intro H1 olds r1 hf1 ho hlt
            obtain ⟨o1, olds', p1, p2, p3⟩ := readL_ok a6 ho
            have hfit := growslice_fits (need := len + (n + 1)) (old := cap) (bytes := i.bytes) hlt (bytes_le _ d2)
            have hrun := run_append_grow (P := P) w t ty B.elem i zz ht hi hzz ⟨C, k + off, none⟩ len cap olds' p1 (firstCells_ok a3 p3) a (n + 1) cp vs' l1 l4 hlt (by omega) hfit
            have hcap := le_grownCap w (len + (n + 1)) cap B.elem
            generalize hg : grownCap w (len + (n + 1)) cap B.elem = cap2 at *
            have hall := p2.append l2
            obtain ⟨hsub, r'⟩ := r1.drew.alloc hf1 B.elem (vs := olds ++ vs) (olds'.toArray ++ vs'.toArray ++ Builtin.zeroCells zz.cells (cap2 - (len + (n + 1)))) (by simp; have := p2.length; omega) (fun j u hj => by
              obtain ⟨y, q1, q2⟩ := hall.get hj
              exact ⟨y, by rw [Array.getElem?_append_left (by have := (List.getElem?_eq_some_iff.1 q1).1; simpa using this)]; simpa using q1, q2⟩) hid (by simp [o1, l3])
            refine ⟨_, _, _, hsub, r', ?_, hrun⟩
            have hsz : (olds'.toArray ++ vs'.toArray ++ Builtin.zeroCells zz.cells (cap2 - (len + (n + 1)))).size = cap2 * i.size := by
              rw [Array.size_append, size_zeroCells, hzc, c4]
              simp only [Array.size_append, List.size_toArray, l1, p1]
              rw [← Nat.add_mul, ← Nat.add_mul]; congr 1; omega
            refine VR.slice id 0 w.heap.size 0 _ cap2 _ (named_id _ _ _ _ _) hcap (.inr ⟨i.size, rfl, ?_⟩)
            rw [hsz]; omega
          cases hk : Nat.beq (cc % 2) 1 with
          | true =>
            rw [hk] at h
            simp only [cond_true] at h
            have hcap : cc / 2 = cap := by
              have := Nat.eq_of_beq_eq_true hk
              rcases h2 with h2 | ⟨s, h2, _⟩ <;> omega
            rw [hcap] at h
            cases hroom : Nat.ble (len + (n + 1)) cap with
            | true =>
              rw [hroom] at h
              simp only [cond_true] at h
              have hroom' : len + (n + 1) ≤ cap := by simpa [Nat.ble_eq] using hroom
              cases hfit : Nat.ble (off + len * i.size + vs.length) B.n with
              | false => rw [hfit] at h; cases h
              | true =>
                rw [hfit] at h
                simp only [cond_true, Option.some.injEq, Prod.mk.injEq] at h
                obtain ⟨rfl, rfl⟩ := h
                have hfit' : off + len * i.size + vs.length ≤ B.n := by simpa [Nat.ble_eq] using hfit
                obtain ⟨q1, q2⟩ := r.store hB hl hm a3 l2 (o := off + len * i.size) hfit' l3
                have hrun := run_append_in (P := P) w t ty B.elem i ht hi C (k + off) len cap a3 a (n + 1) cp vs' l1 l4 hroom' (by omega) hone
                rw [show k + off + len * i.size = k + (off + len * i.size) by omega] at hrun
                exact ⟨m, _, _, .refl m, q1, .slice b off C k _ cap _ hm hroom' h2, hrun⟩
            | false =>
              rw [hroom] at h
              simp only [cond_false] at h
              have hroom' : cap < len + (n + 1) := by
                have : ¬ (len + (n + 1) ≤ cap) := by rw [← Nat.ble_eq, hroom]; simp
                omega
              split at h
              · rename_i olds ho
                cases h
                exact grow H olds r hf ho hroom'
              · cases h
          | false =>
            rw [hk] at h
            simp only [cond_false] at h
            cases hsz : Nat.beq (cc / 2) i.size with
            | false => rw [hsz] at h; cases h
            | true =>
              rw [hsz] at h
              simp only [cond_true] at h
              split at h
              · rename_i olds ho
                cases h
                have hk' := Nat.ne_of_beq_eq_false hk
                have hsz' := Nat.eq_of_beq_eq_true hsz
                have hR : off + cap * i.size ≤ R := by
                  rcases h2 with h2 | ⟨s, h2, h3⟩
                  · omega
                  · have : s = i.size := by omega
                    subst this; exact h3
                have rk := r.kill hB hl
                have hfk : (H.put b { elem := B.elem, cells := .nil, n := 0, live := false, mp := false }).at id = none := by rw [Tr.at_put_ne r.fine hbid hbd hid]; exact hf
                by_cases hroom : len + (n + 1) ≤ cap
                · obtain ⟨o1, olds', p1, p2, p3⟩ := readL_ok a6 ho
                  have hmul : (len + (n + 1)) * i.size ≤ cap * i.size := Nat.mul_le_mul_right _ hroom
                  have hadd : (len + (n + 1)) * i.size = len * i.size + (n + 1) * i.size := Nat.add_mul _ _ _
                  have hfit : k + off + len * i.size + vs'.length ≤ c.size := by omega
                  have hrun := run_append_in (P := P) w t ty B.elem i ht hi C (k + off) len cap a3 a (n + 1) cp vs' l1 l4 hroom hfit hone
                  have hother : ∀ b' B' C' k' R2, (H.put b { elem := B.elem, cells := .nil, n := 0, live := false, mp := false }).at b' = some B' → B'.live = true → m b' = some (C', k', R2) → C ≠ C' := by
                    intro b' B' C' k2 R2 g1 g2 g3
                    rcases Tr.at_put_some r.fine g1 with ⟨rfl, rfl⟩ | ⟨g4, g5⟩
                    · simp at g2
                    · exact r.inj b b' B B' C k R C' k2 R2 hB g5 hl g2 g4 hm g3
                  have rd := rk.dead a2 hother a3 (c.toList.take (k + off + len * i.size) ++ vs' ++ c.toList.drop (k + off + len * i.size + vs'.length)).toArray
                  have hall := p2.append l2
                  obtain ⟨hsub, r'⟩ := rd.rename (Tr.at_put H b _) rfl hm hfk hid a2 hother (setRow_heap w C c _ _ _ a3) (k + off) (R - off) (vs := olds ++ vs) (by have h5 := p2.length; rw [List.length_append]; omega) (by simp; omega) (fun j u hj => by
                      obtain ⟨y, q1, q2⟩ := hall.get hj
                      refine ⟨y, ?_, q2⟩
                      rw [List.getElem?_toArray, three_get c.toList vs' (k + off + len * i.size) (by simpa using hfit)]
                      by_cases hj1 : j < olds'.length
                      · rw [if_pos (by omega), List.getElem?_append_left hj1] at *
                        have := p3 j y q1
                        simpa using this
                      · rw [List.getElem?_append_right (by omega)] at q1
                        have hj2 := (List.getElem?_eq_some_iff.1 q1).1
                        rw [if_neg (by omega), if_pos (by omega), show k + off + j - (k + off + len * i.size) = j - olds'.length by omega]
                        exact q1) (by simp [o1, l3])
                  refine ⟨_, _, _, hsub, r', ?_, hrun⟩
                  exact VR.slice id 0 C (k + off) _ cap _ (named_id _ _ _ _ _) hroom (.inr ⟨i.size, rfl, by omega⟩)
                · exact grow _ olds rk hfk ho (by omega)
              · cases h
        · cases h
      · cases h
    · cases h
  · cases h

end Go.Proofs.Ytmdhmpfagekonaa.Ev
