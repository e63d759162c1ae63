/- Several texts in one: AQ2 U4 AQ3. -/
import Derived.Test.YtlahdfmciaibdaaDoorAQ1
import Derived.Test.YtlahdfmciaibdaaDoorND2
import Derived.Test.YtlahdfmciaibdaaDoorND6
import Derived.OwnWalk

/- Apportion in general. -/
namespace Go.Proofs.YtlahdfmciaibdaaDoor
open Go.RowKit Go.Proofs.YtlahdfmciaibdaaDoor.Prs Go.Proofs.YtlahdfmciaibdaaDoor.Stb
set_option linter.unusedVariables false
set_option linter.unusedSimpArgs false

theorem own_kept {w w' : World} {a b m c s n : Nat} {e : TypeId} {xs : List Value} (h : w.ownsRow a e s (.slice (some ⟨b, 0, none⟩) m c) n xs) (hb : w'.heap[b]? = w.heap[b]?) : w'.ownsRow a e s (.slice (some ⟨b, 0, none⟩) m c) n xs := by
  refine ⟨h.1, ?_⟩
  rcases h.2 with h0 | ⟨g, cap, cur, e1, h1, h2, r⟩
  · exact .inl h0
  · cases e1; exact .inr ⟨b, c, cur, rfl, h1, hb.trans h2, r⟩
theorem own_base {W : World} {a b : Nat} {e : TypeId} {s : Nat} {v : Value} {n : Nat} {xs : List Value} (hab : a ≤ b) (h : W.ownsRow b e s v n xs) : W.ownsRow a e s v n xs := by
  refine ⟨h.1, ?_⟩
  rcases h.2 with h0 | ⟨g, cap, cur, e1, hb, r⟩
  · exact .inl h0
  · exact .inr ⟨g, cap, cur, e1, Nat.le_trans hab hb, r⟩
theorem map_upd (K : Int → Value) (N : Nat) (f : Nat → Int) (k : Nat) (v : Int) : ((List.range N).map fun k => K (f k)).set k (K v) = (List.range N).map fun j => K (upd f k v j) := by
  apply List.ext_getElem
  · simp
  · intro i h1 h2
    simp only [List.getElem_set, List.getElem_map, List.getElem_range, upd]
    by_cases c : k = i
    · subst c; simp
    · rw [if_neg c, if_neg (fun e => c e.symm)]
/-- The memory while Apportion works: parts at p, remainders at r (their box at x), the order at o. -/
structure AW (p r x o N : Nat) (w wr : World) (fP fR fO : Nat → Int) : Prop where
  P : wr.ownsRow w.heap.size 3 1 (.slice (some ⟨p, 0, none⟩) N N) N ((List.range N).map fun k => .int .i64 (fP k))
  R : wr.ownsRow w.heap.size 48 1 (.slice (some ⟨r, 0, none⟩) N N) N ((List.range N).map fun k => .int .u64 (fR k))
  X : wr.cell? ⟨x, 0, none⟩ = some (.slice (some ⟨r, 0, none⟩) N N)
  O : wr.ownsRow w.heap.size 3 1 (.slice (some ⟨o, 0, none⟩) N N) N ((List.range N).map fun k => .int .i64 (fO k))
  B : Below w.heap.size w wr
  pw : w.heap.size ≤ p
  pr : p < r
  rx : r < x
  xo : x < o
section
variable {p r x o N : Nat} {w wr : World} {fP fR fO : Nat → Int}
theorem AW.setP (s : AW p r x o N w wr fP fR fO) (k : Nat) (v : Int) : AW p r x o N w (wr.setCell ⟨p, k, none⟩ (.int .i64 v)) (upd fP k v) fR fO := by
  have h1 := s.pw; have h2 := s.pr; have h3 := s.rx; have h4 := s.xo
  refine ⟨?_, own_kept s.R (Below.heap_setCell _ _ _ _ (by dsimp only; omega)), (World.cell?_of_block (w := wr) (a := ⟨x, 0, none⟩) (Below.heap_setCell _ _ _ _ (by dsimp only; omega))).trans s.X, own_kept s.O (Below.heap_setCell _ _ _ _ (by dsimp only; omega)), s.B.setCell h1 _, h1, h2, h3, h4⟩
  have := (s.P.stored k (.int .i64 v)).1
  rwa [map_upd (Value.int .i64)] at this
theorem AW.setR (s : AW p r x o N w wr fP fR fO) (k : Nat) (v : Int) : AW p r x o N w (wr.setCell ⟨r, k, none⟩ (.int .u64 v)) fP (upd fR k v) fO := by
  have h1 := s.pw; have h2 := s.pr; have h3 := s.rx; have h4 := s.xo
  refine ⟨own_kept s.P (Below.heap_setCell _ _ _ _ (by dsimp only; omega)), ?_, (World.cell?_of_block (w := wr) (a := ⟨x, 0, none⟩) (Below.heap_setCell _ _ _ _ (by dsimp only; omega))).trans s.X, own_kept s.O (Below.heap_setCell _ _ _ _ (by dsimp only; omega)), s.B.setCell (by dsimp only; omega) _, h1, h2, h3, h4⟩
  have := (s.R.stored k (.int .u64 v)).1
  rwa [map_upd (Value.int .u64)] at this
theorem AW.setO (s : AW p r x o N w wr fP fR fO) (k : Nat) (v : Int) : AW p r x o N w (wr.setCell ⟨o, k, none⟩ (.int .i64 v)) fP fR (upd fO k v) := by
  have h1 := s.pw; have h2 := s.pr; have h3 := s.rx; have h4 := s.xo
  refine ⟨own_kept s.P (Below.heap_setCell _ _ _ _ (by dsimp only; omega)), own_kept s.R (Below.heap_setCell _ _ _ _ (by dsimp only; omega)), (World.cell?_of_block (w := wr) (a := ⟨x, 0, none⟩) (Below.heap_setCell _ _ _ _ (by dsimp only; omega))).trans s.X, ?_, s.B.setCell (by dsimp only; omega) _, h1, h2, h3, h4⟩
  have := (s.O.stored k (.int .i64 v)).1
  rwa [map_upd (Value.int .i64)] at this
theorem AW.drewN (s : AW p r x o N w wr fP fR fO) (n : Nat) : AW p r x o N w (wr.drewN n) fP fR fO := ⟨s.P, s.R, by simpa using s.X, s.O, below_drewN s.B n, s.pw, s.pr, s.rx, s.xo⟩
theorem AW.ext (s : AW p r x o N w wr fP fR fO) {gP gR gO : Nat → Int} (h : ∀ k, k < N → fP k = gP k ∧ fR k = gR k ∧ fO k = gO k) : AW p r x o N w wr gP gR gO := by
  have e1 : ((List.range N).map fun k => Value.int .i64 (fP k)) = (List.range N).map fun k => Value.int .i64 (gP k) := List.map_congr_left fun k hk => by rw [(h k (List.mem_range.1 hk)).1]
  have e2 : ((List.range N).map fun k => Value.int .u64 (fR k)) = (List.range N).map fun k => Value.int .u64 (gR k) := List.map_congr_left fun k hk => by rw [(h k (List.mem_range.1 hk)).2.1]
  have e3 : ((List.range N).map fun k => Value.int .i64 (fO k)) = (List.range N).map fun k => Value.int .i64 (gO k) := List.map_congr_left fun k hk => by rw [(h k (List.mem_range.1 hk)).2.2]
  exact ⟨e1 ▸ s.P, e2 ▸ s.R, s.X, e3 ▸ s.O, s.B, s.pw, s.pr, s.rx, s.xo⟩
theorem AW.cP (s : AW p r x o N w wr fP fR fO) {k : Nat} (h : k < N) : wr.cell? ⟨p, k, none⟩ = some (.int .i64 (fP k)) := by rw [s.P.cellAt k (by omega)]; simp [h]
theorem AW.cR (s : AW p r x o N w wr fP fR fO) {k : Nat} (h : k < N) : wr.cell? ⟨r, k, none⟩ = some (.int .u64 (fR k)) := by rw [s.R.cellAt k (by omega)]; simp [h]
theorem AW.cO (s : AW p r x o N w wr fP fR fO) {k : Nat} (h : k < N) : wr.cell? ⟨o, k, none⟩ = some (.int .i64 (fO k)) := by rw [s.O.cellAt k (by omega)]; simp [h]
theorem AW.sw (s : AW p r x o N w wr fP fR fO) : SW o N N wr wr fO := ⟨own_base (Nat.zero_le _) s.O, Nat.le_refl _, fun _ _ _ => rfl, rfl, rfl, rfl⟩
theorem AW.lt (s : AW p r x o N w wr fP fR fO) : o < wr.heap.size := (s.O.lt _ rfl).2
theorem AW.sorted {wz : World} {gO : Nat → Int} (s : AW p r x o N w wr fP fR fO) (t : SW o N N wr wz gO) : AW p r x o N w wz fP fR gO := by
  have h1 := s.pw; have h2 := s.pr; have h3 := s.rx; have h4 := s.xo; have h5 := s.lt
  have rr : wz.ownsRow w.heap.size 3 1 (.slice (some ⟨o, 0, none⟩) N N) N ((List.range N).map fun k => .int .i64 (gO k)) := by
    refine ⟨t.row.1, ?_⟩
    rcases t.row.2 with h0 | ⟨g, cap, cur, e1, hb, q⟩
    · exact .inl h0
    · cases e1; exact .inr ⟨o, N, cur, rfl, by omega, q⟩
  exact ⟨own_kept s.P (t.bl p (by omega) (by omega)), own_kept s.R (t.bl r (by omega) (by omega)), (World.cell?_of_block (w := wr) (a := ⟨x, 0, none⟩) (t.bl x (by omega) (by omega))).trans s.X, rr,
    ⟨t.os.trans s.B.os, t.tp.trans s.B.tape, t.ou.trans s.B.output, Nat.le_trans s.B.size t.sz, fun k hk => (t.bl k (by omega) (Nat.lt_of_lt_of_le hk s.B.size)).trans (s.B.block k hk)⟩, h1, h2, h3, h4⟩
theorem AW.made (s : AW p r x o N w wr fP fR fO) : MadeI w wr p N ((List.range N).map fP) := by
  refine ⟨by simp, s.pw, ?_, s.B⟩
  rw [List.map_map]
  exact s.P
end
/-- What the comparison looks at. -/
def KpA (r x N : Nat) (fR : Nat → Int) (B : Nat) (w : World) : Prop := w.cell? ⟨x, 0, none⟩ = some (.slice (some ⟨r, 0, none⟩) N N) ∧ (∀ k, k < N → w.cell? ⟨r, k, none⟩ = some (.int .u64 (fR k))) ∧ x ≠ B ∧ r ≠ B
theorem KpA.keep {r x N : Nat} {fR : Nat → Int} {B : Nat} {u v : World} (bl : ∀ k, k ≠ B → k < u.heap.size → v.heap[k]? = u.heap[k]?) (h : KpA r x N fR B u) : KpA r x N fR B v := by
  obtain ⟨h1, h2, h3, h4⟩ := h
  exact ⟨(World.cell?_of_block (w := u) (a := ⟨x, 0, none⟩) (bl x h3 (World.block_lt_of_cell? u _ h1))).trans h1, fun k hk => (World.cell?_of_block (w := u) (a := ⟨r, k, none⟩) (bl r h4 (World.block_lt_of_cell? u _ (h2 k hk)))).trans (h2 k hk), h3, h4⟩
theorem below_of_drew {w w' : World} (h : ∃ q, w' = w.drewN q) : Below w.heap.size w w' := by obtain ⟨q, rfl⟩ := h; exact below_drewN (Below.refl _ _) q
theorem cmp_rem (fR : Nat → Int) (x y : Int) (h : x < y) : cmpV (fR x.toNat) (fR y.toNat) < 0 ↔ RemB fR y x := by
  unfold cmpV RemB
  repeat' split
  all_goals omega
theorem remB_tot (fR : Nat → Int) (V : Int → Prop) : Tot (RemB fR) V := by
  refine ⟨fun x y z _ _ _ a b => ?_, fun x y _ _ ne n => ?_⟩
  · unfold RemB at *; omega
  · unfold RemB at *; omega
set_option maxRecDepth 100000 in
theorem cmpA (r x N : Nat) (fR : Nat → Int) (B : Nat) (hN : N ≤ 1000) : Cmp 26 (.pointer (some ⟨x, 0, none⟩)) B (fun y => 0 ≤ y ∧ y < N) (RemB fR) (fun a b => cmpV (fR b.toNat) (fR a.toNat)) (KpA r x N fR B) :=
  ⟨fun a b w h ha hb => (less_any x r N N a b (fR a.toNat) (fR b.toNat) w ha.1 hb.1 ha.2 hb.2 hN h.1 (h.2.1 _ (by omega)) (h.2.1 _ (by omega))).mono fun e w' h => ⟨h.1, below_of_drew h.2⟩,
   fun a b _ _ h => cmp_rem fR a b h, fun A B _ bl h => h.keep bl, remB_tot fR _, fun args W => by rfl⟩
theorem AW.kp {p r x o N : Nat} {w wr : World} {fP fR fO : Nat → Int} (s : AW p r x o N w wr fP fR fO) : KpA r x N fR o wr := ⟨s.X, fun k hk => s.cR hk, by have := s.xo; omega, by have := s.rx; have := s.xo; omega⟩

/-- What Apportion returns. -/
def ApR (T : Int) (l : List Int) (w : World) (e : Ending) (w' : World) : Prop :=
  (∃ E, E ≠ 0 ∧ e = .returned (.tuple #[.slice none 0 0, .int .i64 E]) ∧ SumR T l 0 E ∧ Below w.heap.size w w') ∨
  (∃ b P, e = .returned (.tuple #[.slice (some ⟨b, 0, none⟩) l.length l.length, .int .i64 0]) ∧ MadeI w w' b l.length P ∧ Takes T l ∧ (l.sum = 0 → T = 0) ∧ (l.sum = 0 → P = List.replicate l.length 0) ∧ (0 < l.sum → ∃ o left, LR T l.sum l P o left))
end Go.Proofs.YtlahdfmciaibdaaDoor

/- Divide in general. -/
namespace Go.Proofs.YtlahdfmciaibdaaDoor
open Go.RowKit
set_option linter.unusedVariables false
set_option linter.unusedSimpArgs false

/-- What Divide returns. -/
def DivR (T : Int) (l : List Int) (w : World) (e : Ending) (w' : World) : Prop :=
  (∃ E, E ≠ 0 ∧ e = .returned (.tuple #[.slice none 0 0, .int .i64 E]) ∧ SumR T l 0 E ∧ Below w.heap.size w w') ∨
  (∃ b P, e = .returned (.tuple #[.slice (some ⟨b, 0, none⟩) l.length l.length, .int .i64 0]) ∧ MadeI w w' b l.length P ∧ Takes T l ∧ (l.sum = 0 → T = 0) ∧ Dn l P ∧ P.sum = T)

set_option maxRecDepth 100000 in
set_option maxHeartbeats 4000000 in
theorem Divide_any (T : Int) (q : Option Addr) (c : Nat) (l : List Int) (w : World) (r : RowA w q l) (ln : l.length ≤ 1000000) :
    Calls Tryd.prog 10 #[.int .i64 T, .slice q l.length c] w (DivR T l w) := by
  obtain ⟨i0, hi, hz0, hz1, hz2⟩ := info_parts intInfo
  have R := Lib.hid r
  have SO := Lib.hid (fun W h => sumOf_any T q c l W h ln)
  have HA := Lib.hid (fun W S h t s p => head_any T S q c l W h t s p)
  have NX := Lib.hid (fun b cp P W rp gz r hP hl ex => next_any b cp P q c l W rp gz r ln hP hl ex)
  have DZ := Lib.hid (Dn.zeros l)
  obtain ⟨x, hx⟩ : ∃ x, x = l.length := ⟨_, rfl⟩
  unfold DivR
  unfold HeadR at HA
  rw [← hx] at ln SO HA NX DZ ⊢
  have HX := Lib.hid hx
  clear hx r
  go_enter Tryd.func10, Tryd.ntmps10
  go_wp2_with fail
  refine (SO.out _ R.out).mono ?_
  rintro e w1 ⟨⟨S, E, rfl, SR⟩, rfl⟩
  clear SO
  have CS : (E ≠ 0 ∧ S = 0 ∧ Hid (SumR T l 0 E)) ∨ (E = 0 ∧ Hid (Takes T l) ∧ (l.sum = 0 → T = 0) ∧ S = l.sum) := by
    rcases id SR with ⟨a, b, c⟩ | ⟨a, a', b, c⟩ | ⟨a, a', a'', b, c⟩ | ⟨a, b, c, d⟩
    · subst b; exact .inl ⟨by omega, rfl, SR⟩
    · subst b; exact .inl ⟨by omega, rfl, SR⟩
    · subst b; exact .inl ⟨by omega, rfl, SR⟩
    · exact .inr ⟨d, a, b, c⟩
  clear SR
  rcases CS with ⟨E0, rfl, SR⟩ | ⟨rfl, TK, TZ, hS⟩
  · have E0' : (E == 0) = false := by simpa using E0
    have E1 := Lib.hid E0
    clear E0 HA NX DZ
    go_wp2_with fail
    go_ret2
    exact .inl ⟨_, E1.out, rfl, SR.out, by go_grown⟩
  · obtain ⟨ln2, ⟨T0, T1⟩, hl⟩ := TK.out
    have HL := Lib.hid hl
    have S0 : 0 ≤ S := by
      have := sum_le_of (a := List.replicate l.length 0) (b := l) (by simp) (fun i hi => by rw [gd_zeros]; exact (hl i (by simpa using hi)).1)
      rw [sum_zeros] at this; omega
    clear hl
    rw [← HX.out] at ln2
    replace TZ := Lib.hid TZ
    have HS := Lib.hid hS
    by_cases hz : S = 0
    · have T00 : T = 0 := TZ.out (by omega)
      clear hS NX HA
      subst hz T00
      go_wp2_with (first
        | (at_make; refine wpList_make_full _ rfl _ _ 22 rfl w.heap.size 3 i0 (.int .i64 0) 1 Tryd.underlying22 hi hz0 hz1 .i64 .i64 _ _ x rfl rfl (by omega) (by omega) (by rw [hz2]; omega) (by unfold maxLen; omega) (Nat.le_refl _) ?_; intro w0 hown0 hgrow0))
      rw [made_zeros] at hown0
      have M0 := Lib.hid (show MadeI w w0 w.heap.size x (List.replicate x 0) from ⟨by simp, Nat.le_refl _, hown0, (Below.refl _ _).grown hgrow0 (Nat.le_refl _) (fun k e => by cases e)⟩)
      clear hown0 hgrow0
      go_wp2_with fail
      go_ret2
      first | exact .inr ⟨w.heap.size, List.replicate x 0, rfl, M0.out, TK.out, TZ.out, DZ.out, sum_zeros _⟩ | exact .inr ⟨w.heap.size, rfl, List.replicate x 0, M0.out, TK.out, TZ.out, DZ.out, sum_zeros _⟩ | exact .inr ⟨w.heap.size, rfl, List.replicate x 0, M0.out, TK.out, DZ.out, sum_zeros _⟩
    · have zb : (S == 0) = false := by simpa using hz
      have SP : 0 < S := by omega
      have EX : Hid (∃ i, i < x ∧ 0 < gd l i) := by
        obtain ⟨i, h1, h2⟩ := sum_lt_of (a := List.replicate l.length 0) (b := l) (by simp) (by rw [sum_zeros]; omega)
        rw [gd_zeros] at h2
        exact ⟨i, by have := HX.out; simp at h1; omega, h2⟩
      clear hS hz DZ
      go_wp2_with fail
      refine (HA.out _ S R.out TK.out HS.out.symm SP).mono ?_
      rintro e w2 ⟨b, P0, rfl, M0, D0, S1⟩
      replace M0 := Lib.hid M0
      replace D0 := Lib.hid D0
      have cells := Lib.hid (fun i (h : i < x) => M0.out.cell i (by have := M0.out.1; omega))
      clear HA
      have Pn : ∀ i, 0 ≤ gd P0 i := D0.out.pos
      have Ps := Lib.hid (fun k (h : k < x) => sum_take_succ (l := P0) (k := k) (by have := M0.out.1; omega))
      have PT := Lib.hid (show (P0.take x).sum = P0.sum by rw [← M0.out.1, List.take_length])
      have Pb := Lib.hid (fun k => (show 0 ≤ (P0.take k).sum ∧ (P0.take k).sum ≤ P0.sum from by
        constructor
        · have := sum_le_of (a := List.replicate (P0.take k).length 0) (b := P0.take k) (by simp) (fun i hi => by
            rw [gd_zeros]
            simp only [List.length_replicate, List.length_take] at hi
            have := Pn i
            unfold gd at this ⊢
            rw [List.getElem?_take, if_pos (by omega)]; exact this)
          rw [sum_zeros] at this; exact this
        · have e : P0.sum = (P0.take k).sum + (P0.drop k).sum := by rw [← List.sum_append, List.take_append_drop]
          have := sum_le_of (a := List.replicate (P0.drop k).length 0) (b := P0.drop k) (by simp) (fun i hi => by
            rw [gd_zeros]
            have := Pn (k + i)
            unfold gd at this ⊢
            rw [List.getElem?_drop]; exact this)
          rw [sum_zeros] at this; omega))
      generalize hP0 : P0.sum = s0 at *
      have HP0 := Lib.hid hP0
      clear hP0 Pn
      go_wp2_with fail
      go_loop [9, 34] (fun fv kv => ∃ (k : Nat) (f : Int), k ≤ x ∧ fv = .int .i64 f ∧ kv = .int .i64 k ∧ T - s0 ≤ f ∧ f ≤ T ∧ Hid (f = T - (P0.take k).sum)) (fun _ kv => x - (intOf kv).toNat)
      case atStart => exact ⟨0, T, Nat.zero_le _, rfl, rfl, by have := (Pb.out 0); simp at this; omega, by omega, by show _ = _; simp⟩
      case round =>
        obtain ⟨k, f, hk, rfl, rfl, f0, f1, HF⟩ := hrel
        by_cases t2 : k < x
        · have cP := cells.out k t2
          have NS := Ps.out k t2
          have b1 := Pb.out k
          have b2 := Pb.out (k + 1)
          have HFo := HF.out
          have v0 : 0 ≤ gd P0 k := D0.out.pos k
          have NY : Hid (f - gd P0 k = T - (P0.take (k + 1)).sum) := by show _ = _; omega
          have g0 : T - s0 ≤ f - gd P0 k := by omega
          have g1 : gd P0 k ≤ T := by omega
          have i3 : (k : Int) < (x : Int) := by omega
          have i4 : (0 : Int) ≤ (k : Int) := by omega
          have gb := M0.out.lt
          clear NS b1 b2 HFo HF
          generalize gd P0 k = v at *
          go_wp2_with fail
          go_round
          case rel => exact ⟨k + 1, f - v, by omega, rfl, by go_num, by omega, by omega, NY⟩
          case measure => simp [intOf]; omega
        · have hf : f = T - s0 := by
            have a := HF.out
            rw [show k = x from by omega, PT.out] at a
            exact a
          clear HF f0 f1 Pb Ps PT cells
          have F0 : 0 ≤ f := by omega
          have HF := Lib.hid hf
          have FT : f ≤ T := by have := D0.out; have z := gd_nonneg_le_sum (l := P0) D0.out.pos; have := Lib.hid hf; have : 0 ≤ s0 := by
                                  have y := sum_le_of (a := List.replicate P0.length 0) (b := P0) (by simp) (fun i _ => by rw [gd_zeros]; exact D0.out.pos i)
                                  rw [sum_zeros, HP0.out] at y; exact y
                                omega
          clear hf
          go_wp2_with fail
          go_loopw [43] (fun mv wr => ∃ (m : Nat) (P : List Int), (m : Int) ≤ f ∧ mv = .int .i64 m ∧ Hid (MadeI w wr b x P) ∧ Hid (Dn l P) ∧ Hid (P.sum = s0 + m)) (fun mv _ => (f - intOf mv).toNat)
          case atStart => exact ⟨0, P0, by omega, rfl, M0, D0, by show _ = _; rw [HP0.out]; simp⟩
          case round =>
            clear M0 D0
            obtain ⟨m, P, hm, rfl, MP, DP, SP2⟩ := hrel
            by_cases t3 : (m : Int) < f
            · have hP : ∀ i, 0 ≤ gd P i ∧ gd P i ≤ 1152921504606846976 := fun i => ⟨DP.out.pos i, by
                have a := gd_nonneg_le_sum DP.out.pos i
                have := SP2.out
                have := HF.out
                omega⟩
              have NC := Lib.hid (NX.out b x P wr (fun i h => MP.out.cell i (by have := MP.out.1; omega)) MP.out.lt (R.out.below MP.out.2.2.2) hP (fun i h => HL.out i (by have := HX.out; omega)) EX.out)
              go_wp2_with fail
              refine NC.out.mono ?_
              rintro e w3 ⟨⟨i, rfl, NI⟩, n, rfl⟩
              have il : i < x := by have := NI.lt; have := HX.out; omega
              have lP : i < P.length := by have := MP.out.1; omega
              have cP := MP.out.cell i lP
              have fP := MP.out.frozen i
              have gP := MP.out.lt
              obtain ⟨v0, v1⟩ := hP i
              have MS := Lib.hid ((MP.out.drewN n).set i (gd P i + 1))
              have DM := Lib.hid (DP.out.next NI)
              have SM : Hid ((P.set i (gd P i + 1)).sum = s0 + ((m + 1 : Nat) : Int)) := by show _ = _; rw [sum_set lP, SP2.out]; push_cast; omega
              have i3 : (i : Int) < (x : Int) := by omega
              have i4 : (0 : Int) ≤ (i : Int) := by omega
              clear NC hP NI SP2
              generalize gd P i = v at *
              go_wp2_with fail
              go_roundw
              case rel => exact ⟨m + 1, _, by omega, by go_num, MS, DM, SM⟩
              case measure => simp [intOf]; omega
            · have ST : Hid (P.sum = T) := by
                show _ = _
                have := SP2.out
                have := HF.out
                omega
              clear SP2
              go_wp2_with fail
              go_ret2
              first | exact .inr ⟨b, P, rfl, MP.out, TK.out, TZ.out, DP.out, ST.out⟩ | exact .inr ⟨b, rfl, P, MP.out, TK.out, TZ.out, DP.out, ST.out⟩
end Go.Proofs.YtlahdfmciaibdaaDoor

/- Apportion in general: the walk. -/
namespace Go.Proofs.YtlahdfmciaibdaaDoor
open Go.RowKit Go.Proofs.YtlahdfmciaibdaaDoor.Prs Go.Proofs.YtlahdfmciaibdaaDoor.Stb
set_option linter.unusedVariables false
set_option linter.unusedSimpArgs false

theorem u64Info : (Tryd.prog.info? 48).map (fun i => (i.zero, i.size, i.bytes)) = some (some (.int .u64 0), 1, 8) := by kernel_rfl
theorem made_i (n : Nat) : (madeCells (Value.int .i64 0).cells (n * 1)).toList = (List.range n).map fun k => Value.int .i64 ((fun _ => 0) k) := by
  rw [Nat.mul_one, show (Value.int .i64 0).cells = #[.int .i64 0] from rfl, toList_madeCells_one]
  apply List.ext_getElem <;> simp
theorem made_u (n : Nat) : (madeCells (Value.int .u64 0).cells (n * 1)).toList = (List.range n).map fun k => Value.int .u64 ((fun _ => 0) k) := by
  rw [Nat.mul_one, show (Value.int .u64 0).cells = #[.int .u64 0] from rfl, toList_madeCells_one]
  apply List.ext_getElem <;> simp
theorem AW.new {w w0 w1 w2 : World} {N : Nat}
    (h0 : w0.ownsRow w.heap.size 3 1 (.slice (some ⟨w.heap.size, 0, none⟩) N N) N (madeCells (Value.int .i64 0).cells (N * 1)).toList) (g0 : w.grownBy w0 none)
    (h1 : w1.ownsRow w.heap.size 48 1 (.slice (some ⟨w0.heap.size, 0, none⟩) N N) N (madeCells (Value.int .u64 0).cells (N * 1)).toList) (g1 : w0.grownBy w1 none)
    (h2 : w2.ownsRow w.heap.size 3 1 (.slice (some ⟨w1.heap.size + 1, 0, none⟩) N N) N (madeCells (Value.int .i64 0).cells (N * 1)).toList) (g2 : (w1.alloc (Obj.cells #[Value.slice (some ⟨w0.heap.size, 0, none⟩) N N] 47)).grownBy w2 none) :
    AW w.heap.size w0.heap.size w1.heap.size (w1.heap.size + 1) N w w2 (fun _ => 0) (fun _ => 0) (fun _ => 0) := by
  have z0 := (h0.lt _ rfl).2
  have z1 := (h1.lt _ rfl).2
  have s0 := g0.size
  have s1 := g1.size
  dsimp only at z0 z1
  have bb : ∀ k, k < w1.heap.size → w2.heap[k]? = w1.heap[k]? := fun k hk => by
    rw [g2.block k (by simp; omega) (fun e => by cases e), Below.heap_alloc _ _ _ (by omega)]
  have b1 : ∀ k, k < w0.heap.size → w1.heap[k]? = w0.heap[k]? := fun k hk => g1.block k hk (fun e => by cases e)
  rw [made_i] at h0 h2
  rw [made_u] at h1
  refine ⟨own_kept h0 ((bb _ (by omega)).trans (b1 _ z0)), own_kept h1 (bb _ z1), ?_, h2, ?_, Nat.le_refl _, z0, z1, by omega⟩
  · have e : (w1.alloc (Obj.cells #[Value.slice (some ⟨w0.heap.size, 0, none⟩) N N] 47)).cell? ⟨w1.heap.size, 0, none⟩ = some (.slice (some ⟨w0.heap.size, 0, none⟩) N N) := by simp [go_sem]
    exact (World.cell?_of_block (w := w1.alloc (Obj.cells #[Value.slice (some ⟨w0.heap.size, 0, none⟩) N N] 47)) (a := ⟨w1.heap.size, 0, none⟩) (g2.block w1.heap.size (by simp) (fun e => by cases e))).trans e
  · have a : Below w.heap.size w w1 := ((Below.refl w.heap.size w).grown g0 (Nat.le_refl _) (fun k e => by cases e)).grown g1 s0 (fun k e => by cases e)
    exact (a.alloc (by omega) _).grown g2 (by simp; omega) (fun k e => by cases e)

set_option maxRecDepth 100000 in
set_option maxHeartbeats 4000000 in
theorem Apportion_any (T : Int) (q : Option Addr) (c : Nat) (l : List Int) (w : World) (r : RowA w q l) (ln : l.length ≤ 1000000) :
    Calls Tryd.prog 8 #[.int .i64 T, .slice q l.length c] w (ApR T l w) := by
  obtain ⟨i0, hi, hz0, hz1, hz2⟩ := info_parts intInfo
  obtain ⟨u0, hu, uz0, uz1, uz2⟩ := info_parts u64Info
  have R := Lib.hid r
  have SO := Lib.hid (fun W h => sumOf_any T q c l W h ln)
  have LF := Lib.hid (fun (S : Int) (h : l.sum = S) (h0 : 0 < S) => lr_left (T := T) h h0)
  have FE := Lib.hid (show ∀ E w', E ≠ 0 → SumR T l 0 E → Below w.heap.size w w' → ApR T l w (.returned (.tuple #[.slice none 0 0, .int .i64 E])) w' from fun E w' a b c => .inl ⟨E, a, rfl, b, c⟩)
  have FG := Lib.hid (show ∀ b P w', MadeI w w' b l.length P → Takes T l → (l.sum = 0 → T = 0) → (l.sum = 0 → P = List.replicate l.length 0) → (0 < l.sum → ∃ o left, LR T l.sum l P o left) → ApR T l w (.returned (.tuple #[.slice (some ⟨b, 0, none⟩) l.length l.length, .int .i64 0])) w' from fun b P w' a1 a2 a3 a4 a5 => .inr ⟨b, P, rfl, a1, a2, a3, a4, a5⟩)
  obtain ⟨x, hx⟩ : ∃ x, x = l.length := ⟨_, rfl⟩
  rw [← hx] at ln SO LF FG ⊢
  have HX := Lib.hid hx
  clear hx r
  go_enter Tryd.func8, Tryd.ntmps8
  go_wp2_with fail
  refine (SO.out _ R.out).mono ?_
  rintro e w1 ⟨⟨S, E, rfl, SR⟩, rfl⟩
  clear SO
  have CS : (E ≠ 0 ∧ S = 0 ∧ Hid (SumR T l 0 E)) ∨ (E = 0 ∧ Hid (Takes T l) ∧ (l.sum = 0 → T = 0) ∧ S = l.sum) := by
    rcases id SR with ⟨a, b, c⟩ | ⟨a, a', b, c⟩ | ⟨a, a', a'', b, c⟩ | ⟨a, b, c, d⟩
    · subst b; exact .inl ⟨by omega, rfl, SR⟩
    · subst b; exact .inl ⟨by omega, rfl, SR⟩
    · subst b; exact .inl ⟨by omega, rfl, SR⟩
    · exact .inr ⟨d, a, b, c⟩
  clear SR
  rcases CS with ⟨E0, rfl, SR⟩ | ⟨rfl, TK, TZ, hS⟩
  · have E0' : (E == 0) = false := by simpa using E0
    have E1 := Lib.hid E0
    clear E0 LF FG
    go_wp2_with fail
    go_ret2
    exact FE.out _ _ E1.out SR.out (by go_grown)
  · obtain ⟨ln2, ⟨T0, T1⟩, hl⟩ := TK.out
    have HL := Lib.hid hl
    have S0 : 0 ≤ S := by
      have := sum_le_of (a := List.replicate l.length 0) (b := l) (by simp) (fun i hi => by rw [gd_zeros]; exact (hl i (by simpa using hi)).1)
      rw [sum_zeros] at this; omega
    clear hl
    rw [← HX.out] at ln2
    replace TZ := Lib.hid TZ
    have HS := Lib.hid hS
    by_cases hz : S = 0
    · have T00 : T = 0 := TZ.out (by omega)
      clear hS LF FE
      subst hz T00
      go_wp2_with (first
        | (at_make; refine wpList_make_full _ rfl _ _ 22 rfl w.heap.size 3 i0 (.int .i64 0) 1 Tryd.underlying22 hi hz0 hz1 .i64 .i64 _ _ x rfl rfl (by omega) (by omega) (by rw [hz2]; omega) (by unfold maxLen; omega) (Nat.le_refl _) ?_; intro w0 hown0 hgrow0))
      rw [made_zeros] at hown0
      have M0 := Lib.hid (show MadeI w w0 w.heap.size x (List.replicate x 0) from ⟨by simp, Nat.le_refl _, hown0, (Below.refl _ _).grown hgrow0 (Nat.le_refl _) (fun k e => by cases e)⟩)
      clear hown0 hgrow0
      go_wp2_with fail
      go_ret2
      have Z := HS.out
      exact FG.out _ _ _ M0.out TK.out (by first | exact fun _ => rfl | exact fun _ => trivial) (fun _ => by rw [HX.out]) (fun h => by omega)
    · have zb : (S == 0) = false := by simpa using hz
      have SP : 0 < S := by omega
      clear hz hS
      go_upto_region 7 with (first | (at_make; refine wpList_make_full _ rfl _ _ 22 rfl w.heap.size 3 i0 (.int .i64 0) 1 Tryd.underlying22 hi hz0 hz1 .i64 .i64 _ _ x rfl rfl (by omega) (by omega) (by rw [hz2]; omega) (by unfold maxLen; omega) (Nat.le_refl _) ?_; intro w0 hown0 hgrow0))
      go_upto_region 8 with (first | (at_make; refine wpList_make_full _ rfl _ _ 47 rfl w.heap.size 48 u0 (.int .u64 0) 1 Tryd.underlying47 hu uz0 uz1 .i64 .i64 _ _ x rfl rfl (by omega) (by omega) (by rw [uz2]; omega) (by unfold maxLen; omega) hgrow0.size ?_; intro w1 hown1 hgrow1))
      go_upto_region 9 with (first | (at_make; refine wpList_make_full _ rfl _ _ 22 rfl w.heap.size 3 i0 (.int .i64 0) 1 Tryd.underlying22 hi hz0 hz1 .i64 .i64 _ _ x rfl rfl (by omega) (by omega) (by rw [hz2]; omega) (by unfold maxLen; omega) (by have := hgrow0.size; have := hgrow1.size; simp; omega) ?_; intro w2 hown2 hgrow2))
      go_wp2_with fail
      rw [World.size_alloc] at hown2
      have A0 := Lib.hid (AW.new hown0 hgrow0 hown1 hgrow1 hown2 hgrow2)
      clear hown0 hgrow0 hown1 hgrow1 hown2 hgrow2
      obtain ⟨p, hp⟩ : ∃ p, w.heap.size = p := ⟨_, rfl⟩
      obtain ⟨r, hr⟩ : ∃ r, w0.heap.size = r := ⟨_, rfl⟩
      obtain ⟨bx, hbx⟩ : ∃ bx, w1.heap.size = bx := ⟨_, rfl⟩
      obtain ⟨o, ho⟩ : ∃ o, w1.heap.size + 1 = o := ⟨_, rfl⟩
      rw [ho, hbx, hr, hp] at A0
      rw [ho, hbx, hr, hp]
      have rr : ¬ r = p := by have := A0.out.pr; omega
      have pr : ¬ p = r := fun e => rr e.symm
      have pz : p < w2.heap.size := (A0.out.P.lt _ rfl).2
      clear hp hr hbx ho pz
      -- the floors and the remainders
      have WS : Hid (∀ i, i < x → 0 ≤ gd l i ∧ gd l i ≤ S) := fun i hi => by
        refine ⟨(HL.out i (by have := HX.out; omega)).1, ?_⟩
        have := gd_nonneg_le_sum (l := l) (fun i => by
          by_cases t : i < l.length
          · exact (HL.out i t).1
          · rw [gd_out (by omega)]; omega) i
        have := HS.out
        omega
      have SB : S ≤ 256 * 1073741824 := by
        have := sum_le_of (a := l) (b := List.replicate l.length 1073741824) (by simp) (fun i hi => by
          have : gd (List.replicate l.length (1073741824 : Int)) i = 1073741824 := by unfold gd; rw [List.getElem?_replicate, if_pos hi]; rfl
          rw [this]; exact (HL.out i hi).2)
        have e : (List.replicate l.length (1073741824 : Int)).sum = l.length * 1073741824 := by
          generalize l.length = n
          induction n with
          | zero => rfl
          | succ n ih => rw [List.replicate_succ, List.sum_cons, ih]; push_cast; omega
        have := HX.out
        have := HS.out
        omega
      obtain ⟨LF1, LF2⟩ := LF.out S HS.out.symm SP
      have QN := Lib.hid (fun (k : Nat) (hk : k ≤ x) => show 0 ≤ T - sm (fun i => T * gd l i / S) k ∧ T - sm (fun i => T * gd l i / S) k ≤ T by
        have a := sm_nonneg (F := fun i => T * gd l i / S) (n := k) fun i hi => Int.ediv_nonneg (Int.mul_nonneg T0 (WS.out i (by omega)).1) (by omega)
        have b := sm_mono (F := fun i => T * gd l i / S) (n := x) (fun i hi => Int.ediv_nonneg (Int.mul_nonneg T0 (WS.out i (by omega)).1) (by omega)) hk
        omega)
      have LFN := Lib.hid LF2
      clear LF LF1 LF2
      go_loopw [11, 40] (fun fv kv wr => ∃ (k : Nat) (f : Int), k ≤ x ∧ fv = .int .i64 f ∧ kv = .int .i64 k ∧ 0 ≤ f ∧ f ≤ T ∧ Hid (f = T - sm (fun i => T * gd l i / S) k) ∧ Hid (AW p r bx o x w wr (fun i => if i < k then T * gd l i / S else 0) (fun i => if i < k then T * gd l i % S else 0) (fun i => if i < k then (i : Int) else 0))) (fun _ kv _ => x - (intOf kv).toNat)
      case atStart => exact ⟨0, T, Nat.zero_le _, rfl, rfl, T0, Int.le_refl _, by show _ = _; simp [sm], Lib.hid (A0.out.ext fun k _ => by simp)⟩
      case round =>
        obtain ⟨k, f, hk, rfl, rfl, f0, f1, HF, A⟩ := hrel
        clear A0
        by_cases t1 : k < x
        · obtain ⟨xa, rfl, kx, cx0⟩ := (R.out.below A.out.B) k (by have := HX.out; omega)
          obtain ⟨v0, v1⟩ := WS.out k t1
          have q0 : 0 ≤ T * gd l k / S := Int.ediv_nonneg (Int.mul_nonneg T0 v0) (by omega)
          have qT : T * gd l k / S ≤ T := by
            have := Int.ediv_le_ediv (show 0 < S by omega) (Int.mul_le_mul_of_nonneg_left v1 T0)
            rwa [Int.mul_ediv_cancel _ (by omega)] at this
          have SH := Lib.hid (fun W => share_any T (gd l k) S T0 v0 (by omega) (by omega) (by omega) v1 W)
          have NF : Hid (f - T * gd l k / S = T - sm (fun i => T * gd l i / S) (k + 1)) := by
            show _ = _
            have := HF.out
            simp only [sm]; omega
          have nf0 : 0 ≤ f - T * gd l k / S := by have := (QN.out (k + 1) (by omega)).1; have := NF.out; omega
          have AN := Lib.hid (fun n => ((((A.out.drewN n).setP k (T * gd l k / S)).setR k (T * gd l k % S)).setO k (k : Int)).ext (gP := fun i => if i < k + 1 then T * gd l i / S else 0) (gR := fun i => if i < k + 1 then T * gd l i % S else 0) (gO := fun i => if i < k + 1 then (i : Int) else 0) fun i _ => by
            unfold upd
            dsimp only
            by_cases e : i = k
            · subst e; simp
            · rw [if_neg e, if_neg e, if_neg e]
              by_cases g : i < k
              · rw [if_pos g, if_pos g, if_pos g, if_pos (by omega), if_pos (by omega), if_pos (by omega)]; exact ⟨rfl, rfl, rfl⟩
              · rw [if_neg g, if_neg g, if_neg g, if_neg (by omega), if_neg (by omega), if_neg (by omega)]; exact ⟨rfl, rfl, rfl⟩)
          have cX := A.out.X
          obtain ⟨oP, cP⟩ : ∃ z, wr.cell? ⟨p, k, none⟩ = some (.int .i64 z) := ⟨_, A.out.cP t1⟩
          obtain ⟨oR, cR⟩ : ∃ z, wr.cell? ⟨r, k, none⟩ = some (.int .u64 z) := ⟨_, A.out.cR t1⟩
          obtain ⟨oO, cO⟩ : ∃ z, wr.cell? ⟨o, k, none⟩ = some (.int .i64 z) := ⟨_, A.out.cO t1⟩
          have po : ¬ p = o := by have := A.out.pr; have := A.out.rx; have := A.out.xo; omega
          have op : ¬ o = p := fun e => po e.symm
          have ro : ¬ r = o := by have := A.out.pr; have := A.out.rx; have := A.out.xo; omega
          have orr : ¬ o = r := fun e => ro e.symm
          have bp : ¬ bx = p := by have := A.out.pr; have := A.out.rx; omega
          have pb : ¬ p = bx := fun e => bp e.symm
          have br : ¬ bx = r := by have := A.out.rx; omega
          have rb : ¬ r = bx := fun e => br e.symm
          have fP := A.out.P.frozenAt k
          have fR := A.out.R.frozenAt k
          have fO := A.out.O.frozenAt k
          have i3 : (k : Int) < (x : Int) := by omega
          have i4 : (0 : Int) ≤ (k : Int) := by omega
          clear HF A kx
          generalize gd l k = v at *
          generalize T * v / S = Q at *
          generalize T * v % S = rm at *
          go_wp2_with fail
          go_region_held3 (fun w' => w'.cell? ⟨bx, 0, none⟩ = some (.slice (some ⟨r, 0, none⟩) x x))
            (first | exact cX | (simp [go_sem, cX]; done))
            (first | (go_at_call 24; refine (SH.out _).mono ?_; rintro e w5 ⟨rfl, n1, rfl⟩))
          replace A := Lib.hid (AN.out (1 + n1))
          clear SH AN
          go_wp2_with fail
          generalize ((((wr.drewN (1 + n1)).setCell ⟨p, k, none⟩ (.int .i64 Q)).setCell ⟨r, k, none⟩ (.int .u64 rm)).setCell ⟨o, k, none⟩ (.int .i64 k)) = v at *
          go_roundw
          case rel => exact ⟨k + 1, f - Q, by omega, rfl, by go_num, nf0, by omega, NF, A⟩
          case measure => simp [intOf]; omega
        · obtain rfl : k = x := by omega
          obtain ⟨L, rfl⟩ := Int.eq_ofNat_of_zero_le f0
          have LX : L ≤ k := by have := HF.out; have := LFN.out; omega
          replace A := Lib.hid (A.out.ext (gP := fun i => T * gd l i / S) (gR := fun i => T * gd l i % S) (gO := fun i => (i : Int)) fun i hi => ⟨if_pos hi, if_pos hi, if_pos hi⟩)
          have CC := Lib.hid (sortStable_any o k k 26 (.pointer (some ⟨bx, 0, none⟩)) _ _ _ _ (cmpA r bx k (fun i => T * gd l i % S) o (by omega)) wr A.out.kp (fun i => (i : Int)) wr A.out.sw (by omega) (fun _ _ => rfl) (fun i hi => ⟨by omega, by omega⟩))
          have HFL := HF
          clear HF LFN t1 f0
          go_wp2_with fail
          refine CC.out.mono ?_
          rintro e w4 ⟨rfl, g, S1, P1, R1⟩
          have GO : ∀ i, i < k → g i = ((g i).toNat : Int) ∧ (g i).toNat < k := fun i hi => by
            obtain ⟨j, j1, j2, e⟩ := P1.src (Nat.zero_le i) hi
            rw [e]; simp; omega
          have OR : Hid (Ord k (fun i => (g i).toNat)) := ⟨fun i hi => (GO i hi).2, fun i j hi hj e => P1.inj (fun a b e => by omega) i j (by rw [(GO i hi).1, (GO j hj).1]; exact congrArg _ e)⟩
          have SR : Hid (Sor (fun i => T * gd l i % S) k (fun i => (g i).toNat)) := fun i j ij jn => by
            have := R1 i j (Nat.zero_le _) ij jn
            rw [(GO i (by omega)).1, (GO j jn).1] at this
            exact this
          replace A := Lib.hid (A.out.sorted S1)
          have GO := Lib.hid GO
          clear CC S1 P1 R1
          go_wp2_with fail
          go_loopw [76] (fun mv wr => ∃ (m : Nat) (fP : Nat → Int), m ≤ L ∧ mv = .int .i64 m ∧ Hid (AW p r bx o k w wr fP (fun i => T * gd l i % S) g) ∧ Hid (∀ j, j < k → fP (g j).toNat = T * gd l (g j).toNat / S + if j < m then 1 else 0)) (fun mv _ => L - (intOf mv).toNat)
          case atStart => exact ⟨0, _, Nat.zero_le _, rfl, A, Lib.hid fun j _ => by simp⟩
          case round =>
            clear A
            obtain ⟨m, fP, hm, rfl, A, V⟩ := hrel
            by_cases t2 : m < L
            · obtain ⟨y, hy⟩ : ∃ y, y = (g m).toNat := ⟨_, rfl⟩
              obtain ⟨gy, yk⟩ := GO.out m (by omega)
              rw [← hy] at gy yk
              have cO := A.out.cO (show m < k by omega)
              have cP := A.out.cP yk
              have vy := V.out m (by omega)
              rw [← hy, if_neg (Nat.lt_irrefl m), Int.add_zero] at vy
              have yl : y < l.length := by have := HX.out; omega
              have v0 := (WS.out y yk).1
              have v1 := (WS.out y yk).2
              have q0 : 0 ≤ T * gd l y / S := Int.ediv_nonneg (Int.mul_nonneg T0 v0) (by omega)
              have qT : T * gd l y / S ≤ T := by
                have := Int.ediv_le_ediv (show 0 < S by omega) (Int.mul_le_mul_of_nonneg_left v1 T0)
                rwa [Int.mul_ediv_cancel _ (by omega)] at this
              have NV : Hid (∀ j, j < k → upd fP y (fP y + 1) (g j).toNat = T * gd l (g j).toNat / S + if j < m + 1 then 1 else 0) := fun j hj => by
                unfold upd
                by_cases e : j = m
                · subst e; rw [← hy, if_pos rfl, if_pos (by omega), vy]
                · rw [if_neg (fun c => e (OR.out.inj j m hj (by omega) (c.trans hy)))]
                  rw [V.out j hj]
                  by_cases c : j < m
                  · rw [if_pos c, if_pos (by omega)]
                  · rw [if_neg c, if_neg (by omega)]
              have AN := Lib.hid (A.out.setP y (fP y + 1))
              have fz := A.out.P.frozenAt y
              have po : ¬ p = o := by have := A.out.pr; have := A.out.rx; have := A.out.xo; omega
              rw [gy] at cO
              rw [← vy] at q0 qT
              clear A V hy gy vy v0 v1 yl
              generalize fP y = u at *
              have i1 : (0 : Int) ≤ (y : Int) := by omega
              have i2 : (y : Int) < (k : Int) := by omega
              have i3 : (0 : Int) ≤ (m : Int) := by omega
              have i4 : (m : Int) < (L : Int) := by omega
              have eu : IntKind.i64.wrap (u + 1) = u + 1 := IntWalk.i64_in _ (by omega)
              go_wp2_with fail
              go_roundw
              case rel => exact ⟨m + 1, _, by omega, by go_num, AN, NV⟩
              case measure => simp [intOf]; omega
            · obtain rfl : m = L := by omega
              have hx := HX.out
              have F := Lib.hid (FG.out p _ wr A.out.made TK.out TZ.out (fun e => by have := HS.out; omega) (fun _ => ⟨fun i => (g i).toNat, m, by
                rw [← HS.out]
                refine ⟨by simp [hx], hx ▸ OR.out, hx ▸ SR.out, by rw [← hx]; exact HFL.out, by omega, fun j hj => ?_⟩
                have hj' : j < k := by omega
                have e : gd ((List.range k).map fP) (g j).toNat = fP (g j).toNat := by
                  have := (GO.out j hj').2
                  unfold gd; simp [this]
                rw [e]; exact V.out j hj'⟩))
              clear A V FG GO OR SR
              go_wp2_with fail
              go_ret2
              exact F.out
end Go.Proofs.YtlahdfmciaibdaaDoor
