/- Flow: lower. -/
import Derived.Test.YtbcfafihkdddeaaFNC
namespace Go.Proofs.Ytbcfafihkdddeaa
open Go.RowKit
set_option linter.unusedVariables false
set_option linter.unusedSimpArgs false

section
variable {base b rl rp n K : Nat} {ve : Value} {E : List Ed} {lv : Nat → Value} {P : Nat → Int} {W W' : World}
theorem NW.price (h : NW base b rl rp n K ve E lv P W) (k : Nat) (x : Int) : NW base b rl rp n K ve E lv (upd P k x) (W.setCell ⟨rp, k, none⟩ (.int .i64 x)) := by
  have k2 : ∀ q, q ≠ rp → (W.setCell ⟨rp, k, none⟩ (.int .i64 x)).heap[q]? = W.heap[q]? := fun q hq => Below.heap_setCell _ _ _ _ hq
  refine ⟨(k2 b h.ne.2.1).trans h.box, own_blk h.eg (fun q e => k2 q (fun e2 => h.d1.2.2 (by rw [e, e2]))), (k2 rl h.ne.2.2.1).trans h.lr, h.pr.set _ _, fun i hi => ?_, h.ap, h.d1, h.d2, h.d3, h.ne⟩
  obtain ⟨m, xs, o, c⟩ := h.lo i hi
  exact ⟨m, xs, own_blk o (fun q e => k2 q (fun e2 => (h.d2 i hi).2.2 (by rw [e, e2]))), c⟩
theorem NW.ext {Q : Nat → Int} (h : NW base b rl rp n K ve E lv P W) (e : ∀ k, k < n → P k = Q k) : NW base b rl rp n K ve E lv Q W :=
  ⟨h.box, h.eg, h.lr, h.pr.ext e, h.lo, h.ap, h.d1, h.d2, h.d3, h.ne⟩
/-- The cells of an edge. -/
theorem NW.edgeAt {p : Option Addr} {c : Nat} (h : NW base b rl rp n K (.slice p E.length c) E lv P W) {j : Nat} (hj : j < E.length) : ∃ ge, p = some ⟨ge, 0, none⟩ ∧ W.cell? ⟨ge, j * 4, none⟩ = some (.int .i64 (E[j].s.1 : Int)) ∧ W.cell? ⟨ge, j * 4 + 1, none⟩ = some (.int .i64 (E[j].s.2.1 : Int)) ∧ W.cell? ⟨ge, j * 4 + 2, none⟩ = some (.int .i64 E[j].left) ∧ W.cell? ⟨ge, j * 4 + 3, none⟩ = some (.int .i64 E[j].s.2.2) := by
  have o := h.eg
  rcases h.eg.2 with ⟨_, h0⟩ | ⟨g, cap, cur, e, hb, hg, _⟩
  · omega
  · injection e with e1 e2 e3
    subst e1 e3
    refine ⟨g, rfl, ?_, ?_, ?_, ?_⟩
    · rw [o.cellAt (j * 4) (by omega)]
      have := rowE_at hj 0 (by omega)
      simpa [edV] using this
    · rw [o.cellAt (j * 4 + 1) (by omega), rowE_at hj 1 (by omega)]; rfl
    · rw [o.cellAt (j * 4 + 2) (by omega), rowE_at hj 2 (by omega)]; rfl
    · rw [o.cellAt (j * 4 + 3) (by omega), rowE_at hj 3 (by omega)]; rfl
end
theorem AB.newE (W : World) (a b c d : Int) : AB W.heap.size a b c d (W.alloc (Obj.cells #[Value.int .i64 a, Value.int .i64 b, Value.int .i64 c, Value.int .i64 d] 143)) ∧ Below W.heap.size W (W.alloc (Obj.cells #[Value.int .i64 a, Value.int .i64 b, Value.int .i64 c, Value.int .i64 d] 143)) := by
  refine ⟨⟨?_, ?_, ?_, ?_, ?_⟩, (Below.refl _ W).alloc (Nat.le_refl _) _⟩ <;> simp [go_sem]
theorem cell_so {W : World} {r k j : Nat} {v x : Value} (ne : j ≠ k) (h : W.cell? ⟨r, j, none⟩ = some x) : (W.setCell ⟨r, k, none⟩ v).cell? ⟨r, j, none⟩ = some x := by
  simp [go_sem, h, ne, Ne.symm ne]
/-- Edges of a network of n nodes. -/
def EdOk (n : Nat) (E : List Ed) : Prop := ∀ e ∈ E, e.s.1 < n ∧ e.s.2.1 < n ∧ -32768 ≤ e.s.2.2 ∧ e.s.2.2 ≤ 32768 ∧ e.s.1 ≠ e.s.2.1
theorem open_ok {n : Nat} {E : List Ed} (h : EdOk n E) : StOk n (open' E) := fun s hs => by
  unfold open' at hs
  obtain ⟨e, he, rfl⟩ := List.mem_map.1 hs
  obtain ⟨a, b, c, d, _⟩ := h e (List.mem_filter.1 he).1
  exact ⟨a, b, c, d⟩
theorem open_len (E : List Ed) : (open' E).length ≤ E.length := by
  unfold open'
  rw [List.length_map]
  exact List.length_filter_le _ _
theorem edge_bd {n : Nat} {E : List Ed} (ok : EdOk n E) (len : E.length ≤ 256) {k j : Nat} (hk : k ≤ 33) : ∀ v, v < n → -300000000 ≤ rnd1 (open' (E.take j)) (rds (open' E) k) v ∧ rnd1 (open' (E.take j)) (rds (open' E) k) v ≤ 0 := fun v hv => by
  have h1 := rnd1_bd (L := open' (E.take j)) (p := rds (open' E) k) (b := (k : Int) * 8388608) (open_ok (fun e he => ok e (List.mem_of_mem_take he))) (by omega) (fun v hv => rds_bd (open_ok ok) (Nat.le_trans (open_len E) len) k v hv) v hv
  have h2 := open_len (E.take j)
  have : (E.take j).length ≤ 256 := by rw [List.length_take]; omega
  omega
theorem take_ed {E : List Ed} {j : Nat} (h : j < E.length) : open' (E.take (j + 1)) = open' (E.take j) ++ if 0 < E[j].left then [E[j].s] else [] := by
  rw [List.take_succ_eq_append_getElem h, open_snoc]
theorem ed_shut {E : List Ed} {j : Nat} {e : Ed} (h : j < E.length) (he : e = E[j]) (g : ¬ 0 < e.left) : open' (E.take (j + 1)) = open' (E.take j) := by
  subst he
  rw [take_ed h, if_neg g, List.append_nil]
theorem ed_on {E : List Ed} {j : Nat} {e : Ed} {p f : Nat → Int} (h : j < E.length) (he : e = E[j]) (g : 0 < e.left) (hf : f = rnd1 (open' (E.take j)) p) (c : f e.s.1 + e.s.2.2 < f e.s.2.1) : rnd1 (open' (E.take (j + 1))) p = upd f e.s.2.1 (f e.s.1 + e.s.2.2) ∧ mvB (open' (E.take (j + 1))) p = true := by
  subst he hf
  rw [take_ed h, if_pos g, rnd1_snoc, mvB_snoc, rx_upd c, decide_eq_true c]
  exact ⟨rfl, by simp⟩
theorem ed_off {E : List Ed} {j : Nat} {e : Ed} {p f : Nat → Int} (h : j < E.length) (he : e = E[j]) (g : 0 < e.left) (hf : f = rnd1 (open' (E.take j)) p) (c : ¬ f e.s.1 + e.s.2.2 < f e.s.2.1) : rnd1 (open' (E.take (j + 1))) p = f ∧ mvB (open' (E.take (j + 1))) p = mvB (open' (E.take j)) p := by
  subst he hf
  rw [take_ed h, if_pos g, rnd1_snoc, mvB_snoc, rx_still c, decide_eq_false c]
  exact ⟨rfl, by simp⟩
/-- What lower comes to. -/
def LoQ (L : List St) (n : Nat) (x : Bool) (P : Nat → Int) : Prop := (x = true ∧ ∃ j, j < n ∧ mvB L (rds L j) = false ∧ P = rds L j) ∨ (x = false ∧ ∀ j, j < n → mvB L (rds L j) = true)

set_option maxRecDepth 100000 in
set_option maxHeartbeats 16000000 in
theorem lower_any {base b rl rp n K : Nat} {ve : Value} {E : List Ed} {lv : Nat → Value} (w0 w : World) (hN : NW base b rl rp n K ve E lv (fun _ => 0) w) (hB : Below base w0 w) (bs : base ≤ w.heap.size) (n32 : n ≤ 32) (eok : EdOk n E) (eL : E.length ≤ 256) :
    Calls Try.prog 97 #[.pointer (some ⟨b, 0, none⟩)] w fun e w' => ∃ x P, e = .returned (.bool x) ∧ NW base b rl rp n K ve E lv P w' ∧ Below base w0 w' ∧ LoQ (open' E) n x P := by
  obtain ⟨p, c, rfl⟩ := own_form hN.eg
  have HN := Lib.hid hN
  have HB := Lib.hid hB
  have HS := Lib.hid bs
  have OK := Lib.hid eok
  have BDS := Lib.hid (fun (k j : Nat) (hk : k ≤ 33) => edge_bd (j := j) eok eL hk)
  have HBP := Lib.hid hN.ne
  clear hB bs eok
  obtain ⟨c0, -, c2, -⟩ := hN.cells
  clear hN
  obtain ⟨m, hm⟩ : ∃ m, m = E.length := ⟨_, rfl⟩
  have HM := Lib.hid hm
  have LQ := Lib.hid (show ∀ x P, LoQ (open' E) n x P = ((x = true ∧ ∃ j, j < n ∧ mvB (open' E) (rds (open' E) j) = false ∧ P = rds (open' E) j) ∨ (x = false ∧ ∀ j, j < n → mvB (open' E) (rds (open' E) j) = true)) from fun _ _ => rfl)
  have EAT := Lib.hid (fun (W : World) (P : Nat → Int) (h : NW base b rl rp n K (.slice p m c) E lv P W) (j : Nat) (hj : j < E.length) => NW.edgeAt (by rw [← hm]; exact h) hj)
  rw [← hm] at eL HN c0 ⊢
  clear hm
  go_enter Try.func97, Try.ntmps97
  go_wp2_with fail
  clear c0 c2
  go_loopw [11] (fun jv wr => ∃ j : Nat, j ≤ n ∧ jv = .int .i64 j ∧ Hid (NW base b rl rp n K (.slice p m c) E lv (rds (open' E) j) wr) ∧ Hid (∀ i, i < j → mvB (open' E) (rds (open' E) i) = true) ∧ Hid (Below base w0 wr) ∧ Hid (base ≤ wr.heap.size)) (fun jv _ => n - (intOf jv).toNat)
  case atStart => exact ⟨0, Nat.zero_le _, rfl, HN, Lib.hid (fun i hi => by omega), HB, HS⟩
  case round =>
    clear HN HB HS
    obtain ⟨j, hj, rfl, HN, ALL, HB, HS⟩ := hrel
    by_cases t1 : j < n
    · have i0 : (0 : Int) ≤ (j : Int) := by omega
      have i1 : (j : Int) < (n : Int) := by omega
      have BDJ := Lib.hid (BDS.out j)
      clear BDS
      obtain ⟨L, hL⟩ : ∃ L, L = open' E := ⟨_, rfl⟩
      rw [← hL] at HN ALL BDJ LQ ⊢
      have HLL := Lib.hid hL
      clear hL
      obtain ⟨P0, hP0⟩ : ∃ P0, P0 = rds L j := ⟨_, rfl⟩
      rw [← hP0] at HN BDJ
      have HP0 := Lib.hid hP0
      clear hP0
      obtain ⟨c0, -, c2, -⟩ := HN.out.cells
      go_wp2_with fail
      clear c0 c2
      go_loopw [3, 18] (fun mv iv wr => ∃ (i : Nat) (f : Nat → Int), i ≤ m ∧ iv = .int .i64 i ∧ mv = .bool (mvB (open' (E.take i)) P0) ∧ Hid (f = rnd1 (open' (E.take i)) P0) ∧ Hid (NW base b rl rp n K (.slice p m c) E lv f wr) ∧ Hid (Below base w0 wr) ∧ Hid (base ≤ wr.heap.size)) (fun _ iv _ => m - (intOf iv).toNat)
      case atStart => exact ⟨0, P0, Nat.zero_le _, rfl, rfl, Lib.hid rfl, HN, HB, HS⟩
      case round =>
        clear HN HB HS
        obtain ⟨i, f, hi', rfl, rfl, HF, HN, HB, HS⟩ := hrel
        by_cases t2 : i < m
        · have m1 : (0 : Int) ≤ (i : Int) := by omega
          have m2 : (i : Int) < (m : Int) := by omega
          have iE : i < E.length := by have := HM.out; omega
          have bd := BDJ.out i (by omega)
          rw [← HF.out] at bd
          obtain ⟨e, he⟩ : ∃ e, e = E[i] := ⟨_, rfl⟩
          obtain ⟨ge, rfl, a0, a1, a2, a3⟩ := EAT.out wr f HN.out i iE
          rw [← he] at a0 a1 a2 a3
          obtain ⟨so1, so2, so3, so4, so5⟩ := OK.out e (by rw [he]; exact List.getElem_mem _)
          have SH := Lib.hid (fun g => ed_shut iE he g)
          have ON := Lib.hid (fun g k => ed_on iE he g HF.out k)
          have OF := Lib.hid (fun g k => ed_off iE he g HF.out k)
          clear he
          obtain ⟨⟨sa, sb, sc⟩, lf⟩ := e
          dsimp only at so1 so2 so3 so4 so5 a0 a1 a2 a3 SH ON OF
          have ba := bd sa so1
          have bb' := bd sb so2
          have e1 : (0 : Int) ≤ (sa : Int) := by omega
          have e2 : (sa : Int) < (n : Int) := by omega
          have e3 : (0 : Int) ≤ (sb : Int) := by omega
          have e4 : (sb : Int) < (n : Int) := by omega
          have wA : IntKind.i64.wrap (f sa + sc) = f sa + sc := hwI (by omega) (by omega)
          have PT := Lib.hid (AB.newE wr (sa : Int) (sb : Int) lf sc)
          obtain ⟨mo, hmo⟩ : ∃ mo, mo = mvB (open' (E.take i)) P0 := ⟨_, rfl⟩
          have HMO := Lib.hid hmo
          rw [← hmo] at OF ⊢
          clear hmo bd ba bb'
          go_upto_region 7 with fail
          generalize wr.alloc (Obj.cells #[Value.int .i64 (sa : Int), Value.int .i64 (sb : Int), Value.int .i64 lf, Value.int .i64 sc] 143) = wa at *
          have GN := Lib.hid (show rp ≠ wr.heap.size from by have := HN.out.lt.2.2; omega)
          replace HN := Lib.hid (HN.out.below PT.out.2)
          replace HB := Lib.hid (HB.out.trans (PT.out.2.mono HS.out))
          replace HS := Lib.hid (Nat.le_trans HS.out PT.out.2.size)
          have PX := Lib.hid PT.out.1
          clear PT a0 a1 a2 a3
          generalize wr.heap.size = g at *
          obtain ⟨-, b0, b1, b2, b3⟩ := PX.out
          obtain ⟨-, -, c2, -⟩ := HN.out.cells
          have ca := HN.out.pr.cell so1
          have cb := HN.out.pr.cell so2
          by_cases pl : 0 < lf
          case neg =>
            have d1 : decide (0 < lf) = false := decide_eq_false pl
            have E1 := Lib.hid (SH.out pl)
            clear SH ON OF pl
            go_quiet (fail)
            clear b0 b1 b2 b3 c2 ca cb d1
            replace HN := Lib.hid (HN.out.below (drewN_below wa nq))
            replace HB := Lib.hid (below_drewN HB.out nq)
            replace HS := Lib.hid (show base ≤ (wa.drewN nq).heap.size from HS.out)
            generalize wa.drewN nq = wb at *
            go_wp2_with fail
            go_roundw
            case rel => exact ⟨i + 1, f, by omega, by go_num, by rw [E1.out, ← HMO.out], Lib.hid (by rw [E1.out]; exact HF.out), HN, HB, HS⟩
            case measure => simp [intOf]; omega
          case pos =>
            have d1 : decide (0 < lf) = true := decide_eq_true pl
            obtain ⟨bb, dd⟩ : ∃ x, decide (f sa + sc < f sb) = x := ⟨_, rfl⟩
            go_quiet (fail)
            have DD := Lib.hid dd
            clear dd b0 b1 b2 b3 c2 ca cb d1
            replace HN := Lib.hid (HN.out.below (drewN_below wa nq))
            replace HB := Lib.hid (below_drewN HB.out nq)
            replace HS := Lib.hid (show base ≤ (wa.drewN nq).heap.size from HS.out)
            replace PX := Lib.hid (PX.out.below (drewN_below wa nq))
            generalize wa.drewN nq = wb at *
            cases bb
            case false =>
              obtain ⟨E1, E2⟩ := OF.out pl (of_decide_eq_false DD.out)
              have E1 := Lib.hid E1
              have E2 := Lib.hid E2
              clear SH ON OF pl DD PX
              go_wp2_with fail
              go_roundw
              case rel => exact ⟨i + 1, f, by omega, by go_num, by rw [E2.out], Lib.hid E1.out.symm, HN, HB, HS⟩
              case measure => simp [intOf]; omega
            case true =>
              obtain ⟨E1, E2⟩ := ON.out pl (of_decide_eq_true DD.out)
              have E1 := Lib.hid E1
              have E2 := Lib.hid E2
              obtain ⟨-, b0, b1, b2, b3⟩ := PX.out
              obtain ⟨-, -, c2, -⟩ := HN.out.cells
              have ca := HN.out.pr.cell so1
              have cb := HN.out.pr.cell so2
              have fb := HN.out.pr.frozen sb
              have HN2 := Lib.hid (HN.out.price sb (f sa + sc))
              have HB2 := Lib.hid (show Below base w0 (wb.setCell ⟨rp, sb, none⟩ (.int .i64 (f sa + sc))) from HB.out.setCell (by show base ≤ rp; exact HBP.out.2.2.2.2.2) _)
              have HS2 := Lib.hid (show base ≤ (wb.setCell ⟨rp, sb, none⟩ (.int .i64 (f sa + sc))).heap.size from by simp [World.setCell]; exact HS.out)
              have GB := Lib.hid (show rp ≠ b from Ne.symm HBP.out.2.1)
              clear SH ON OF pl DD PX HN HB HS
              go_upto_region 8 with fail
              go_region_held3 (fun w' => w'.cell? ⟨b, 2, none⟩ = some (.slice (some ⟨rp, 0, none⟩) n n) ∧ w'.cell? ⟨g, 0, none⟩ = some (.int .i64 (sa : Int)) ∧ w'.cell? ⟨g, 1, none⟩ = some (.int .i64 (sb : Int)) ∧ w'.cell? ⟨g, 3, none⟩ = some (.int .i64 sc) ∧ w'.cell? ⟨rp, sa, none⟩ = some (.int .i64 (f sa)))
                (first | exact ⟨(c2), (b0), (b1), (b3), (ca)⟩ | exact ⟨(cellDr c2), (cellDr b0), (cellDr b1), (cellDr b3), (cellDr ca)⟩ | exact ⟨cell_st GB.out (c2), cell_st GN.out (b0), cell_st GN.out (b1), cell_st GN.out (b3), cell_so so5 (ca)⟩ | exact ⟨cell_st GB.out (cellDr c2), cell_st GN.out (cellDr b0), cell_st GN.out (cellDr b1), cell_st GN.out (cellDr b3), cell_so so5 (cellDr ca)⟩ | exact ⟨cellDr (cell_st GB.out c2), cellDr (cell_st GN.out b0), cellDr (cell_st GN.out b1), cellDr (cell_st GN.out b3), cellDr (cell_so so5 ca)⟩)
                (fail)
              all_goals
                go_wp2_with fail
                go_roundw
              all_goals first
                | exact ⟨i + 1, _, by omega, by go_num, by rw [E2.out], Lib.hid E1.out.symm, (by first | exact HN2 | exact Lib.hid (HN2.out.below ((Below.refl _ _).drew)) | exact Lib.hid (HN2.out.below (below_drewN (Below.refl _ _) _))), (by first | exact HB2 | exact Lib.hid HB2.out.drew | exact Lib.hid (below_drewN HB2.out _)), (by first | exact HS2 | exact Lib.hid HS2.out)⟩
                | (simp [intOf]; omega)
        · obtain rfl : i = m := by omega
          have ET := Lib.hid (show open' (E.take i) = L from by rw [HLL.out, List.take_of_length_le (by have := HM.out; omega)])
          rw [ET.out] at HF ⊢
          obtain ⟨mo, hmo⟩ : ∃ mo, mo = mvB L P0 := ⟨_, rfl⟩
          rw [← hmo]
          cases mo
          case false =>
            have FF := Lib.hid (show LoQ (open' E) n true f from by
              rw [← HLL.out, LQ.out]
              refine .inl ⟨rfl, j, t1, by rw [← HP0.out]; exact hmo.symm, ?_⟩
              rw [HF.out, (mvB_still hmo.symm).1, HP0.out])
            clear hmo BDJ ALL LQ
            go_wp2_with fail
            go_ret
            exact ⟨true, f, rfl, HN.out, HB.out, FF.out⟩
          case true =>
            have A2 := Lib.hid (show ∀ i, i < j + 1 → mvB L (rds L i) = true from fun i hi => by
              by_cases e : i = j
              · rw [e, ← HP0.out]; exact hmo.symm
              · exact ALL.out i (by omega))
            have HN2 := Lib.hid (show NW base b rl rp n K (.slice p i c) E lv (rds L (j + 1)) wr from by
              have e : rds L (j + 1) = f := by
                rw [HF.out, HP0.out]; rfl
              rw [e]; exact HN.out)
            clear hmo BDJ ALL LQ HN
            go_wp2_with fail
            go_roundw
            case rel => exact ⟨j + 1, by omega, by go_num, HN2, A2, HB, HS⟩
            case measure => simp [intOf]; omega
    · have i1 : ¬ (j : Int) < (n : Int) := by omega
      have FF := Lib.hid (show LoQ (open' E) n false (rds (open' E) j) from by
        rw [LQ.out]; exact .inr ⟨rfl, fun i hi => ALL.out i (by omega)⟩)
      clear ALL LQ
      go_wp2_with fail
      go_ret
      exact .inl ⟨rfl, _, HN.out, HB.out, FF.out⟩
end Go.Proofs.Ytbcfafihkdddeaa
