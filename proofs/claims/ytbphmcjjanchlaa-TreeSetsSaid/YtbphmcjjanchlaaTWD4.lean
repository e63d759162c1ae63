/- The laws' do, one operation. -/
import Derived.Test.YtbphmcjjanchlaaTWD0
namespace Go.Proofs.Ytbphmcjjanchlaa
open Go.RowKit Go.Proofs.Ytbphmcjjanchlaa.Mii
set_option linter.unusedVariables false
set_option linter.unusedSimpArgs false

set_option maxRecDepth 100000 in
set_option maxHeartbeats 40000000 in
theorem do_hi (n₀ bw : Nat) (W : World) (KS : List Int) (ms : List Ent) (vm vl : Value) (kind a b k v : Int) (h : Wld n₀ W bw KS ms vm vl) (hz : n₀ ≤ W.heap.size) (hk : KS.length ≤ 1000) (hm : ms.length ≤ 100000)
    (hkk : kind % 11 = 5) (kd1 : 0 ≤ kind ∧ kind ≤ 255) (ra : 0 ≤ a ∧ a ≤ 255) (rb : 0 ≤ b ∧ b ≤ 255) (rk : -9223372036854775808 ≤ k ∧ k ≤ 9223372036854775807) (rv : -9223372036854775808 ≤ v ∧ v ≤ 9223372036854775807) :
    Calls Try.prog 53 #[.pointer (some ⟨bw, 0, none⟩), .agg #[.int .u8 kind, .int .u8 a, .int .u8 b, .int .i64 k, .int .i64 v]] W fun e W' => e = .returned (.bool true) ∧ Below n₀ W W' ∧ ∃ vm' vl' x, Wld n₀ W' bw (k :: KS) (ms ++ [x]) vm' vl' := by
  obtain ⟨gm, cm, evm, gm0, hcm, -, cellm⟩ := ownAt h.om h.ne
  obtain ⟨gl, cl, evl, gl0, hcl, -, celll⟩ := ownAt h.ol h.ne
  subst evm evl
  obtain ⟨n, hn⟩ : ∃ n, n = ms.length := ⟨_, rfl⟩
  have hn0 : 0 < n := by rw [hn]; exact h.ne
  obtain ⟨i, hi⟩ : ∃ i : Nat, i = a.toNat % n := ⟨_, rfl⟩
  obtain ⟨j, hj⟩ : ∃ i : Nat, i = b.toNat % n := ⟨_, rfl⟩
  have li : i < n := by rw [hi]; exact Nat.mod_lt _ hn0
  have lj : j < n := by rw [hj]; exact Nat.mod_lt _ hn0
  have ei : ∃ e, ms[i]? = some e := ⟨ms[i]'(by omega), List.getElem?_eq_getElem (by omega)⟩
  have ej : ∃ e, ms[j]? = some e := ⟨ms[j]'(by omega), List.getElem?_eq_getElem (by omega)⟩
  obtain ⟨e1, ei⟩ := ei
  obtain ⟨e2, ej⟩ := ej
  have mi := cellm i (.pointer e1.p) (by rw [List.getElem?_map, ei]; rfl)
  have mj := cellm j (.pointer e2.p) (by rw [List.getElem?_map, ej]; rfl)
  have ni := celll i e1.v (by rw [List.getElem?_map, ei]; rfl)
  have nj := celll j e2.v (by rw [List.getElem?_map, ej]; rfl)
  obtain ⟨c0, c1, f0, f1, hbw⟩ := h.cells
  have gmlt : gm < W.heap.size := World.block_lt_of_cell? W _ mi
  have gllt : gl < W.heap.size := World.block_lt_of_cell? W _ ni
  have O1 := Lib.hid (h.ok e1 (List.mem_of_getElem? ei))
  have O2 := Lib.hid (h.ok e2 (List.mem_of_getElem? ej))
  have q1 : a % (n : Int) = (i : Int) := by rw [hi, Int.natCast_emod, Int.toNat_of_nonneg ra.1]
  have q2 : b % (n : Int) = (j : Int) := by rw [hj, Int.natCast_emod, Int.toNat_of_nonneg rb.1]
  have i1 : (0 : Int) ≤ (i : Int) := by omega
  have i2 : (i : Int) < (n : Int) := by omega
  have j1 : (0 : Int) ≤ (j : Int) := by omega
  have j2 : (j : Int) < (n : Int) := by omega
  have n0 : ¬ (n : Int) = 0 := by omega
  have n1 : ((n : Int) == 0) = false := by simp; omega
  rw [← hn] at *
  have HW := Lib.hid h
  have HB := Lib.hid (box5 W kind a b k v)
  have HZ := Lib.hid hz
  obtain ⟨s1, d1, ev1, -⟩ := O1.out.row
  obtain ⟨s2, d2, ev2, -⟩ := O2.out.row
  rw [ev1] at ni
  rw [ev2] at nj
  clear h cellm celll ei ej hi hj hz
  go_enter Try.func53, Try.ntmps53
  go_wp2_with fail
  generalize e0 : W.alloc (Obj.cells #[.int .u8 kind, .int .u8 a, .int .u8 b, .int .i64 k, .int .i64 v] 107) = w0
  obtain ⟨k0, k1, k2, k3, k4, bel⟩ := HB.out w0 e0
  replace c0 := cell_gr bel c0
  replace c1 := cell_gr bel c1
  replace mi := cell_gr bel mi
  replace mj := cell_gr bel mj
  replace ni := cell_gr bel ni
  replace nj := cell_gr bel nj
  have BL := Lib.hid bel
  clear HB e0 bel f0 f1
  go_wp2_with fail
  go_quiet (fail)
  rw [q1, q2]
  generalize hw1 : w0.drewN nq = w1
  have hh : w1.heap = w0.heap := by rw [← hw1]; rfl
  replace c0 := (cell_heap hh ⟨bw, 0, none⟩).trans c0
  replace c1 := (cell_heap hh ⟨bw, 1, none⟩).trans c1
  replace mi := (cell_heap hh ⟨gm, i, none⟩).trans mi
  replace mj := (cell_heap hh ⟨gm, j, none⟩).trans mj
  replace ni := (cell_heap hh ⟨gl, i, none⟩).trans ni
  replace nj := (cell_heap hh ⟨gl, j, none⟩).trans nj
  replace k0 := (cell_heap hh ⟨W.heap.size, 0, none⟩).trans k0
  replace k3 := (cell_heap hh ⟨W.heap.size, 3, none⟩).trans k3
  replace k4 := (cell_heap hh ⟨W.heap.size, 4, none⟩).trans k4
  replace BL : Hid (Below W.heap.size W w1) := Lib.hid (by rw [← hw1]; exact below_drewN BL.out _)
  have zw : W.heap.size < w1.heap.size := World.block_lt_of_cell? w1 _ k0
  clear hw1 hh k1 k2
  go_upto_region 2 with fail
  go_cut [7, 8, 9, 10] from 40 to 67 (fun b1 b2 v1 v2 wx => ∃ B1 B2, b1 = .pointer (some ⟨B1, 0, none⟩) ∧ b2 = .pointer (some ⟨B2, 0, none⟩) ∧ v1 = .slice s1 e1.L.length d1 ∧ v2 = .slice s2 e2.L.length d2 ∧ w1.heap.size ≤ B1 ∧ w1.heap.size ≤ B2 ∧ ¬ B1 = B2 ∧ wx.cell? ⟨B1, 0, none⟩ = some (.pointer e1.p) ∧ wx.cell? ⟨B2, 0, none⟩ = some (.pointer e2.p) ∧ wx.frozen? ⟨B1, 0, none⟩ = false ∧ Below w1.heap.size w1 wx)
  case first =>
    go_region_held3 (fun w' => w'.cell? ⟨bw, 0, none⟩ = some (.slice (some ⟨gm, 0, none⟩) n cm) ∧ w'.cell? ⟨bw, 1, none⟩ = some (.slice (some ⟨gl, 0, none⟩) n cl) ∧ w'.cell? ⟨gm, i, none⟩ = some (.pointer e1.p) ∧ w'.cell? ⟨gm, j, none⟩ = some (.pointer e2.p) ∧ w'.cell? ⟨gl, i, none⟩ = some (.slice s1 e1.L.length d1) ∧ w'.cell? ⟨gl, j, none⟩ = some (.slice s2 e2.L.length d2))
      (first | exact ⟨c0, c1, mi, mj, ni, nj⟩ | exact ⟨cell_dr c0, cell_dr c1, cell_dr mi, cell_dr mj, cell_dr ni, cell_dr nj⟩ | exact ⟨cell_al _ c0, cell_al _ c1, cell_al _ mi, cell_al _ mj, cell_al _ ni, cell_al _ nj⟩ | exact ⟨cell_al _ (cell_dr c0), cell_al _ (cell_dr c1), cell_al _ (cell_dr mi), cell_al _ (cell_dr mj), cell_al _ (cell_dr ni), cell_al _ (cell_dr nj)⟩ | exact ⟨cell_al _ (cell_al _ c0), cell_al _ (cell_al _ c1), cell_al _ (cell_al _ mi), cell_al _ (cell_al _ mj), cell_al _ (cell_al _ ni), cell_al _ (cell_al _ nj)⟩ | exact ⟨cell_al _ (cell_al _ (cell_dr c0)), cell_al _ (cell_al _ (cell_dr c1)), cell_al _ (cell_al _ (cell_dr mi)), cell_al _ (cell_al _ (cell_dr mj)), cell_al _ (cell_al _ (cell_dr ni)), cell_al _ (cell_al _ (cell_dr nj))⟩)
      (fail)
    all_goals
      go_wp2_with fail
      go_meet
      first
        | exact ⟨_, _, rfl, rfl, rfl, rfl, Nat.le_refl _, Nat.le_succ _, by omega, cell_dr (by simp [go_sem]), cell_dr (by simp [go_sem]), by simp [go_sem], Below.dr (((Below.refl _ w1).alloc (Nat.le_refl _) _).alloc (by simp) _)⟩
        | exact ⟨_, _, rfl, rfl, rfl, rfl, Nat.le_succ _, Nat.le_refl _, by omega, cell_dr (by simp [go_sem]), cell_dr (by simp [go_sem]), by simp [go_sem], Below.dr (((Below.refl _ w1).alloc (Nat.le_refl _) _).alloc (by simp) _)⟩
  case rest =>
    obtain ⟨B1, B2, rfl, rfl, rfl, rfl, z1, z2, zn, x1, x2, fx, st⟩ := hcut
    replace k0 := cell_gr st k0
    replace k3 := cell_gr st k3
    replace k4 := cell_gr st k4
    have BLS := Lib.hid BL.out.size
    replace BL := Lib.hid (BL.out.trans (st.mono BL.out.size))
    have zb : W.heap.size < wc.heap.size := World.block_lt_of_cell? wc _ k0
    have zb1 : B1 < wc.heap.size := World.block_lt_of_cell? wc _ x1
    have zb2 : B2 < wc.heap.size := World.block_lt_of_cell? wc _ x2
    clear st c0 c1 mi mj ni nj
    have TT1 := Lib.hid (O1.out.at_.below BL.out (Nat.le_refl _))
    have TT2 := Lib.hid (O2.out.at_.below BL.out (Nat.le_refl _))
    obtain ⟨s1', d1', ev1', r1, zz1⟩ := O1.out.row
    obtain ⟨s2', d2', ev2', r2, zz2⟩ := O2.out.row
    rw [ev1] at ev1'
    rw [ev2] at ev2'
    cases ev1'
    cases ev2'
    have R1 := Lib.hid (r1.below BL.out)
    have R2 := Lib.hid (r2.below BL.out)
    have Z1 := zz1
    have Z2 := zz2
    have y1 := O1.out.len
    have y2 := O2.out.len
    have y3 := O1.out.sz
    have y4 := O2.out.sz
    have zB1 : W.heap.size ≤ B1 := Nat.le_trans BLS.out z1
    have zBo : W.heap.size < B1 := Nat.lt_of_lt_of_le zw z1
    have zBo2 : W.heap.size < B2 := Nat.lt_of_lt_of_le zw z2
    clear r1 r2 zz1 zz2 li lj i1 i2 j1 j2 n0 n1 q1 q2
    go_upto_block 0 with fail
    have hK : kind % 11 = 5 := hkk
    clear hkk
    rw [hK]
    go_cut [9, 11] from 12 to 223 (fun v9 v11 wx => ∃ x : Ent, v9 = x.v ∧ v11 = .bool true ∧ Hid (EntOk wx (k :: KS) x) ∧ wx.cell? ⟨B1, 0, none⟩ = some (.pointer x.p) ∧ Hid (Below W.heap.size W wx))
    case first =>
      have CP := Lib.hid (fun W' hW => Split_any e1.p e1.t k W' hW O1.out.avl O1.out.tasc (by omega))
      have CF := Lib.hid (fun W' hW => Find_any s1 d1 e1.L k W' hW (by omega))
      have CR := Lib.hid (fun W' hW => rAbove_any s1 d1 e1.L k W' hW (by omega))
      go_wp2_with fail
      refine (CP.out _ (by first | exact TT1.out | exact TT1.out.drew)).mono ?_
      rintro e wA ⟨q3, t3, vx, f3, q4, t4, rfl, a3, a4, g3, st0⟩
      have st : Below wc.heap.size wc wA := (by first | exact st0 | exact Below.of_dr st0)
      replace fx := fro_gr st x1 fx
      replace x1 := cell_gr st x1
      replace x2 := cell_gr st x2
      replace k0 := cell_gr st k0
      replace k3 := cell_gr st k3
      replace k4 := cell_gr st k4
      replace TT1 := Lib.hid (TT1.out.grow st)
      replace TT2 := Lib.hid (TT2.out.grow st)
      replace R1 := Lib.hid (R1.out.grow st)
      replace R2 := Lib.hid (R2.out.grow st)
      replace BL := Lib.hid (BL.out.trans (st.mono BL.out.size))
      replace zb1 := Nat.lt_of_lt_of_le zb1 st.size
      clear st st0
      have A3 := Lib.hid a3
      clear a3
      have A4 := Lib.hid a4
      clear a4
      have G3 := Lib.hid g3
      obtain ⟨hvx, hf⟩ := spl_val O1.out g3.hx g3.hf
      subst hvx
      clear g3 CP
      have HB := Lib.hid (boxM wA q3)
      have HB2 := Lib.hid (fun W' => boxM W' q4)
      have nB : B1 < wA.heap.size := zb1
      have nO : W.heap.size < wA.heap.size := Nat.lt_trans zBo nB
      go_wp2_with fail
      generalize eB : wA.alloc (Obj.cells #[Value.pointer q3] 35) = wb
      obtain ⟨ya1, y1f, y1z, dbel⟩ := HB.out wb eB
      have eS : wb.heap.size = wA.heap.size + 1 := by rw [← eB]; simp
      generalize eB2 : wb.alloc (Obj.cells #[Value.pointer q4] 35) = wb2
      obtain ⟨ya2, y2f, y2z, dbel2⟩ := HB2.out wb wb2 eB2
      rw [eS] at ya2
      have st : Below wA.heap.size wA wb := (by first | exact dbel | exact Below.of_dr dbel)
      replace fx := fro_gr st x1 fx
      replace x1 := cell_gr st x1
      replace x2 := cell_gr st x2
      replace k0 := cell_gr st k0
      replace k3 := cell_gr st k3
      replace k4 := cell_gr st k4
      replace TT1 := Lib.hid (TT1.out.grow st)
      replace TT2 := Lib.hid (TT2.out.grow st)
      replace R1 := Lib.hid (R1.out.grow st)
      replace R2 := Lib.hid (R2.out.grow st)
      replace A3 := Lib.hid (A3.out.grow st)
      replace A4 := Lib.hid (A4.out.grow st)
      replace BL := Lib.hid (BL.out.trans (st.mono BL.out.size))
      replace zb1 := Nat.lt_of_lt_of_le zb1 st.size
      clear st dbel
      have st : Below wb.heap.size wb wb2 := (by first | exact dbel2 | exact Below.of_dr dbel2)
      replace fx := fro_gr st x1 fx
      replace x1 := cell_gr st x1
      replace x2 := cell_gr st x2
      replace k0 := cell_gr st k0
      replace k3 := cell_gr st k3
      replace k4 := cell_gr st k4
      replace ya1 := cell_gr st ya1
      replace TT1 := Lib.hid (TT1.out.grow st)
      replace TT2 := Lib.hid (TT2.out.grow st)
      replace R1 := Lib.hid (R1.out.grow st)
      replace R2 := Lib.hid (R2.out.grow st)
      replace A3 := Lib.hid (A3.out.grow st)
      replace A4 := Lib.hid (A4.out.grow st)
      replace BL := Lib.hid (BL.out.trans (st.mono BL.out.size))
      replace zb1 := Nat.lt_of_lt_of_le zb1 st.size
      clear st dbel2
      clear HB HB2 eB eB2 y1f y1z y2f y2z eS
      refine (CF.out _ (by first | exact R1.out | exact R1.out.drew)).mono ?_
      rintro e wF ⟨⟨z, rfl, hz⟩, nn, hnn⟩
      have st0 : Below wb2.heap.size wb2 wF := by rw [hnn]; exact below_drewN (Below.refl _ _) _
      have st : Below wb2.heap.size wb2 wF := (by first | exact st0 | exact Below.of_dr st0)
      replace fx := fro_gr st x1 fx
      replace x1 := cell_gr st x1
      replace x2 := cell_gr st x2
      replace k0 := cell_gr st k0
      replace k3 := cell_gr st k3
      replace k4 := cell_gr st k4
      replace ya1 := cell_gr st ya1
      replace ya2 := cell_gr st ya2
      replace TT1 := Lib.hid (TT1.out.grow st)
      replace TT2 := Lib.hid (TT2.out.grow st)
      replace R1 := Lib.hid (R1.out.grow st)
      replace R2 := Lib.hid (R2.out.grow st)
      replace A3 := Lib.hid (A3.out.grow st)
      replace A4 := Lib.hid (A4.out.grow st)
      replace BL := Lib.hid (BL.out.trans (st.mono BL.out.size))
      replace zb1 := Nat.lt_of_lt_of_le zb1 st.size
      clear st st0
      clear hnn CF
      have hfv : (val e1.L k = none ∧ z = -1) ∨ ∃ (jj : Nat) (xa : Addr), z = jj ∧ jj < e1.L.length ∧ val e1.L k = some (vd e1.L jj) ∧ s1 = some xa ∧ wF.cell? ⟨(xa.add (jj * 2)).block, (xa.add (jj * 2)).off + 1, none⟩ = some (.int .i64 (vd e1.L jj)) := by
        rcases hz with h | ⟨jj, hjj, hz1, _, hv⟩
        · exact .inl h
        · obtain ⟨xa, e, _, _, d⟩ := R1.out jj hjj
          exact .inr ⟨jj, xa, hz1, hjj, hv, e, d⟩
      clear hz
      rcases hfv with ⟨hv, rfl⟩ | ⟨jj, xa, rfl, hjj, hv, rfl, hd⟩
      all_goals
        rw [hv] at hf
        simp only [Option.isSome_none, Option.isSome_some] at hf
        subst hf
        try have jj1 : (0 : Int) ≤ (jj : Int) := by omega
        try have jj2 : (jj : Int) < (e1.L.length : Int) := by omega
        try generalize vd e1.L jj = vv at *
        simp only [hv, Option.getD_none, Option.getD_some]
        clear hv
        go_wp2_with fail
        go_region_held3 (fun w' => w'.cell? ⟨wA.heap.size + 1, 0, none⟩ = some (.pointer q4) ∧ w'.cell? ⟨W.heap.size, 3, none⟩ = some (.int .i64 k))
          (first | exact ⟨ya2, k3⟩ | exact ⟨cell_dr ya2, cell_dr k3⟩ | exact ⟨cell_al _ ya2, cell_al _ k3⟩ | exact ⟨cell_al _ (cell_dr ya2), cell_al _ (cell_dr k3)⟩ | exact ⟨cell_al _ (cell_al _ ya2), cell_al _ (cell_al _ k3)⟩ | exact ⟨cell_st (by dsimp only; omega) ya2, cell_st (by dsimp only; omega) k3⟩ | exact ⟨cell_st (by dsimp only; omega) (cell_dr ya2), cell_st (by dsimp only; omega) (cell_dr k3)⟩ | exact ⟨cell_al _ (cell_st (by dsimp only; omega) ya2), cell_al _ (cell_st (by dsimp only; omega) k3)⟩ | exact ⟨cell_st (by dsimp only; omega) (cell_st (by dsimp only; omega) ya2), cell_st (by dsimp only; omega) (cell_st (by dsimp only; omega) k3)⟩)
          (first
            | (go_at_call 82; (with_reducible refine (CR.out _ (by first | exact R1.out | exact R1.out.drew)).mono ?_); rintro e wR hres; obtain ⟨u3, rfl, U30, st0⟩ := hres.z; have st : Below wF.heap.size wF wR := (by first | exact st0 | exact Below.of_dr st0); replace fx := fro_gr st x1 fx; replace x1 := cell_gr st x1; replace x2 := cell_gr st x2; replace k0 := cell_gr st k0; replace k3 := cell_gr st k3; replace k4 := cell_gr st k4; replace ya1 := cell_gr st ya1; replace ya2 := cell_gr st ya2; replace TT1 := Lib.hid (TT1.out.grow st); replace TT2 := Lib.hid (TT2.out.grow st); replace R1 := Lib.hid (R1.out.grow st); replace R2 := Lib.hid (R2.out.grow st); replace A3 := Lib.hid (A3.out.grow st); replace A4 := Lib.hid (A4.out.grow st); replace BL := Lib.hid (BL.out.trans (st.mono BL.out.size)); replace zb1 := Nat.lt_of_lt_of_le zb1 st.size; clear st st0; have U3 := Lib.hid U30; clear U30))
        clear CR
        have LF := Lib.hid (leaf x1 (ent_hi O1.out A4.out G3.out.ah G3.out.shi U3.out) BL.out zB1)
        clear TT1 TT2 R1 R2 O1 O2 BL
        go_wp2_with fail
        go_meet
        first
          | exact ⟨⟨q4, _, u3, filL (pGt k) e1.L⟩, rfl, rfl, Lib.hid LF.out.1, LF.out.2.1, Lib.hid LF.out.2.2⟩
          | exact ⟨⟨q4, _, u3, filL (pGt k) e1.L⟩, rfl, rfl, Lib.hid (LF.out.1.keep (KeepI.below (Below.refl _ _).drew)), LF.out.2.1, Lib.hid (Below.dr LF.out.2.2)⟩
    case rest =>
      obtain ⟨⟨xp, xt, xv, xL⟩, rfl, rfl, EX, x5, BW⟩ := hcut
      obtain ⟨qx, cxx, evx, rx, zx⟩ := EX.out.row
      try dsimp only at evx x5 rx
      subst evx
      try dsimp only
      have ylx : xL.length ≤ KS.length + 1 := by have := EX.out.len; simpa using this
      have CS := Lib.hid (fun W' h1 h3 => same_any xp xt qx cxx xL W' h1 EX.out.rows h3 (by omega))
      have TX := Lib.hid EX.out.at_
      have RX := Lib.hid rx
      have ZX := Lib.hid zx
      try dsimp only at TX
      clear rx zx
      have WW := Lib.hid ((HW.out.grow BW.out).more k)
      have HZw := Lib.hid (Nat.le_trans HZ.out BW.out.size)
      obtain ⟨cc0, cc1, ff0, ff1, _⟩ := WW.out.cells
      have zc1 := World.block_lt_of_cell? wc _ x5
      have nbw : ¬ bw = B1 := by omega
      have nbg : ¬ bw = gm := fun e => by
        have h1 := WW.out.c0
        rcases row_ne h1 (by decide) WW.out.om with h | h
        · cases h
        · exact h (by rw [e]; rfl)
      have nbl : ¬ bw = gl := fun e => by
        have h1 := WW.out.c0
        rcases row_ne h1 (by decide) WW.out.ol with h | h
        · cases h
        · exact h (by rw [e]; rfl)
      have hms := Lib.hid hm
      obtain ⟨i0, hi, hz0, hz1, hz2⟩ := info_parts info_map
      obtain ⟨j0, hj, hy0, hy1, hy2⟩ := info_parts info_rows
      have OM := Lib.hid WW.out.om
      have nq1 : some bw ≠ (Value.slice (some ⟨gm, 0, none⟩) ms.length cm).ownBlock := by simp [Value.ownBlock]; exact nbg
      have nq2 : some B1 ≠ (Value.slice (some ⟨gm, 0, none⟩) ms.length cm).ownBlock := by simp [Value.ownBlock]; omega
      have zbw : bw < wc.heap.size := World.block_lt_of_cell? wc _ cc0
      have BH := Lib.hid BW.out
      clear HW O1 O2 TT1 TT2 R1 R2 BL BLS ev1 ev2
      go_wp2_with fail
      refine wp_region_G (fun w' => w'.cell? ⟨bw, 0, none⟩ = some (.slice (some ⟨gm, 0, none⟩) ms.length cm) ∧ w'.cell? ⟨B1, 0, none⟩ = some (.pointer xp)) 8 (by kernel_rfl) ?_
      have hS : wc.drew.cell? ⟨bw, 0, none⟩ = some (.slice (some ⟨gm, 0, none⟩) ms.length cm) ∧ wc.drew.cell? ⟨B1, 0, none⟩ = some (.pointer xp) := ⟨cell_dr cc0, cell_dr x5⟩
      refine wpAnyG_take (i := 0) (oi := _) (v := .pointer (some ⟨bw, 0, none⟩)) rfl (by kernel_rfl) (by kernel_rfl) (by kernel_rfl) (by kernel_rfl) (by kernel_rfl) (by decide) (fun _ _ _ h => h) (by rfl) (fun w' hw' => ?_) hS ?_
      · obtain ⟨h1, h2⟩ := hw'
        go_simp
      try simp only [Act.put, List.setIfInBounds_toArray, List.set_cons_zero, List.set_cons_succ]
      refine wpAnyG_take (i := 1) (oi := _) (v := .pointer (some ⟨bw, 0, none⟩)) rfl (by kernel_rfl) (by kernel_rfl) (by kernel_rfl) (by kernel_rfl) (by kernel_rfl) (by decide) (fun _ _ _ h => h) (by rfl) (fun w' hw' => ?_) hS ?_
      · obtain ⟨h1, h2⟩ := hw'
        go_simp
      try simp only [Act.put, List.setIfInBounds_toArray, List.set_cons_zero, List.set_cons_succ]
      refine wpAnyG_take (i := 2) (oi := _) (v := .pointer (some ⟨bw, 0, none⟩)) rfl (by kernel_rfl) (by kernel_rfl) (by kernel_rfl) (by kernel_rfl) (by kernel_rfl) (by decide) (fun _ _ _ h => h) (by rfl) (fun w' hw' => ?_) hS ?_
      · obtain ⟨h1, h2⟩ := hw'
        go_simp
      try simp only [Act.put, List.setIfInBounds_toArray, List.set_cons_zero, List.set_cons_succ]
      refine wpAnyG_take (i := 3) (oi := _) (v := .pointer (some ⟨bw, 0, none⟩)) rfl (by kernel_rfl) (by kernel_rfl) (by kernel_rfl) (by kernel_rfl) (by kernel_rfl) (by decide) (fun _ _ _ h => h) (by rfl) (fun w' hw' => ?_) hS ?_
      · obtain ⟨h1, h2⟩ := hw'
        go_simp
      try simp only [Act.put, List.setIfInBounds_toArray, List.set_cons_zero, List.set_cons_succ]
      refine wpAnyG_take (i := 4) (oi := _) (v := .slice (some ⟨gm, 0, none⟩) ms.length cm) rfl (by kernel_rfl) (by kernel_rfl) (by kernel_rfl) (by kernel_rfl) (by kernel_rfl) (by decide) (fun _ _ _ h => h) (by rfl) (fun w' hw' => ?_) hS ?_
      · obtain ⟨h1, h2⟩ := hw'
        go_simp
      try simp only [Act.put, List.setIfInBounds_toArray, List.set_cons_zero, List.set_cons_succ]
      refine wpAnyG_take (i := 5) (oi := _) (v := .agg #[.pointer xp]) rfl (by kernel_rfl) (by kernel_rfl) (by kernel_rfl) (by kernel_rfl) (by kernel_rfl) (by decide) (fun _ _ _ h => h) (by rfl) (fun w' hw' => ?_) hS ?_
      · obtain ⟨h1, h2⟩ := hw'
        go_simp
      try simp only [Act.put, List.setIfInBounds_toArray, List.set_cons_zero, List.set_cons_succ]
      have hdr : Below wc.heap.size wc (wc.drew.alloc (.cells #[.pointer xp] 35)) := (Below.refl _ wc).drew.alloc (Nat.le_refl _) _
      have ze : (wc.drew.alloc (.cells #[.pointer xp] 35)).heap.size = wc.heap.size + 1 := by simp
      refine wpAnyG_one (i := 6) (o := _) (by kernel_rfl) rfl (fun K hK => ?_)
      go_simp
      refine hK.out _ _ (fun _ => ⟨cell_al _ (cell_dr cc0), cell_al _ (cell_dr x5)⟩) ?_
      try simp only [Act.put, List.setIfInBounds_toArray, List.set_cons_zero, List.set_cons_succ]
      clear hK
      refine wpAnyG_one (i := 7) (o := _) (by kernel_rfl) rfl (fun K hK => ?_)
      refine step_append_lies _ (by rfl) _ _ _ (by rfl) n₀ 35 i0 (.agg #[.pointer none]) 1 8 Try.underlying28 hi hz0 hz1 hz2 rfl (by omega) (.slice (some ⟨gm, 0, none⟩) ms.length cm) ms.length (ms.map fun e => .pointer e.p) (by rfl) (ownsRow_below hdr OM.out) ⟨wc.heap.size, 0, none⟩ 1 1 [.pointer xp] (by rfl) (by rfl) (World.news_of_block (cs := #[.pointer xp]) (t := 35) (fr := (0, 0)) (heap_alloc_new _ _)) (by simp [Value.oneCell']) (by omega) (by unfold maxLen; omega) (by omega) (Nat.le_trans HZw.out hdr.size) (wc.heap.size + 1) (by simp) ?_
      intro g2 cap2 wA hownA hgrowA hatA hltA
      have PP := Wld.push1 WW.out EX.out HZw.out hdr hownA hgrowA
      have cc2 : wA.cell? ⟨bw, 0, none⟩ = some (.slice (some ⟨gm, 0, none⟩) ms.length cm) := hgrowA.cell (cell_al _ (cell_dr cc0)) nq1
      have x6 : wA.cell? ⟨B1, 0, none⟩ = some (.pointer xp) := hgrowA.cell (cell_al _ (cell_dr x5)) nq2
      have f2 : wA.frozen? ⟨bw, 0, none⟩ = false := by
        have := World.frozen?_of_block (a := ⟨bw, 0, none⟩) (hgrowA.block bw (Nat.lt_of_lt_of_le zbw hdr.size) nq1)
        rw [this]
        exact fro_gr hdr cc0 ff0
      have x7 : (wA.setCell ⟨bw, 0, none⟩ (.slice (some ⟨g2, 0, none⟩) (ms.length + 1) cap2)).cell? ⟨B1, 0, none⟩ = some (.pointer xp) := cell_st (by dsimp only; omega) x6
      have W2 := Lib.hid PP.1
      have B2w := Lib.hid PP.2
      clear PP hownA hatA OM
      refine hK.out _ _ (fun _ => ⟨cc2, x6⟩) ?_
      try simp only [Act.put, List.setIfInBounds_toArray, List.set_cons_zero, List.set_cons_succ]
      clear hK
      refine wpAnyG_one (i := 8) (o := _) (by kernel_rfl) rfl (fun K hK => ?_)
      go_simp
      refine hK.out _ _ (fun h => absurd h (by decide)) ?_
      try simp only [Act.put, List.setIfInBounds_toArray, List.set_cons_zero, List.set_cons_succ]
      clear hK
      refine wpAnyG_one (i := 9) (o := _) (by kernel_rfl) rfl (fun K hK => ?_)
      go_simp
      refine hK.out _ _ (fun h => absurd h (by decide)) ?_
      try simp only [Act.put, List.setIfInBounds_toArray, List.set_cons_zero, List.set_cons_succ]
      clear hK
      refine wpAnyG_one (i := 10) (o := _) (by kernel_rfl) rfl (fun K hK => ?_)
      go_simp
      refine hK.out _ _ (fun h => absurd h (by decide)) ?_
      try simp only [Act.put, List.setIfInBounds_toArray, List.set_cons_zero, List.set_cons_succ]
      clear hK
      refine wpAnyG_done (by kernel_rfl) ?_ _
      generalize eD : wA.setCell ⟨bw, 0, none⟩ (.slice (some ⟨g2, 0, none⟩) (ms.length + 1) cap2) = wD at *
      have cd1 : wD.cell? ⟨bw, 1, none⟩ = some (.slice (some ⟨gl, 0, none⟩) ms.length cl) := by simp [World.cell?, W2.out.c0]
      have fd1 : wD.frozen? ⟨bw, 1, none⟩ = false := by simp [World.frozen?, W2.out.c0]
      have HZd := Lib.hid (Nat.le_trans HZw.out B2w.out.size)
      have zbd : bw < wD.heap.size := World.block_lt_of_cell? wD _ cd1
      have OL := Lib.hid W2.out.ol
      have KD := Lib.hid W2.out.xk
      have zc7 := World.block_lt_of_cell? wD _ x7
      have nq3 : some bw ≠ (Value.slice (some ⟨gl, 0, none⟩) ms.length cl).ownBlock := by simp [Value.ownBlock]; exact nbl
      have nq4 : some B1 ≠ (Value.slice (some ⟨gl, 0, none⟩) ms.length cl).ownBlock := by simp [Value.ownBlock]; omega
      have hda : Below wD.heap.size wD (wD.alloc (.cells #[.slice qx xL.length cxx] 36)) := (Below.refl _ wD).alloc (Nat.le_refl _) _
      clear cc2 x6 f2 hgrowA hS cc0 cc1 ff0 ff1 x5 eD TX RX
      go_wp2_with (first
        | (at_builtin; refine wpList_append_own _ rfl _ _ 29 rfl n₀ 36 j0 (.slice none 0 0) 1 24 Try.underlying29 hj hy0 hy1 hy2 rfl (by decide) _ _ _ rfl (ownsRow_below hda OL.out) ⟨wD.heap.size, 0, none⟩ 1 1 [.slice qx xL.length cxx] rfl rfl (World.news_of_block (cs := #[.slice qx xL.length cxx]) (t := 36) (fr := (0, 0)) (heap_alloc_new _ _)) (by simp [Value.oneCell']) (by unfold maxLen; omega) (by omega) (Nat.le_trans HZd.out hda.size) ?_))
      intro v3 wE hownE hgrowE _
      obtain ⟨g3, cap3, rfl⟩ := ownsRow_succ hownE
      have PE := Wld2.push W2.out HZd.out hda hownE hgrowE
      have ce1 : wE.cell? ⟨bw, 1, none⟩ = some (.slice (some ⟨gl, 0, none⟩) ms.length cl) := hgrowE.cell (cell_al _ cd1) nq3
      have fe1 : wE.frozen? ⟨bw, 1, none⟩ = false := by
        have := World.frozen?_of_block (a := ⟨bw, 1, none⟩) (hgrowE.block bw (Nat.lt_of_lt_of_le zbd hda.size) nq3)
        rw [this]
        exact fro_gr hda cd1 fd1
      have x8 : wE.cell? ⟨B1, 0, none⟩ = some (.pointer xp) := hgrowE.cell (cell_al _ x7) nq4
      have x9 : (wE.setCell ⟨bw, 1, none⟩ (.slice (some ⟨g3, 0, none⟩) (ms.length + 1) cap3)).cell? ⟨B1, 0, none⟩ = some (.pointer xp) := cell_st (by dsimp only; omega) x8
      have WE := Lib.hid PE.1
      have BE := Lib.hid (B2w.out.trans PE.2)
      have EE := Lib.hid (WE.out.ok ⟨xp, xt, .slice qx xL.length cxx, xL⟩ (by simp))
      have TE := Lib.hid EE.out.at_
      have RE : Hid (RowsR (wE.setCell ⟨bw, 1, none⟩ (.slice (some ⟨g3, 0, none⟩) (ms.length + 1) cap3)) qx xL) := Lib.hid (by
        obtain ⟨q5, c5, e5, r5, _⟩ := EE.out.row
        cases e5
        exact r5)
      try dsimp only at TE
      clear PE hownE hgrowE W2 OL KD EX cd1 fd1 x7
      go_wp2_with fail
      refine (CS.out _ TE.out RE.out).mono ?_
      rintro e wF ⟨rfl, st⟩
      have WF := Lib.hid (WE.out.grow st)
      have BF := Lib.hid (((BH.out.mono HZ.out).trans BE.out).trans (st.mono (Nat.le_trans HZw.out BE.out.size)))
      clear st TE RE CS WE BE EE
      go_wp2_with fail
      go_ret
      exact ⟨rfl, BF.out, _, _, _, WF.out⟩
end Go.Proofs.Ytbphmcjjanchlaa
