/- TreeDepth: its walk. -/
import Derived.Test.YtkagdbodjjbinaaK30
import Derived.Deep.RegionLaw
import Derived.Deep.RegionWith
namespace Go.Proofs.Ytkagdbodjjbinaa.Mii
open Go.RowKit
set_option linter.unusedVariables false
set_option linter.unusedSimpArgs false

/-- What the first loop keeps. -/
def Lp1 (w : World) (S k : Int) (W : World) : Prop := ∃ pu pd pw tu td tw, DB w pu pd pw tu td tw W ∧ tu.Avl ∧ UpT tu.rows k ∧ Good td k.toNat ∧ Good tw k.toNat
theorem Good.put {t t' : TI} {k : Int} {v : Value} {i : Int} (hi : 0 ≤ i) (h : Good t i.toNat) (p : PutQ t k v t') : Good t' (i + 1).toNat := ⟨p.avl, p.p.asc, by have := p.sz; have := h.sz; omega⟩
theorem up_sz {t : TI} {k : Int} (hk : 0 ≤ k) (h : UpT t.rows k) : (t.sz : Int) = k := by rw [← t.sz_eq]; exact up_len hk h

theorem Lp1.drew {w : World} {S k : Int} {W : World} (h : Lp1 w S k W) : Lp1 w S k W.drew := by
  obtain ⟨pu, pd, pw, tu, td, tw, D, r⟩ := h
  exact ⟨pu, pd, pw, tu, td, tw, D.grow (Below.refl _ _).drew, r⟩
/-- What the second loop keeps. -/
def Lp2 (w : World) (bm : Nat) (pu pd pw : Option Addr) (tu td tw : TI) (N : Nat) (W : World) : Prop := ∃ pm tm, DB w pu pd pw tu td tw W ∧ W.cell? ⟨bm, 0, none⟩ = some (.pointer pm) ∧ W.frozen? ⟨bm, 0, none⟩ = false ∧ At W pm tm ∧ Good tm N
theorem Lp2.drew {w : World} {bm : Nat} {pu pd pw : Option Addr} {tu td tw : TI} {N : Nat} {W : World} (h : Lp2 w bm pu pd pw tu td tw N W) : Lp2 w bm pu pd pw tu td tw N W.drew := by
  obtain ⟨pm, tm, D, c, f, a, g⟩ := h
  exact ⟨pm, tm, D.grow (Below.refl _ _).drew, c, f, a.drew, g⟩
theorem Lp2.grow {w : World} {bm : Nat} {pu pd pw : Option Addr} {tu td tw : TI} {N : Nat} {A B : World} (st : Below A.heap.size A B) (h : Lp2 w bm pu pd pw tu td tw N A) : Lp2 w bm pu pd pw tu td tw N B := by
  obtain ⟨pm, tm, D, c, f, a, g⟩ := h
  exact ⟨pm, tm, D.grow st, cell_gr st c, fro_gr st c f, a.grow st, g⟩
/-- What the third loop keeps. -/
def Lp3 (w : World) (pd pw : Option Addr) (td tw : TI) (S j : Int) (W : World) : Prop := ∃ pu tu, DB w pu pd pw tu td tw W ∧ tu.Avl ∧ OddT tu.rows S j ∧ tu.sz ≤ 3000
theorem DB.set3 {w A : World} {bm : Nat} {x : Option Addr} {y : Value} {pu pd pw : Option Addr} {tu td tw : TI} (h : DB w pu pd pw tu td tw A) (hb : w.heap.size + 1 + 1 < bm) (hc : A.cell? ⟨bm, 0, none⟩ = some (.pointer x)) : DB w pu pd pw tu td tw (A.setCell ⟨bm, 0, none⟩ y) :=
  ⟨cell_st (by dsimp only; omega) h.c0, cell_st (by dsimp only; omega) h.c1, cell_st (by dsimp only; omega) h.c2, by rw [World.frozen?_setCell]; exact h.f0, by rw [World.frozen?_setCell]; exact h.f1, by rw [World.frozen?_setCell]; exact h.f2, by simpa using h.sz, h.au.set _ hc, h.ad.set _ hc, h.aw.set _ hc, h.bel.setCell (by dsimp only; omega) _⟩
theorem Lp2.mk {w A : World} {bm : Nat} {pu pd pw x q : Option Addr} {tu td tw t : TI} {N : Nat} (h : DB w pu pd pw tu td tw A) (hb : w.heap.size + 1 + 1 < bm) (hc : A.cell? ⟨bm, 0, none⟩ = some (.pointer x)) (hf : A.frozen? ⟨bm, 0, none⟩ = false) (a : At A q t) (g : Good t N) : Lp2 w bm pu pd pw tu td tw N (A.setCell ⟨bm, 0, none⟩ (.pointer q)) :=
  ⟨q, t, h.set3 hb hc, World.cell?_setCell_same' _ _ _ (by rw [hc]; rfl), by rw [World.frozen?_setCell]; exact hf, a.set _ hc, g⟩
/-- A row of numbers that came in. -/
def RowC (w : World) (p : Option Addr) (l : List Int) : Prop := ∀ i, i < l.length → ∃ x, p = some x ∧ x.block < w.heap.size ∧ w.cell? (x.add i) = some (.int .i64 (l.getD i 0)) ∧ -9223372036854775808 ≤ l.getD i 0 ∧ l.getD i 0 ≤ 9223372036854775807
theorem addblk (a : Addr) (i : Nat) : (a.add i).block = a.block := by unfold Addr.add; split <;> rfl
theorem RowC.below {w W : World} {p : Option Addr} {l : List Int} (h : RowC w p l) (bel : Below w.heap.size w W) (i : Nat) (hi : i < l.length) : ∃ x, p = some x ∧ W.cell? (x.add i) = some (.int .i64 (l.getD i 0)) ∧ -9223372036854775808 ≤ l.getD i 0 ∧ l.getD i 0 ≤ 9223372036854775807 := by
  obtain ⟨x, e, hb, c, r⟩ := h i hi
  exact ⟨x, e, (bel.cell (p := x.add i) (by rw [addblk]; exact hb)).trans c, r⟩
set_option maxRecDepth 100000 in
set_option maxHeartbeats 4000000 in
theorem depth_walk (w : World) (n : Int) (leap : Int) (pc : Option Addr) (cl : List Int) (cc : Nat) (hcl : cl.length ≤ 9223372036854775807) (rc : RowC w pc cl) (n0 : 0 ≤ n) (n1 : n ≤ 65535) (l0 : 0 ≤ leap) (l1 : leap ≤ 255) :
    Calls Try.prog 8 #[.int .u16 n, .int .u8 leap, .slice pc cl.length cc] w fun e w' => e = .returned (.bool true) ∧ Below w.heap.size w w' := by
  obtain ⟨s, hs⟩ : ∃ s : Int, n % 3000 = s := ⟨_, rfl⟩
  have s0 : 0 ≤ s := by omega
  have s1 : s ≤ 2999 := by omega
  obtain ⟨S, hS⟩ : ∃ S : Int, 1 + s = S := ⟨_, rfl⟩
  have S0 : 1 ≤ S := by omega
  have S1 : S ≤ 3000 := by omega
  obtain ⟨l2, hl2⟩ : ∃ l2 : Int, 2 * leap = l2 := ⟨_, rfl⟩
  have l20 : 0 ≤ l2 := by omega
  have l21 : l2 ≤ 510 := by omega
  obtain ⟨st, hst⟩ : ∃ st : Int, 1 + l2 = st := ⟨_, rfl⟩
  have st0 : 0 ≤ st := by omega
  have st1 : st ≤ 511 := by omega
  have RC := Lib.hid rc
  obtain ⟨cn, hcn⟩ : ∃ cn, cn = cl.length := ⟨_, rfl⟩
  rw [← hcn] at hcl ⊢
  have HCN := Lib.hid hcn
  clear rc hcn
  have AL := Lib.hid Go.Proofs.Ytkagdbodjjbinaa.Mis.alive_any
  have HB : Hid (∀ w0, (((w.alloc (Obj.cells #[Value.pointer none] 35)).alloc (Obj.cells #[Value.pointer none] 35)).alloc (Obj.cells #[Value.pointer none] 35)) = w0 → DB w none none none .nil .nil .nil w0) := Lib.hid (fun w0 e => by
    subst e
    exact ⟨by simp [go_sem], by simp [go_sem], by simp [go_sem], by simp [go_sem], by simp [go_sem], by simp [go_sem], by simp, rfl, rfl, rfl, (((Below.refl _ w).alloc (Nat.le_refl _) _).alloc (by simp) _).alloc (by simp; omega) _⟩)
  go_enter Try.func8, Try.ntmps8
  go_wp2_with fail
  generalize e0 : (((w.alloc (Obj.cells #[Value.pointer none] 35)).alloc (Obj.cells #[Value.pointer none] 35)).alloc (Obj.cells #[Value.pointer none] 35)) = w0
  have D0 := Lib.hid (HB.out w0 e0)
  clear HB e0 hs hS hl2 hst
  go_loopw [12] (fun iv wr => ∃ k : Nat, iv = .int .i64 (k : Int) ∧ (k : Int) ≤ S ∧ Hid (Lp1 w S (k : Int) wr)) (fun iv _ => S.toNat - (intOf iv).toNat)
  case atStart => exact ⟨0, rfl, by omega, Lib.hid ⟨none, none, none, .nil, .nil, .nil, D0.out, trivial, up_zero, ⟨trivial, Asc.nil, Nat.le_refl _⟩, ⟨trivial, Asc.nil, Nat.le_refl _⟩⟩⟩
  case round =>
    clear D0
    obtain ⟨k, rfl, hk, HL⟩ := hrel
    obtain ⟨pu, pd, pw, tu, td, tw, D, va, ut, gd, gw⟩ := HL.out
    have usz := up_sz (by omega) ut
    have gds := gd.sz
    have gws := gw.sz
    by_cases hlt : (k : Int) < S
    · obtain ⟨P, hP⟩ : ∃ P : Int, (k : Int) * st = P := ⟨_, rfl⟩
      have P0 : 0 ≤ P := by rw [← hP]; exact Int.mul_nonneg (by omega) (by omega)
      have P1 : P ≤ 3000 * 511 := by rw [← hP]; exact Int.le_trans (Int.mul_le_mul_of_nonneg_right (show (k : Int) ≤ 3000 by omega) (by omega)) (Int.mul_le_mul_of_nonneg_left (by omega) (by omega))
      have q1 := IntWalk.i64_in P (by omega)
      obtain ⟨r, hr⟩ : ∃ r : Int, P % S = r := ⟨_, rfl⟩
      have hr2 : P.tmod S = r := by rw [Int.tmod_eq_emod_of_nonneg P0]; exact hr
      have r0 : 0 ≤ r := by rw [← hr]; exact Int.emod_nonneg _ (by omega)
      have r1 : r < S := by rw [← hr]; exact Int.emod_lt_of_pos _ (by omega)
      have q2 := IntWalk.i64_in r (by omega)
      have q3 := IntWalk.i64_in (S - (k : Int)) (by omega)
      have Sne : ¬ S = 0 := by omega
      have VA := Lib.hid va
      have UT := Lib.hid ut
      have GD := Lib.hid gd
      have GW := Lib.hid gw
      have DD := Lib.hid D
      obtain ⟨k0, k1, k2, f0, f1, f2, sz, -, -, -, -⟩ := D
      have PU := Lib.hid (fun W hW => Put_any pu tu (k : Int) (.int .i64 (k : Int)) W rfl hW va ut.1 (by omega))
      have PD := Lib.hid (fun W hW => Put_any pd td (S - (k : Int)) (.int .i64 (k : Int)) W rfl hW gd.avl gd.asc (by omega))
      have PW := Lib.hid (fun W hW => Put_any pw tw r (.int .i64 (k : Int)) W rfl hW gw.avl gw.asc (by omega))
      clear va ut gd gw usz gds gws HL hk
      go_wp2_with fail
      refine (PU.out _ DD.out.au).mono ?_
      rintro e w1 ⟨x1, t1, rfl, a1, g1, st9⟩
      have D1 := Lib.hid (DD.out.grow st9)
      have HD : Hid (∀ W, w1.setCell ⟨w.heap.size, 0, none⟩ (.pointer x1) = W → DB w x1 pd pw t1 td tw W) := Lib.hid (fun W e => by subst e; exact D1.out.set0 a1)
      have G1 := Lib.hid g1
      clear k0 k1 k2 f0 f1 f2 sz st9 a1 g1 PU
      obtain ⟨k0, k1, k2, f0, f1, f2, sz, -, -, -, -⟩ := D1.out
      go_wp2_with fail
      generalize e1 : w1.setCell ⟨w.heap.size, 0, none⟩ (.pointer x1) = w2
      have D2 := Lib.hid (HD.out w2 e1)
      clear HD e1 D1 k0 k1 k2 f0 f1 f2 sz DD
      refine (PD.out _ D2.out.ad).mono ?_
      rintro e w3 ⟨x2, t2, rfl, a2, g2, st9⟩
      have D3 := Lib.hid (D2.out.grow st9)
      have HD : Hid (∀ W, w3.setCell ⟨w.heap.size + 1, 0, none⟩ (.pointer x2) = W → DB w x1 x2 pw t1 t2 tw W) := Lib.hid (fun W e => by subst e; exact D3.out.set1 a2)
      have G2 := Lib.hid g2
      clear st9 a2 g2 PD D2
      obtain ⟨k0, k1, k2, f0, f1, f2, sz, -, -, -, -⟩ := D3.out
      go_wp2_with fail
      generalize e1 : w3.setCell ⟨w.heap.size + 1, 0, none⟩ (.pointer x2) = w4
      have D4 := Lib.hid (HD.out w4 e1)
      clear HD e1 D3 k0 k1 k2 f0 f1 f2 sz
      obtain ⟨k0, k1, k2, f0, f1, f2, sz, -, -, -, -⟩ := D4.out
      go_region_law
        (first
          | (go_simp; go_at_call 29; (with_reducible refine (PW.out _ (by first | exact D4.out.aw | exact D4.out.aw.drew | exact D4.out.aw.grow (below_drewN (Below.refl _ _) _))).mono ?_); rintro e w5 ⟨x3, t3, rfl, a3, g3, st9⟩; have st8 : Below w4.heap.size w4 w5 := (by first | exact st9 | exact Below.of_dr st9); have D5 := Lib.hid (D4.out.grow st8); have A3 := Lib.hid a3; have G3 := Lib.hid g3; clear k0 k1 k2 f0 f1 f2 sz st8 st9 a3 g3; obtain ⟨k0, k1, k2, f0, f1, f2, sz, -, -, -, -⟩ := D5.out))
      all_goals
        have HR : Hid (Lp1 w S ((k + 1 : Nat) : Int) (w5.setCell ⟨w.heap.size + 1 + 1, 0, none⟩ (.pointer x3))) := Lib.hid ⟨x1, x2, x3, t1, t2, t3, D5.out.set2 A3.out, G1.out.avl, up_put (by omega) UT.out G1.out.p, GD.out.put (by omega) G2.out, GW.out.put (by omega) G3.out⟩
        clear D4 D5 A3 G1 G2 G3 VA UT GD GW PW
        go_wp2_with fail
        go_roundw
        case rel => exact ⟨k + 1, by go_num, by omega, by first | exact HR | exact Lib.hid HR.out.drew⟩
        case measure => simp [intOf]; omega
    · obtain rfl : S = (k : Int) := by omega
      have VA := Lib.hid va
      have UT := Lib.hid ut
      have GD := Lib.hid gd
      have GW := Lib.hid gw
      have BU := Lib.hid (fun W hW => bounded_any pu tu W hW va (by omega))
      have BD := Lib.hid (fun W hW => bounded_any pd td W hW gd.avl (by omega))
      have BW := Lib.hid (fun W hW => bounded_any pw tw W hW gw.avl (by omega))
      have LU := Lib.hid (fun W hW => Len_any pu tu (k : Int) W hW usz)
      have MU : Hid (Good tu 3000) := Lib.hid ⟨va, ut.1, by omega⟩
      have DD := Lib.hid D
      obtain ⟨k0, k1, k2, f0, f1, f2, sz, -, -, -, -⟩ := D
      clear va ut gd gw usz gds gws HL hk hlt
      go_wp2_with fail
      refine (BU.out _ DD.out.au).mono ?_
      rintro e v1 ⟨rfl, st9⟩
      replace DD := Lib.hid (DD.out.grow st9)
      clear k0 k1 k2 f0 f1 f2 sz st9
      obtain ⟨k0, k1, k2, f0, f1, f2, sz, -, -, -, -⟩ := DD.out
      go_wp2_with fail
      refine (BD.out _ DD.out.ad).mono ?_
      rintro e v2 ⟨rfl, st9⟩
      replace DD := Lib.hid (DD.out.grow st9)
      clear k0 k1 k2 f0 f1 f2 sz st9
      obtain ⟨k0, k1, k2, f0, f1, f2, sz, -, -, -, -⟩ := DD.out
      go_wp2_with fail
      refine (BW.out _ DD.out.aw).mono ?_
      rintro e v3 ⟨rfl, st9⟩
      replace DD := Lib.hid (DD.out.grow st9)
      clear k0 k1 k2 f0 f1 f2 sz st9
      obtain ⟨k0, k1, k2, f0, f1, f2, sz, -, -, -, -⟩ := DD.out
      go_wp2_with fail
      refine (LU.out _ DD.out.au).mono ?_
      rintro e v4 ⟨rfl, st9⟩
      replace DD := Lib.hid (DD.out.grow st9)
      clear k0 k1 k2 f0 f1 f2 sz st9
      obtain ⟨k0, k1, k2, f0, f1, f2, sz, -, -, -, -⟩ := DD.out
      go_wp2_with fail
      have D5 : Hid (∀ W, v4.alloc (Obj.cells #[Value.pointer pu] 35) = W → Lp2 w v4.heap.size pu pd pw tu td tw (3000 * (0 + 1)) W) := Lib.hid (fun W e => by
        subst e
        exact ⟨pu, tu, DD.out.grow ((Below.refl _ _).alloc (Nat.le_refl _) _), by simp [go_sem], by simp [go_sem], DD.out.au.alloc _, MU.out⟩)
      obtain ⟨bm, hbm⟩ : ∃ bm, bm = v4.heap.size := ⟨_, rfl⟩
      have zb : w.heap.size + 1 + 1 < bm := by omega
      generalize e5 : v4.alloc (Obj.cells #[Value.pointer pu] 35) = v5
      replace D5 := Lib.hid (D5.out v5 e5)
      rw [← hbm] at D5 ⊢
      clear e5 hbm k0 k1 k2 f0 f1 f2 sz DD BU BD BW LU MU
      go_loopw [14] (fun iv wr => ∃ i : Nat, iv = .int .i64 (i : Int) ∧ i ≤ cn ∧ i ≤ 40 ∧ Hid (Lp2 w bm pu pd pw tu td tw (3000 * (i + 1)) wr)) (fun iv _ => 40 - (intOf iv).toNat)
      case atStart => exact ⟨0, rfl, by omega, by omega, D5⟩
      case round =>
        clear D5
        obtain ⟨i, rfl, ic, i40, HL⟩ := hrel
        by_cases h1 : i < cn
        · by_cases h2 : i < 40
          · obtain ⟨pm, tm, D, c13, f13, am, gm⟩ := HL.out
            have hil : i < cl.length := by have := HCN.out; omega
            obtain ⟨xa, hpc, cx, xv1, xv2⟩ := RC.out.below D.bel i hil
            subst hpc
            generalize cl.getD i 0 = cv at *
            obtain ⟨kq, hkq⟩ : ∃ kq : Int, cv.tmod (k : Int) = kq := ⟨_, rfl⟩
            have hk1 : -3000 < kq := by
              have h1 := Int.neg_tmod cv (k : Int) ▸ Int.tmod_lt_of_pos (-cv) (show (0 : Int) < (k : Int) by omega)
              omega
            have hk2 : kq < 3000 := by
              have h1 := Int.tmod_lt_of_pos cv (show (0 : Int) < (k : Int) by omega)
              omega
            have qk := IntWalk.i64_in kq (by omega)
            have kne : ¬ (k : Int) = 0 := by omega
            have i0 : (0 : Int) ≤ (i : Int) := by omega
            have i1 : (i : Int) < (cn : Int) := by omega
            have TM := Lib.hid am
            have GM := Lib.hid gm
            have gmz := gm.sz
            have SP := Lib.hid (fun W hW => Split_any pm tm kq W hW gm.avl gm.asc (by omega))
            have DD := Lib.hid D
            obtain ⟨k0, k1, k2, f0, f1, f2, sz, -, -, -, -⟩ := D
            clear am gm HL hil gmz
            have KO0 : Hid (k ≤ 3000) := Lib.hid (by omega)
            obtain ⟨hf, hhf⟩ : ∃ hf : Int, (k : Int) / 2 = hf := ⟨_, rfl⟩
            have hhf2 : (k : Int).tdiv 2 = hf := by rw [Int.tdiv_eq_ediv_of_nonneg (by omega)]; exact hhf
            have hf0 : 0 ≤ hf := by omega
            have hf1 : hf ≤ 1500 := by omega
            have qh := IntWalk.i64_in hf (by omega)
            have qh2 := IntWalk.i64_in (kq + hf) (by omega)
            go_wp2_with fail
            refine (SP.out _ TM.out).mono ?_
            rintro e w1 ⟨x1, u1, xv, f, x2, u2, rfl, a1, a2, g1, st9⟩
            have st : Below wr.heap.size wr w1 := (by first | exact st9 | exact Below.of_dr st9)
            replace DD := Lib.hid (DD.out.grow st)
            replace f0 := fro_gr st k0 f0
            replace f1 := fro_gr st k1 f1
            replace f2 := fro_gr st k2 f2
            replace f13 := fro_gr st c13 f13
            replace k0 := cell_gr st k0
            replace k1 := cell_gr st k1
            replace k2 := cell_gr st k2
            replace c13 := cell_gr st c13
            replace sz := Nat.lt_of_lt_of_le sz st.size
            clear st st9
            have T1 := Lib.hid a1
            have T2 := Lib.hid a2
            have G1 := Lib.hid g1
            have JO := Lib.hid (fun W h1 h2 => Join_any x1 x2 u1 u2 W h1 h2 g1.al g1.ah (asc_dn_up g1.slo.asc g1.shi.asc g1.slo.dn g1.shi.up) (by have := g1.sz; have := GM.out.sz; omega))
            have B1 := Lib.hid (fun W hW => bounded_any x1 u1 W hW g1.al (by have := g1.sz; have := GM.out.sz; omega))
            have B2 := Lib.hid (fun W hW => bounded_any x2 u2 W hW g1.ah (by have := g1.sz; have := GM.out.sz; omega))
            have HD : Hid (∀ W, (w1.alloc (Obj.cells #[Value.pointer x1] 35)).alloc (Obj.cells #[Value.pointer x2] 35) = W → Below w1.heap.size w1 W ∧ W.cell? ⟨w1.heap.size, 0, none⟩ = some (.pointer x1) ∧ W.cell? ⟨w1.heap.size + 1, 0, none⟩ = some (.pointer x2)) := Lib.hid (fun W e => by subst e; exact ⟨((Below.refl _ _).alloc (Nat.le_refl _) _).alloc (by simp) _, by simp [go_sem], by simp [go_sem]⟩)
            have zb1 : bm < w1.heap.size := World.block_lt_of_cell? w1 _ c13
            clear a1 a2 g1 SP TM cx
            go_wp2_with fail
            generalize e6 : (w1.alloc (Obj.cells #[Value.pointer x1] 35)).alloc (Obj.cells #[Value.pointer x2] 35) = w2
            obtain ⟨st9, c16, c19⟩ := HD.out w2 e6
            clear HD e6
            have st : Below w1.heap.size w1 w2 := (by first | exact st9 | exact Below.of_dr st9)
            replace DD := Lib.hid (DD.out.grow st)
            replace f0 := fro_gr st k0 f0
            replace f1 := fro_gr st k1 f1
            replace f2 := fro_gr st k2 f2
            replace f13 := fro_gr st c13 f13
            replace k0 := cell_gr st k0
            replace k1 := cell_gr st k1
            replace k2 := cell_gr st k2
            replace c13 := cell_gr st c13
            replace T1 := Lib.hid (T1.out.grow st)
            replace T2 := Lib.hid (T2.out.grow st)
            replace sz := Nat.lt_of_lt_of_le sz st.size
            clear st st9
            refine (JO.out _ T1.out T2.out).mono ?_
            rintro e w3 ⟨x3, u3, rfl, a3, g3, st9⟩
            have st : Below w2.heap.size w2 w3 := (by first | exact st9 | exact Below.of_dr st9)
            replace DD := Lib.hid (DD.out.grow st)
            replace f0 := fro_gr st k0 f0
            replace f1 := fro_gr st k1 f1
            replace f2 := fro_gr st k2 f2
            replace f13 := fro_gr st c13 f13
            replace k0 := cell_gr st k0
            replace k1 := cell_gr st k1
            replace k2 := cell_gr st k2
            replace c13 := cell_gr st c13
            replace c16 := cell_gr st c16
            replace c19 := cell_gr st c19
            replace T1 := Lib.hid (T1.out.grow st)
            replace T2 := Lib.hid (T2.out.grow st)
            replace sz := Nat.lt_of_lt_of_le sz st.size
            clear st st9
            have T3 := Lib.hid a3
            have gz : u3.sz ≤ 3000 * (i + 1) := by have := g3.sz; have := G1.out.sz; have := GM.out.sz; omega
            have G3 : Hid (Good u3 (3000 * (i + 1))) := Lib.hid ⟨g3.2, by rw [g3.1]; exact asc_dn_up G1.out.slo.asc G1.out.shi.asc G1.out.slo.dn G1.out.shi.up, gz⟩
            have B3 := Lib.hid (fun W hW => bounded_any x3 u3 W hW g3.2 (by omega))
            have HD : Hid (∀ W, w3.alloc (Obj.cells #[Value.pointer x3] 35) = W → Below w3.heap.size w3 W ∧ W.cell? ⟨w3.heap.size, 0, none⟩ = some (.pointer x3)) := Lib.hid (fun W e => by subst e; exact ⟨(Below.refl _ _).alloc (Nat.le_refl _) _, by simp [go_sem]⟩)
            have zz1 : w1.heap.size + 1 < w3.heap.size := World.block_lt_of_cell? w3 _ c19
            have zz0 : w1.heap.size < w3.heap.size := by omega
            clear a3 g3 gz JO G1 GM
            go_wp2_with fail
            generalize e7 : w3.alloc (Obj.cells #[Value.pointer x3] 35) = w4
            obtain ⟨st9, c20⟩ := HD.out w4 e7
            clear HD e7
            have st : Below w3.heap.size w3 w4 := (by first | exact st9 | exact Below.of_dr st9)
            replace DD := Lib.hid (DD.out.grow st)
            replace f0 := fro_gr st k0 f0
            replace f1 := fro_gr st k1 f1
            replace f2 := fro_gr st k2 f2
            replace f13 := fro_gr st c13 f13
            replace k0 := cell_gr st k0
            replace k1 := cell_gr st k1
            replace k2 := cell_gr st k2
            replace c13 := cell_gr st c13
            replace c16 := cell_gr st c16
            replace c19 := cell_gr st c19
            replace T1 := Lib.hid (T1.out.grow st)
            replace T2 := Lib.hid (T2.out.grow st)
            replace T3 := Lib.hid (T3.out.grow st)
            replace sz := Nat.lt_of_lt_of_le sz st.size
            clear st st9
            refine (B1.out _ T1.out).mono ?_
            rintro e w5 ⟨rfl, st9⟩
            have st : Below w4.heap.size w4 w5 := (by first | exact st9 | exact Below.of_dr st9)
            replace DD := Lib.hid (DD.out.grow st)
            replace f0 := fro_gr st k0 f0
            replace f1 := fro_gr st k1 f1
            replace f2 := fro_gr st k2 f2
            replace f13 := fro_gr st c13 f13
            replace k0 := cell_gr st k0
            replace k1 := cell_gr st k1
            replace k2 := cell_gr st k2
            replace c13 := cell_gr st c13
            replace c16 := cell_gr st c16
            replace c19 := cell_gr st c19
            replace c20 := cell_gr st c20
            replace T1 := Lib.hid (T1.out.grow st)
            replace T2 := Lib.hid (T2.out.grow st)
            replace T3 := Lib.hid (T3.out.grow st)
            replace sz := Nat.lt_of_lt_of_le sz st.size
            clear st st9
            go_wp2_with fail
            refine (B2.out _ T2.out).mono ?_
            rintro e w6 ⟨rfl, st9⟩
            have st : Below w5.heap.size w5 w6 := (by first | exact st9 | exact Below.of_dr st9)
            replace DD := Lib.hid (DD.out.grow st)
            replace f0 := fro_gr st k0 f0
            replace f1 := fro_gr st k1 f1
            replace f2 := fro_gr st k2 f2
            replace f13 := fro_gr st c13 f13
            replace k0 := cell_gr st k0
            replace k1 := cell_gr st k1
            replace k2 := cell_gr st k2
            replace c13 := cell_gr st c13
            replace c16 := cell_gr st c16
            replace c19 := cell_gr st c19
            replace c20 := cell_gr st c20
            replace T1 := Lib.hid (T1.out.grow st)
            replace T2 := Lib.hid (T2.out.grow st)
            replace T3 := Lib.hid (T3.out.grow st)
            replace sz := Nat.lt_of_lt_of_le sz st.size
            clear st st9
            go_wp2_with fail
            refine (B3.out _ T3.out).mono ?_
            rintro e w7 ⟨rfl, st9⟩
            have st : Below w6.heap.size w6 w7 := (by first | exact st9 | exact Below.of_dr st9)
            replace DD := Lib.hid (DD.out.grow st)
            replace f0 := fro_gr st k0 f0
            replace f1 := fro_gr st k1 f1
            replace f2 := fro_gr st k2 f2
            replace f13 := fro_gr st c13 f13
            replace k0 := cell_gr st k0
            replace k1 := cell_gr st k1
            replace k2 := cell_gr st k2
            replace c13 := cell_gr st c13
            replace c16 := cell_gr st c16
            replace c19 := cell_gr st c19
            replace c20 := cell_gr st c20
            replace T1 := Lib.hid (T1.out.grow st)
            replace T2 := Lib.hid (T2.out.grow st)
            replace T3 := Lib.hid (T3.out.grow st)
            replace sz := Nat.lt_of_lt_of_le sz st.size
            clear st st9
            have zb7 : bm < w7.heap.size := World.block_lt_of_cell? w7 _ c13
            have HM : Hid (∀ W, w7.setCell ⟨bm, 0, none⟩ (.pointer x3) = W → DB w pu pd pw tu td tw W ∧ W.cell? ⟨bm, 0, none⟩ = some (.pointer x3) ∧ W.frozen? ⟨bm, 0, none⟩ = false ∧ At W x3 u3) := Lib.hid (fun W e => by
              subst e
              exact ⟨DD.out.set3 zb c13, World.cell?_setCell_same' _ _ _ (by rw [c13]; rfl), by rw [World.frozen?_setCell]; exact f13, T3.out.set _ c13⟩)
            clear B1 B2 T1 T2
            rcases (by omega : (i : Int) % 3 = 2 ∨ (i : Int) % 3 = 0 ∨ (i : Int) % 3 = 1) with hm | hm | hm
            · go_wp2_with fail
              generalize e8 : w7.setCell ⟨bm, 0, none⟩ (.pointer x3) = w8
              obtain ⟨D8, c13n, f13n, t8⟩ := HM.out w8 e8
              have T8 := Lib.hid t8
              replace DD := Lib.hid D8
              clear HM e8 k0 k1 k2 f0 f1 f2 c13 f13 c16 c19 c20 sz T3 D8 t8 zb7
              obtain ⟨k0, k1, k2, f0, f1, f2, sz, -, -, -, -⟩ := DD.out
              have c13 := c13n
              have f13 := f13n
              clear c13n f13n
              go_region_law
                (first
                  | (go_simp; go_at_call 35; (with_reducible refine (Range_any pw tw kq (kq + hf) _ (by first | exact DD.out.aw | exact DD.out.aw.drew | exact DD.out.aw.grow (below_drewN (Below.refl _ _) _)) GW.out.avl GW.out.asc (by have := GW.out.sz; omega)).mono ?_); rintro e w9 ⟨y1, r1, rfl, b1, h1, st9⟩; have st : Below w8.heap.size w8 w9 := (by first | exact st9 | exact Below.of_dr st9 | exact (below_drewN (Below.refl _ _) _).trans st9); replace DD := Lib.hid (DD.out.grow st); replace f0 := fro_gr st k0 f0; replace f1 := fro_gr st k1 f1; replace f2 := fro_gr st k2 f2; replace f13 := fro_gr st c13 f13; replace k0 := cell_gr st k0; replace k1 := cell_gr st k1; replace k2 := cell_gr st k2; replace c13 := cell_gr st c13; replace T8 := Lib.hid (T8.out.grow st); replace sz := Nat.lt_of_lt_of_le sz st.size; clear st st9; have R1 := Lib.hid b1; clear b1; have H1 := Lib.hid h1; clear h1)
                  | (go_simp; go_at_call 34; (with_reducible refine (Subtract_any x3 y1 u3 r1 _ (by first | exact T8.out | exact T8.out.drew | exact T8.out.grow (below_drewN (Below.refl _ _) _)) (by first | exact R1.out | exact R1.out.drew | exact R1.out.grow (below_drewN (Below.refl _ _) _)) G3.out.avl H1.out.avl G3.out.asc H1.out.v.asc (by have := GW.out.sz; have := G3.out.sz; have := H1.out.sz; omega)).mono ?_); rintro e w10 ⟨y2, r2, rfl, b2, h2, st9⟩; have st : Below w9.heap.size w9 w10 := (by first | exact st9 | exact Below.of_dr st9 | exact (below_drewN (Below.refl _ _) _).trans st9); replace DD := Lib.hid (DD.out.grow st); replace f0 := fro_gr st k0 f0; replace f1 := fro_gr st k1 f1; replace f2 := fro_gr st k2 f2; replace f13 := fro_gr st c13 f13; replace k0 := cell_gr st k0; replace k1 := cell_gr st k1; replace k2 := cell_gr st k2; replace c13 := cell_gr st c13; replace T8 := Lib.hid (T8.out.grow st); replace R1 := Lib.hid (R1.out.grow st); replace sz := Nat.lt_of_lt_of_le sz st.size; clear st st9; have R2 := Lib.hid b2; clear b2; have H2 := Lib.hid h2; clear h2)
                  | (go_simp; go_at_call 35; (with_reducible refine (Range_any pd td 0 kq _ (by first | exact DD.out.ad | exact DD.out.ad.drew | exact DD.out.ad.grow (below_drewN (Below.refl _ _) _)) GD.out.avl GD.out.asc (by have := GD.out.sz; omega)).mono ?_); rintro e w11 ⟨y3, r3, rfl, b3, h3, st9⟩; have st : Below w10.heap.size w10 w11 := (by first | exact st9 | exact Below.of_dr st9 | exact (below_drewN (Below.refl _ _) _).trans st9); replace DD := Lib.hid (DD.out.grow st); replace f0 := fro_gr st k0 f0; replace f1 := fro_gr st k1 f1; replace f2 := fro_gr st k2 f2; replace f13 := fro_gr st c13 f13; replace k0 := cell_gr st k0; replace k1 := cell_gr st k1; replace k2 := cell_gr st k2; replace c13 := cell_gr st c13; replace T8 := Lib.hid (T8.out.grow st); replace R1 := Lib.hid (R1.out.grow st); replace R2 := Lib.hid (R2.out.grow st); replace sz := Nat.lt_of_lt_of_le sz st.size; clear st st9; have R3 := Lib.hid b3; clear b3; have H3 := Lib.hid h3; clear h3)
                  | (go_simp; go_at_call 33; (with_reducible refine (Union_any y2 y3 r2 r3 _ (by first | exact R2.out | exact R2.out.drew | exact R2.out.grow (below_drewN (Below.refl _ _) _)) (by first | exact R3.out | exact R3.out.drew | exact R3.out.grow (below_drewN (Below.refl _ _) _)) H2.out.avl H3.out.avl H2.out.v.asc H3.out.v.asc (by have := GD.out.sz; have := G3.out.sz; have := H2.out.sz; have := H3.out.sz; omega)).mono ?_); rintro e w12 ⟨y4, r4, rfl, b4, h4, st9⟩; have st : Below w11.heap.size w11 w12 := (by first | exact st9 | exact Below.of_dr st9 | exact (below_drewN (Below.refl _ _) _).trans st9); replace DD := Lib.hid (DD.out.grow st); replace f0 := fro_gr st k0 f0; replace f1 := fro_gr st k1 f1; replace f2 := fro_gr st k2 f2; replace f13 := fro_gr st c13 f13; replace k0 := cell_gr st k0; replace k1 := cell_gr st k1; replace k2 := cell_gr st k2; replace c13 := cell_gr st c13; replace T8 := Lib.hid (T8.out.grow st); replace R1 := Lib.hid (R1.out.grow st); replace R2 := Lib.hid (R2.out.grow st); replace R3 := Lib.hid (R3.out.grow st); replace sz := Nat.lt_of_lt_of_le sz st.size; clear st st9; have R4 := Lib.hid b4; clear b4; have H4 := Lib.hid h4; clear h4))
              all_goals
                have z12 : bm < w12.heap.size := World.block_lt_of_cell? w12 _ c13
                have GR : Hid (Good r4 (3000 * (i + 1 + 1))) := Lib.hid ⟨H4.out.avl, H4.out.v.asc, by have := GD.out.sz; have := G3.out.sz; have := H2.out.sz; have := H3.out.sz; have := H4.out.sz; omega⟩
                have B4 := Lib.hid (fun W hW => bounded_any y4 r4 W hW H4.out.avl (by have := GR.out.sz; omega))
                have HM2 : Hid (∀ W, w12.setCell ⟨bm, 0, none⟩ (.pointer y4) = W → Lp2 w bm pu pd pw tu td tw (3000 * (i + 1 + 1)) W ∧ At W y4 r4 ∧ DB w pu pd pw tu td tw W ∧ W.cell? ⟨bm, 0, none⟩ = some (.pointer y4) ∧ W.frozen? ⟨bm, 0, none⟩ = false) := Lib.hid (fun W e => by
                  subst e
                  exact ⟨Lp2.mk DD.out zb c13 f13 R4.out GR.out, R4.out.set _ c13, DD.out.set3 zb c13, World.cell?_setCell_same' _ _ _ (by rw [c13]; rfl), by rw [World.frozen?_setCell]; exact f13⟩)
                clear H1 H2 H3 H4 R1 R2 R3 T8 B3 G3
                go_wp2_with fail
                generalize e9 : w12.setCell ⟨bm, 0, none⟩ (.pointer y4) = w13
                obtain ⟨l13, t13, -, -, -⟩ := HM2.out w13 e9
                have L13 := Lib.hid l13
                clear HM2 e9 k0 k1 k2 f0 f1 f2 c13 f13 sz R4 DD l13
                refine (B4.out _ t13).mono ?_
                rintro e w14 ⟨rfl, st9⟩
                have HR := Lib.hid (L13.out.grow st9)
                clear st9 t13 L13 B4
                go_wp2_with fail
                go_roundw
                case rel => exact ⟨i + 1, by go_num, by omega, by omega, HR⟩
                case measure => simp [intOf]; omega
            all_goals
              go_wp2_with fail
              generalize e8 : w7.setCell ⟨bm, 0, none⟩ (.pointer x3) = w8
              obtain ⟨D8, c13n, f13n, t8⟩ := HM.out w8 e8
              have T8 := Lib.hid t8
              replace DD := Lib.hid D8
              clear HM e8 k0 k1 k2 f0 f1 f2 c13 f13 c16 c19 c20 sz T3 D8 t8 zb7
              obtain ⟨k0, k1, k2, f0, f1, f2, sz, -, -, -, -⟩ := DD.out
              have c13 := c13n
              have f13 := f13n
              clear c13n f13n
              refine (B3.out _ T8.out).mono ?_
              rintro e w9 ⟨rfl, st9⟩
              have st : Below w8.heap.size w8 w9 := (by first | exact st9 | exact Below.of_dr st9)
              replace DD := Lib.hid (DD.out.grow st)
              replace f0 := fro_gr st k0 f0
              replace f1 := fro_gr st k1 f1
              replace f2 := fro_gr st k2 f2
              replace f13 := fro_gr st c13 f13
              replace k0 := cell_gr st k0
              replace k1 := cell_gr st k1
              replace k2 := cell_gr st k2
              replace c13 := cell_gr st c13
              replace T8 := Lib.hid (T8.out.grow st)
              replace sz := Nat.lt_of_lt_of_le sz st.size
              clear st st9
              have HR : Hid (Lp2 w bm pu pd pw tu td tw (3000 * (i + 1 + 1)) w9) := Lib.hid ⟨x3, u3, DD.out, c13, f13, T8.out, G3.out.avl, G3.out.asc, by have := G3.out.sz; omega⟩
              clear B3 G3 T8 DD
              go_wp2_with fail
              go_roundw
              case rel => exact ⟨i + 1, by go_num, by omega, by omega, HR⟩
              case measure => simp [intOf]; omega
          · have t40 : decide ((i : Int) < 40) = false := decide_eq_false (by omega)
            obtain ⟨pm, tm, D, -, -, -, -⟩ := HL.out
            have DD := Lib.hid D
            obtain ⟨hf, hhf⟩ : ∃ hf : Int, (k : Int) / 2 = hf := ⟨_, rfl⟩
            have hhf2 : (k : Int).tdiv 2 = hf := by rw [Int.tdiv_eq_ediv_of_nonneg (by omega)]; exact hhf
            have hf0 : 0 ≤ hf := by omega
            have hf1 : hf ≤ 1500 := by omega
            have qh := IntWalk.i64_in hf (by omega)
            have HS3 := Lib.hid (show (k : Int) ≤ 3000 by omega)
            have HH := Lib.hid hhf
            clear HL D
            go_wp2_with fail
            go_loopw [22] (fun jv wr2 => ∃ j : Nat, jv = .int .i64 (2 * (j : Int)) ∧ 2 * (j : Int) ≤ (k : Int) + 1 ∧ Hid (Lp3 w pd pw td tw (k : Int) (j : Int) wr2)) (fun jv _ => k + 1 - (intOf jv).toNat)
            case atStart => exact ⟨0, rfl, by omega, Lib.hid ⟨pu, tu, DD.out, VA.out, odd_zero UT.out, by have := up_sz (by omega) UT.out; omega⟩⟩
            case round =>
              clear DD VA UT
              obtain ⟨j, rfl, hj, HL3⟩ := hrel
              obtain ⟨pv, tv, D, vv, ov, zv⟩ := HL3.out
              have DD := Lib.hid D
              obtain ⟨k0, k1, k2, f0, f1, f2, sz, -, -, -, -⟩ := D
              by_cases hlt : 2 * (j : Int) < (k : Int)
              · have DE := Lib.hid (fun W hW => Delete_any pv tv (2 * (j : Int)) W hW vv ov.1 (by omega))
                have OV := Lib.hid ov
                have ZV := Lib.hid zv
                have q5 := IntWalk.i64_in (2 * (j : Int) + 2) (by omega)
                clear vv ov zv HL3
                go_wp2_with fail
                refine (DE.out _ DD.out.au).mono ?_
                rintro e w3 ⟨x3, t3, f3, rfl, a3, g3, st9⟩
                have D3 := Lib.hid (DD.out.grow st9)
                have HR : Hid (Lp3 w pd pw td tw (k : Int) ((j + 1 : Nat) : Int) (w3.setCell ⟨w.heap.size, 0, none⟩ (.pointer x3))) := Lib.hid ⟨x3, t3, D3.out.set0 a3, g3.1, by have := odd_del OV.out g3.2.1; simpa using this, by have := g3.2.2.1; have := ZV.out; omega⟩
                clear k0 k1 k2 f0 f1 f2 sz st9 a3 g3 DE DD
                obtain ⟨k0, k1, k2, f0, f1, f2, sz, -, -, -, -⟩ := D3.out
                clear D3 OV ZV
                go_wp2_with fail
                go_roundw
                case rel => exact ⟨j + 1, by first | go_num | (congr 1; omega), by omega, HR⟩
                case measure => simp [intOf]; omega
              · have BV := Lib.hid (fun W hW => bounded_any pv tv W hW vv (by omega))
                have LV := Lib.hid (fun W hW => Len_any pv tv hf W hW (by rw [← tv.sz_eq]; rw [odd_len (by omega) (by omega) ov]; exact HH.out))
                clear vv ov zv HL3
                go_wp2_with fail
                refine (BV.out _ DD.out.au).mono ?_
                rintro e w3 ⟨rfl, st9⟩
                replace DD := Lib.hid (DD.out.grow st9)
                clear k0 k1 k2 f0 f1 f2 sz st9
                obtain ⟨k0, k1, k2, f0, f1, f2, sz, -, -, -, -⟩ := DD.out
                go_wp2_with fail
                refine (LV.out _ DD.out.au).mono ?_
                rintro e w4 ⟨rfl, st9⟩
                replace DD := Lib.hid (DD.out.grow st9)
                clear k0 k1 k2 f0 f1 f2 sz st9
                obtain ⟨k0, k1, k2, f0, f1, f2, sz, -, -, -, -⟩ := DD.out
                go_wp2_with fail
                refine (AL.out _).mono ?_
                rintro e w5 ⟨rfl, st9⟩
                have FB := Lib.hid (DD.out.bel.trans (st9.mono DD.out.bel.size))
                clear k0 k1 k2 f0 f1 f2 sz st9 DD BV LV
                go_wp2_with fail
                go_ret
                exact ⟨rfl, FB.out⟩
        · have tcn : decide ((i : Int) < (cn : Int)) = false := decide_eq_false (by omega)
          obtain ⟨pm, tm, D, -, -, -, -⟩ := HL.out
          have DD := Lib.hid D
          obtain ⟨hf, hhf⟩ : ∃ hf : Int, (k : Int) / 2 = hf := ⟨_, rfl⟩
          have hhf2 : (k : Int).tdiv 2 = hf := by rw [Int.tdiv_eq_ediv_of_nonneg (by omega)]; exact hhf
          have hf0 : 0 ≤ hf := by omega
          have hf1 : hf ≤ 1500 := by omega
          have qh := IntWalk.i64_in hf (by omega)
          have HS3 := Lib.hid (show (k : Int) ≤ 3000 by omega)
          have HH := Lib.hid hhf
          clear HL D
          go_wp2_with fail
          go_loopw [22] (fun jv wr2 => ∃ j : Nat, jv = .int .i64 (2 * (j : Int)) ∧ 2 * (j : Int) ≤ (k : Int) + 1 ∧ Hid (Lp3 w pd pw td tw (k : Int) (j : Int) wr2)) (fun jv _ => k + 1 - (intOf jv).toNat)
          case atStart => exact ⟨0, rfl, by omega, Lib.hid ⟨pu, tu, DD.out, VA.out, odd_zero UT.out, by have := up_sz (by omega) UT.out; omega⟩⟩
          case round =>
            clear DD VA UT
            obtain ⟨j, rfl, hj, HL3⟩ := hrel
            obtain ⟨pv, tv, D, vv, ov, zv⟩ := HL3.out
            have DD := Lib.hid D
            obtain ⟨k0, k1, k2, f0, f1, f2, sz, -, -, -, -⟩ := D
            by_cases hlt : 2 * (j : Int) < (k : Int)
            · have DE := Lib.hid (fun W hW => Delete_any pv tv (2 * (j : Int)) W hW vv ov.1 (by omega))
              have OV := Lib.hid ov
              have ZV := Lib.hid zv
              have q5 := IntWalk.i64_in (2 * (j : Int) + 2) (by omega)
              clear vv ov zv HL3
              go_wp2_with fail
              refine (DE.out _ DD.out.au).mono ?_
              rintro e w3 ⟨x3, t3, f3, rfl, a3, g3, st9⟩
              have D3 := Lib.hid (DD.out.grow st9)
              have HR : Hid (Lp3 w pd pw td tw (k : Int) ((j + 1 : Nat) : Int) (w3.setCell ⟨w.heap.size, 0, none⟩ (.pointer x3))) := Lib.hid ⟨x3, t3, D3.out.set0 a3, g3.1, by have := odd_del OV.out g3.2.1; simpa using this, by have := g3.2.2.1; have := ZV.out; omega⟩
              clear k0 k1 k2 f0 f1 f2 sz st9 a3 g3 DE DD
              obtain ⟨k0, k1, k2, f0, f1, f2, sz, -, -, -, -⟩ := D3.out
              clear D3 OV ZV
              go_wp2_with fail
              go_roundw
              case rel => exact ⟨j + 1, by first | go_num | (congr 1; omega), by omega, HR⟩
              case measure => simp [intOf]; omega
            · have BV := Lib.hid (fun W hW => bounded_any pv tv W hW vv (by omega))
              have LV := Lib.hid (fun W hW => Len_any pv tv hf W hW (by rw [← tv.sz_eq]; rw [odd_len (by omega) (by omega) ov]; exact HH.out))
              clear vv ov zv HL3
              go_wp2_with fail
              refine (BV.out _ DD.out.au).mono ?_
              rintro e w3 ⟨rfl, st9⟩
              replace DD := Lib.hid (DD.out.grow st9)
              clear k0 k1 k2 f0 f1 f2 sz st9
              obtain ⟨k0, k1, k2, f0, f1, f2, sz, -, -, -, -⟩ := DD.out
              go_wp2_with fail
              refine (LV.out _ DD.out.au).mono ?_
              rintro e w4 ⟨rfl, st9⟩
              replace DD := Lib.hid (DD.out.grow st9)
              clear k0 k1 k2 f0 f1 f2 sz st9
              obtain ⟨k0, k1, k2, f0, f1, f2, sz, -, -, -, -⟩ := DD.out
              go_wp2_with fail
              refine (AL.out _).mono ?_
              rintro e w5 ⟨rfl, st9⟩
              have FB := Lib.hid (DD.out.bel.trans (st9.mono DD.out.bel.size))
              clear k0 k1 k2 f0 f1 f2 sz st9 DD BV LV
              go_wp2_with fail
              go_ret
              exact ⟨rfl, FB.out⟩
end Go.Proofs.Ytkagdbodjjbinaa.Mii
