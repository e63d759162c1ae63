/- /- Classing tests: the program (merged). -/ -/
import Derived.Test.YtkhdpmicejmabaaCM2
/- Classing's tests: Result, the program's. -/
namespace Go.Proofs.Ytkhdpmicejmabaa
open Go.RowKit Go.Proofs.Ytkhdpmicejmabaa.Ct Go.Proofs.Ytkhdpmicejmabaa.Stb
set_option linter.unusedVariables false
set_option linter.unusedSimpArgs false

/-- What Result has in memory while it adds. -/
structure ResI (w0 : World) (R ga m da : Nat) (z1 z2 z3 : Int) (U : List Int) (W : World) : Prop where
  o1 : OB W R 39 4 (resC z1 z2 z3 (.slice (some ⟨ga, 0, none⟩) m da))
  o2 : OB W w0.heap.size 39 4 (resC 0 0 0 (.slice none 0 0))
  rg : SW ga m da W W (gi U)
  bl : Below w0.heap.size w0 W
  n1 : R ≠ w0.heap.size
  n2 : ga ≠ R
  n3 : w0.heap.size ≤ R
section
variable {w0 W W' : World} {R ga m da : Nat} {z1 z2 z3 : Int} {U : List Int}
theorem ResI.below (h : ResI w0 R ga m da z1 z2 z3 U W) (st : Below W.heap.size W W') : ResI w0 R ga m da z1 z2 z3 U W' :=
  ⟨h.o1.below st, h.o2.below st, (h.rg.call st).to rfl, h.bl.trans (st.mono h.bl.size), h.n1, h.n2, h.n3⟩
theorem ResI.st (h : ResI w0 R ga m da z1 z2 z3 U W) (k : Nat) (a y1 y2 y3 : Int) (e : ∀ j, j < 4 → updV (resC z1 z2 z3 (.slice (some ⟨ga, 0, none⟩) m da)) k (.int .i64 a) j = resC y1 y2 y3 (.slice (some ⟨ga, 0, none⟩) m da) j) : ResI w0 R ga m da y1 y2 y3 U (W.setCell ⟨R, k, none⟩ (.int .i64 a)) :=
  ⟨(h.o1.set k _).ext e, h.o2.so (fun e => h.n1 e.symm), h.rg.to (Below.heap_setCell _ _ _ _ h.n2), h.bl.setCell h.n3 _, h.n1, h.n2, h.n3⟩
theorem ResI.drewN (h : ResI w0 R ga m da z1 z2 z3 U W) (n : Nat) : ResI w0 R ga m da z1 z2 z3 U (W.drewN n) := h.below (below_drewN (Below.refl _ _) _)
theorem ResI.drew (h : ResI w0 R ga m da z1 z2 z3 U W) : ResI w0 R ga m da z1 z2 z3 U W.drew := h.below (Below.refl _ _).drew
end

set_option maxRecDepth 100000 in
set_option maxHeartbeats 8000000 in
theorem Result_any (b lo : Nat) (tol : Int) (t : Tst) (w : World) (h : TA w b lo tol t) :
    Calls Try.prog 13 #[.pointer (some ⟨b, 0, none⟩)] w (RsQ t w) := by
  have ok := h.ok
  obtain ⟨c, q, d, o, k, nr, qb⟩ := h.mem
  have B0 : Below w.heap.size w (w.alloc (Obj.cells #[.int .i64 0, .int .i64 0, .int .i64 0, .slice none 0 0] 39)) := (Below.refl _ _).alloc (Nat.le_refl _) _
  have X0 := Lib.hid (ob_new4 w 0 0 0 (.slice none 0 0) 39)
  have c0 := cellGr B0 ((o.cell (k := 0) (by omega)).trans (by rw [k.made]))
  have c43 := cellGr B0 ((o.cell (k := 43) (by omega)).trans (by rw [k.st]))
  have c44 := cellGr B0 ((o.cell (k := 44) (by omega)).trans (by rw [k.used]))
  have hs : SubsAt w b t.n t.S := fun i hi => k.sb o ok.n8 i hi
  have HS := Lib.hid hs
  have NR := Lib.hid nr
  have HB := Lib.hid B0
  have C0 := Lib.hid (fun W (h : W.cell? ⟨b, 0, none⟩ = some (.bool true)) => isTest_any b W h)
  have bw := o.lt
  clear h o k nr hs B0
  go_enter Try.func13, Try.ntmps13
  go_upto_region 1 with fail
  generalize (w.alloc (Obj.cells #[.int .i64 0, .int .i64 0, .int .i64 0, .slice none 0 0] 39)) = w1 at *
  have r0 := X0.out.cell (k := 0) (by decide)
  have r1 := X0.out.cell (k := 1) (by decide)
  have r2 := X0.out.cell (k := 2) (by decide)
  have r3 := X0.out.cell (k := 3) (by decide)
  have g0 := X0.out.frozen 0
  have g1 := X0.out.frozen 1
  have g2 := X0.out.frozen 2
  have g3 := X0.out.frozen 3
  have lw := X0.out.lt
  have wb : w.heap.size ≠ b := by omega
  by_cases z : t.st = 1
  case neg =>
    have z2 : (t.st == 1) = false := by simpa using z
    have FF := Lib.hid (show ∀ w', Below w.heap.size w w' → RsQ t w (.returned (.tuple #[.agg #[.int .i64 0, .int .i64 0, .int .i64 0, .slice none 0 0], .int .i64 10])) w' from fun w' B => ⟨B, .inl ⟨z, rfl⟩⟩)
    clear z
    go_wp2_with fail
    refine (C0.out _ c0).mono ?_
    rintro e w2 ⟨rfl, rfl⟩
    go_wp2_with fail
    refine bodyPost_ret (v := .tuple #[.agg #[.int .i64 0, .int .i64 0, .int .i64 0, .slice none 0 0], .int .i64 10]) (by simp [results, Try.results13, go_sem, r0, r1, r2, r3, lw]) rfl (FF.out _ ?_)
    have hb := HB.out
    exact (((hb.setCell (by simp) _).setCell (by simp) _).setCell (by simp) _).setCell (by simp) _
  have ul := ok.u1 z
  obtain ⟨xq, rfl, xb, -⟩ := NR.out 0 ul
  obtain ⟨⟨xne, -⟩, xe⟩ := qb xq rfl
  obtain ⟨xg, xo, xp⟩ := xq
  dsimp only at xne xe xb
  cases xe
  obtain ⟨m, hm⟩ : ∃ m, m = t.U.length := ⟨_, rfl⟩
  have m8 : m ≤ 8 := by rw [hm]; exact ok.ul
  rw [z] at c43
  rw [← hm] at c44 ul NR
  have CC := Lib.hid (clone_any xg xo m d t.U w1 hm ul m8 (by exact NR.out.below HB.out))
  have HM := Lib.hid hm
  have HS1 := Lib.hid (HS.out.below HB.out)
  have OKT := Lib.hid ok
  have FIN := Lib.hid (show ∀ W g c, Below w.heap.size w W → w.heap.size ≤ g → SW g m c W W (gi t.U) → RsQ t w (.returned (.tuple #[.agg #[.int .i64 (smU Sb.wl t.S t.U m), .int .i64 (smU Sb.veg t.S t.U m), .int .i64 (smU Sb.raw t.S t.U m), .slice (some ⟨g, 0, none⟩) m c], .int .i64 0])) W from fun W g c B hg r => ⟨B, .inr ⟨z, g, c, hg, by rw [hm]; rfl, by rw [← hm]; exact r⟩⟩)
  clear hm ok z qb
  go_wp2_with fail
  refine (C0.out _ c0).mono ?_
  rintro e w2 ⟨rfl, rfl⟩
  go_wp2_with fail
  refine CC.out.mono ?_
  rintro e w2 ⟨ga, da, rfl, hga, ra, st⟩
  have c44 := cellGr st c44
  have GA := Lib.hid (show w.heap.size ≤ ga ∧ ga < w2.heap.size ∧ w.heap.size < ga from ⟨by have := HB.out.size; omega, ra.lt ul, by omega⟩)
  have X2 := Lib.hid (X0.out.below st)
  have HB2 := Lib.hid (HB.out.trans (st.mono HB.out.size))
  have RA := Lib.hid ra
  clear hga ra X0 HB CC C0 c0 c43 r0 r1 r2 r3 g0 g1 g2 g3 st HS1
  go_upto_region 6 with fail
  have RI := Lib.hid (show ResI w w2.heap.size ga m da (smU Sb.wl t.S t.U 0) (smU Sb.veg t.S t.U 0) (smU Sb.raw t.S t.U 0) t.U (w2.alloc (Obj.cells #[.int .i64 0, .int .i64 0, .int .i64 0, .slice (some ⟨ga, 0, none⟩) m da] 39)) from
    ⟨ob_new4 _ _ _ _ _ _, X2.out.below ((Below.refl _ _).alloc (Nat.le_refl _) _), (RA.out.call ((Below.refl _ _).alloc (Nat.le_refl _) _)).to rfl, HB2.out.alloc HB2.out.size _, by have := GA.out; omega, by have := GA.out; omega, HB2.out.size⟩)
  have c44 := cellGr ((Below.refl _ w2).alloc (Nat.le_refl _) (Obj.cells #[.int .i64 0, .int .i64 0, .int .i64 0, .slice (some ⟨ga, 0, none⟩) m da] 39)) c44
  clear X2 HB2 RA
  generalize (w2.alloc (Obj.cells #[.int .i64 0, .int .i64 0, .int .i64 0, .slice (some ⟨ga, 0, none⟩) m da] 39)) = w3 at *
  have lt2 : w.heap.size < w2.heap.size := by have := GA.out; omega
  generalize w2.heap.size = R at *
  go_wp2_with fail
  go_loopw [28] (fun kv wr => ∃ i : Nat, i ≤ m ∧ kv = .int .i64 i ∧ Hid (ResI w R ga m da (smU Sb.wl t.S t.U i) (smU Sb.veg t.S t.U i) (smU Sb.raw t.S t.U i) t.U wr)) (fun kv _ => m - (intOf kv).toNat)
  case atStart => exact ⟨0, Nat.zero_le _, rfl, RI⟩
  case round =>
    obtain ⟨i, hi, rfl, HI⟩ := hrel
    clear RI c44
    by_cases t1 : i < m
    · have i1 : (0 : Int) ≤ (i : Int) := by omega
      have i2 : (i : Int) < (m : Int) := by omega
      obtain ⟨o1, o2, rg, bl, -, -, -⟩ := HI.out
      obtain ⟨x', e, -, cu⟩ := (NR.out.below bl) i t1
      cases e
      rw [addK] at cu
      have uo := OKT.out.u i (by rw [← HM.out]; exact t1)
      obtain ⟨u, hu⟩ := Int.eq_ofNat_of_zero_le uo.1
      have un : u < t.n := by omega
      have u8 : u < 8 := by have := OKT.out.n8; omega
      rw [hu] at cu
      have HU := Lib.hid (show (gi t.U i).toNat = u from by rw [hu]; rfl)
      obtain ⟨-, s0, s1, s2, s3, s4⟩ := (HS.out.below bl) u un
      have GD := Lib.hid (OKT.out.good u)
      have BD := Lib.hid (show (0 ≤ smU Sb.wl t.S t.U i ∧ smU Sb.wl t.S t.U i ≤ 100000) ∧ (0 ≤ smU Sb.veg t.S t.U i ∧ smU Sb.veg t.S t.U i ≤ 100000) ∧ (0 ≤ smU Sb.raw t.S t.U i ∧ smU Sb.raw t.S t.U i ≤ 100000) from by
        have g := OKT.out.good
        have a := smU_bd (f := Sb.wl) (S := t.S) (U := t.U) (fun k => by have := Sb.bd (g k); omega) i
        have b := smU_bd (f := Sb.veg) (S := t.S) (U := t.U) (fun k => by have := Sb.bd (g k); omega) i
        have c := smU_bd (f := Sb.raw) (S := t.S) (U := t.U) (fun k => by have := Sb.bd (g k); omega) i
        omega)
      have N1 := Lib.hid (show smU Sb.wl t.S t.U (i + 1) = smU Sb.wl t.S t.U i + (t.S u).wl from by rw [← HU.out]; rfl)
      have N2 := Lib.hid (show smU Sb.veg t.S t.U (i + 1) = smU Sb.veg t.S t.U i + (t.S u).veg from by rw [← HU.out]; rfl)
      have N3 := Lib.hid (show smU Sb.raw t.S t.U (i + 1) = smU Sb.raw t.S t.U i + (t.S u).raw from by rw [← HU.out]; rfl)
      clear hu uo
      obtain ⟨y1, y2, y3, y4, y5, y6⟩ := Sb.bd GD.out
      obtain ⟨⟨d1, d2⟩, ⟨d3, d4⟩, d5, d6⟩ := BD.out
      have e1 : IntKind.i64.wrap (smU Sb.wl t.S t.U i + (t.S u).wl) = smU Sb.wl t.S t.U i + (t.S u).wl := hwI (by omega) (by omega)
      have e2 : IntKind.i64.wrap (smU Sb.veg t.S t.U i + (t.S u).veg) = smU Sb.veg t.S t.U i + (t.S u).veg := hwI (by omega) (by omega)
      have e3 : IntKind.i64.wrap (smU Sb.raw t.S t.U i + (t.S u).raw) = smU Sb.raw t.S t.U i + (t.S u).raw := hwI (by omega) (by omega)
      have CW := Lib.hid (fun W => wool_any (t.S u).raw (t.S u).dry (t.S u).ash (t.S u).gre (t.S u).veg GD.out W)
      have EW := Lib.hid (show (t.S u).dry - (t.S u).ash - (t.S u).gre - (t.S u).veg = (t.S u).wl from rfl)
      rw [EW.out] at CW
      have u1 : (0 : Int) ≤ (u : Int) := by omega
      have u2 : (u : Int) < 8 := by omega
      clear GD BD EW y1 y2 y3 y4 y5 y6 d1 d2 d3 d4 d5 d6
      generalize smU Sb.wl t.S t.U i = z1 at *
      generalize smU Sb.veg t.S t.U i = z2 at *
      generalize smU Sb.raw t.S t.U i = z3 at *
      generalize hsu : t.S u = su at *
      have HSU := Lib.hid hsu
      have UN := Lib.hid un
      clear hsu un u8
      have k0 := o1.cell (k := 0) (by decide)
      have f0 := o1.frozen 0
      rw [show resC z1 z2 z3 (.slice (some ⟨ga, 0, none⟩) m da) 0 = .int .i64 z1 from rfl] at k0
      have Rb : R ≠ b := by have := GA.out; omega
      clear o1 o2 rg bl
      go_wp2_with fail
      go_region_law (first
        | (go_simp; go_at_call 26; (with_reducible refine (CW.out _).mono ?_); rintro e w4 ⟨rfl, q⟩; have st : Below wr.heap.size wr w4 := (by first | exact q | exact (Below.refl _ _).drew.trans q | exact (below_drewN (Below.refl _ _) _).trans q); have k0 := cellGr st k0; have f0 := (st.frozen (p := ⟨R, 0, none⟩) HI.out.o1.lt).trans f0; have HI := Lib.hid (HI.out.below st); clear q st))
      all_goals (
        have HI := Lib.hid (HI.out.st 0 (z1 + su.wl) _ z2 z3 (resC_0 _ _ _ _ _))
        have SB := (HS.out.below HI.out.bl) u UN.out
        rw [HSU.out] at SB
        have s4 := SB.c4
        have k1 := HI.out.o1.cell (k := 1) (by decide)
        have f1 := HI.out.o1.frozen 1
        rw [show resC (z1 + su.wl) z2 z3 (.slice (some ⟨ga, 0, none⟩) m da) 1 = .int .i64 z2 from rfl] at k1
        clear k0 f0 SB s0 s1 s2 s3 CW cu
        dsimp only at s4
        generalize w4.setCell ⟨R, 0, none⟩ (.int .i64 (z1 + su.wl)) = w5 at *
        go_upto_region 10 with fail
        go_region
        have HI := Lib.hid ((HI.out.st 1 (z2 + su.veg) _ _ z3 (resC_1 _ _ _ _ _)).drew)
        have SB := (HS.out.below HI.out.bl) u UN.out
        rw [HSU.out] at SB
        have s0 := SB.c0
        have k2 := HI.out.o1.cell (k := 2) (by decide)
        have f2 := HI.out.o1.frozen 2
        rw [show resC (z1 + su.wl) (z2 + su.veg) z3 (.slice (some ⟨ga, 0, none⟩) m da) 2 = .int .i64 z3 from rfl] at k2
        clear k1 f1 SB s4
        generalize (w5.setCell ⟨R, 1, none⟩ (.int .i64 (z2 + su.veg))).drew = w6 at *
        go_upto_region 11 with fail
        go_region
        have HI := Lib.hid ((HI.out.st 2 (z3 + su.raw) _ _ _ (resC_2 _ _ _ _ _)).drew)
        clear k2 f2 s0
        generalize (w6.setCell ⟨R, 2, none⟩ (.int .i64 (z3 + su.raw))).drew = w7 at *
        go_wp2_with fail
        go_roundw
        case rel => exact ⟨i + 1, by omega, by go_num, by rw [N1.out, N2.out, N3.out]; exact HI⟩
        case measure => simp [intOf]; omega)
    · obtain rfl : i = m := by omega
      obtain ⟨o1, o2, rg, bl, -, -, -⟩ := HI.out
      have q0 := o1.cell (k := 0) (by decide)
      have q1 := o1.cell (k := 1) (by decide)
      have q2 := o1.cell (k := 2) (by decide)
      have q3 := o1.cell (k := 3) (by decide)
      have r0 := o2.cell (k := 0) (by decide)
      have r1 := o2.cell (k := 1) (by decide)
      have r2 := o2.cell (k := 2) (by decide)
      have r3 := o2.cell (k := 3) (by decide)
      have g0 := o2.frozen 0
      have g1 := o2.frozen 1
      have g2 := o2.frozen 2
      have g3 := o2.frozen 3
      have lw := o2.lt
      simp only [resC] at q0 q1 q2 q3 r0 r1 r2 r3
      simp at q0 q1 q2 q3 r0 r1 r2 r3
      have FF := Lib.hid (show ∀ W, Below w.heap.size w W → W.heap[ga]? = wr.heap[ga]? → RsQ t w (.returned (.tuple #[.agg #[.int .i64 (smU Sb.wl t.S t.U i), .int .i64 (smU Sb.veg t.S t.U i), .int .i64 (smU Sb.raw t.S t.U i), .slice (some ⟨ga, 0, none⟩) i da], .int .i64 0])) W from fun W B e => FIN.out W ga da B GA.out.1 (rg.to e))
      have BL := Lib.hid bl
      have NG := Lib.hid (show ga ≠ w.heap.size from by have := GA.out; omega)
      clear o1 o2 rg bl FIN
      generalize smU Sb.wl t.S t.U i = z1 at *
      generalize smU Sb.veg t.S t.U i = z2 at *
      generalize smU Sb.raw t.S t.U i = z3 at *
      go_wp2_with fail
      refine bodyPost_ret (v := .tuple #[.agg #[.int .i64 z1, .int .i64 z2, .int .i64 z3, .slice (some ⟨ga, 0, none⟩) i da], .int .i64 0]) (by simp [results, Try.results13, go_sem, r0, r1, r2, r3, lw]) rfl (FF.out _ ?_ ?_)
      · exact (((BL.out.setCell (by simp) _).setCell (by simp) _).setCell (by simp) _).setCell (by simp) _
      · rw [Below.heap_setCell _ _ _ _ NG.out, Below.heap_setCell _ _ _ _ NG.out, Below.heap_setCell _ _ _ _ NG.out, Below.heap_setCell _ _ _ _ NG.out]
end Go.Proofs.Ytkhdpmicejmabaa
