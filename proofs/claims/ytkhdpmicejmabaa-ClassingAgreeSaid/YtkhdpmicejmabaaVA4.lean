/- Classing tests: the rest (merged). -/
import Derived.Test.YtkhdpmicejmabaaVA2
/- Classing's tests: Result, the program's. -/
namespace Go.Proofs.Ytkhdpmicejmabaa
open Go.RowKit Go.Proofs.Ytkhdpmicejmabaa.Ct Go.Proofs.Ytkhdpmicejmabaa.Stb
set_option linter.unusedVariables false
set_option linter.unusedSimpArgs false

/-- What Result has in memory while it adds. -/
structure ResI (w0 : World) (R ga m da : Nat) (z1 z2 z3 : Int) (U : List Int) (W : World) : Prop where
  o1 : OB W R 39 4 (resC z1 z2 z3 (.slice (some ⟨ga, 0, none⟩) m da))
  o2 : OB W w0.heap.size 39 4 (resC 0 0 0 (.slice none 0 0))
  rg : SW ga m da W W (gi U)
  bl : Below w0.heap.size w0 W
  n1 : R ≠ w0.heap.size
  n2 : ga ≠ R
  n3 : w0.heap.size ≤ R
section
variable {w0 W W' : World} {R ga m da : Nat} {z1 z2 z3 : Int} {U : List Int}
theorem ResI.below (h : ResI w0 R ga m da z1 z2 z3 U W) (st : Below W.heap.size W W') : ResI w0 R ga m da z1 z2 z3 U W' :=
  ⟨h.o1.below st, h.o2.below st, (h.rg.call st).to rfl, h.bl.trans (st.mono h.bl.size), h.n1, h.n2, h.n3⟩
theorem ResI.st (h : ResI w0 R ga m da z1 z2 z3 U W) (k : Nat) (a y1 y2 y3 : Int) (e : ∀ j, j < 4 → updV (resC z1 z2 z3 (.slice (some ⟨ga, 0, none⟩) m da)) k (.int .i64 a) j = resC y1 y2 y3 (.slice (some ⟨ga, 0, none⟩) m da) j) : ResI w0 R ga m da y1 y2 y3 U (W.setCell ⟨R, k, none⟩ (.int .i64 a)) :=
  ⟨(h.o1.set k _).ext e, h.o2.so (fun e => h.n1 e.symm), h.rg.to (Below.heap_setCell _ _ _ _ h.n2), h.bl.setCell h.n3 _, h.n1, h.n2, h.n3⟩
theorem ResI.drewN (h : ResI w0 R ga m da z1 z2 z3 U W) (n : Nat) : ResI w0 R ga m da z1 z2 z3 U (W.drewN n) := h.below (below_drewN (Below.refl _ _) _)
theorem ResI.drew (h : ResI w0 R ga m da z1 z2 z3 U W) : ResI w0 R ga m da z1 z2 z3 U W.drew := h.below (Below.refl _ _).drew
end

set_option maxRecDepth 100000 in
set_option maxHeartbeats 8000000 in
theorem Result_any (b lo : Nat) (tol : Int) (t : Tst) (w : World) (h : TA w b lo tol t) :
    Calls Try.prog 13 #[.pointer (some ⟨b, 0, none⟩)] w (RsQ t w) := by
  have ok := h.ok
  obtain ⟨c, q, d, o, k, nr, qb⟩ := h.mem
  have B0 : Below w.heap.size w (w.alloc (Obj.cells #[.int .i64 0, .int .i64 0, .int .i64 0, .slice none 0 0] 39)) := (Below.refl _ _).alloc (Nat.le_refl _) _
  have X0 := Lib.hid (ob_new4 w 0 0 0 (.slice none 0 0) 39)
  have c0 := cellGr B0 ((o.cell (k := 0) (by omega)).trans (by rw [k.made]))
  have c43 := cellGr B0 ((o.cell (k := 43) (by omega)).trans (by rw [k.st]))
  have c44 := cellGr B0 ((o.cell (k := 44) (by omega)).trans (by rw [k.used]))
  have hs : SubsAt w b t.n t.S := fun i hi => k.sb o ok.n8 i hi
  have HS := Lib.hid hs
  have NR := Lib.hid nr
  have HB := Lib.hid B0
  have C0 := Lib.hid (fun W (h : W.cell? ⟨b, 0, none⟩ = some (.bool true)) => isTest_any b W h)
  have bw := o.lt
  clear h o k nr hs B0
  go_enter Try.func13, Try.ntmps13
  go_upto_region 1 with fail
  generalize (w.alloc (Obj.cells #[.int .i64 0, .int .i64 0, .int .i64 0, .slice none 0 0] 39)) = w1 at *
  have r0 := X0.out.cell (k := 0) (by decide)
  have r1 := X0.out.cell (k := 1) (by decide)
  have r2 := X0.out.cell (k := 2) (by decide)
  have r3 := X0.out.cell (k := 3) (by decide)
  have g0 := X0.out.frozen 0
  have g1 := X0.out.frozen 1
  have g2 := X0.out.frozen 2
  have g3 := X0.out.frozen 3
  have lw := X0.out.lt
  have wb : w.heap.size ≠ b := by omega
  by_cases z : t.st = 1
  case neg =>
    have z2 : (t.st == 1) = false := by simpa using z
    have FF := Lib.hid (show ∀ w', Below w.heap.size w w' → RsQ t w (.returned (.tuple #[.agg #[.int .i64 0, .int .i64 0, .int .i64 0, .slice none 0 0], .int .i64 10])) w' from fun w' B => ⟨B, .inl ⟨z, rfl⟩⟩)
    clear z
    go_wp2_with fail
    refine (C0.out _ c0).mono ?_
    rintro e w2 ⟨rfl, rfl⟩
    go_wp2_with fail
    refine bodyPost_ret (v := .tuple #[.agg #[.int .i64 0, .int .i64 0, .int .i64 0, .slice none 0 0], .int .i64 10]) (by simp [results, Try.results13, go_sem, r0, r1, r2, r3, lw]) rfl (FF.out _ ?_)
    have hb := HB.out
    exact (((hb.setCell (by simp) _).setCell (by simp) _).setCell (by simp) _).setCell (by simp) _
  have ul := ok.u1 z
  obtain ⟨xq, rfl, xb, -⟩ := NR.out 0 ul
  obtain ⟨⟨xne, -⟩, xe⟩ := qb.1 xq rfl
  obtain ⟨xg, xo, xp⟩ := xq
  dsimp only at xne xe xb
  cases xe
  obtain ⟨m, hm⟩ : ∃ m, m = t.U.length := ⟨_, rfl⟩
  have m8 : m ≤ 8 := by rw [hm]; exact ok.ul
  rw [z] at c43
  rw [← hm] at c44 ul NR
  have CC := Lib.hid (clone_any xg xo m d t.U w1 hm ul m8 (by exact NR.out.below HB.out))
  have HM := Lib.hid hm
  have HS1 := Lib.hid (HS.out.below HB.out)
  have OKT := Lib.hid ok
  have FIN := Lib.hid (show ∀ W g c, Below w.heap.size w W → w.heap.size ≤ g → SW g m c W W (gi t.U) → RsQ t w (.returned (.tuple #[.agg #[.int .i64 (smU Sb.wl t.S t.U m), .int .i64 (smU Sb.veg t.S t.U m), .int .i64 (smU Sb.raw t.S t.U m), .slice (some ⟨g, 0, none⟩) m c], .int .i64 0])) W from fun W g c B hg r => ⟨B, .inr ⟨z, g, c, hg, by rw [hm]; rfl, by rw [← hm]; exact r⟩⟩)
  clear hm ok z qb
  go_wp2_with fail
  refine (C0.out _ c0).mono ?_
  rintro e w2 ⟨rfl, rfl⟩
  go_wp2_with fail
  refine CC.out.mono ?_
  rintro e w2 ⟨ga, da, rfl, hga, ra, st⟩
  have c44 := cellGr st c44
  have GA := Lib.hid (show w.heap.size ≤ ga ∧ ga < w2.heap.size ∧ w.heap.size < ga from ⟨by have := HB.out.size; omega, ra.lt ul, by omega⟩)
  have X2 := Lib.hid (X0.out.below st)
  have HB2 := Lib.hid (HB.out.trans (st.mono HB.out.size))
  have RA := Lib.hid ra
  clear hga ra X0 HB CC C0 c0 c43 r0 r1 r2 r3 g0 g1 g2 g3 st HS1
  go_upto_region 6 with fail
  have RI := Lib.hid (show ResI w w2.heap.size ga m da (smU Sb.wl t.S t.U 0) (smU Sb.veg t.S t.U 0) (smU Sb.raw t.S t.U 0) t.U (w2.alloc (Obj.cells #[.int .i64 0, .int .i64 0, .int .i64 0, .slice (some ⟨ga, 0, none⟩) m da] 39)) from
    ⟨ob_new4 _ _ _ _ _ _, X2.out.below ((Below.refl _ _).alloc (Nat.le_refl _) _), (RA.out.call ((Below.refl _ _).alloc (Nat.le_refl _) _)).to rfl, HB2.out.alloc HB2.out.size _, by have := GA.out; omega, by have := GA.out; omega, HB2.out.size⟩)
  have c44 := cellGr ((Below.refl _ w2).alloc (Nat.le_refl _) (Obj.cells #[.int .i64 0, .int .i64 0, .int .i64 0, .slice (some ⟨ga, 0, none⟩) m da] 39)) c44
  clear X2 HB2 RA
  generalize (w2.alloc (Obj.cells #[.int .i64 0, .int .i64 0, .int .i64 0, .slice (some ⟨ga, 0, none⟩) m da] 39)) = w3 at *
  have lt2 : w.heap.size < w2.heap.size := by have := GA.out; omega
  generalize w2.heap.size = R at *
  go_wp2_with fail
  go_loopw [28] (fun kv wr => ∃ i : Nat, i ≤ m ∧ kv = .int .i64 i ∧ Hid (ResI w R ga m da (smU Sb.wl t.S t.U i) (smU Sb.veg t.S t.U i) (smU Sb.raw t.S t.U i) t.U wr)) (fun kv _ => m - (intOf kv).toNat)
  case atStart => exact ⟨0, Nat.zero_le _, rfl, RI⟩
  case round =>
    obtain ⟨i, hi, rfl, HI⟩ := hrel
    clear RI c44
    by_cases t1 : i < m
    · have i1 : (0 : Int) ≤ (i : Int) := by omega
      have i2 : (i : Int) < (m : Int) := by omega
      obtain ⟨o1, o2, rg, bl, -, -, -⟩ := HI.out
      obtain ⟨x', e, -, cu⟩ := (NR.out.below bl) i t1
      cases e
      rw [addK] at cu
      have uo := OKT.out.u i (by rw [← HM.out]; exact t1)
      obtain ⟨u, hu⟩ := Int.eq_ofNat_of_zero_le uo.1
      have un : u < t.n := by omega
      have u8 : u < 8 := by have := OKT.out.n8; omega
      rw [hu] at cu
      have HU := Lib.hid (show (gi t.U i).toNat = u from by rw [hu]; rfl)
      obtain ⟨-, s0, s1, s2, s3, s4⟩ := (HS.out.below bl) u un
      have GD := Lib.hid (OKT.out.good u)
      have BD := Lib.hid (show (0 ≤ smU Sb.wl t.S t.U i ∧ smU Sb.wl t.S t.U i ≤ 100000) ∧ (0 ≤ smU Sb.veg t.S t.U i ∧ smU Sb.veg t.S t.U i ≤ 100000) ∧ (0 ≤ smU Sb.raw t.S t.U i ∧ smU Sb.raw t.S t.U i ≤ 100000) from by
        have g := OKT.out.good
        have a := smU_bd (f := Sb.wl) (S := t.S) (U := t.U) (fun k => by have := Sb.bd (g k); omega) i
        have b := smU_bd (f := Sb.veg) (S := t.S) (U := t.U) (fun k => by have := Sb.bd (g k); omega) i
        have c := smU_bd (f := Sb.raw) (S := t.S) (U := t.U) (fun k => by have := Sb.bd (g k); omega) i
        omega)
      have N1 := Lib.hid (show smU Sb.wl t.S t.U (i + 1) = smU Sb.wl t.S t.U i + (t.S u).wl from by rw [← HU.out]; rfl)
      have N2 := Lib.hid (show smU Sb.veg t.S t.U (i + 1) = smU Sb.veg t.S t.U i + (t.S u).veg from by rw [← HU.out]; rfl)
      have N3 := Lib.hid (show smU Sb.raw t.S t.U (i + 1) = smU Sb.raw t.S t.U i + (t.S u).raw from by rw [← HU.out]; rfl)
      clear hu uo
      obtain ⟨y1, y2, y3, y4, y5, y6⟩ := Sb.bd GD.out
      obtain ⟨⟨d1, d2⟩, ⟨d3, d4⟩, d5, d6⟩ := BD.out
      have e1 : IntKind.i64.wrap (smU Sb.wl t.S t.U i + (t.S u).wl) = smU Sb.wl t.S t.U i + (t.S u).wl := hwI (by omega) (by omega)
      have e2 : IntKind.i64.wrap (smU Sb.veg t.S t.U i + (t.S u).veg) = smU Sb.veg t.S t.U i + (t.S u).veg := hwI (by omega) (by omega)
      have e3 : IntKind.i64.wrap (smU Sb.raw t.S t.U i + (t.S u).raw) = smU Sb.raw t.S t.U i + (t.S u).raw := hwI (by omega) (by omega)
      have CW := Lib.hid (fun W => wool_any (t.S u).raw (t.S u).dry (t.S u).ash (t.S u).gre (t.S u).veg GD.out W)
      have EW := Lib.hid (show (t.S u).dry - (t.S u).ash - (t.S u).gre - (t.S u).veg = (t.S u).wl from rfl)
      rw [EW.out] at CW
      have u1 : (0 : Int) ≤ (u : Int) := by omega
      have u2 : (u : Int) < 8 := by omega
      clear GD BD EW y1 y2 y3 y4 y5 y6 d1 d2 d3 d4 d5 d6
      generalize smU Sb.wl t.S t.U i = z1 at *
      generalize smU Sb.veg t.S t.U i = z2 at *
      generalize smU Sb.raw t.S t.U i = z3 at *
      generalize hsu : t.S u = su at *
      have HSU := Lib.hid hsu
      have UN := Lib.hid un
      clear hsu un u8
      have k0 := o1.cell (k := 0) (by decide)
      have f0 := o1.frozen 0
      rw [show resC z1 z2 z3 (.slice (some ⟨ga, 0, none⟩) m da) 0 = .int .i64 z1 from rfl] at k0
      have Rb : R ≠ b := by have := GA.out; omega
      clear o1 o2 rg bl
      go_wp2_with fail
      go_region_law (first
        | (go_simp; go_at_call 26; (with_reducible refine (CW.out _).mono ?_); rintro e w4 ⟨rfl, q⟩; have st : Below wr.heap.size wr w4 := (by first | exact q | exact (Below.refl _ _).drew.trans q | exact (below_drewN (Below.refl _ _) _).trans q); have k0 := cellGr st k0; have f0 := (st.frozen (p := ⟨R, 0, none⟩) HI.out.o1.lt).trans f0; have HI := Lib.hid (HI.out.below st); clear q st))
      all_goals (
        have HI := Lib.hid (HI.out.st 0 (z1 + su.wl) _ z2 z3 (resC_0 _ _ _ _ _))
        have SB := (HS.out.below HI.out.bl) u UN.out
        rw [HSU.out] at SB
        have s4 := SB.c4
        have k1 := HI.out.o1.cell (k := 1) (by decide)
        have f1 := HI.out.o1.frozen 1
        rw [show resC (z1 + su.wl) z2 z3 (.slice (some ⟨ga, 0, none⟩) m da) 1 = .int .i64 z2 from rfl] at k1
        clear k0 f0 SB s0 s1 s2 s3 CW cu
        dsimp only at s4
        generalize w4.setCell ⟨R, 0, none⟩ (.int .i64 (z1 + su.wl)) = w5 at *
        go_upto_region 10 with fail
        go_region
        have HI := Lib.hid ((HI.out.st 1 (z2 + su.veg) _ _ z3 (resC_1 _ _ _ _ _)).drew)
        have SB := (HS.out.below HI.out.bl) u UN.out
        rw [HSU.out] at SB
        have s0 := SB.c0
        have k2 := HI.out.o1.cell (k := 2) (by decide)
        have f2 := HI.out.o1.frozen 2
        rw [show resC (z1 + su.wl) (z2 + su.veg) z3 (.slice (some ⟨ga, 0, none⟩) m da) 2 = .int .i64 z3 from rfl] at k2
        clear k1 f1 SB s4
        generalize (w5.setCell ⟨R, 1, none⟩ (.int .i64 (z2 + su.veg))).drew = w6 at *
        go_upto_region 11 with fail
        go_region
        have HI := Lib.hid ((HI.out.st 2 (z3 + su.raw) _ _ _ (resC_2 _ _ _ _ _)).drew)
        clear k2 f2 s0
        generalize (w6.setCell ⟨R, 2, none⟩ (.int .i64 (z3 + su.raw))).drew = w7 at *
        go_wp2_with fail
        go_roundw
        case rel => exact ⟨i + 1, by omega, by go_num, by rw [N1.out, N2.out, N3.out]; exact HI⟩
        case measure => simp [intOf]; omega)
    · obtain rfl : i = m := by omega
      obtain ⟨o1, o2, rg, bl, -, -, -⟩ := HI.out
      have q0 := o1.cell (k := 0) (by decide)
      have q1 := o1.cell (k := 1) (by decide)
      have q2 := o1.cell (k := 2) (by decide)
      have q3 := o1.cell (k := 3) (by decide)
      have r0 := o2.cell (k := 0) (by decide)
      have r1 := o2.cell (k := 1) (by decide)
      have r2 := o2.cell (k := 2) (by decide)
      have r3 := o2.cell (k := 3) (by decide)
      have g0 := o2.frozen 0
      have g1 := o2.frozen 1
      have g2 := o2.frozen 2
      have g3 := o2.frozen 3
      have lw := o2.lt
      simp only [resC] at q0 q1 q2 q3 r0 r1 r2 r3
      simp at q0 q1 q2 q3 r0 r1 r2 r3
      have FF := Lib.hid (show ∀ W, Below w.heap.size w W → W.heap[ga]? = wr.heap[ga]? → RsQ t w (.returned (.tuple #[.agg #[.int .i64 (smU Sb.wl t.S t.U i), .int .i64 (smU Sb.veg t.S t.U i), .int .i64 (smU Sb.raw t.S t.U i), .slice (some ⟨ga, 0, none⟩) i da], .int .i64 0])) W from fun W B e => FIN.out W ga da B GA.out.1 (rg.to e))
      have BL := Lib.hid bl
      have NG := Lib.hid (show ga ≠ w.heap.size from by have := GA.out; omega)
      clear o1 o2 rg bl FIN
      generalize smU Sb.wl t.S t.U i = z1 at *
      generalize smU Sb.veg t.S t.U i = z2 at *
      generalize smU Sb.raw t.S t.U i = z3 at *
      go_wp2_with fail
      refine bodyPost_ret (v := .tuple #[.agg #[.int .i64 z1, .int .i64 z2, .int .i64 z3, .slice (some ⟨ga, 0, none⟩) i da], .int .i64 0]) (by simp [results, Try.results13, go_sem, r0, r1, r2, r3, lw]) rfl (FF.out _ ?_ ?_)
      · exact (((BL.out.setCell (by simp) _).setCell (by simp) _).setCell (by simp) _).setCell (by simp) _
      · rw [Below.heap_setCell _ _ _ _ NG.out, Below.heap_setCell _ _ _ _ NG.out, Below.heap_setCell _ _ _ _ NG.out, Below.heap_setCell _ _ _ _ NG.out]
end Go.Proofs.Ytkhdpmicejmabaa

/- Classing's tests: the reference's order. -/
namespace Go.Proofs.Ytkhdpmicejmabaa
open Go.RowKit Go.Proofs.Ytkhdpmicejmabaa.Ct Go.Proofs.Ytkhdpmicejmabaa.Stb
set_option linter.unusedVariables false
set_option linter.unusedSimpArgs false

theorem drop_atD {l : List Int} {i : Nat} (h : i < l.length) : l.drop i = gi l i :: l.drop (i + 1) := by
  rw [gi_lt h]
  exact List.drop_eq_getElem_cons h
theorem own_ltD {w : World} {base : Nat} {e : TypeId} {s : Nat} {v : Value} {n : Nat} {xs : List Value} (h : w.ownsRow base e s v n xs) : ∀ k, v.ownBlock = some k → base ≤ k := fun k ek => (World.ownsRow.lt h k ek).1
theorem own_snocD {W w w2 : World} {v v' : Value} {k : Nat} {l : List Int} {x : Int} (o : Obj) (hb : Below W.heap.size W w) (hown : w.ownsRow W.heap.size 3 1 v k (l.map (Value.int .i64)))
    (h1 : w2.ownsRow W.heap.size 3 1 v' (k + 1) (l.map (Value.int .i64) ++ [.int .i64 x])) (h2 : (w.alloc o).grownBy w2 v.ownBlock) :
    w2.ownsRow W.heap.size 3 1 v' (k + 1) ((l ++ [x]).map (Value.int .i64)) ∧ Below W.heap.size W w2 :=
  ⟨by simpa using h1, (hb.alloc hb.size o).grown h2 (by have := hb.size; simp; omega) (own_ltD hown)⟩
theorem own_belowD {w w' : World} {base : Nat} {e : TypeId} {s : Nat} {v : Value} {n : Nat} {xs : List Value} (h : w.ownsRow base e s v n xs) (hb : Below w.heap.size w w') : w'.ownsRow base e s v n xs := by
  refine ⟨h.1, ?_⟩
  rcases h.2 with h0 | ⟨g, cap, cur, rfl, hbg, hg, r⟩
  · exact .inl h0
  · exact .inr ⟨g, cap, cur, rfl, hbg, by rw [hb.block g (by have := (Array.getElem?_eq_some_iff.1 hg).1; exact this)]; exact hg, r⟩
theorem one_cell {w : World} (x : Int) : ∀ j u, ([Value.int .i64 x])[j]? = some u → (w.alloc (Obj.cells #[Value.int .i64 x] 3)).cell? ((⟨w.heap.size, 0, none⟩ : Addr).add j) = some u := by
  intro j u h
  rcases j with _ | j
  · simp at h; subst h; rw [add0]; simp [go_sem]
  · simp at h
theorem one_one {x : Int} : ∀ u ∈ [Value.int .i64 x], u.oneCell' = true := by intro u hu; simp at hu; subst hu; rfl
theorem ownNums {W : World} {b : Nat} {t : TypeId} {v : Value} {M : List Int} (h : W.ownsRow b t 1 v M.length (M.map (Value.int .i64))) : ∃ p c, v = .slice p M.length c ∧ NmR W p M.length (gi M) := by
  rcases h.2 with ⟨rfl, h0⟩ | ⟨g, cap, cur, rfl, hb, hg, hn, _, hs, ht⟩
  · exact ⟨none, 0, by rw [h0], fun i hi => by omega⟩
  · refine ⟨_, _, rfl, fun i hi => ⟨⟨g, 0, none⟩, rfl, (Array.getElem?_eq_some_iff.1 hg).1, ?_⟩⟩
    rw [add0, cellAt hg]
    have e : (M.map (Value.int .i64))[i]? = some (.int .i64 (gi M i)) := by simp [gi, hi]
    rw [← e, ← ht, List.getElem?_take_of_lt (by omega)]; simp
where cellAt {W : World} {b o : Nat} {c : Array Value} {t : TypeId} (h : W.heap[b]? = some (.cells c t (0, 0))) : W.cell? ⟨b, o, none⟩ = c[o]? := by simp [World.cell?, h]

theorem own_blk {w : World} {base : Nat} {e : TypeId} {m : Nat} {p : Option Addr} {k c n : Nat} {xs : List Value} (h : w.ownsRow base e m (.slice p k c) n xs) : ∀ x, p = some x → base ≤ x.block ∧ x.block < w.heap.size := fun x hx => by
  subst hx
  have := World.ownsRow.lt h x.block (by rfl)
  exact ⟨this.1, this.2⟩

/-- What a step of the order reads. -/
def RdX (W : World) (X n cL : Nat) (x y : Addr) (i k u : Nat) (su sv : Sb) : Prop := W.cell? ⟨X, 1, none⟩ = some (.slice (some x) n cL) ∧ W.cell? (y.add k) = some (.int .i64 (u : Int)) ∧ W.cell? (x.add (i * 5)) = some (.int .i64 su.raw) ∧ W.cell? ⟨(x.add (i * 5)).block, (x.add (i * 5)).off + 1, none⟩ = some (.int .i64 su.dry) ∧ W.cell? ⟨(x.add (i * 5)).block, (x.add (i * 5)).off + 2, none⟩ = some (.int .i64 su.ash) ∧ W.cell? ⟨(x.add (i * 5)).block, (x.add (i * 5)).off + 3, none⟩ = some (.int .i64 su.gre) ∧ W.cell? ⟨(x.add (i * 5)).block, (x.add (i * 5)).off + 4, none⟩ = some (.int .i64 su.veg) ∧ W.cell? (x.add (u * 5)) = some (.int .i64 sv.raw) ∧ W.cell? ⟨(x.add (u * 5)).block, (x.add (u * 5)).off + 1, none⟩ = some (.int .i64 sv.dry) ∧ W.cell? ⟨(x.add (u * 5)).block, (x.add (u * 5)).off + 2, none⟩ = some (.int .i64 sv.ash) ∧ W.cell? ⟨(x.add (u * 5)).block, (x.add (u * 5)).off + 3, none⟩ = some (.int .i64 sv.gre) ∧ W.cell? ⟨(x.add (u * 5)).block, (x.add (u * 5)).off + 4, none⟩ = some (.int .i64 sv.veg)
theorem RdX.below {W W' : World} {X n cL : Nat} {x y : Addr} {i k u : Nat} {su sv : Sb} (st : Below W.heap.size W W') (h : RdX W X n cL x y i k u su sv) : RdX W' X n cL x y i k u su sv := by
  obtain ⟨f, l, s0, s1, s2, s3, s4, t0, t1, t2, t3, t4⟩ := h
  exact ⟨cellGr st f, cellGr st l, cellGr st s0, cellGr st s1, cellGr st s2, cellGr st s3, cellGr st s4, cellGr st t0, cellGr st t1, cellGr st t2, cellGr st t3, cellGr st t4⟩
theorem RdX.al {W : World} {o : Obj} {X n cL : Nat} {x y : Addr} {i k u : Nat} {su sv : Sb} (h : RdX W X n cL x y i k u su sv) : RdX (W.alloc o) X n cL x y i k u su sv := h.below ((Below.refl _ _).alloc (Nat.le_refl _) _)
theorem RdX.dr {W : World} {X n cL : Nat} {x y : Addr} {i k u : Nat} {su sv : Sb} (h : RdX W X n cL x y i k u su sv) : RdX W.drew X n cL x y i k u su sv := h.below (Below.refl _ _).drew
def sbC (s : Sb) (k : Nat) : Value := if k = 0 then .int .i64 s.raw else if k = 1 then .int .i64 s.dry else if k = 2 then .int .i64 s.ash else if k = 3 then .int .i64 s.gre else .int .i64 s.veg
theorem ob_n5 (W : World) (s : Sb) (t : TypeId) : OB (W.alloc (Obj.cells #[.int .i64 s.raw, .int .i64 s.dry, .int .i64 s.ash, .int .i64 s.gre, .int .i64 s.veg] t)) W.heap.size t 5 (sbC s) := by
  unfold OB
  rw [heap_alloc_new]
  rfl
theorem ob_n5' (W : World) (o : Obj) (s : Sb) (t : TypeId) : OB ((W.alloc o).alloc (Obj.cells #[.int .i64 s.raw, .int .i64 s.dry, .int .i64 s.ash, .int .i64 s.gre, .int .i64 s.veg] t)) (W.heap.size + 1) t 5 (sbC s) := by
  have := ob_n5 (W.alloc o) s t
  simpa using this
/-- Two subsamples' boxes. -/
def Two (w0 W : World) (g h : Nat) (s t : Sb) : Prop := OB W g 35 5 (sbC s) ∧ OB W h 35 5 (sbC t) ∧ Below w0.heap.size w0 W
theorem two_a (w0 W : World) (s t : Sb) (h : Below w0.heap.size w0 W) : Two w0 ((W.alloc (Obj.cells #[.int .i64 s.raw, .int .i64 s.dry, .int .i64 s.ash, .int .i64 s.gre, .int .i64 s.veg] 35)).alloc (Obj.cells #[.int .i64 t.raw, .int .i64 t.dry, .int .i64 t.ash, .int .i64 t.gre, .int .i64 t.veg] 35)) W.heap.size (W.heap.size + 1) s t :=
  ⟨ob_old (ob_n5 W s _) _, ob_n5' W _ t _, (h.alloc h.size _).alloc (by have := h.size; simp; omega) _⟩
theorem two_b (w0 W : World) (s t : Sb) (h : Below w0.heap.size w0 W) : Two w0 ((W.alloc (Obj.cells #[.int .i64 t.raw, .int .i64 t.dry, .int .i64 t.ash, .int .i64 t.gre, .int .i64 t.veg] 35)).alloc (Obj.cells #[.int .i64 s.raw, .int .i64 s.dry, .int .i64 s.ash, .int .i64 s.gre, .int .i64 s.veg] 35)) (W.heap.size + 1) W.heap.size s t :=
  ⟨ob_n5' W _ s _, ob_old (ob_n5 W t _) _, (h.alloc h.size _).alloc (by have := h.size; simp; omega) _⟩
theorem Two.dr {w0 W : World} {g h : Nat} {s t : Sb} (k : Two w0 W g h s t) : Two w0 W.drew g h s t := ⟨k.1.below (Below.refl _ _).drew, k.2.1.below (Below.refl _ _).drew, k.2.2.drew⟩

set_option maxRecDepth 100000 in
set_option maxHeartbeats 8000000 in
theorem rorder_any (x : Addr) (cL : Nat) (n : Nat) (S : Nat → Sb) (G : Ct.Good S) (tl st : Value) (uv : Value) (tc : ∃ a, tl = .int .i64 a) (sc : ∃ a, st = .int .i64 a) (uc : ∃ p m d, uv = .slice p m d) (w : World) (r : SbR w (some x) n S) (ln : n ≤ 8) :
    Calls Try.prog 24 #[.agg #[tl, .slice (some x) n cL, st, uv]] w fun e w' => ∃ q d, e = .returned (.slice q n d) ∧ NmR w' q n (gi (ordB S n)) ∧ Below w.heap.size w w' ∧ ∀ x, q = some x → w.heap.size ≤ x.block := by
  obtain ⟨i0, hi, hz0, hz1, hz2⟩ := info_parts intInfo
  obtain ⟨ta, rfl⟩ := tc
  obtain ⟨sa, rfl⟩ := sc
  obtain ⟨pu, mu, du, rfl⟩ := uc
  have B0 : Below w.heap.size w (w.alloc (Obj.cells #[.int .i64 ta, .slice (some x) n cL, .int .i64 sa, .slice pu mu du] 30)) := (Below.refl _ _).alloc (Nat.le_refl _) _
  have X0 : (w.alloc (Obj.cells #[.int .i64 ta, .slice (some x) n cL, .int .i64 sa, .slice pu mu du] 30)).cell? ⟨w.heap.size, 1, none⟩ = some (.slice (some x) n cL) := by simp [go_sem]
  have R := Lib.hid (r.below B0)
  have HB0 := Lib.hid B0
  have HX := Lib.hid X0
  have n64 : n ≤ 64 := by omega
  clear r B0 X0
  go_enter Try.func24, Try.ntmps24
  go_upto_region 1 with fail
  generalize (w.alloc (Obj.cells #[.int .i64 ta, .slice (some x) n cL, .int .i64 sa, .slice pu mu du] 30)) = w1 at *
  have FIN := Lib.hid (show ∀ w', Below w1.heap.size w1 w' → Below w.heap.size w w' from fun w' B => HB0.out.trans (B.mono HB0.out.size))
  have LW := Lib.hid HB0.out.size
  obtain ⟨X, hX⟩ : ∃ X, X = w.heap.size := ⟨_, rfl⟩
  rw [← hX] at HX ⊢
  clear hX
  go_wp2_with fail
  go_loopw [3, 4] (fun ov nv wr => ∃ (i c : Nat) (q : Option Addr), i ≤ n ∧ nv = .int .i64 i ∧ ov = .slice q i c ∧ Hid (NmR wr q i (gi (ordB S i))) ∧ Hid (Below w1.heap.size w1 wr) ∧ Hid (∀ x, q = some x → w1.heap.size ≤ x.block)) (fun _ nv _ => n - (intOf nv).toNat)
  case atStart => exact ⟨0, 0, none, Nat.zero_le _, rfl, rfl, Lib.hid (fun i h => by simp at h), Lib.hid (Below.refl _ _), Lib.hid (fun x e => by cases e)⟩
  case round =>
    obtain ⟨i, cc, q, hi', rfl, rfl, NO, HB, HQ⟩ := hrel
    have cX := cellGr HB.out HX.out
    by_cases t1 : i < n
    · have i1 : (0 : Int) ≤ (i : Int) := by omega
      have i2 : (i : Int) < (n : Int) := by omega
      have T1 := Lib.hid t1
      have LO := Lib.hid (ordB_len S i)
      have VO := Lib.hid (show ∀ k, k < i → 0 ≤ gi (ordB S i) k ∧ gi (ordB S i) k < i from fun k hk => (ordB_ord G i).2.1 k hk)
      have SO := Lib.hid (show insB S (i : Int) (ordB S i) = ordB S (i + 1) from rfl)
      generalize ordB S i = O at *
      clear hi'
      rename World => wo
      go_wp2_with fail
      clear cX
      go_loopw [5, 6, 7] (fun xv bv kv wq => ∃ (k : Nat) (b : Bool) (N : List Int), k ≤ i ∧ kv = .int .i64 k ∧ bv = .bool b ∧ N.length ≤ k + b.toNat ∧ Hid (N ++ (if b then O.drop k else insB S i (O.drop k)) = insB S i O) ∧ wq.ownsRow wo.heap.size 3 1 xv N.length (N.map (Value.int .i64)) ∧ Below wo.heap.size wo wq) (fun _ _ kv _ => i - (intOf kv).toNat)
      case atStart => exact ⟨0, false, [], Nat.zero_le _, rfl, rfl, by simp, Lib.hid rfl, World.ownsRow_nil _ _ _ _, Below.refl _ _⟩
      case round =>
        obtain ⟨k, b, N, hk, rfl, rfl, hak, E, hown, hbel⟩ := hrel
        have hbs : ∀ (W : World) o, Below wo.heap.size wo W → wo.heap.size ≤ (W.alloc o).heap.size := fun W o B => by have := B.size; simp; omega
        by_cases t2 : k < i
        · have k1 : (0 : Int) ≤ (k : Int) := by omega
          have k2 : (k : Int) < (i : Int) := by omega
          have DA := Lib.hid (drop_atD (l := O) (i := k) (by have := LO.out; omega))
          obtain ⟨y, rfl, ky, cy⟩ := (NO.out.below hbel) k t2
          obtain ⟨u, hu⟩ := Int.eq_ofNat_of_zero_le (VO.out k t2).1
          have ui : u < i := by have := (VO.out k t2).2; omega
          have un : u < n := by have := T1.out; omega
          rw [hu] at cy
          have cX := cellGr hbel (cellGr HB.out HX.out)
          obtain ⟨x', ex, -, a0, a1, a2, a3, a4⟩ := (R.out.below (HB.out.trans (hbel.mono HB.out.size))) i T1.out
          cases ex
          obtain ⟨x', ex, -, b0, b1, b2, b3, b4⟩ := (R.out.below (HB.out.trans (hbel.mono HB.out.size))) u un
          cases ex
          have HU := Lib.hid hu
          have u1 : (0 : Int) ≤ (u : Int) := by omega
          have u2 : (u : Int) < (n : Int) := by omega
          have i3 : (i : Int) < (n : Int) := by omega
          have GI := Lib.hid (G i)
          have GU := Lib.hid (G u)
          have BLD := Lib.hid (show bl S (i : Int) (u : Int) = (S i).wl * (S u).raw - (S u).wl * (S i).raw from rfl)
          clear hu ui un
          generalize S i = su at *
          generalize S u = sv at *
          have PS := Lib.hid (show RdX wr X n cL x y i k u su sv from ⟨cX, cy, a0, a1, a2, a3, a4, b0, b1, b2, b3, b4⟩)
          go_upto_region 10 with fail
          go_cut [8, 9] from 23 to 35 (fun v8 v9 wx => ∃ g8 g9, v8 = .pointer (some ⟨g8, 0, none⟩) ∧ v9 = .pointer (some ⟨g9, 0, none⟩) ∧ Hid (Two wr wx g8 g9 su sv))
          case first =>
            go_region_held3 (fun w' => w'.cell? ⟨X, 1, none⟩ = some (.slice (some x) n cL) ∧ w'.cell? (y.add k) = some (.int .i64 (u : Int)) ∧ w'.cell? (x.add (i * 5)) = some (.int .i64 su.raw) ∧ w'.cell? ⟨(x.add (i * 5)).block, (x.add (i * 5)).off + 1, none⟩ = some (.int .i64 su.dry) ∧ w'.cell? ⟨(x.add (i * 5)).block, (x.add (i * 5)).off + 2, none⟩ = some (.int .i64 su.ash) ∧ w'.cell? ⟨(x.add (i * 5)).block, (x.add (i * 5)).off + 3, none⟩ = some (.int .i64 su.gre) ∧ w'.cell? ⟨(x.add (i * 5)).block, (x.add (i * 5)).off + 4, none⟩ = some (.int .i64 su.veg) ∧ w'.cell? (x.add (u * 5)) = some (.int .i64 sv.raw) ∧ w'.cell? ⟨(x.add (u * 5)).block, (x.add (u * 5)).off + 1, none⟩ = some (.int .i64 sv.dry) ∧ w'.cell? ⟨(x.add (u * 5)).block, (x.add (u * 5)).off + 2, none⟩ = some (.int .i64 sv.ash) ∧ w'.cell? ⟨(x.add (u * 5)).block, (x.add (u * 5)).off + 3, none⟩ = some (.int .i64 sv.gre) ∧ w'.cell? ⟨(x.add (u * 5)).block, (x.add (u * 5)).off + 4, none⟩ = some (.int .i64 sv.veg)) ((show RdX _ X n cL x y i k u su sv; repeat (first | exact PS.out | refine RdX.al ?_ | refine RdX.dr ?_))) (first | fail)
            all_goals
              go_wp2_with fail
              go_meet
              first
                | exact ⟨_, _, rfl, rfl, Lib.hid (Two.dr (two_a _ _ _ _ (Below.refl _ _)))⟩
                | exact ⟨_, _, rfl, rfl, Lib.hid (Two.dr (two_b _ _ _ _ (Below.refl _ _)))⟩
                | exact ⟨_, _, rfl, rfl, Lib.hid (two_a _ _ _ _ (Below.refl _ _).drew)⟩
                | exact ⟨_, _, rfl, rfl, Lib.hid (two_b _ _ _ _ (Below.refl _ _).drew)⟩
          case rest =>
            obtain ⟨g8, g9, rfl, rfl, TW⟩ := hcut
            rename World => wx
            have hown := own_belowD hown TW.out.2.2
            have hbel := hbel.trans (TW.out.2.2.mono hbel.size)
            obtain ⟨y', ey, ky, cy⟩ := (NO.out.below hbel) k t2
            cases ey
            rw [HU.out] at cy
            rw [HU.out] at DA
            clear PS a0 a1 a2 a3 a4 b0 b1 b2 b3 b4 cX
            cases b with
            | true =>
              replace hak : N.length ≤ k + 1 := hak
              have E2 := Lib.hid (show (N ++ [(u : Int)]) ++ (if true = true then O.drop (k + 1) else insB S i (O.drop (k + 1))) = insB S i O from by
                rw [← E.out, if_pos rfl, if_pos rfl, DA.out]; simp)
              clear E DA TW BLD GI GU
              go_upto_region 14 with fail
              go_quiet (fail)
              have HO := Lib.hid (show (wx.drewN nq).ownsRow wo.heap.size 3 1 u5 N.length (N.map (Value.int .i64)) from hown)
              have HL := Lib.hid (below_drewN hbel nq)
              replace cy : (wx.drewN nq).cell? (y.add k) = some (.int .i64 (u : Int)) := cy
              clear hown hbel
              generalize wx.drewN nq = wn at *
              go_wp2_with (first
                | (at_builtin; refine wpList_append_own _ rfl _ _ 28 rfl wo.heap.size 3 i0 (.int .i64 0) 1 8 Try.underlying28 hi hz0 hz1 hz2 rfl (by decide) _ _ _ rfl (HO.out.alloc _) ⟨wn.heap.size, 0, none⟩ 1 1 [.int .i64 (u : Int)] rfl rfl (one_cell _) one_one (by unfold maxLen; omega) (by omega) (hbs _ _ HL.out) ?_))
              intro v' w1 hown' hgrow _
              obtain ⟨O1, B1⟩ := own_snocD _ HL.out HO.out hown' hgrow
              clear hown' hgrow HO HL hbs
              go_wp2_with fail
              go_roundw
              case rel => exact ⟨k + 1, true, N ++ [(u : Int)], by omega, by go_num, rfl, by simp [Bool.toNat]; omega, E2, by simpa using O1, B1⟩
              case measure => simp [intOf]; omega
            | false =>
              replace hak : N.length ≤ k := hak
              obtain ⟨m1, m2, m3, m4, -⟩ := Sb.bd GI.out
              obtain ⟨o1, o2, o3, o4, -⟩ := Sb.bd GU.out
              have x1 : IntKind.i64.wrap (su.wl * sv.raw) = su.wl * sv.raw := by
                have := Int.mul_nonneg m3 (show 0 ≤ sv.raw by omega)
                have := Int.mul_le_mul (show su.wl ≤ 10000 by omega) o2 (by omega) (by omega)
                exact hwI (by omega) (by omega)
              have x2 : IntKind.i64.wrap (sv.wl * su.raw) = sv.wl * su.raw := by
                have := Int.mul_nonneg o3 (show 0 ≤ su.raw by omega)
                have := Int.mul_le_mul (show sv.wl ≤ 10000 by omega) m2 (by omega) (by omega)
                exact hwI (by omega) (by omega)
              have CU := Lib.hid (fun W => rwool_any su.raw su.dry su.ash su.gre su.veg GI.out W)
              have CV := Lib.hid (fun W => rwool_any sv.raw sv.dry sv.ash sv.gre sv.veg GU.out W)
              have EU := Lib.hid (show su.dry - su.ash - su.gre - su.veg = su.wl from rfl)
              have EV := Lib.hid (show sv.dry - sv.ash - sv.gre - sv.veg = sv.wl from rfl)
              rw [EU.out] at CU
              rw [EV.out] at CV
              have FR := Lib.hid (show bl S (i : Int) (gi O k) < 0 ↔ su.wl * sv.raw < sv.wl * su.raw from by rw [HU.out, BLD.out]; omega)
              have HH := Lib.hid (show wx.ownsRow wo.heap.size 3 1 u5 N.length (N.map (Value.int .i64)) ∧ Below wo.heap.size wo wx from ⟨hown, hbel⟩)
              have p0 := TW.out.1.cell (k := 0) (by decide)
              have q0 := TW.out.2.1.cell (k := 0) (by decide)
              have p1 := TW.out.1.cell (k := 1) (by decide)
              have q1 := TW.out.2.1.cell (k := 1) (by decide)
              have p2 := TW.out.1.cell (k := 2) (by decide)
              have q2 := TW.out.2.1.cell (k := 2) (by decide)
              have p3 := TW.out.1.cell (k := 3) (by decide)
              have q3 := TW.out.2.1.cell (k := 3) (by decide)
              have p4 := TW.out.1.cell (k := 4) (by decide)
              have q4 := TW.out.2.1.cell (k := 4) (by decide)
              simp only [sbC] at p0 q0 p1 q1 p2 q2 p3 q3 p4 q4
              simp at p0 q0 p1 q1 p2 q2 p3 q3 p4 q4
              clear m1 m2 m3 m4 o1 o2 o3 o4 EU EV BLD GI GU TW hown hbel
              by_cases fr : su.wl * sv.raw < sv.wl * su.raw
              · have E2 := Lib.hid (show ((N ++ [(i : Int)]) ++ [(u : Int)]) ++ (if true = true then O.drop (k + 1) else insB S i (O.drop (k + 1))) = insB S i O from by
                  have hh := FR.out.2 fr
                  rw [HU.out] at hh
                  rw [← E.out, DA.out, insB_cons, if_pos hh]; simp)
                have d1 : decide (su.wl * sv.raw < sv.wl * su.raw) = true := decide_eq_true fr
                clear E DA fr FR
                go_upto_region 11 with fail
                go_region_held3 (fun w' => w'.cell? ⟨g8, 0, none⟩ = some (.int .i64 su.raw) ∧ w'.cell? ⟨g8, 1, none⟩ = some (.int .i64 su.dry) ∧ w'.cell? ⟨g8, 2, none⟩ = some (.int .i64 su.ash) ∧ w'.cell? ⟨g8, 3, none⟩ = some (.int .i64 su.gre) ∧ w'.cell? ⟨g8, 4, none⟩ = some (.int .i64 su.veg) ∧ w'.cell? ⟨g9, 0, none⟩ = some (.int .i64 sv.raw) ∧ w'.cell? ⟨g9, 1, none⟩ = some (.int .i64 sv.dry) ∧ w'.cell? ⟨g9, 2, none⟩ = some (.int .i64 sv.ash) ∧ w'.cell? ⟨g9, 3, none⟩ = some (.int .i64 sv.gre) ∧ w'.cell? ⟨g9, 4, none⟩ = some (.int .i64 sv.veg)) (first | exact ⟨p0, p1, p2, p3, p4, q0, q1, q2, q3, q4⟩ | exact ⟨cellDr p0, cellDr p1, cellDr p2, cellDr p3, cellDr p4, cellDr q0, cellDr q1, cellDr q2, cellDr q3, cellDr q4⟩) (first
                  | ((go_at_call 27; (with_reducible refine (CU.out _).mono ?_); rintro e w2 ⟨rfl, q⟩; have st : Below wx.heap.size wx w2 := (by first | exact q | exact (Below.refl _ _).drew.trans q); have p0 := cellGr st p0; have q0 := cellGr st q0; have p1 := cellGr st p1; have q1 := cellGr st q1; have p2 := cellGr st p2; have q2 := cellGr st q2; have p3 := cellGr st p3; have q3 := cellGr st q3; have p4 := cellGr st p4; have q4 := cellGr st q4; have ST := Lib.hid st; clear q st))
                  | ((go_at_call 27; (with_reducible refine (CV.out _).mono ?_); rintro e w3 ⟨rfl, q⟩; have st : Below w2.heap.size w2 w3 := (by first | exact q | exact (Below.refl _ _).drew.trans q); have p0 := cellGr st p0; have q0 := cellGr st q0; have p1 := cellGr st p1; have q1 := cellGr st q1; have p2 := cellGr st p2; have q2 := cellGr st q2; have p3 := cellGr st p3; have q3 := cellGr st q3; have p4 := cellGr st p4; have q4 := cellGr st q4; have ST := Lib.hid (ST.out.trans (st.mono ST.out.size)); clear q st)))
                clear p0 q0 p1 q1 p2 q2 p3 q3 p4 q4
                have HO := Lib.hid (own_belowD HH.out.1 ST.out)
                have HL := Lib.hid (HH.out.2.trans (ST.out.mono HH.out.2.size))
                clear HH ST CU CV d1 x1 x2 cy
                generalize w3 = wn at *
                have lN1 : (N ++ [(i : Int)]).length = N.length + 1 := by simp
                go_wp2_with (first
                  | (at_builtin; refine wpList_append_own _ rfl _ _ 28 rfl wo.heap.size 3 i0 (.int .i64 0) 1 8 Try.underlying28 hi hz0 hz1 hz2 rfl (by decide) _ _ _ rfl (HO.out.alloc _) ⟨wn.heap.size, 0, none⟩ 1 1 [.int .i64 (i : Int)] rfl rfl (one_cell _) one_one (by unfold maxLen; omega) (by omega) (hbs _ _ HL.out) ?_))
                intro v' w1 hown' hgrow _
                obtain ⟨O1, B1⟩ := own_snocD _ HL.out HO.out hown' hgrow
                obtain ⟨y', ey, ky, cy⟩ := (NO.out.below B1) k t2
                cases ey
                rw [HU.out] at cy
                clear hown' hgrow HO HL
                generalize hN1 : N ++ [(i : Int)] = N1 at *
                have HN1 := Lib.hid hN1
                clear hN1
                go_wp2_with (first
                  | (at_builtin; refine wpList_append_own _ rfl _ _ 28 rfl wo.heap.size 3 i0 (.int .i64 0) 1 8 Try.underlying28 hi hz0 hz1 hz2 rfl (by decide) _ _ _ rfl (O1.alloc _) ⟨w1.heap.size, 0, none⟩ 1 1 [.int .i64 (u : Int)] rfl rfl (one_cell _) one_one (by unfold maxLen; omega) (by omega) (hbs _ _ B1) ?_))
                intro v'' w2 hown' hgrow _
                obtain ⟨O2, B2⟩ := own_snocD _ B1 O1 hown' hgrow
                clear hown' hgrow O1 B1 hbs
                go_wp2_with fail
                go_roundw
                case rel => exact ⟨k + 1, true, N1 ++ [(u : Int)], by omega, by go_num, rfl, by simp [Bool.toNat]; omega, E2, by rw [List.length_append, lN1]; exact O2, B2⟩
                case measure => simp [intOf]; omega
              · have E2 := Lib.hid (show (N ++ [(u : Int)]) ++ (if false = true then O.drop (k + 1) else insB S i (O.drop (k + 1))) = insB S i O from by
                  have hh : ¬ bl S (i : Int) (u : Int) < 0 := fun h => fr (FR.out.1 (by rw [HU.out]; exact h))
                  rw [← E.out, DA.out, insB_cons, if_neg hh]; simp)
                have d1 : decide (su.wl * sv.raw < sv.wl * su.raw) = false := decide_eq_false fr
                clear E DA fr FR
                go_upto_region 11 with fail
                go_region_held3 (fun w' => w'.cell? ⟨g8, 0, none⟩ = some (.int .i64 su.raw) ∧ w'.cell? ⟨g8, 1, none⟩ = some (.int .i64 su.dry) ∧ w'.cell? ⟨g8, 2, none⟩ = some (.int .i64 su.ash) ∧ w'.cell? ⟨g8, 3, none⟩ = some (.int .i64 su.gre) ∧ w'.cell? ⟨g8, 4, none⟩ = some (.int .i64 su.veg) ∧ w'.cell? ⟨g9, 0, none⟩ = some (.int .i64 sv.raw) ∧ w'.cell? ⟨g9, 1, none⟩ = some (.int .i64 sv.dry) ∧ w'.cell? ⟨g9, 2, none⟩ = some (.int .i64 sv.ash) ∧ w'.cell? ⟨g9, 3, none⟩ = some (.int .i64 sv.gre) ∧ w'.cell? ⟨g9, 4, none⟩ = some (.int .i64 sv.veg)) (first | exact ⟨p0, p1, p2, p3, p4, q0, q1, q2, q3, q4⟩ | exact ⟨cellDr p0, cellDr p1, cellDr p2, cellDr p3, cellDr p4, cellDr q0, cellDr q1, cellDr q2, cellDr q3, cellDr q4⟩) (first
                  | ((go_at_call 27; (with_reducible refine (CU.out _).mono ?_); rintro e w2 ⟨rfl, q⟩; have st : Below wx.heap.size wx w2 := (by first | exact q | exact (Below.refl _ _).drew.trans q); have p0 := cellGr st p0; have q0 := cellGr st q0; have p1 := cellGr st p1; have q1 := cellGr st q1; have p2 := cellGr st p2; have q2 := cellGr st q2; have p3 := cellGr st p3; have q3 := cellGr st q3; have p4 := cellGr st p4; have q4 := cellGr st q4; have ST := Lib.hid st; clear q st))
                  | ((go_at_call 27; (with_reducible refine (CV.out _).mono ?_); rintro e w3 ⟨rfl, q⟩; have st : Below w2.heap.size w2 w3 := (by first | exact q | exact (Below.refl _ _).drew.trans q); have p0 := cellGr st p0; have q0 := cellGr st q0; have p1 := cellGr st p1; have q1 := cellGr st q1; have p2 := cellGr st p2; have q2 := cellGr st q2; have p3 := cellGr st p3; have q3 := cellGr st q3; have p4 := cellGr st p4; have q4 := cellGr st q4; have ST := Lib.hid (ST.out.trans (st.mono ST.out.size)); clear q st)))
                clear p0 q0 p1 q1 p2 q2 p3 q3 p4 q4
                have HO := Lib.hid (own_belowD HH.out.1 ST.out)
                have HL := Lib.hid (HH.out.2.trans (ST.out.mono HH.out.2.size))
                have cy := cellGr ST.out cy
                clear HH ST CU CV d1 x1 x2
                generalize w3 = wn at *
                go_wp2_with (first
                  | (at_builtin; refine wpList_append_own _ rfl _ _ 28 rfl wo.heap.size 3 i0 (.int .i64 0) 1 8 Try.underlying28 hi hz0 hz1 hz2 rfl (by decide) _ _ _ rfl (HO.out.alloc _) ⟨wn.heap.size, 0, none⟩ 1 1 [.int .i64 (u : Int)] rfl rfl (one_cell _) one_one (by unfold maxLen; omega) (by omega) (hbs _ _ HL.out) ?_))
                intro v' w1 hown' hgrow _
                obtain ⟨O1, B1⟩ := own_snocD _ HL.out HO.out hown' hgrow
                clear hown' hgrow HO HL hbs
                go_wp2_with fail
                go_roundw
                case rel => exact ⟨k + 1, false, N ++ [(u : Int)], by omega, by go_num, rfl, by simp [Bool.toNat]; omega, E2, by simpa using O1, B1⟩
                case measure => simp [intOf]; omega
        · obtain rfl : k = i := by omega
          rw [show O.drop k = [] from List.drop_of_length_le (by have := LO.out; omega)] at E
          cases b with
          | true =>
            replace hak : N.length ≤ k + 1 := hak
            have EN : N = insB S (k : Int) O := by have := E.out; simpa using this
            have LN := Lib.hid (show N.length = k + 1 from by rw [EN, insB_len]; have := LO.out; omega)
            rw [SO.out] at EN
            have HE := Lib.hid EN
            clear EN E hbs
            obtain ⟨q', d', rfl, nr⟩ := ownNums (M := N) hown
            have HQ' := Lib.hid (fun x hx => Nat.le_trans HB.out.size (own_blk hown x hx).1)
            rw [LN.out]
            rw [LN.out] at nr
            have NR := Lib.hid nr
            have HB2 := Lib.hid (HB.out.trans (hbel.mono HB.out.size))
            clear nr hown hbel
            go_wp2_with fail
            go_roundw
            case rel => exact ⟨k + 1, d', q', by have := T1.out; omega, by go_num, by first | rfl | trivial, by rw [← HE.out]; exact NR, HB2, HQ'⟩
            case measure => have := T1.out; simp [intOf]; omega
          | false =>
            replace hak : N.length ≤ k := hak
            have EN : N ++ [(k : Int)] = insB S (k : Int) O := by have := E.out; simpa [insB] using this
            have LN := Lib.hid (show (N ++ [(k : Int)]).length = k + 1 from by rw [EN, insB_len]; have := LO.out; omega)
            rw [SO.out] at EN
            have HE := Lib.hid EN
            clear EN E
            go_wp2_with (first
              | (at_builtin; refine wpList_append_own _ rfl _ _ 28 rfl wo.heap.size 3 i0 (.int .i64 0) 1 8 Try.underlying28 hi hz0 hz1 hz2 rfl (by decide) _ _ _ rfl (hown.alloc _) ⟨wr.heap.size, 0, none⟩ 1 1 [.int .i64 (k : Int)] rfl rfl (one_cell _) one_one (by unfold maxLen; omega) (by omega) (hbs _ _ hbel) ?_))
            intro v' w1 hown' hgrow _
            obtain ⟨O1, B1⟩ := own_snocD _ hbel hown hown' hgrow
            clear hown' hgrow hown hbel hbs
            obtain ⟨q', d', rfl, nr⟩ := ownNums (M := N ++ [(k : Int)]) (by simpa using O1)
            have HQ' := Lib.hid (fun x hx => Nat.le_trans HB.out.size (own_blk O1 x hx).1)
            rw [LN.out]
            rw [LN.out] at nr
            have NR := Lib.hid nr
            have HB2 := Lib.hid (HB.out.trans (B1.mono HB.out.size))
            clear nr O1 B1
            go_wp2_with fail
            go_roundw
            case rel => exact ⟨k + 1, d', q', by have := T1.out; omega, by go_num, by first | rfl | trivial, by rw [← HE.out]; exact NR, HB2, HQ'⟩
            case measure => have := T1.out; simp [intOf]; omega
    · obtain rfl : i = n := by omega
      have FF := Lib.hid (show Below w.heap.size w _ ∧ ∀ x, q = some x → w.heap.size ≤ x.block from ⟨FIN.out _ HB.out, fun x hx => Nat.le_trans LW.out (HQ.out x hx)⟩)
      clear FIN
      go_wp2_with fail
      go_ret
      exact ⟨q, cc, rfl, NO.out, FF.out.1, FF.out.2⟩
end Go.Proofs.Ytkhdpmicejmabaa

/- Classing's tests: the reference's window. -/
namespace Go.Proofs.Ytkhdpmicejmabaa
open Go.RowKit Go.Proofs.Ytkhdpmicejmabaa.Ct Go.Proofs.Ytkhdpmicejmabaa.Stb
set_option linter.unusedVariables false
set_option linter.unusedSimpArgs false

/-- What a step of the window reads. -/
def WdX (W : World) (X n cL : Nat) (x y : Addr) (i m u v : Nat) (su sv : Sb) : Prop := W.cell? ⟨X, 1, none⟩ = some (.slice (some x) n cL) ∧ W.cell? (y.add i) = some (.int .i64 (u : Int)) ∧ W.cell? (y.add m) = some (.int .i64 (v : Int)) ∧ W.cell? (x.add (u * 5)) = some (.int .i64 su.raw) ∧ W.cell? ⟨(x.add (u * 5)).block, (x.add (u * 5)).off + 1, none⟩ = some (.int .i64 su.dry) ∧ W.cell? ⟨(x.add (u * 5)).block, (x.add (u * 5)).off + 2, none⟩ = some (.int .i64 su.ash) ∧ W.cell? ⟨(x.add (u * 5)).block, (x.add (u * 5)).off + 3, none⟩ = some (.int .i64 su.gre) ∧ W.cell? ⟨(x.add (u * 5)).block, (x.add (u * 5)).off + 4, none⟩ = some (.int .i64 su.veg) ∧ W.cell? (x.add (v * 5)) = some (.int .i64 sv.raw) ∧ W.cell? ⟨(x.add (v * 5)).block, (x.add (v * 5)).off + 1, none⟩ = some (.int .i64 sv.dry) ∧ W.cell? ⟨(x.add (v * 5)).block, (x.add (v * 5)).off + 2, none⟩ = some (.int .i64 sv.ash) ∧ W.cell? ⟨(x.add (v * 5)).block, (x.add (v * 5)).off + 3, none⟩ = some (.int .i64 sv.gre) ∧ W.cell? ⟨(x.add (v * 5)).block, (x.add (v * 5)).off + 4, none⟩ = some (.int .i64 sv.veg)
theorem WdX.below {W W' : World} {X n cL : Nat} {x y : Addr} {i m u v : Nat} {su sv : Sb} (st : Below W.heap.size W W') (h : WdX W X n cL x y i m u v su sv) : WdX W' X n cL x y i m u v su sv := by
  obtain ⟨f, l, l', s0, s1, s2, s3, s4, t0, t1, t2, t3, t4⟩ := h
  exact ⟨cellGr st f, cellGr st l, cellGr st l', cellGr st s0, cellGr st s1, cellGr st s2, cellGr st s3, cellGr st s4, cellGr st t0, cellGr st t1, cellGr st t2, cellGr st t3, cellGr st t4⟩
theorem WdX.al {W : World} {o : Obj} {X n cL : Nat} {x y : Addr} {i m u v : Nat} {su sv : Sb} (h : WdX W X n cL x y i m u v su sv) : WdX (W.alloc o) X n cL x y i m u v su sv := h.below ((Below.refl _ _).alloc (Nat.le_refl _) _)
theorem WdX.dr {W : World} {X n cL : Nat} {x y : Addr} {i m u v : Nat} {su sv : Sb} (h : WdX W X n cL x y i m u v su sv) : WdX W.drew X n cL x y i m u v su sv := h.below (Below.refl _ _).drew
/-- The best so far. -/
def BwQ (S : Nat → Sb) (O : List Int) (z i : Nat) (A U D : Int) : Prop := (i = 0 ∧ A = -1 ∧ U = 0 ∧ D = 1) ∨ (0 < i ∧ ∃ a : Nat, A = a ∧ a = bw S O z (i - 1) ∧ U = ov S O z a ∧ D = un S O z a)

set_option maxRecDepth 100000 in
set_option maxHeartbeats 8000000 in
theorem rwindow_any (tol : Int) (tl : 0 ≤ tol ∧ tol ≤ 10000) (x : Addr) (cL : Nat) (n : Nat) (S : Nat → Sb) (G : Ct.Good S) (st : Value) (uv : Value) (sc : ∃ a, st = .int .i64 a) (uc : ∃ p m d, uv = .slice p m d) (w : World) (r : SbR w (some x) n S) (n8 : n ≤ 8) (n2 : 2 ≤ n) :
    Calls Try.prog 23 #[.agg #[.int .i64 tol, .slice (some x) n cL, st, uv]] w fun e w' => e = .returned (.tuple #[.int .i64 (at' n S), .int .i64 (zs n), .bool (decide (fits tol n S))]) ∧ Below w.heap.size w w' := by
  obtain ⟨sa, rfl⟩ := sc
  obtain ⟨pu, mu, du, rfl⟩ := uc
  have B0 : Below w.heap.size w (w.alloc (Obj.cells #[.int .i64 tol, .slice (some x) n cL, .int .i64 sa, .slice pu mu du] 30)) := (Below.refl _ _).alloc (Nat.le_refl _) _
  have X0 : (w.alloc (Obj.cells #[.int .i64 tol, .slice (some x) n cL, .int .i64 sa, .slice pu mu du] 30)).cell? ⟨w.heap.size, 0, none⟩ = some (.int .i64 tol) ∧ (w.alloc (Obj.cells #[.int .i64 tol, .slice (some x) n cL, .int .i64 sa, .slice pu mu du] 30)).cell? ⟨w.heap.size, 1, none⟩ = some (.slice (some x) n cL) ∧ (w.alloc (Obj.cells #[.int .i64 tol, .slice (some x) n cL, .int .i64 sa, .slice pu mu du] 30)).cell? ⟨w.heap.size, 2, none⟩ = some (.int .i64 sa) ∧ (w.alloc (Obj.cells #[.int .i64 tol, .slice (some x) n cL, .int .i64 sa, .slice pu mu du] 30)).cell? ⟨w.heap.size, 3, none⟩ = some (.slice pu mu du) := by
    refine ⟨?_, ?_, ?_, ?_⟩ <;> simp [go_sem]
  have R := Lib.hid (r.below B0)
  have HB0 := Lib.hid B0
  have HX := Lib.hid X0
  have CO := Lib.hid (rorder_any x cL n S G (.int .i64 tol) (.int .i64 sa) (.slice pu mu du) ⟨_, rfl⟩ ⟨_, rfl⟩ ⟨_, _, _, rfl⟩ _ R.out n8)
  obtain ⟨c0, c1, c2, c3⟩ := X0
  clear r B0
  go_enter Try.func23, Try.ntmps23
  go_upto_region 1 with fail
  generalize (w.alloc (Obj.cells #[.int .i64 tol, .slice (some x) n cL, .int .i64 sa, .slice pu mu du] 30)) = w1 at *
  obtain ⟨X, hX⟩ : ∃ X, X = w.heap.size := ⟨_, rfl⟩
  have HXE := Lib.hid hX
  rw [← hX] at HX c0 c1 c2 c3 ⊢
  clear hX
  go_wp2_with fail
  refine CO.out.mono ?_
  rintro e w2 ⟨q, d, rfl, nr, st, -⟩
  have FIN := Lib.hid (show ∀ w', Below w2.heap.size w2 w' → Below w.heap.size w w' from fun w' B => by
    have b1 := HB0.out.trans (st.mono HB0.out.size)
    exact b1.trans (B.mono b1.size))
  have c1 := cellGr st c1
  have HX := Lib.hid (show w2.cell? ⟨X, 0, none⟩ = some (.int .i64 tol) ∧ w2.cell? ⟨X, 1, none⟩ = some (.slice (some x) n cL) from ⟨cellGr st HX.out.1, c1⟩)
  have R := Lib.hid (R.out.below st)
  have NR := Lib.hid nr
  obtain ⟨z, hz⟩ : ∃ z, z = n / 2 + 1 := ⟨_, rfl⟩
  have ez : IntKind.i64.wrap ((n : Int) / 2 + 1) = (z : Int) := by rw [hwI (by omega) (by omega)]; omega
  have HZ := Lib.hid hz
  have AT := Lib.hid (show at' n S = bw S (ordB S n) z (n - z) ∧ zs n = z ∧ (fits tol n S ↔ ov S (ordB S n) z (bw S (ordB S n) z (n - z)) * 10000 ≤ tol * un S (ordB S n) z (bw S (ordB S n) z (n - z))) from by
    have e : zs n = z := hz.symm
    refine ⟨?_, e, ?_⟩
    · unfold at'; rw [e]
    · unfold fits at'; rw [e])
  have OO := Lib.hid (ordB_ord G n)
  have LO := Lib.hid (bw_le S (ordB S n) z)
  have zn : z ≤ n := by omega
  have z1 : 1 ≤ z := by omega
  generalize ordB S n = O at *
  clear nr st c0 c2 c3 hz CO HB0
  go_wp2_with fail
  go_loopw [7, 8, 9, 10] (fun av uv dv iv wr => ∃ (i : Nat) (A U D : Int), i + z ≤ n + 1 ∧ av = .int .i64 A ∧ uv = .int .i64 U ∧ dv = .int .i64 D ∧ iv = .int .i64 i ∧ Hid (BwQ S O z i A U D) ∧ Hid (Below w2.heap.size w2 wr)) (fun _ _ _ iv _ => n - (intOf iv).toNat)
  case atStart => exact ⟨0, -1, 0, 1, by omega, rfl, rfl, rfl, rfl, Lib.hid (.inl ⟨rfl, rfl, rfl, rfl⟩), Lib.hid (Below.refl _ _)⟩
  case round =>
    obtain ⟨i, A, U, D, iz, rfl, rfl, rfl, rfl, BQ, HB⟩ := hrel
    clear c1
    have wi : IntKind.i64.wrap ((i : Int) + (z : Int)) = (i : Int) + (z : Int) := hwI (by omega) (by omega)
    by_cases t1 : i + z ≤ n
    · have t2 : decide ((i : Int) + (z : Int) ≤ (n : Int)) = true := decide_eq_true (by omega)
      obtain ⟨m, hm⟩ : ∃ m, m = i + z - 1 := ⟨_, rfl⟩
      have wm : IntKind.i64.wrap ((i : Int) + (z : Int) - 1) = (m : Int) := by rw [hwI (by omega) (by omega)]; omega
      obtain ⟨y, rfl, ky, cy⟩ := (NR.out.below HB.out) i (by omega)
      obtain ⟨y', ey, ky', cz⟩ := (NR.out.below HB.out) m (by omega)
      cases ey
      have o1 := OO.out.2.1 i (by omega)
      have o2 := OO.out.2.1 m (by omega)
      obtain ⟨u, hu⟩ := Int.eq_ofNat_of_zero_le o1.1
      obtain ⟨v, hv⟩ := Int.eq_ofNat_of_zero_le o2.1
      have un' : u < n := by omega
      have vn' : v < n := by omega
      rw [hu] at cy
      rw [hv] at cz
      obtain ⟨x', ex, -, a0, a1, a2, a3, a4⟩ := (R.out.below HB.out) u un'
      cases ex
      obtain ⟨x', ex, -, b0, b1, b2, b3, b4⟩ := (R.out.below HB.out) v vn'
      cases ex
      have cX := cellGr HB.out HX.out.2
      have GU := Lib.hid (G u)
      have GV := Lib.hid (G v)
      have OV := Lib.hid (show ov S O z i = (S v).wl * (S u).raw - (S u).wl * (S v).raw ∧ un S O z i = (S u).raw * (S v).raw from by
        unfold ov un bl
        rw [← hm, hu, hv]
        exact ⟨rfl, Int.mul_comm _ _⟩)
      have OB := Lib.hid (show (-100000000 ≤ ov S O z i ∧ ov S O z i ≤ 100000000) ∧ (1 ≤ un S O z i ∧ un S O z i ≤ 100000000) from ⟨bl_bd G _ _, un_bd G _ _ _⟩)
      have u1 : (0 : Int) ≤ (u : Int) := by omega
      have u2 : (u : Int) < (n : Int) := by omega
      have v1 : (0 : Int) ≤ (v : Int) := by omega
      have v2 : (v : Int) < (n : Int) := by omega
      have i1 : (0 : Int) ≤ (i : Int) := by omega
      have i2 : (i : Int) < (n : Int) := by omega
      have m1 : (0 : Int) ≤ (m : Int) := by omega
      have m2 : (m : Int) < (n : Int) := by omega
      have T1 := Lib.hid t1
      clear hu hv un' vn' o1 o2 hm t1
      generalize S u = su at *
      generalize S v = sv at *
      have PS := Lib.hid (show WdX wr X n cL x y i m u v su sv from ⟨cX, cy, cz, a0, a1, a2, a3, a4, b0, b1, b2, b3, b4⟩)
      go_upto_region 7 with fail
      go_cut [11, 12] from 30 to 48 (fun v8 v9 wx => ∃ g8 g9, v8 = .pointer (some ⟨g8, 0, none⟩) ∧ v9 = .pointer (some ⟨g9, 0, none⟩) ∧ Hid (Two wr wx g8 g9 su sv))
      case first =>
        go_region_held3 (fun w' => w'.cell? ⟨X, 1, none⟩ = some (.slice (some x) n cL) ∧ w'.cell? (y.add i) = some (.int .i64 (u : Int)) ∧ w'.cell? (y.add m) = some (.int .i64 (v : Int)) ∧ w'.cell? (x.add (u * 5)) = some (.int .i64 su.raw) ∧ w'.cell? ⟨(x.add (u * 5)).block, (x.add (u * 5)).off + 1, none⟩ = some (.int .i64 su.dry) ∧ w'.cell? ⟨(x.add (u * 5)).block, (x.add (u * 5)).off + 2, none⟩ = some (.int .i64 su.ash) ∧ w'.cell? ⟨(x.add (u * 5)).block, (x.add (u * 5)).off + 3, none⟩ = some (.int .i64 su.gre) ∧ w'.cell? ⟨(x.add (u * 5)).block, (x.add (u * 5)).off + 4, none⟩ = some (.int .i64 su.veg) ∧ w'.cell? (x.add (v * 5)) = some (.int .i64 sv.raw) ∧ w'.cell? ⟨(x.add (v * 5)).block, (x.add (v * 5)).off + 1, none⟩ = some (.int .i64 sv.dry) ∧ w'.cell? ⟨(x.add (v * 5)).block, (x.add (v * 5)).off + 2, none⟩ = some (.int .i64 sv.ash) ∧ w'.cell? ⟨(x.add (v * 5)).block, (x.add (v * 5)).off + 3, none⟩ = some (.int .i64 sv.gre) ∧ w'.cell? ⟨(x.add (v * 5)).block, (x.add (v * 5)).off + 4, none⟩ = some (.int .i64 sv.veg)) ((show WdX _ X n cL x y i m u v su sv; repeat (first | exact PS.out | refine WdX.al ?_ | refine WdX.dr ?_))) (first | fail)
        all_goals
          go_wp2_with fail
          go_meet
          first
            | exact ⟨_, _, rfl, rfl, Lib.hid (Two.dr (two_a _ _ _ _ (Below.refl _ _)))⟩
            | exact ⟨_, _, rfl, rfl, Lib.hid (Two.dr (two_b _ _ _ _ (Below.refl _ _)))⟩
            | exact ⟨_, _, rfl, rfl, Lib.hid (two_a _ _ _ _ (Below.refl _ _).drew)⟩
            | exact ⟨_, _, rfl, rfl, Lib.hid (two_b _ _ _ _ (Below.refl _ _).drew)⟩
      case rest =>
        obtain ⟨g8, g9, rfl, rfl, TW⟩ := hcut
        rename World => wx
        have HB := Lib.hid (HB.out.trans (TW.out.2.2.mono HB.out.size))
        clear PS a0 a1 a2 a3 a4 b0 b1 b2 b3 b4 cX cy cz
        obtain ⟨m1, m2, m3, m4, -⟩ := Sb.bd GU.out
        obtain ⟨o1, o2, o3, o4, -⟩ := Sb.bd GV.out
        have x1 : IntKind.i64.wrap (su.wl * sv.raw) = su.wl * sv.raw := by
          have := Int.mul_nonneg m3 (show 0 ≤ sv.raw by omega)
          have := Int.mul_le_mul (show su.wl ≤ 10000 by omega) o2 (by omega) (by omega)
          exact hwI (by omega) (by omega)
        have x2 : IntKind.i64.wrap (sv.wl * su.raw) = sv.wl * su.raw := by
          have := Int.mul_nonneg o3 (show 0 ≤ su.raw by omega)
          have := Int.mul_le_mul (show sv.wl ≤ 10000 by omega) m2 (by omega) (by omega)
          exact hwI (by omega) (by omega)
        have x3 : IntKind.i64.wrap (sv.wl * su.raw - su.wl * sv.raw) = ov S O z i := by rw [← OV.out.1]; exact hwI (by have := OB.out; omega) (by have := OB.out; omega)
        have x4 : IntKind.i64.wrap (su.raw * sv.raw) = un S O z i := by rw [← OV.out.2]; exact hwI (by have := OB.out; omega) (by have := OB.out; omega)
        have CU := Lib.hid (fun W => rwool_any su.raw su.dry su.ash su.gre su.veg GU.out W)
        have CV := Lib.hid (fun W => rwool_any sv.raw sv.dry sv.ash sv.gre sv.veg GV.out W)
        have EU := Lib.hid (show su.dry - su.ash - su.gre - su.veg = su.wl from rfl)
        have EV := Lib.hid (show sv.dry - sv.ash - sv.gre - sv.veg = sv.wl from rfl)
        rw [EU.out] at CU
        rw [EV.out] at CV
        have p0 := TW.out.1.cell (k := 0) (by decide)
        have q0 := TW.out.2.1.cell (k := 0) (by decide)
        have p1 := TW.out.1.cell (k := 1) (by decide)
        have q1 := TW.out.2.1.cell (k := 1) (by decide)
        have p2 := TW.out.1.cell (k := 2) (by decide)
        have q2 := TW.out.2.1.cell (k := 2) (by decide)
        have p3 := TW.out.1.cell (k := 3) (by decide)
        have q3 := TW.out.2.1.cell (k := 3) (by decide)
        have p4 := TW.out.1.cell (k := 4) (by decide)
        have q4 := TW.out.2.1.cell (k := 4) (by decide)
        simp only [sbC] at p0 q0 p1 q1 p2 q2 p3 q3 p4 q4
        simp at p0 q0 p1 q1 p2 q2 p3 q3 p4 q4
        clear m1 m2 m3 m4 o1 o2 o3 o4 EU EV GU GV TW
        go_upto_region 8 with fail
        go_region_held3 (fun w' => w'.cell? ⟨g8, 0, none⟩ = some (.int .i64 su.raw) ∧ w'.cell? ⟨g8, 1, none⟩ = some (.int .i64 su.dry) ∧ w'.cell? ⟨g8, 2, none⟩ = some (.int .i64 su.ash) ∧ w'.cell? ⟨g8, 3, none⟩ = some (.int .i64 su.gre) ∧ w'.cell? ⟨g8, 4, none⟩ = some (.int .i64 su.veg) ∧ w'.cell? ⟨g9, 0, none⟩ = some (.int .i64 sv.raw) ∧ w'.cell? ⟨g9, 1, none⟩ = some (.int .i64 sv.dry) ∧ w'.cell? ⟨g9, 2, none⟩ = some (.int .i64 sv.ash) ∧ w'.cell? ⟨g9, 3, none⟩ = some (.int .i64 sv.gre) ∧ w'.cell? ⟨g9, 4, none⟩ = some (.int .i64 sv.veg)) (first | exact ⟨p0, p1, p2, p3, p4, q0, q1, q2, q3, q4⟩ | exact ⟨cellDr p0, cellDr p1, cellDr p2, cellDr p3, cellDr p4, cellDr q0, cellDr q1, cellDr q2, cellDr q3, cellDr q4⟩) (first
          | ((go_at_call 27; (with_reducible refine (CV.out _).mono ?_); rintro e wa ⟨rfl, q⟩; have st : Below wx.heap.size wx wa := (by first | exact q | exact (Below.refl _ _).drew.trans q); have p0 := cellGr st p0; have q0 := cellGr st q0; have p1 := cellGr st p1; have q1 := cellGr st q1; have p2 := cellGr st p2; have q2 := cellGr st q2; have p3 := cellGr st p3; have q3 := cellGr st q3; have p4 := cellGr st p4; have q4 := cellGr st q4; have ST := Lib.hid st; clear q st))
          | ((go_at_call 27; (with_reducible refine (CU.out _).mono ?_); rintro e wb ⟨rfl, q⟩; have st : Below wa.heap.size wa wb := (by first | exact q | exact (Below.refl _ _).drew.trans q); have p0 := cellGr st p0; have q0 := cellGr st q0; have p1 := cellGr st p1; have q1 := cellGr st q1; have p2 := cellGr st p2; have q2 := cellGr st q2; have p3 := cellGr st p3; have q3 := cellGr st q3; have p4 := cellGr st p4; have q4 := cellGr st q4; have ST := Lib.hid (ST.out.trans (st.mono ST.out.size)); clear q st)))
        clear p0 q0 p1 q1 p2 q2 p3 q3 p4 q4 CU CV x1 x2 x3 x4 OV
        have HB := Lib.hid (HB.out.trans (ST.out.mono HB.out.size))
        clear ST
        have OB := OB.out
        rcases BQ.out with ⟨i0', rfl, rfl, rfl⟩ | ⟨i0', a, rfl, ha, rfl, rfl⟩
        · have NX := Lib.hid (show BwQ S O z (i + 1) (i : Int) (ov S O z i) (un S O z i) from .inr ⟨by omega, i, rfl, by rw [i0']; rfl, rfl, rfl⟩)
          clear BQ OB
          generalize ov S O z i = ou at *
          generalize un S O z i = od at *
          go_wp2_with fail
          go_roundw
          case rel => exact ⟨i + 1, (i : Int), ou, od, by have := T1.out; omega, rfl, rfl, rfl, by go_num, NX, HB⟩
          case measure => have := T1.out; simp [intOf]; omega
        · have ab := LO.out (i - 1)
          have ya := un_bd G O z a
          have xa := bl_bd G (gi O (a + z - 1)) (gi O a)
          have k1 : IntKind.i64.wrap (ov S O z i * un S O z a) = ov S O z i * un S O z a := by
            have := pr_bd (x := ov S O z i) (y := un S O z a) OB.1.1 OB.1.2 (by omega) (by omega)
            exact hwI (by omega) (by omega)
          have k2 : IntKind.i64.wrap (ov S O z a * un S O z i) = ov S O z a * un S O z i := by
            have := pr_bd (x := ov S O z a) (y := un S O z i) xa.1 xa.2 (by omega) (by omega)
            exact hwI (by omega) (by omega)
          have d0 : decide ((a : Int) < 0) = false := decide_eq_false (by omega)
          have NX := Lib.hid (show bw S O z i = if ov S O z i * un S O z a < ov S O z a * un S O z i then i else a from by
            obtain ⟨j, rfl⟩ : ∃ j, i = j + 1 := ⟨i - 1, by omega⟩
            rw [ha]
            rfl)
          clear xa ya OB BQ
          by_cases lt : ov S O z i * un S O z a < ov S O z a * un S O z i
          · have d1 : decide (ov S O z i * un S O z a < ov S O z a * un S O z i) = true := decide_eq_true lt
            have NX := Lib.hid (show BwQ S O z (i + 1) (i : Int) (ov S O z i) (un S O z i) from .inr ⟨by omega, i, rfl, by rw [show i + 1 - 1 = i by omega, NX.out, if_pos lt], rfl, rfl⟩)
            clear lt ha ab
            go_wp2_with fail
            go_roundw
            case rel => exact ⟨i + 1, (i : Int), _, _, by have := T1.out; omega, rfl, rfl, rfl, by go_num, NX, HB⟩
            case measure => have := T1.out; simp [intOf]; omega
          · have d1 : decide (ov S O z i * un S O z a < ov S O z a * un S O z i) = false := decide_eq_false lt
            have NX := Lib.hid (show BwQ S O z (i + 1) (a : Int) (ov S O z a) (un S O z a) from .inr ⟨by omega, a, rfl, by rw [show i + 1 - 1 = i by omega, NX.out, if_neg lt], rfl, rfl⟩)
            clear lt ha ab
            go_wp2_with fail
            go_roundw
            case rel => exact ⟨i + 1, (a : Int), _, _, by have := T1.out; omega, rfl, rfl, rfl, by go_num, NX, HB⟩
            case measure => have := T1.out; simp [intOf]; omega
    · have t2 : decide ((i : Int) + (z : Int) ≤ (n : Int)) = false := decide_eq_false (by omega)
      rcases BQ.out with ⟨i0', -⟩ | ⟨i0', a, rfl, ha, rfl, rfl⟩
      · omega
      have ia : i - 1 = n - z := by omega
      rw [ia] at ha
      have ya := un_bd G O z a
      have xa := bl_bd G (gi O (a + z - 1)) (gi O a)
      have k1 : IntKind.i64.wrap (ov S O z a * 10000) = ov S O z a * 10000 := by
        have := pr_bd (x := ov S O z a) (y := 10000) xa.1 xa.2 (by omega) (by omega)
        exact hwI (by omega) (by omega)
      have k2 : IntKind.i64.wrap (tol * un S O z a) = tol * un S O z a := by
        have := pr_bd (x := tol) (y := un S O z a) (by omega) (by omega) (by omega) (by omega)
        exact hwI (by omega) (by omega)
      have RS := Lib.hid (show (at' n S : Int) = (a : Int) ∧ (zs n : Int) = (z : Int) ∧ decide (fits tol n S) = decide (ov S O z a * 10000 ≤ tol * un S O z a) from by
        obtain ⟨e1, e2, e3⟩ := AT.out
        refine ⟨by rw [e1, ha], by rw [e2], ?_⟩
        rw [decide_eq_decide, e3, ← ha])
      have c0 := cellGr HB.out HX.out.1
      have FF := Lib.hid (FIN.out _ HB.out)
      clear xa ya ha BQ FIN AT
      go_wp2_with fail
      go_quiet (fail)
      have FF := Lib.hid (below_drewN FF.out nq)
      clear c0 k1 k2
      generalize wr.drewN nq = wn at *
      go_wp2_with fail
      go_returns
      obtain ⟨e1, e2, e3⟩ := RS.out
      exact ⟨by rw [e1, e2, e3]; rfl, FF.out⟩
end Go.Proofs.Ytkhdpmicejmabaa

/- Classing's tests: rows of subsamples; the reference's test in memory; New, Need. -/
namespace Go.Proofs.Ytkhdpmicejmabaa
open Go.RowKit Go.Proofs.Ytkhdpmicejmabaa.Ct Go.Proofs.Ytkhdpmicejmabaa.Stb
set_option linter.unusedVariables false
set_option linter.unusedSimpArgs false

theorem subInfo : (Try.prog.info? 35).map (fun i => (i.zero, i.size, i.bytes)) = some (some (.agg #[.int .i64 0, .int .i64 0, .int .i64 0, .int .i64 0, .int .i64 0]), 5, 40) := by kernel_rfl
/-- A row of subsamples as cells. -/
def rowS (A : Nat → Sb) (n : Nat) : List Value := (List.range (n * 5)).map fun j => sbC (A (j / 5)) (j % 5)
theorem rowS_len (A : Nat → Sb) (n : Nat) : (rowS A n).length = n * 5 := by simp [rowS]
theorem rowS_at {A : Nat → Sb} {n j : Nat} {u : Value} (h : (rowS A n)[j]? = some u) : j < n * 5 ∧ u = sbC (A (j / 5)) (j % 5) := by
  have hj : j < n * 5 := by have := (List.getElem?_eq_some_iff.1 h).1; rwa [rowS_len] at this
  refine ⟨hj, ?_⟩
  unfold rowS at h
  rw [List.getElem?_map, List.getElem?_range hj] at h
  simpa using h.symm
theorem sbC_one (s : Sb) (k : Nat) : (sbC s k).oneCell' = true := by
  unfold sbC
  split
  · rfl
  · split
    · rfl
    · split
      · rfl
      · split <;> rfl
theorem rowS_one (A : Nat → Sb) (n : Nat) : ∀ u ∈ rowS A n, u.oneCell' = true := by
  intro u hu
  obtain ⟨j, _, rfl⟩ := List.mem_map.1 hu
  exact sbC_one _ _
theorem add_off (x : Addr) (a : Nat) : (x.add a).off = x.off + a := by unfold Addr.add; split <;> simp_all
theorem add_pos (y : Addr) (k : Nat) (h : k ≠ 0) : y.add k = ⟨y.block, y.off + k, none⟩ := by unfold Addr.add; rw [if_neg h]
theorem SbR.cellAt {w : World} {x : Addr} {n : Nat} {A : Nat → Sb} (h : SbR w (some x) n A) {j : Nat} (hj : j < n * 5) : w.cell? (x.add j) = some (sbC (A (j / 5)) (j % 5)) := by
  obtain ⟨x', e, k⟩ := h (j / 5) (by omega)
  cases e
  have p : ∀ r, r ≠ 0 → (⟨(x.add (j / 5 * 5)).block, (x.add (j / 5 * 5)).off + r, none⟩ : Addr) = x.add (j / 5 * 5 + r) := fun r hr => by
    rw [addB, add_off, add_pos x _ (by omega), Nat.add_assoc]
  rcases (show j % 5 = 0 ∨ j % 5 = 1 ∨ j % 5 = 2 ∨ j % 5 = 3 ∨ j % 5 = 4 by omega) with e | e | e | e | e
  · rw [e, show j = j / 5 * 5 by omega, show j / 5 * 5 / 5 = j / 5 by omega]; exact k.c0
  · have := k.c1
    rw [p 1 (by decide)] at this
    rw [e]; rw [show j / 5 * 5 + 1 = j by omega] at this; exact this
  · have := k.c2
    rw [p 2 (by decide)] at this
    rw [e]; rw [show j / 5 * 5 + 2 = j by omega] at this; exact this
  · have := k.c3
    rw [p 3 (by decide)] at this
    rw [e]; rw [show j / 5 * 5 + 3 = j by omega] at this; exact this
  · have := k.c4
    rw [p 4 (by decide)] at this
    rw [e]; rw [show j / 5 * 5 + 4 = j by omega] at this; exact this
theorem SbR.of_cells {w : World} {g n : Nat} {A : Nat → Sb} (hb : g < w.heap.size) (h : ∀ j, j < n * 5 → w.cell? ⟨g, j, none⟩ = some (sbC (A (j / 5)) (j % 5))) : SbR w (some ⟨g, 0, none⟩) n A := fun i hi => by
  refine ⟨_, rfl, ?_⟩
  rw [add0]
  have c : ∀ r, r < 5 → w.cell? ⟨g, i * 5 + r, none⟩ = some (sbC (A i) r) := fun r hr => by
    have := h (i * 5 + r) (by omega)
    rw [show (i * 5 + r) / 5 = i by omega, show (i * 5 + r) % 5 = r by omega] at this
    exact this
  exact ⟨hb, c 0 (by decide), c 1 (by decide), c 2 (by decide), c 3 (by decide), c 4 (by decide)⟩
/-- A row of one's own of subsamples reads as they. -/
theorem ownSubs {W : World} {b : Nat} {t : TypeId} {v : Value} {n : Nat} {A : Nat → Sb} (h : W.ownsRow b t 5 v n (rowS A n)) : ∃ p c, v = .slice p n c ∧ SbR W p n A := by
  rcases h.2 with ⟨rfl, h0⟩ | ⟨g, cap, cur, rfl, hb, hg, hn, _, hs, ht⟩
  · exact ⟨none, 0, by rw [h0], fun i hi => by omega⟩
  · refine ⟨_, _, rfl, SbR.of_cells (Array.getElem?_eq_some_iff.1 hg).1 fun j hj => ?_⟩
    have e : (rowS A n)[j]? = some (sbC (A (j / 5)) (j % 5)) := by
      unfold rowS
      rw [List.getElem?_map, List.getElem?_range hj]; rfl
    have e2 : W.cell? ⟨g, j, none⟩ = cur[j]? := by simp [World.cell?, hg]
    rw [e2, ← e, ← ht, List.getElem?_take_of_lt hj]; simp
theorem rowS_snoc (A : Nat → Sb) (n : Nat) (s : Sb) : rowS A n ++ [.int .i64 s.raw, .int .i64 s.dry, .int .i64 s.ash, .int .i64 s.gre, .int .i64 s.veg] = rowS (pts A n s) (n + 1) := by
  apply List.ext_getElem?
  intro j
  by_cases h : j < n * 5
  · rw [List.getElem?_append_left (by rw [rowS_len]; exact h)]
    unfold rowS
    rw [List.getElem?_map, List.getElem?_map, List.getElem?_range h, List.getElem?_range (by omega)]
    simp only [Option.map_some]
    have : pts A n s (j / 5) = A (j / 5) := by unfold pts; rw [if_neg (by omega)]
    rw [this]
  · rw [List.getElem?_append_right (by rw [rowS_len]; omega), rowS_len]
    by_cases h2 : j < (n + 1) * 5
    · unfold rowS
      rw [List.getElem?_map, List.getElem?_range h2]
      have e : pts A n s (j / 5) = s := by unfold pts; rw [if_pos (by omega)]
      simp only [Option.map_some]
      rw [e]
      rcases (show j = n * 5 ∨ j = n * 5 + 1 ∨ j = n * 5 + 2 ∨ j = n * 5 + 3 ∨ j = n * 5 + 4 by omega) with rfl | rfl | rfl | rfl | rfl
      · rw [show n * 5 - n * 5 = 0 by omega, show n * 5 % 5 = 0 by omega]; rfl
      · rw [show n * 5 + 1 - n * 5 = 1 by omega, show (n * 5 + 1) % 5 = 1 by omega]; rfl
      · rw [show n * 5 + 2 - n * 5 = 2 by omega, show (n * 5 + 2) % 5 = 2 by omega]; rfl
      · rw [show n * 5 + 3 - n * 5 = 3 by omega, show (n * 5 + 3) % 5 = 3 by omega]; rfl
      · rw [show n * 5 + 4 - n * 5 = 4 by omega, show (n * 5 + 4) % 5 = 4 by omega]; rfl
    · rw [List.getElem?_eq_none (by simp; omega), List.getElem?_eq_none (by rw [rowS_len]; omega)]

/-- The reference's test, as a value. -/
structure RT (w : World) (Q : Nat → Prop) (v : Value) (tol : Int) (t : Tst) : Prop where
  ok : t.ok
  tl : 0 ≤ tol ∧ tol ≤ 10000
  mem : ∃ pL cL pU cU, v = .agg #[.int .i64 tol, .slice pL t.n cL, .int .i64 t.st, .slice pU t.U.length cU] ∧ SbR w pL t.n t.S ∧ NmR w pU t.U.length (gi t.U) ∧ (t.n = 0 → pL = none ∧ cL = 0) ∧ (t.U = [] → pU = none ∧ cU = 0) ∧ (∀ x, pL = some x → Q x.block) ∧ ∀ x, pU = some x → Q x.block
theorem RT.below {w w' : World} {Q : Nat → Prop} {v : Value} {tol : Int} {t : Tst} (h : RT w Q v tol t) (st : Below w.heap.size w w') : RT w' Q v tol t := by
  obtain ⟨pL, cL, pU, cU, e, a, b, c, d⟩ := h.mem
  exact ⟨h.ok, h.tl, pL, cL, pU, cU, e, a.below st, b.below st, c, d⟩
def tsC (tol : Int) (vL : Value) (st : Int) (vU : Value) (k : Nat) : Value := if k = 0 then .int .i64 tol else if k = 1 then vL else if k = 2 then .int .i64 st else vU
theorem ob_t4 (W : World) (x : Int) (vL : Value) (y : Int) (vU : Value) (t : TypeId) : OB (W.alloc (Obj.cells #[.int .i64 x, vL, .int .i64 y, vU] t)) W.heap.size t 4 (tsC x vL y vU) := by
  unfold OB
  rw [heap_alloc_new]
  rfl
theorem RT.weak {w : World} {Q R : Nat → Prop} {v : Value} {tol : Int} {t : Tst} (h : RT w Q v tol t) (q : ∀ k, k < w.heap.size → Q k → R k) : RT w R v tol t := by
  obtain ⟨pL, cL, pU, cU, e, a, b, c, d, l1, l2⟩ := h.mem
  refine ⟨h.ok, h.tl, pL, cL, pU, cU, e, a, b, c, d, fun x hx => q _ ?_ (l1 x hx), fun x hx => q _ ?_ (l2 x hx)⟩
  · by_cases n0 : t.n = 0
    · rw [(c n0).1] at hx; cases hx
    · obtain ⟨y, e, k⟩ := a 0 (by omega)
      rw [hx] at e; cases e
      have := k.blk; rwa [addB] at this
  · by_cases n0 : t.U = []
    · rw [(d n0).1] at hx; cases hx
    · obtain ⟨y, e, k, -⟩ := b 0 (by cases h : t.U <;> simp_all)
      rw [hx] at e; cases e
      exact k
/-- What New answers. -/
def RnQ (tol : Int) (w : World) (e : Ending) (w' : World) : Prop := Below w.heap.size w w' ∧ ((¬ (0 ≤ tol ∧ tol ≤ 10000) ∧ e = .returned (.tuple #[.agg #[.int .i64 0, .slice none 0 0, .int .i64 0, .slice none 0 0], .int .i64 2])) ∨ (0 ≤ tol ∧ tol ≤ 10000 ∧ ∃ v, e = .returned (.tuple #[v, .int .i64 0]) ∧ ∀ Q, RT w' Q v tol tst0))
set_option maxRecDepth 100000 in
set_option maxHeartbeats 4000000 in
theorem rNew_any (tol : Int) (w : World) : Calls Try.prog 7 #[.int .i64 tol] w (RnQ tol w) := by
  have X0 := ob_t4 w 0 (.slice none 0 0) 0 (.slice none 0 0) 30
  have HB := Lib.hid (show Below w.heap.size w (w.alloc (Obj.cells #[.int .i64 0, .slice none 0 0, .int .i64 0, .slice none 0 0] 30)) from (Below.refl _ _).alloc (Nat.le_refl _) _)
  have r0 := X0.cell (k := 0) (by decide)
  have r1 := X0.cell (k := 1) (by decide)
  have r2 := X0.cell (k := 2) (by decide)
  have r3 := X0.cell (k := 3) (by decide)
  have g0 := X0.frozen 0
  have g1 := X0.frozen 1
  have g2 := X0.frozen 2
  have g3 := X0.frozen 3
  have lw := X0.lt
  clear X0
  have BAD := Lib.hid (show ¬ (0 ≤ tol ∧ tol ≤ 10000) → ∀ w', Below w.heap.size w w' → RnQ tol w (.returned (.tuple #[.agg #[.int .i64 0, .slice none 0 0, .int .i64 0, .slice none 0 0], .int .i64 2])) w' from fun h w' b => ⟨b, .inl ⟨h, rfl⟩⟩)
  by_cases h1 : tol < 0
  · have d1 : decide (tol < 0) = true := decide_eq_true h1
    have FF := Lib.hid (BAD.out (by omega))
    clear h1 BAD
    go_enter Try.func7, Try.ntmps7
    go_upto_region 1 with fail
    generalize (w.alloc (Obj.cells #[.int .i64 0, .slice none 0 0, .int .i64 0, .slice none 0 0] 30)) = w1 at *
    go_wp2_with fail
    refine bodyPost_ret (v := .tuple #[.agg #[.int .i64 0, .slice none 0 0, .int .i64 0, .slice none 0 0], .int .i64 2]) (by simp [results, Try.results7, go_sem, r0, r1, r2, r3, lw]) rfl (FF.out _ ?_)
    exact (((HB.out.setCell (by simp) _).setCell (by simp) _).setCell (by simp) _).setCell (by simp) _
  · have d1 : decide (tol < 0) = false := decide_eq_false h1
    by_cases h2 : 10000 < tol
    · have d2 : decide (10000 < tol) = true := decide_eq_true h2
      have FF := Lib.hid (BAD.out (by omega))
      clear h1 h2 BAD
      go_enter Try.func7, Try.ntmps7
      go_upto_region 1 with fail
      generalize (w.alloc (Obj.cells #[.int .i64 0, .slice none 0 0, .int .i64 0, .slice none 0 0] 30)) = w1 at *
      go_wp2_with fail
      refine bodyPost_ret (v := .tuple #[.agg #[.int .i64 0, .slice none 0 0, .int .i64 0, .slice none 0 0], .int .i64 2]) (by simp [results, Try.results7, go_sem, r0, r1, r2, r3, lw]) rfl (FF.out _ ?_)
      exact (((HB.out.setCell (by simp) _).setCell (by simp) _).setCell (by simp) _).setCell (by simp) _
    · have d2 : decide (10000 < tol) = false := decide_eq_false h2
      have FF := Lib.hid (show ∀ w', Below w.heap.size w w' → RnQ tol w (.returned (.tuple #[.agg #[.int .i64 tol, .slice none 0 0, .int .i64 0, .slice none 0 0], .int .i64 0])) w' from fun w' b => ⟨b, .inr ⟨by omega, by omega, _, rfl, fun Q => ⟨Tst.ok.zero, ⟨by omega, by omega⟩, none, 0, none, 0, rfl, fun i hi => absurd hi (Nat.not_lt_zero i), fun i hi => absurd hi (Nat.not_lt_zero i), fun _ => ⟨rfl, rfl⟩, fun _ => ⟨rfl, rfl⟩, fun x e => (by cases e), fun x e => (by cases e)⟩⟩⟩)
      clear h1 h2 BAD
      go_enter Try.func7, Try.ntmps7
      go_upto_region 1 with fail
      generalize (w.alloc (Obj.cells #[.int .i64 0, .slice none 0 0, .int .i64 0, .slice none 0 0] 30)) = w1 at *
      go_wp2_with fail
      refine bodyPost_ret (v := .tuple #[.agg #[.int .i64 tol, .slice none 0 0, .int .i64 0, .slice none 0 0], .int .i64 0]) (by simp [results, Try.results7, go_sem, r0, r1, r2, r3, lw]) rfl (FF.out _ ?_)
      exact (((HB.out.setCell (by simp) _).setCell (by simp) _).setCell (by simp) _).setCell (by simp) _
set_option maxRecDepth 100000 in
theorem rNeed_any (Q : Nat → Prop) (v : Value) (tol : Int) (t : Tst) (w : World) (h : RT w Q v tol t) :
    Calls Try.prog 12 #[v] w fun e w' => e = .returned (.int .i64 (ned t)) ∧ Below w.heap.size w w' := by
  have n8 := h.ok.n8
  obtain ⟨pL, cL, pU, cU, rfl, -, -, -, -, -, -⟩ := h.mem
  have X0 := ob_t4 w tol (.slice pL t.n cL) t.st (.slice pU t.U.length cU) 30
  have HB := Lib.hid (show Below w.heap.size w (w.alloc (Obj.cells #[.int .i64 tol, .slice pL t.n cL, .int .i64 t.st, .slice pU t.U.length cU] 30)) from (Below.refl _ _).alloc (Nat.le_refl _) _)
  have r1 : (w.alloc (Obj.cells #[.int .i64 tol, .slice pL t.n cL, .int .i64 t.st, .slice pU t.U.length cU] 30)).cell? ⟨w.heap.size, 1, none⟩ = some (.slice pL t.n cL) := X0.cell (k := 1) (by decide)
  have r2 : (w.alloc (Obj.cells #[.int .i64 tol, .slice pL t.n cL, .int .i64 t.st, .slice pU t.U.length cU] 30)).cell? ⟨w.heap.size, 2, none⟩ = some (.int .i64 t.st) := X0.cell (k := 2) (by decide)
  have NE := Lib.hid (show ned t = if t.st ≠ 0 then 0 else 2 - ((t.n : Int) % 2) from rfl)
  clear X0 h
  generalize ned t = r at *
  generalize t.U.length = mu at *
  generalize t.st = s at *
  generalize t.n = n at *
  by_cases z : s = 0
  · subst z
    rw [if_neg (by simp)] at NE
    have w2 : IntKind.i64.wrap (2 - (n : Int) % 2) = 2 - (n : Int) % 2 := hwI (by omega) (by omega)
    go_enter Try.func12, Try.ntmps12
    go_upto_region 1 with fail
    generalize (w.alloc (Obj.cells #[.int .i64 tol, .slice pL n cL, .int .i64 0, .slice pU mu cU] 30)) = w1 at *
    go_wp2_with fail
    go_ret
    rw [NE.out]
    exact ⟨rfl, HB.out⟩
  · rw [if_pos z] at NE
    have z2 : (s == 0) = false := by simpa using z
    clear z
    go_enter Try.func12, Try.ntmps12
    go_upto_region 1 with fail
    generalize (w.alloc (Obj.cells #[.int .i64 tol, .slice pL n cL, .int .i64 s, .slice pU mu cU] 30)) = w1 at *
    go_wp2_with fail
    go_ret
    rw [NE.out]
    exact ⟨rfl, HB.out⟩
end Go.Proofs.Ytkhdpmicejmabaa

/- Classing's tests: the reference's Feed. -/
namespace Go.Proofs.Ytkhdpmicejmabaa
open Go.RowKit Go.Proofs.Ytkhdpmicejmabaa.Ct Go.Proofs.Ytkhdpmicejmabaa.Stb
set_option linter.unusedVariables false
set_option linter.unusedSimpArgs false

/-- What the reference's Feed answers. -/
def RfQ (Q : Nat → Prop) (tol : Int) (t : Tst) (s : Sb) (w : World) (e : Ending) (w' : World) : Prop := ∃ v', e = .returned (.tuple #[v', .int .i64 (fde t s)]) ∧ RT w' Q v' tol (fds tol t s) ∧ Below w.heap.size w w'
/-- The boxes of Feed. -/
structure FdI (w0 : World) (X : Nat) (tol : Int) (vL : Value) (st : Int) (vU : Value) (s : Sb) (W : World) : Prop where
  o1 : OB W X 30 4 (tsC tol vL st vU)
  o2 : OB W (X + 1) 35 5 (sbC s)
  o3 : OB W (X + 2) 30 4 (tsC 0 (.slice none 0 0) 0 (.slice none 0 0))
  bl : Below w0.heap.size w0 W
  hx : X = w0.heap.size
section
variable {w0 W W' : World} {X : Nat} {tol : Int} {vL : Value} {st : Int} {vU : Value} {s : Sb}
theorem FdI.below (h : FdI w0 X tol vL st vU s W) (b : Below W.heap.size W W') : FdI w0 X tol vL st vU s W' := ⟨h.o1.below b, h.o2.below b, h.o3.below b, h.bl.trans (b.mono h.bl.size), h.hx⟩
theorem FdI.new (w0 : World) (tol : Int) (vL : Value) (st : Int) (vU : Value) (s : Sb) : FdI w0 w0.heap.size tol vL st vU s (((w0.alloc (Obj.cells #[.int .i64 tol, vL, .int .i64 st, vU] 30)).alloc (Obj.cells #[.int .i64 s.raw, .int .i64 s.dry, .int .i64 s.ash, .int .i64 s.gre, .int .i64 s.veg] 35)).alloc (Obj.cells #[.int .i64 0, .slice none 0 0, .int .i64 0, .slice none 0 0] 30)) := by
  refine ⟨ob_old (ob_old (ob_t4 _ _ _ _ _ _) _) _, ob_old (ob_n5' _ _ _ _) _, ?_, (((Below.refl _ _).alloc (Nat.le_refl _) _).alloc (by simp) _).alloc (by simp; omega) _, rfl⟩
  have := ob_t4 ((w0.alloc (Obj.cells #[.int .i64 tol, vL, .int .i64 st, vU] 30)).alloc (Obj.cells #[.int .i64 s.raw, .int .i64 s.dry, .int .i64 s.ash, .int .i64 s.gre, .int .i64 s.veg] 35)) 0 (.slice none 0 0) 0 (.slice none 0 0) 30
  simpa using this
theorem FdI.setL (h : FdI w0 X tol vL st vU s W) (v : Value) : FdI w0 X tol v st vU s (W.setCell ⟨X, 1, none⟩ v) :=
  ⟨(h.o1.set 1 v).ext fun k hk => by rcases (show k = 0 ∨ k = 1 ∨ k = 2 ∨ k = 3 by omega) with rfl | rfl | rfl | rfl <;> simp [updV, tsC], h.o2.so (by omega), h.o3.so (by omega), h.bl.setCell (by rw [h.hx]; exact Nat.le_refl _) _, h.hx⟩
theorem FdI.setS (h : FdI w0 X tol vL st vU s W) (a : Int) : FdI w0 X tol vL a vU s (W.setCell ⟨X, 2, none⟩ (.int .i64 a)) :=
  ⟨(h.o1.set 2 (.int .i64 a)).ext fun k hk => by rcases (show k = 0 ∨ k = 1 ∨ k = 2 ∨ k = 3 by omega) with rfl | rfl | rfl | rfl <;> simp [updV, tsC], h.o2.so (by omega), h.o3.so (by omega), h.bl.setCell (by rw [h.hx]; exact Nat.le_refl _) _, h.hx⟩
theorem FdI.setU (h : FdI w0 X tol vL st vU s W) (v : Value) : FdI w0 X tol vL st v s (W.setCell ⟨X, 3, none⟩ v) :=
  ⟨(h.o1.set 3 v).ext fun k hk => by rcases (show k = 0 ∨ k = 1 ∨ k = 2 ∨ k = 3 by omega) with rfl | rfl | rfl | rfl <;> simp [updV, tsC], h.o2.so (by omega), h.o3.so (by omega), h.bl.setCell (by rw [h.hx]; exact Nat.le_refl _) _, h.hx⟩
/-- The cells of the box. -/
theorem FdI.cells (h : FdI w0 X tol vL st vU s W) : W.cell? ⟨X, 0, none⟩ = some (.int .i64 tol) ∧ W.cell? ⟨X, 1, none⟩ = some vL ∧ W.cell? ⟨X, 2, none⟩ = some (.int .i64 st) ∧ W.cell? ⟨X, 3, none⟩ = some vU :=
  ⟨h.o1.cell (k := 0) (by decide), h.o1.cell (k := 1) (by decide), h.o1.cell (k := 2) (by decide), h.o1.cell (k := 3) (by decide)⟩
theorem FdI.subs (h : FdI w0 X tol vL st vU s W) : W.cell? ⟨X + 1, 0, none⟩ = some (.int .i64 s.raw) ∧ W.cell? ⟨X + 1, 1, none⟩ = some (.int .i64 s.dry) ∧ W.cell? ⟨X + 1, 2, none⟩ = some (.int .i64 s.ash) ∧ W.cell? ⟨X + 1, 3, none⟩ = some (.int .i64 s.gre) ∧ W.cell? ⟨X + 1, 4, none⟩ = some (.int .i64 s.veg) :=
  ⟨h.o2.cell (k := 0) (by decide), h.o2.cell (k := 1) (by decide), h.o2.cell (k := 2) (by decide), h.o2.cell (k := 3) (by decide), h.o2.cell (k := 4) (by decide)⟩
/-- The result's box: what a return needs. -/
theorem FdI.res (h : FdI w0 X tol vL st vU s W) : W.cell? ⟨X + 2, 0, none⟩ = some (.int .i64 0) ∧ W.cell? ⟨X + 2, 1, none⟩ = some (.slice none 0 0) ∧ W.cell? ⟨X + 2, 2, none⟩ = some (.int .i64 0) ∧ W.cell? ⟨X + 2, 3, none⟩ = some (.slice none 0 0) ∧ W.frozen? ⟨X + 2, 0, none⟩ = false ∧ W.frozen? ⟨X + 2, 1, none⟩ = false ∧ W.frozen? ⟨X + 2, 2, none⟩ = false ∧ W.frozen? ⟨X + 2, 3, none⟩ = false ∧ X + 2 < W.heap.size :=
  ⟨h.o3.cell (k := 0) (by decide), h.o3.cell (k := 1) (by decide), h.o3.cell (k := 2) (by decide), h.o3.cell (k := 3) (by decide), h.o3.frozen 0, h.o3.frozen 1, h.o3.frozen 2, h.o3.frozen 3, h.o3.lt⟩
end
theorem four_bl {w0 W : World} {X : Nat} (h : Below w0.heap.size w0 W) (hx : w0.heap.size ≤ X) (a b c d : Value) : Below w0.heap.size w0 ((((W.setCell ⟨X, 0, none⟩ a).setCell ⟨X, 1, none⟩ b).setCell ⟨X, 2, none⟩ c).setCell ⟨X, 3, none⟩ d) := (((h.setCell hx _).setCell hx _).setCell hx _).setCell hx _

theorem five_cell {w : World} (s : Sb) : ∀ j u, ([.int .i64 s.raw, .int .i64 s.dry, .int .i64 s.ash, .int .i64 s.gre, .int .i64 s.veg] : List Value)[j]? = some u → (w.alloc (Obj.cells #[.int .i64 s.raw, .int .i64 s.dry, .int .i64 s.ash, .int .i64 s.gre, .int .i64 s.veg] 35)).cell? ((⟨w.heap.size, 0, none⟩ : Addr).add j) = some u := by
  intro j u h
  rw [add0]
  have hj : j < 5 := by have := (List.getElem?_eq_some_iff.1 h).1; simpa using this
  rcases (show j = 0 ∨ j = 1 ∨ j = 2 ∨ j = 3 ∨ j = 4 by omega) with rfl | rfl | rfl | rfl | rfl <;> simp at h <;> subst h <;> simp [go_sem]
theorem five_one {s : Sb} : ∀ u ∈ ([.int .i64 s.raw, .int .i64 s.dry, .int .i64 s.ash, .int .i64 s.gre, .int .i64 s.veg] : List Value), u.oneCell' = true := by
  intro u hu
  simp at hu
  rcases hu with rfl | rfl | rfl | rfl | rfl <;> rfl
theorem own_growS {w1 w w2 : World} {e : TypeId} {m : Nat} {v : Value} {k : Nat} {xs : List Value} (o : Obj) (hb : Below w1.heap.size w1 w) (hown : w.ownsRow w1.heap.size e m v k xs) (h2 : (w.alloc o).grownBy w2 v.ownBlock) : Below w1.heap.size w1 w2 :=
  (hb.alloc hb.size o).grown h2 (by have := hb.size; simp; omega) (own_ltD hown)
theorem own_growN {w1 w w2 : World} {e : TypeId} {m : Nat} {v : Value} {k : Nat} {xs : List Value} (hb : Below w1.heap.size w1 w) (hown : w.ownsRow w1.heap.size e m v k xs) (h2 : w.grownBy w2 v.ownBlock) : Below w1.heap.size w1 w2 :=
  hb.grown h2 hb.size (own_ltD hown)
theorem SbR.keepS {w w' : World} {p : Option Addr} {n : Nat} {A : Nat → Sb} (h : SbR w p n A) (sz : w.heap.size ≤ w'.heap.size) (e : ∀ x, p = some x → w'.heap[x.block]? = w.heap[x.block]?) : SbR w' p n A := fun i hi => by
  obtain ⟨x, hx, k⟩ := h i hi
  exact ⟨x, hx, k.keep sz (by rw [addB]; exact e x hx)⟩

theorem four_sb {W : World} {p : Option Addr} {n g : Nat} {A : Nat → Sb} (h : SbR W p n A) (q : ∀ x, p = some x → x.block ≠ g) (a b c d : Value) : SbR ((((W.setCell ⟨g, 0, none⟩ a).setCell ⟨g, 1, none⟩ b).setCell ⟨g, 2, none⟩ c).setCell ⟨g, 3, none⟩ d) p n A :=
  h.keepS (by simp) (fun x hx => by rw [Below.heap_setCell _ _ _ _ (q x hx), Below.heap_setCell _ _ _ _ (q x hx), Below.heap_setCell _ _ _ _ (q x hx), Below.heap_setCell _ _ _ _ (q x hx)])
theorem NmR.keepS {w w' : World} {p : Option Addr} {n : Nat} {A : Nat → Int} (h : NmR w p n A) (sz : w.heap.size ≤ w'.heap.size) (e : ∀ x, p = some x → w'.heap[x.block]? = w.heap[x.block]?) : NmR w' p n A := fun i hi => by
  obtain ⟨x, hx, k, c⟩ := h i hi
  refine ⟨x, hx, Nat.lt_of_lt_of_le k sz, ?_⟩
  have : w'.heap[(x.add i).block]? = w.heap[(x.add i).block]? := by rw [addB]; exact e x hx
  unfold World.cell? at *
  rw [this]; exact c
theorem four_nm {W : World} {p : Option Addr} {n g : Nat} {A : Nat → Int} (h : NmR W p n A) (q : ∀ x, p = some x → x.block ≠ g) (a b c d : Value) : NmR ((((W.setCell ⟨g, 0, none⟩ a).setCell ⟨g, 1, none⟩ b).setCell ⟨g, 2, none⟩ c).setCell ⟨g, 3, none⟩ d) p n A :=
  h.keepS (by simp) (fun x hx => by rw [Below.heap_setCell _ _ _ _ (q x hx), Below.heap_setCell _ _ _ _ (q x hx), Below.heap_setCell _ _ _ _ (q x hx), Below.heap_setCell _ _ _ _ (q x hx)])

/-- Of the window's first j, the one that is k. -/
def prt (O : List Int) (a k j : Nat) : List Int := if ((List.range j).any fun i => gi O (a + i) == (k : Int)) = true then [(k : Int)] else []
theorem usd_prt (O : List Int) (a z k : Nat) : usd O a z (k + 1) = usd O a z k ++ prt O a k z := rfl
theorem prt_zero (O : List Int) (a k : Nat) : prt O a k 0 = [] := rfl
theorem prt_miss {O : List Int} {a k j : Nat} (h : gi O (a + j) ≠ k) : prt O a k (j + 1) = prt O a k j := by
  unfold prt
  rw [List.range_succ, List.any_append]
  have : ((gi O (a + j) == (k : Int)) = false) := by simpa using h
  simp [this]
theorem prt_hit {n : Nat} {O : List Int} (hO : IsO n O) {a k j : Nat} (hj : a + j < n) (h : gi O (a + j) = k) : prt O a k j = [] ∧ prt O a k (j + 1) = [(k : Int)] := by
  constructor
  · unfold prt
    rw [if_neg]
    simp only [List.any_eq_true, List.mem_range, not_exists, not_and]
    intro i hi e
    have e : gi O (a + i) = k := by simpa using e
    have := hO.inj (i := a + i) (j := a + j) (by omega) hj (by rw [e, h])
    omega
  · unfold prt
    rw [if_pos]
    simp only [List.any_eq_true, List.mem_range]
    exact ⟨j, by omega, by simpa using h⟩
theorem FdI.grow {w0 W W' : World} {X : Nat} {tol : Int} {vL : Value} {st : Int} {vU : Value} {s : Sb} {o : Obj} {own : Option Nat} (h : FdI w0 X tol vL st vU s W) (g : (W.alloc o).grownBy W' own) (b : ∀ k, own = some k → X + 2 < k) : FdI w0 X tol vL st vU s W' := by
  have l := h.o3.lt
  have e : ∀ k, k ≤ X + 2 → W'.heap[k]? = W.heap[k]? := fun k hk => (g.block k (by simp; omega) (fun e => by have := b k e.symm; omega)).trans (Below.heap_alloc W o k (by omega))
  have hs := h.bl.size
  exact ⟨h.o1.keep (e _ (by omega)), h.o2.keep (e _ (by omega)), h.o3.keep (e _ (by omega)), (h.bl.alloc hs o).grown g (by simp; omega) (fun k hk => by have := b k hk; have := h.hx; omega), h.hx⟩
theorem own_set {W : World} {base : Nat} {e : TypeId} {m : Nat} {v : Value} {n : Nat} {xs : List Value} {g k : Nat} {a : Value} (h : W.ownsRow base e m v n xs) (hg : g < base) : (W.setCell ⟨g, k, none⟩ a).ownsRow base e m v n xs := by
  refine ⟨h.1, ?_⟩
  rcases h.2 with h0 | ⟨b, cap, cur, rfl, hbg, hb, r⟩
  · exact .inl h0
  · exact .inr ⟨b, cap, cur, rfl, hbg, by rw [Below.heap_setCell _ _ _ _ (show b ≠ g by omega)]; exact hb, r⟩
theorem Fm.grow {M : Nat → Prop} {w0 W W' : World} {o : Obj} {own : Option Nat} (h : Fm M w0 W) (g : (W.alloc o).grownBy W' own) (b : ∀ k, own = some k → M k) : Fm M w0 W' :=
  h.trans ⟨g.os, g.tape, g.output, Nat.le_trans (by simp) g.size, fun k hk hm => (g.block k (by simp; omega) (fun e => hm (b k e.symm))).trans (Below.heap_alloc W o k hk)⟩

set_option maxRecDepth 100000 in
set_option maxHeartbeats 16000000 in
theorem rFeed_any (Q : Nat → Prop) (v : Value) (tol : Int) (t : Tst) (s : Sb) (w : World) (h : RT w Q v tol t) (hlo : ∀ k, w.heap.size ≤ k → Q k) :
    Calls Try.prog 9 #[v, sbV s] w (RfQ Q tol t s w) := by
  have OKT := Lib.hid h.ok
  have TL := Lib.hid h.tl
  obtain ⟨pL, cL, pU, cU, rfl, sl, nu, l0, u0, -, -⟩ := h.mem
  have n8 := h.ok.n8
  have KEEP := Lib.hid (show ∀ W, Below w.heap.size w W → RT W Q (.agg #[.int .i64 tol, .slice pL t.n cL, .int .i64 t.st, .slice pU t.U.length cU]) tol t from fun W b => h.below b)
  have IB := Lib.hid (FdI.new w tol (.slice pL t.n cL) t.st (.slice pU t.U.length cU) s)
  have FE := Lib.hid (show fde t s = if t.st ≠ 0 then 10 else if s.ok = true then 0 else 2 from rfl)
  have FS := Lib.hid (show fds tol t s = if t.st ≠ 0 then t else if s.ok = true then (if (t.n + 1) % 2 = 1 then ⟨t.n + 1, pts t.S t.n s, 0, []⟩ else dec tol (t.n + 1) (pts t.S t.n s)) else t from rfl)
  obtain ⟨i0, hi, hz0, hz1, hz2⟩ := info_parts subInfo
  have CV := Lib.hid (fun W => rValidSub_any s.raw s.dry s.ash s.gre s.veg W)
  unfold sbV
  have SL := Lib.hid sl
  clear h sl
  go_enter Try.func9, Try.ntmps9
  go_upto_region 1 with fail
  generalize (((w.alloc (Obj.cells #[.int .i64 tol, .slice pL t.n cL, .int .i64 t.st, .slice pU t.U.length cU] 30)).alloc (Obj.cells #[.int .i64 s.raw, .int .i64 s.dry, .int .i64 s.ash, .int .i64 s.gre, .int .i64 s.veg] 35)).alloc (Obj.cells #[.int .i64 0, .slice none 0 0, .int .i64 0, .slice none 0 0] 30)) = w1 at *
  obtain ⟨c0, c1, c2, c3⟩ := IB.out.cells
  obtain ⟨r0, r1, r2, r3, g0, g1, g2, g3, lw⟩ := IB.out.res
  by_cases z : t.st = 0
  case neg =>
    have z2 : (t.st == 0) = false := by simpa using z
    rw [if_pos z] at FE FS
    have FF := Lib.hid (show ∀ w', Below w.heap.size w w' → RfQ Q tol t s w (.returned (.tuple #[.agg #[.int .i64 tol, .slice pL t.n cL, .int .i64 t.st, .slice pU t.U.length cU], .int .i64 10])) w' from fun w' b => ⟨_, by rw [FE.out], by rw [FS.out]; exact KEEP.out w' b, b⟩)
    clear z FE FS
    go_wp2_with fail
    refine bodyPost_ret (v := .tuple #[.agg #[.int .i64 tol, .slice pL t.n cL, .int .i64 t.st, .slice pU t.U.length cU], .int .i64 10]) (by simp [results, Try.results9, go_sem, r0, r1, r2, r3, lw]) rfl (FF.out _ ?_)
    exact four_bl IB.out.bl (by omega) _ _ _ _
  rw [if_neg (by simp [z])] at FE FS
  obtain ⟨s0, s1, s2, s3, s4⟩ := IB.out.subs
  rw [z] at c2
  by_cases ok : s.ok = true
  case neg =>
    have okf : subB s.raw s.dry s.ash s.gre s.veg = false := by
      cases hh : subB s.raw s.dry s.ash s.gre s.veg
      · rfl
      · exact absurd hh ok
    rw [if_neg ok] at FE FS
    rw [okf] at CV
    have FF := Lib.hid (show ∀ w', Below w.heap.size w w' → RfQ Q tol t s w (.returned (.tuple #[.agg #[.int .i64 tol, .slice pL t.n cL, .int .i64 0, .slice pU t.U.length cU], .int .i64 2])) w' from fun w' b => ⟨_, by rw [FE.out], by rw [FS.out, ← z]; exact KEEP.out w' b, b⟩)
    clear ok FE FS okf KEEP
    go_wp2_with fail
    refine (CV.out _).mono ?_
    rintro e w2 ⟨rfl, st⟩
    have c0 := cellGr st c0
    have c1 := cellGr st c1
    have c2 := cellGr st c2
    have c3 := cellGr st c3
    have IB := Lib.hid (IB.out.below st)
    obtain ⟨r0, r1, r2, r3, g0, g1, g2, g3, lw⟩ := IB.out.res
    clear st
    go_wp2_with fail
    refine bodyPost_ret (v := .tuple #[.agg #[.int .i64 tol, .slice pL t.n cL, .int .i64 0, .slice pU t.U.length cU], .int .i64 2]) (by simp [results, Try.results9, go_sem, r0, r1, r2, r3, lw]) rfl (FF.out _ ?_)
    exact four_bl IB.out.bl (by omega) _ _ _ _
  have okt : subB s.raw s.dry s.ash s.gre s.veg = true := ok
  rw [if_pos ok] at FE FS
  rw [okt] at CV
  obtain ⟨n8, tu⟩ := OKT.out.wait z
  obtain ⟨rfl, rfl⟩ := u0 tu
  obtain ⟨n, S, st, U⟩ := t
  dsimp only at z n8 tu FE FS l0 nu
  dsimp only at c1 c3 SL
  subst z tu
  have IB := Lib.hid (show FdI w w.heap.size tol (.slice pL n cL) 0 (.slice none 0 0) s w1 from IB.out)
  replace c3 : w1.cell? ⟨w.heap.size, 3, none⟩ = some (.slice none 0 0) := c3
  clear okt KEEP nu u0
  go_wp2_with fail
  refine (CV.out _).mono ?_
  rintro e w2 ⟨rfl, st⟩
  have IB := Lib.hid (IB.out.below st)
  obtain ⟨c0, c1, c2, c3⟩ := IB.out.cells
  obtain ⟨s0, s1, s2, s3, s4⟩ := IB.out.subs
  clear CV st
  go_upto_region 6 with fail
  have X2 := Lib.hid (show w.heap.size + 2 < w2.heap.size from IB.out.o3.lt)
  have BL2 := Lib.hid IB.out.bl
  clear c0 c2 c3 lw r0 r1 r2 r3 g0 g1 g2 g3
  go_cut [6] from 21 to 24 (fun v6 wx => Hid (wx.ownsRow w2.heap.size 35 5 v6 n (rowS S n) ∧ Below w2.heap.size w2 wx))
  case first =>
    by_cases n0 : n = 0
    · obtain ⟨rfl, rfl⟩ := l0 n0
      subst n0
      go_wp2_with fail
      go_meet
      exact Lib.hid ⟨World.ownsRow_nil _ _ _ _, Below.refl _ _⟩
    · obtain ⟨x, rfl, -⟩ := SL.out 0 (by omega)
      have SL2 := SL.out.below IB.out.bl
      go_wp2_with (first
        | (at_builtin; refine wpList_append_own _ rfl _ _ 22 rfl w2.heap.size 35 i0 (.agg #[.int .i64 0, .int .i64 0, .int .i64 0, .int .i64 0, .int .i64 0]) 5 40 Try.underlying22 hi hz0 hz1 hz2 rfl (by decide) (.slice none 0 0) 0 [] rfl (World.ownsRow_nil _ _ _ _) x n cL (rowS S n) rfl (rowS_len S n) (fun j u hj => by obtain ⟨h1, rfl⟩ := rowS_at hj; exact SL2.cellAt h1) (rowS_one S n) (by unfold maxLen; omega) (by omega) (Nat.le_refl _) ?_))
      intro v' w3 hown' hgrow _
      have HH := Lib.hid (show w3.ownsRow w2.heap.size 35 5 v' n (rowS S n) ∧ Below w2.heap.size w2 w3 from ⟨by simpa using hown', (Below.refl _ _).grown hgrow (Nat.le_refl _) (fun k e => by cases e)⟩)
      clear hown' hgrow
      go_wp2_with fail
      go_meet
      exact HH
  case rest =>
    rename World => w3
    have IB := Lib.hid (IB.out.below hcut.out.2)
    obtain ⟨s0, s1, s2, s3, s4⟩ := IB.out.subs
    clear s0 s1 s2 s3 s4 c1
    obtain ⟨s0, s1, s2, s3, s4⟩ := IB.out.subs
    have c1 := IB.out.cells.2.1
    have f1 := IB.out.o1.frozen 1
    have hcs : w2.heap.size ≤ w3.heap.size := hcut.out.2.size
    go_wp2_with (first
      | (at_builtin; refine wpList_append_own _ rfl _ _ 22 rfl w2.heap.size 35 i0 (.agg #[.int .i64 0, .int .i64 0, .int .i64 0, .int .i64 0, .int .i64 0]) 5 40 Try.underlying22 hi hz0 hz1 hz2 rfl (by decide) _ n (rowS S n) rfl (hcut.out.1.alloc _) ⟨w3.heap.size, 0, none⟩ 1 1 [.int .i64 s.raw, .int .i64 s.dry, .int .i64 s.ash, .int .i64 s.gre, .int .i64 s.veg] rfl rfl (five_cell s) five_one (by unfold maxLen; omega) (by omega) (by simp; omega) ?_))
    intro v' w4 hown' hgrow _
    rw [rowS_snoc] at hown'
    have B4 := own_growS _ hcut.out.2 hcut.out.1 hgrow
    obtain ⟨pM, cM, rfl, sm⟩ := ownSubs hown'
    have PB := Lib.hid (own_blk hown')
    have IB := Lib.hid (show FdI w w.heap.size tol (.slice pL n cL) 0 (.slice none 0 0) s w4 from by
      have h3 := hcut.out.2
      have := IB.out
      exact ⟨this.o1.keep ((B4.block _ (by have := X2.out; omega)).trans (h3.block _ (by have := X2.out; omega)).symm), this.o2.keep ((B4.block _ (by have := X2.out; omega)).trans (h3.block _ (by have := X2.out; omega)).symm), this.o3.keep ((B4.block _ (by have := X2.out; omega)).trans (h3.block _ (by have := X2.out; omega)).symm), BL2.out.trans (B4.mono BL2.out.size), rfl⟩)
    have c1 := IB.out.cells.2.1
    have f1 := IB.out.o1.frozen 1
    have SM := Lib.hid sm
    have GM := Lib.hid (pts_good (n := n) OKT.out.good ok)
    clear hown' hgrow s0 s1 s2 s3 s4 hcs B4 sm hcut
    have IB5 := Lib.hid (IB.out.setL (.slice pM (n + 1) cM))
    have SM5 := Lib.hid (show SbR (w4.setCell ⟨w.heap.size, 1, none⟩ (.slice pM (n + 1) cM)) pM (n + 1) (pts S n s) from SM.out.keepS (by simp) (fun x hx => Below.heap_setCell _ _ _ _ (show x.block ≠ w.heap.size from by have := PB.out x hx; have := X2.out; omega)))
    obtain ⟨m, hm⟩ : ∃ m, m = n + 1 := ⟨_, rfl⟩
    rw [← hm] at SM5 IB5 ⊢
    have HM := Lib.hid hm
    have em : ((n : Nat) : Int) + 1 = (m : Int) := by omega
    clear IB SM
    have PX := Lib.hid (show ∀ x, pM = some x → w2.heap.size ≤ x.block from fun x hx => (PB.out x hx).1)
    clear PB
    by_cases od : m % 2 = 1
    · have e2 : ((m : Int) % 2 == 1) = true := by simp; omega
      rw [if_pos (by omega)] at FS
      have FF := Lib.hid (show ∀ W', SbR W' pM m (pts S n s) → Below w.heap.size w W' → RfQ Q tol ⟨n, S, 0, []⟩ s w (.returned (.tuple #[.agg #[.int .i64 tol, .slice pM m cM, .int .i64 0, .slice none 0 0], .int .i64 0])) W' from fun W' q b => ⟨_, by rw [FE.out], by
        rw [FS.out]
        exact ⟨⟨GM.out, fun _ => ⟨by dsimp only; omega, rfl⟩, .inl rfl, by dsimp only; omega, fun i h => by simp at h, by simp, fun _ => rfl, fun h => by simp at h⟩, TL.out, pM, cM, none, 0, by rw [hm]; rfl, by rw [hm] at q; exact q, fun i hi => by simp at hi, fun h => by simp at h, fun _ => ⟨rfl, rfl⟩, fun y hy => hlo _ (by have := PX.out y hy; have := X2.out; omega), fun y hy => by cases hy⟩, b⟩)
      clear hm em od FE FS l0
      go_upto_region 8 with fail
      generalize w4.setCell ⟨w.heap.size, 1, none⟩ (.slice pM m cM) = w5 at *
      obtain ⟨c0, c1, c2, c3⟩ := IB5.out.cells
      obtain ⟨r0, r1, r2, r3, g0, g1, g2, g3, lw⟩ := IB5.out.res
      go_wp2_with fail
      refine bodyPost_ret (v := .tuple #[.agg #[.int .i64 tol, .slice pM m cM, .int .i64 0, .slice none 0 0], .int .i64 0]) (by simp [results, Try.results9, go_sem, r0, r1, r2, r3, lw]) rfl (FF.out _ ?_ ?_)
      · exact four_sb SM5.out (fun x hx => by have := PX.out x hx; have := X2.out; omega) _ _ _ _
      · exact four_bl IB5.out.bl (by omega) _ _ _ _
    · have e2 : ((m : Int) % 2 == 1) = false := by simp; omega
      rw [if_neg (by omega), ← hm] at FS
      have m8 : m ≤ 8 := by omega
      have m2 : 2 ≤ m := by omega
      have DK := Lib.hid (dec_ok (tol := tol) GM.out (show m % 2 = 0 by omega) (show 0 < m by omega) m8)
      have SE := Lib.hid (Int.eq_ofNat_of_zero_le TL.out.1)
      clear em od l0 hm
      go_upto_region 8 with fail
      generalize w4.setCell ⟨w.heap.size, 1, none⟩ (.slice pM m cM) = w5 at *
      obtain ⟨c0, c1, c2, c3⟩ := IB5.out.cells
      obtain ⟨x, hx, -⟩ := SM5.out 0 (by omega)
      subst hx
      have CW := Lib.hid (rwindow_any tol TL.out x cM m (pts S n s) GM.out (.int .i64 0) (.slice none 0 0) ⟨_, rfl⟩ ⟨_, _, _, rfl⟩ w5 SM5.out m8 m2)
      generalize pts S n s = A at *
      go_wp2_with fail
      refine CW.out.mono ?_
      rintro e w6 ⟨rfl, st⟩
      have IB := Lib.hid (IB5.out.below st)
      have SM := Lib.hid (SM5.out.below st)
      clear IB5 SM5 st CW c0 c1 c2 c3
      obtain ⟨c0, c1, c2, c3⟩ := IB.out.cells
      have wz : IntKind.i64.wrap ((at' m A : Int) + (zs m : Int)) = ((at' m A + zs m : Nat) : Int) := by
        rw [hwI (by have := bw_le A (ordB A m) (zs m) (m - zs m); unfold at' zs at *; omega) (by have := bw_le A (ordB A m) (zs m) (m - zs m); unfold at' zs at *; omega)]
        omega
      have AZ := Lib.hid (show at' m A + zs m ≤ m from by have := bw_le A (ordB A m) (zs m) (m - zs m); unfold at' zs at *; omega)
      have DD := Lib.hid (show dec tol m A = if fits tol m A then ⟨m, A, 1, usd (ordB A m) (at' m A) (zs m) m⟩ else if 8 ≤ m then ⟨m, A, 2, []⟩ else ⟨m, A, 0, []⟩ from rfl)
      have OO := Lib.hid (ordB_ord GM.out m)
      have SX := Lib.hid (show ∀ W, Below w6.heap.size w6 W → SbR W (some x) m A from fun W b => SM.out.below b)
      have SLT := Lib.hid (show x.block < w6.heap.size from by obtain ⟨x', e, k⟩ := SM.out 0 (by omega); cases e; have := k.blk; rw [addB] at this; exact this)
      by_cases ft : fits tol m A
      · have dt : decide (fits tol m A) = true := decide_eq_true ft
        rw [if_pos ft] at DD
        rw [dt]
        obtain ⟨j0, hj, hy0, hy1, hy2⟩ := info_parts intInfo
        have f2 := IB.out.o1.frozen 2
        have IB7 := Lib.hid (IB.out.setS 1)
        have SM7 := Lib.hid (show SbR (w6.setCell ⟨w.heap.size, 2, none⟩ (.int .i64 1)) (some x) m A from SM.out.keepS (by simp) (fun y hy => Below.heap_setCell _ _ _ _ (show y.block ≠ w.heap.size from by have := PX.out y hy; have := X2.out; omega)))
        have XW := Lib.hid (show w.heap.size + 2 < w6.heap.size from IB.out.o3.lt)
        clear ft dt SX c0 c1 c3
        go_upto_region 12 with fail
        go_upto_region 13 with fail
        generalize w6.setCell ⟨w.heap.size, 2, none⟩ (.int .i64 1) = w7 at *
        obtain ⟨c0, c1, c2, c3⟩ := IB7.out.cells
        have CO := Lib.hid (rorder_any x cM m A GM.out (.int .i64 tol) (.int .i64 1) (.slice none 0 0) ⟨_, rfl⟩ ⟨_, rfl⟩ ⟨_, _, _, rfl⟩ w7 SM7.out m8)
        go_wp2_with fail
        refine CO.out.mono ?_
        rintro e w8 ⟨q, d, rfl, nr, st, qb⟩
        have IB8 := Lib.hid (IB7.out.below st)
        have SM8 := Lib.hid (SM7.out.below st)
        have QX := Lib.hid (show ∀ y, q = some y → w.heap.size < y.block from fun y hy => by have := qb y hy; have := IB7.out.o3.lt; omega)
        have NR := Lib.hid nr
        clear nr st qb IB7 SM7 CO c0 c1 c2 c3 IB SM SLT f2
        obtain ⟨O, hO⟩ : ∃ O, O = ordB A m := ⟨_, rfl⟩
        obtain ⟨a, ha⟩ : ∃ a, a = at' m A := ⟨_, rfl⟩
        obtain ⟨z, hz⟩ : ∃ z, z = zs m := ⟨_, rfl⟩
        rw [← hO, ← ha, ← hz] at DD
        rw [← hO] at OO NR
        rw [← ha, ← hz] at AZ wz
        rw [← ha, ← hz]
        clear hO ha hz
        have wz : IntKind.i64.wrap ((a : Int) + (z : Int)) = (a : Int) + (z : Int) := by rw [wz]; omega
        have XB := Lib.hid (show w.heap.size + 2 < w8.heap.size from IB8.out.o3.lt)
        have QL := Lib.hid (show ∀ y, q = some y → y.block < w8.heap.size from fun y hy => by obtain ⟨y', e, k, -⟩ := NR.out 0 (by omega); cases hy; cases e; exact k)
        have XL := Lib.hid (show x.block < w8.heap.size from by obtain ⟨x', e, k⟩ := SM8.out 0 (by omega); cases e; have := k.blk; rw [addB] at this; exact this)
        have FF := Lib.hid (show ∀ W' pU cU, SbR W' (some x) m A → NmR W' pU z (gi (usd O a z m)) → (∀ y, pU = some y → w.heap.size + 2 < y.block) → Below w.heap.size w W' → RfQ Q tol ⟨n, S, 0, []⟩ s w (.returned (.tuple #[.agg #[.int .i64 tol, .slice (some x) m cM, .int .i64 1, .slice pU z cU], .int .i64 0])) W' from fun W' pU cU q r pb b => by
          have lz : (usd O a z m).length = z := usd_len OO.out AZ.out
          refine ⟨_, by rw [FE.out], ?_, b⟩
          rw [FS.out]
          refine ⟨DK.out, TL.out, some x, cM, pU, cU, by rw [DD.out, lz], by rw [DD.out]; exact q, by rw [DD.out]; dsimp only; rw [lz]; exact r, fun h => by rw [DD.out] at h; dsimp only at h; omega, fun h => by
            have := DK.out.u1 (by rw [DD.out])
            rw [h] at this; simp at this, fun y hy => hlo _ (by have := PX.out y hy; have := X2.out; omega), fun y hy => hlo _ (by have := pb y hy; omega)⟩)
        clear DD DK FE FS
        go_wp2_with fail
        go_loopw [11] (fun kv wr => ∃ k : Nat, k ≤ m ∧ kv = .int .i64 k ∧ Hid (∃ vU, FdI w w.heap.size tol (.slice (some x) m cM) 1 vU s wr ∧ wr.ownsRow w8.heap.size 3 1 vU (usd O a z k).length ((usd O a z k).map (Value.int .i64)) ∧ Fm (fun b => b = w.heap.size ∨ w8.heap.size ≤ b) w8 wr)) (fun kv _ => m - (intOf kv).toNat)
        case atStart => exact ⟨0, Nat.zero_le _, rfl, Lib.hid ⟨.slice none 0 0, IB8.out, World.ownsRow_nil _ _ _ _, Fm.refl _ _⟩⟩
        case round =>
          obtain ⟨k, hk, rfl, HK⟩ := hrel
          by_cases t1 : k < m
          · have k1 : (0 : Int) ≤ (k : Int) := by omega
            have k2 : (k : Int) < (m : Int) := by omega
            have T1 := Lib.hid t1
            have c1 : wr.cell? ⟨w.heap.size, 1, none⟩ = some (.slice (some x) m cM) := by obtain ⟨vU, i1, -, -⟩ := HK.out; exact i1.cells.2.1
            have HK0 := Lib.hid (show ∃ vU, FdI w w.heap.size tol (.slice (some x) m cM) 1 vU s wr ∧ wr.ownsRow w8.heap.size 3 1 vU (usd O a z k ++ prt O a k 0).length ((usd O a z k ++ prt O a k 0).map (Value.int .i64)) ∧ Fm (fun b => b = w.heap.size ∨ w8.heap.size ≤ b) w8 wr from by rw [prt_zero, List.append_nil]; exact HK.out)
            have UP := Lib.hid (usd_prt O a z k)
            clear HK t1 hk
            go_wp2_with fail
            clear c1
            go_loopw [12] (fun jv wr => ∃ j : Nat, j ≤ z ∧ jv = .int .i64 ((a + j : Nat) : Int) ∧ Hid (∃ vU, FdI w w.heap.size tol (.slice (some x) m cM) 1 vU s wr ∧ wr.ownsRow w8.heap.size 3 1 vU (usd O a z k ++ prt O a k j).length ((usd O a z k ++ prt O a k j).map (Value.int .i64)) ∧ Fm (fun b => b = w.heap.size ∨ w8.heap.size ≤ b) w8 wr)) (fun jv _ => a + z - (intOf jv).toNat)
            case atStart => exact ⟨0, Nat.zero_le _, rfl, HK0⟩
            case round =>
              obtain ⟨j, hjz, rfl, HJ⟩ := hrel
              clear HK0
              obtain ⟨p, hp⟩ : ∃ p, p = a + j := ⟨_, rfl⟩
              rw [← hp]
              by_cases t2 : j < z
              · have p1 : (0 : Int) ≤ (p : Int) := by omega
                have p2 : (p : Int) < (m : Int) := by have := AZ.out; omega
                have p3 : decide ((p : Int) < (a : Int) + (z : Int)) = true := decide_eq_true (by omega)
                have PM := Lib.hid (show p < m from by have := AZ.out; omega)
                have HP := Lib.hid hp
                clear hp
                obtain ⟨vU, i1, own, fm⟩ := HJ.out
                obtain ⟨y, ey, ky, cy⟩ := (NR.out.fm fm (fun y hy => by have := QX.out y hy; have := QL.out y hy; omega)) p PM.out
                subst ey
                have T2 := Lib.hid (show j < z from t2)
                clear t2 hjz
                by_cases hh : gi O p = (k : Int)
                · have PH := Lib.hid (prt_hit (a := a) (k := k) (j := j) OO.out (by rw [← HP.out]; exact PM.out) (by rw [← HP.out]; exact hh))
                  rw [hh] at cy
                  rw [PH.out.1, List.append_nil] at own
                  have LL := Lib.hid (show (usd O a z k).length ≤ 64 from by
                    have l : ∀ k, (usd O a z k).length ≤ k := fun k => by
                      induction k with
                      | zero => simp [usd]
                      | succ k ih => rw [usd_prt, List.length_append]; unfold prt; split <;> simp <;> omega
                    have := l k
                    have := T1.out
                    omega)
                  have c3 := i1.cells.2.2.2
                  have f3 := i1.o1.frozen 3
                  have kk : ((k : Int) == (k : Int)) = true := by simp
                  have OWN := Lib.hid own
                  have I1 := Lib.hid i1
                  have FM := Lib.hid fm
                  have LL2 := LL.out
                  have hbs : ∀ o, w8.heap.size ≤ (wr.alloc o).heap.size := fun o => by have := FM.out.size; simp; omega
                  clear own i1 fm HJ hh
                  generalize usd O a z k = U at *
                  go_wp2_with (first
                    | (at_builtin; refine wpList_append_own _ rfl _ _ 28 rfl w8.heap.size 3 j0 (.int .i64 0) 1 8 Try.underlying28 hj hy0 hy1 hy2 rfl (by decide) _ _ _ rfl (OWN.out.alloc _) ⟨wr.heap.size, 0, none⟩ 1 1 [.int .i64 (k : Int)] rfl rfl (one_cell _) one_one (by unfold maxLen; omega) (by omega) (hbs _) ?_))
                  intro vU' w9 hown' hgrow _
                  have HB9 : ∀ b, vU.ownBlock = some b → w8.heap.size ≤ b := own_ltD OWN.out
                  have I2 := Lib.hid (I1.out.grow hgrow (fun b hb => by have := HB9 b hb; have := XB.out; omega))
                  have FM2 := Lib.hid (FM.out.grow hgrow (fun b hb => .inr (HB9 b hb)))
                  have c3 := I2.out.cells.2.2.2
                  have f3 := I2.out.o1.frozen 3
                  have hown2 : w9.ownsRow w8.heap.size 3 1 vU' (U ++ [(k : Int)]).length ((U ++ [(k : Int)]).map (Value.int .i64)) := by simpa using hown'
                  obtain ⟨pV, cV, rfl, -⟩ := ownNums hown2
                  have lV : (U ++ [(k : Int)]).length = U.length + 1 := by simp
                  rw [lV] at hown2
                  have I3 := Lib.hid (I2.out.setU (.slice pV (U.length + 1) cV))
                  have OW3 := Lib.hid (own_set (g := w.heap.size) (k := 3) (a := .slice pV (U.length + 1) cV) hown2 (by have := XB.out; omega))
                  rw [lV]
                  have FM3 := Lib.hid (FM2.out.trans (Fm.set (M := fun b => b = w.heap.size ∨ w8.heap.size ≤ b) ⟨w.heap.size, 3, none⟩ (.slice pV (U.length + 1) cV) (.inl rfl)))
                  have PH2 := PH.out.2
                  clear hown' hown2 lV hgrow OWN I1 FM I2 FM2 HB9 hbs
                  go_wp2_with fail
                  generalize w9.setCell ⟨w.heap.size, 3, none⟩ (.slice pV (U.length + 1) cV) = w10 at *
                  go_roundw
                  case rel => exact ⟨j + 1, by have := T2.out; omega, by rw [show a + (j + 1) = p + 1 by have := HP.out; omega]; go_num, Lib.hid ⟨_, I3.out, by rw [PH2, show (U ++ [(k : Int)]).length = U.length + 1 by simp]; exact OW3.out, FM3.out⟩⟩
                  case measure => have := T2.out; have := HP.out; simp [intOf]; omega
                · have PM2 := Lib.hid (prt_miss (O := O) (a := a) (k := k) (j := j) (by rw [← HP.out]; exact hh))
                  have kk : (gi O p == (k : Int)) = false := by simpa using hh
                  have H2 := Lib.hid (show ∃ vU, FdI w w.heap.size tol (.slice (some x) m cM) 1 vU s wr ∧ wr.ownsRow w8.heap.size 3 1 vU (usd O a z k ++ prt O a k (j + 1)).length ((usd O a z k ++ prt O a k (j + 1)).map (Value.int .i64)) ∧ Fm (fun b => b = w.heap.size ∨ w8.heap.size ≤ b) w8 wr from ⟨vU, i1, by rw [PM2.out]; exact own, fm⟩)
                  clear own i1 fm HJ hh PM2
                  generalize gi O p = gp at *
                  go_wp2_with fail
                  go_roundw
                  case rel => exact ⟨j + 1, by have := T2.out; omega, by rw [show a + (j + 1) = p + 1 by have := HP.out; omega]; go_num, H2⟩
                  case measure => have := T2.out; have := HP.out; simp [intOf]; omega
              · obtain rfl : j = z := by omega
                have p3 : decide ((p : Int) < (a : Int) + (j : Int)) = false := decide_eq_false (by omega)
                have H2 := Lib.hid (show ∃ vU, FdI w w.heap.size tol (.slice (some x) m cM) 1 vU s wr ∧ wr.ownsRow w8.heap.size 3 1 vU (usd O a j (k + 1)).length ((usd O a j (k + 1)).map (Value.int .i64)) ∧ Fm (fun b => b = w.heap.size ∨ w8.heap.size ≤ b) w8 wr from by rw [UP.out]; exact HJ.out)
                clear HJ hp t2 hjz
                go_wp2_with fail
                go_roundw
                case rel => exact ⟨k + 1, by have := T1.out; omega, by go_num, H2⟩
                case measure => have := T1.out; simp [intOf]; omega
          · obtain rfl : k = m := by omega
            obtain ⟨vU, i1, own, fm⟩ := HK.out
            obtain ⟨pU, cU, rfl, nu⟩ := ownNums own
            have lz : (usd O a z k).length = z := usd_len OO.out AZ.out
            rw [lz] at nu i1
            have UB := own_blk own
            have I1 := Lib.hid i1
            have NU := Lib.hid nu
            have SM9 := Lib.hid (SM8.out.fm fm (fun y hy => by cases hy; have := PX.out x rfl; have := X2.out; have := XL.out; omega))
            have UX := Lib.hid (show ∀ y, pU = some y → w.heap.size + 2 < y.block from fun y hy => by have := (UB y hy).1; have := XB.out; omega)
            obtain ⟨c0, c1, c2, c3⟩ := I1.out.cells
            obtain ⟨r0, r1, r2, r3, g0, g1, g2, g3, lw⟩ := I1.out.res
            clear HK own fm i1 nu UB lz
            go_wp2_with fail
            refine bodyPost_ret (v := .tuple #[.agg #[.int .i64 tol, .slice (some x) k cM, .int .i64 1, .slice pU z cU], .int .i64 0]) (by simp [results, Try.results9, go_sem, r0, r1, r2, r3, lw]) rfl (FF.out _ _ _ ?_ ?_ UX.out ?_)
            · exact four_sb SM9.out (fun x hx => by have := PX.out x hx; have := X2.out; omega) _ _ _ _
            · exact four_nm NU.out (fun x hx => by have := UX.out x hx; omega) _ _ _ _
            · exact four_bl I1.out.bl (by omega) _ _ _ _
      · have dt : decide (fits tol m A) = false := decide_eq_false ft
        rw [if_neg ft] at DD
        rw [dt]
        by_cases m8' : 8 ≤ m
        · have d8 : decide ((8 : Int) ≤ (m : Int)) = true := decide_eq_true (by omega)
          rw [if_pos m8'] at DD
          have f2 := IB.out.o1.frozen 2
          have IB7 := Lib.hid (IB.out.setS 2)
          have SM7 := Lib.hid (show SbR (w6.setCell ⟨w.heap.size, 2, none⟩ (.int .i64 2)) (some x) m A from SM.out.keepS (by simp) (fun y hy => Below.heap_setCell _ _ _ _ (show y.block ≠ w.heap.size from by have := PX.out y hy; have := X2.out; omega)))
          have FF := Lib.hid (show ∀ W', SbR W' (some x) m A → Below w.heap.size w W' → RfQ Q tol ⟨n, S, 0, []⟩ s w (.returned (.tuple #[.agg #[.int .i64 tol, .slice (some x) m cM, .int .i64 2, .slice none 0 0], .int .i64 0])) W' from fun W' q b => ⟨_, by rw [FE.out], by
            rw [FS.out]
            refine ⟨DK.out, TL.out, some x, cM, none, 0, by rw [DD.out]; rfl, by rw [DD.out]; exact q, fun i hi => by rw [DD.out] at hi; simp at hi, fun h => by rw [DD.out] at h; dsimp only at h; omega, fun _ => ⟨rfl, rfl⟩, fun y hy => hlo _ (by have := PX.out y hy; have := X2.out; omega), fun y hy => by cases hy⟩, b⟩)
          clear ft m8' dt DD DK FE FS SX
          go_upto_region 23 with fail
          go_upto_region 24 with fail
          generalize w6.setCell ⟨w.heap.size, 2, none⟩ (.int .i64 2) = w7 at *
          obtain ⟨c0, c1, c2, c3⟩ := IB7.out.cells
          obtain ⟨r0, r1, r2, r3, g0, g1, g2, g3, lw⟩ := IB7.out.res
          go_wp2_with fail
          refine bodyPost_ret (v := .tuple #[.agg #[.int .i64 tol, .slice (some x) m cM, .int .i64 2, .slice none 0 0], .int .i64 0]) (by simp [results, Try.results9, go_sem, r0, r1, r2, r3, lw]) rfl (FF.out _ ?_ ?_)
          · exact four_sb SM7.out (fun x hx => by have := PX.out x hx; have := X2.out; omega) _ _ _ _
          · exact four_bl IB7.out.bl (by omega) _ _ _ _
        · have d8 : decide ((8 : Int) ≤ (m : Int)) = false := decide_eq_false (by omega)
          rw [if_neg m8'] at DD
          have FF := Lib.hid (show ∀ W', SbR W' (some x) m A → Below w.heap.size w W' → RfQ Q tol ⟨n, S, 0, []⟩ s w (.returned (.tuple #[.agg #[.int .i64 tol, .slice (some x) m cM, .int .i64 0, .slice none 0 0], .int .i64 0])) W' from fun W' q b => ⟨_, by rw [FE.out], by
            rw [FS.out]
            refine ⟨DK.out, TL.out, some x, cM, none, 0, by rw [DD.out]; rfl, by rw [DD.out]; exact q, fun i hi => by rw [DD.out] at hi; simp at hi, fun h => by rw [DD.out] at h; dsimp only at h; omega, fun _ => ⟨rfl, rfl⟩, fun y hy => hlo _ (by have := PX.out y hy; have := X2.out; omega), fun y hy => by cases hy⟩, b⟩)
          clear ft m8' dt DD DK FE FS SX
          obtain ⟨r0, r1, r2, r3, g0, g1, g2, g3, lw⟩ := IB.out.res
          go_wp2_with fail
          refine bodyPost_ret (v := .tuple #[.agg #[.int .i64 tol, .slice (some x) m cM, .int .i64 0, .slice none 0 0], .int .i64 0]) (by simp [results, Try.results9, go_sem, r0, r1, r2, r3, lw]) rfl (FF.out _ ?_ ?_)
          · exact four_sb SM.out (fun x hx => by have := PX.out x hx; have := X2.out; omega) _ _ _ _
          · exact four_bl IB.out.bl (by omega) _ _ _ _
end Go.Proofs.Ytkhdpmicejmabaa

/- Classing's tests: the reference's Result. -/
namespace Go.Proofs.Ytkhdpmicejmabaa
open Go.RowKit Go.Proofs.Ytkhdpmicejmabaa.Ct Go.Proofs.Ytkhdpmicejmabaa.Stb
set_option linter.unusedVariables false
set_option linter.unusedSimpArgs false

/-- What the reference's Result answers. -/
def RrQ (t : Tst) (w : World) (e : Ending) (w' : World) : Prop := Below w.heap.size w w' ∧ ((t.st ≠ 1 ∧ e = .returned (.tuple #[.agg #[.int .i64 0, .int .i64 0, .int .i64 0, .slice none 0 0], .int .i64 10])) ∨
  (t.st = 1 ∧ ∃ p c, e = .returned (.tuple #[rsV t (.slice p t.U.length c), .int .i64 0]) ∧ NmR w' p t.U.length (gi t.U)))
structure RrI (w0 : World) (X : Nat) (tol : Int) (vL : Value) (st : Int) (vU : Value) (z1 z2 z3 : Int) (W : World) : Prop where
  o0 : OB W X 30 4 (tsC tol vL st vU)
  o2 : OB W (X + 1) 39 4 (resC 0 0 0 (.slice none 0 0))
  o1 : OB W (X + 2) 39 4 (resC z1 z2 z3 vU)
  bl : Below w0.heap.size w0 W
  hx : X = w0.heap.size
section
variable {w0 W W' : World} {X : Nat} {tol : Int} {vL : Value} {st : Int} {vU : Value} {z1 z2 z3 : Int}
theorem RrI.below (h : RrI w0 X tol vL st vU z1 z2 z3 W) (b : Below W.heap.size W W') : RrI w0 X tol vL st vU z1 z2 z3 W' := ⟨h.o0.below b, h.o2.below b, h.o1.below b, h.bl.trans (b.mono h.bl.size), h.hx⟩
theorem RrI.put (h : RrI w0 X tol vL st vU z1 z2 z3 W) (k : Nat) (a y1 y2 y3 : Int) (e : ∀ j, j < 4 → updV (resC z1 z2 z3 vU) k (.int .i64 a) j = resC y1 y2 y3 vU j) : RrI w0 X tol vL st vU y1 y2 y3 (W.setCell ⟨X + 2, k, none⟩ (.int .i64 a)) :=
  ⟨h.o0.so (by omega), h.o2.so (by omega), (h.o1.set k _).ext e, h.bl.setCell (by have := h.hx; show w0.heap.size ≤ X + 2; omega) _, h.hx⟩
theorem RrI.cells (h : RrI w0 X tol vL st vU z1 z2 z3 W) : W.cell? ⟨X, 0, none⟩ = some (.int .i64 tol) ∧ W.cell? ⟨X, 1, none⟩ = some vL ∧ W.cell? ⟨X, 2, none⟩ = some (.int .i64 st) ∧ W.cell? ⟨X, 3, none⟩ = some vU :=
  ⟨h.o0.cell (k := 0) (by decide), h.o0.cell (k := 1) (by decide), h.o0.cell (k := 2) (by decide), h.o0.cell (k := 3) (by decide)⟩
theorem RrI.res (h : RrI w0 X tol vL st vU z1 z2 z3 W) : W.cell? ⟨X + 1, 0, none⟩ = some (.int .i64 0) ∧ W.cell? ⟨X + 1, 1, none⟩ = some (.int .i64 0) ∧ W.cell? ⟨X + 1, 2, none⟩ = some (.int .i64 0) ∧ W.cell? ⟨X + 1, 3, none⟩ = some (.slice none 0 0) ∧ W.frozen? ⟨X + 1, 0, none⟩ = false ∧ W.frozen? ⟨X + 1, 1, none⟩ = false ∧ W.frozen? ⟨X + 1, 2, none⟩ = false ∧ W.frozen? ⟨X + 1, 3, none⟩ = false ∧ X + 1 < W.heap.size :=
  ⟨h.o2.cell (k := 0) (by decide), h.o2.cell (k := 1) (by decide), h.o2.cell (k := 2) (by decide), h.o2.cell (k := 3) (by decide), h.o2.frozen 0, h.o2.frozen 1, h.o2.frozen 2, h.o2.frozen 3, h.o2.lt⟩
theorem RrI.own (h : RrI w0 X tol vL st vU z1 z2 z3 W) : W.cell? ⟨X + 2, 0, none⟩ = some (.int .i64 z1) ∧ W.cell? ⟨X + 2, 1, none⟩ = some (.int .i64 z2) ∧ W.cell? ⟨X + 2, 2, none⟩ = some (.int .i64 z3) ∧ W.cell? ⟨X + 2, 3, none⟩ = some vU ∧ W.frozen? ⟨X + 2, 0, none⟩ = false ∧ W.frozen? ⟨X + 2, 1, none⟩ = false ∧ W.frozen? ⟨X + 2, 2, none⟩ = false :=
  ⟨h.o1.cell (k := 0) (by decide), h.o1.cell (k := 1) (by decide), h.o1.cell (k := 2) (by decide), h.o1.cell (k := 3) (by decide), h.o1.frozen 0, h.o1.frozen 1, h.o1.frozen 2⟩
end

set_option maxRecDepth 100000 in
set_option maxHeartbeats 8000000 in
theorem rResult_any (Q : Nat → Prop) (v : Value) (tol : Int) (t : Tst) (w : World) (h : RT w Q v tol t) :
    Calls Try.prog 14 #[v] w (RrQ t w) := by
  have OKT := Lib.hid h.ok
  obtain ⟨pL, cL, pU, cU, rfl, sl, nu, -, -, -, -⟩ := h.mem
  have SL := Lib.hid sl
  have NU := Lib.hid nu
  have o0 := ob_old (ob_t4 w tol (.slice pL t.n cL) t.st (.slice pU t.U.length cU) 30) (Obj.cells #[.int .i64 0, .int .i64 0, .int .i64 0, .slice none 0 0] 39)
  have o2 : OB ((w.alloc (Obj.cells #[.int .i64 tol, .slice pL t.n cL, .int .i64 t.st, .slice pU t.U.length cU] 30)).alloc (Obj.cells #[.int .i64 0, .int .i64 0, .int .i64 0, .slice none 0 0] 39)) (w.heap.size + 1) 39 4 (resC 0 0 0 (.slice none 0 0)) := by
    have := ob_new4 (w.alloc (Obj.cells #[.int .i64 tol, .slice pL t.n cL, .int .i64 t.st, .slice pU t.U.length cU] 30)) 0 0 0 (.slice none 0 0) 39
    simpa using this
  have HB := Lib.hid (show Below w.heap.size w ((w.alloc (Obj.cells #[.int .i64 tol, .slice pL t.n cL, .int .i64 t.st, .slice pU t.U.length cU] 30)).alloc (Obj.cells #[.int .i64 0, .int .i64 0, .int .i64 0, .slice none 0 0] 39)) from ((Below.refl _ _).alloc (Nat.le_refl _) _).alloc (by simp) _)
  have SZ := Lib.hid (show ((w.alloc (Obj.cells #[.int .i64 tol, .slice pL t.n cL, .int .i64 t.st, .slice pU t.U.length cU] 30)).alloc (Obj.cells #[.int .i64 0, .int .i64 0, .int .i64 0, .slice none 0 0] 39)).heap.size = w.heap.size + 2 from by simp)
  clear h sl nu
  go_enter Try.func14, Try.ntmps14
  go_upto_region 1 with fail
  generalize ((w.alloc (Obj.cells #[.int .i64 tol, .slice pL t.n cL, .int .i64 t.st, .slice pU t.U.length cU] 30)).alloc (Obj.cells #[.int .i64 0, .int .i64 0, .int .i64 0, .slice none 0 0] 39)) = w1 at *
  have c1 : w1.cell? ⟨w.heap.size, 1, none⟩ = some (.slice pL t.n cL) := o0.cell (k := 1) (by decide)
  have c2 : w1.cell? ⟨w.heap.size, 2, none⟩ = some (.int .i64 t.st) := o0.cell (k := 2) (by decide)
  have c3 : w1.cell? ⟨w.heap.size, 3, none⟩ = some (.slice pU t.U.length cU) := o0.cell (k := 3) (by decide)
  have r0 : w1.cell? ⟨w.heap.size + 1, 0, none⟩ = some (.int .i64 0) := o2.cell (k := 0) (by decide)
  have r1 : w1.cell? ⟨w.heap.size + 1, 1, none⟩ = some (.int .i64 0) := o2.cell (k := 1) (by decide)
  have r2 : w1.cell? ⟨w.heap.size + 1, 2, none⟩ = some (.int .i64 0) := o2.cell (k := 2) (by decide)
  have r3 : w1.cell? ⟨w.heap.size + 1, 3, none⟩ = some (.slice none 0 0) := o2.cell (k := 3) (by decide)
  have g0 := o2.frozen 0
  have g1 := o2.frozen 1
  have g2 := o2.frozen 2
  have g3 := o2.frozen 3
  have lw := o2.lt
  by_cases z : t.st = 1
  case neg =>
    have z2 : (t.st == 1) = false := by simpa using z
    have FF := Lib.hid (show ∀ w', Below w.heap.size w w' → RrQ t w (.returned (.tuple #[.agg #[.int .i64 0, .int .i64 0, .int .i64 0, .slice none 0 0], .int .i64 10])) w' from fun w' B => ⟨B, .inl ⟨z, rfl⟩⟩)
    clear z o0 o2
    go_wp2_with fail
    refine bodyPost_ret (v := .tuple #[.agg #[.int .i64 0, .int .i64 0, .int .i64 0, .slice none 0 0], .int .i64 10]) (by simp [results, Try.results14, go_sem, r0, r1, r2, r3, lw]) rfl (FF.out _ ?_)
    exact four_bl HB.out (by omega) _ _ _ _
  have ul := OKT.out.u1 z
  obtain ⟨m, hm⟩ : ∃ m, m = t.U.length := ⟨_, rfl⟩
  have m8 : m ≤ 8 := by rw [hm]; exact OKT.out.ul
  have HM := Lib.hid hm
  rw [z] at c2 o0
  have FIN := Lib.hid (show ∀ W, Below w.heap.size w W → NmR W pU m (gi t.U) → RrQ t w (.returned (.tuple #[.agg #[.int .i64 (smU Sb.wl t.S t.U m), .int .i64 (smU Sb.veg t.S t.U m), .int .i64 (smU Sb.raw t.S t.U m), .slice pU m cU], .int .i64 0])) W from fun W B r => ⟨B, .inr ⟨z, pU, cU, by rw [hm]; rfl, by rw [← hm]; exact r⟩⟩)
  rw [← hm] at ul c3 NU o0
  obtain ⟨vU, hvU⟩ : ∃ vU : Value, vU = .slice pU m cU := ⟨_, rfl⟩
  obtain ⟨y, hy, yb, -⟩ := NU.out 0 ul
  have un0 := OKT.out.u 0 (by rw [← hm]; exact ul)
  obtain ⟨x, hx, xk⟩ := SL.out (gi t.U 0).toNat (by omega)
  subst hx hy
  have XW := Lib.hid (show x.block < w.heap.size ∧ y.block < w.heap.size from ⟨by have := xk.blk; rwa [addB] at this, yb⟩)
  have RI := Lib.hid (show RrI w w.heap.size tol (.slice (some x) t.n cL) 1 (.slice (some y) m cU) (smU Sb.wl t.S t.U 0) (smU Sb.veg t.S t.U 0) (smU Sb.raw t.S t.U 0) (w1.alloc (Obj.cells #[.int .i64 0, .int .i64 0, .int .i64 0, .slice (some y) m cU] 39)) from
    ⟨ob_old o0 _, ob_old o2 _, by have := ob_new4 w1 0 0 0 (.slice (some y) m cU) 39; rw [SZ.out] at this; exact this, HB.out.alloc HB.out.size _, rfl⟩)
  clear z hm hvU xk yb un0 o0 o2
  go_upto_region 4 with fail
  rw [SZ.out]
  generalize (w1.alloc (Obj.cells #[.int .i64 0, .int .i64 0, .int .i64 0, .slice (some y) m cU] 39)) = w2 at *
  clear c1 c2 c3 r0 r1 r2 r3 g0 g1 g2 g3 lw HB SZ
  go_wp2_with fail
  go_loopw [5] (fun kv wr => ∃ i : Nat, i ≤ m ∧ kv = .int .i64 i ∧ Hid (RrI w w.heap.size tol (.slice (some x) t.n cL) 1 (.slice (some y) m cU) (smU Sb.wl t.S t.U i) (smU Sb.veg t.S t.U i) (smU Sb.raw t.S t.U i) wr)) (fun kv _ => m - (intOf kv).toNat)
  case atStart => exact ⟨0, Nat.zero_le _, rfl, RI⟩
  case round =>
    obtain ⟨i, hi, rfl, HI⟩ := hrel
    clear RI
    obtain ⟨k0, k1, k2, k3⟩ := HI.out.cells
    by_cases t1 : i < m
    · have i1 : (0 : Int) ≤ (i : Int) := by omega
      have i2 : (i : Int) < (m : Int) := by omega
      have bl := HI.out.bl
      obtain ⟨y', e, -, cy⟩ := (NU.out.below bl) i t1
      cases e
      have uo := OKT.out.u i (by rw [← HM.out]; exact t1)
      obtain ⟨u, hu⟩ := Int.eq_ofNat_of_zero_le uo.1
      have un : u < t.n := by omega
      rw [hu] at cy
      have HU := Lib.hid (show (gi t.U i).toNat = u from by rw [hu]; rfl)
      obtain ⟨x', e, -, a0, a1, a2, a3, a4⟩ := (SL.out.below bl) u un
      cases e
      have GD := Lib.hid (OKT.out.good u)
      have BD := Lib.hid (show (0 ≤ smU Sb.wl t.S t.U i ∧ smU Sb.wl t.S t.U i ≤ 100000) ∧ (0 ≤ smU Sb.veg t.S t.U i ∧ smU Sb.veg t.S t.U i ≤ 100000) ∧ (0 ≤ smU Sb.raw t.S t.U i ∧ smU Sb.raw t.S t.U i ≤ 100000) from by
        have g := OKT.out.good
        have a := smU_bd (f := Sb.wl) (S := t.S) (U := t.U) (fun k => by have := Sb.bd (g k); omega) i
        have b := smU_bd (f := Sb.veg) (S := t.S) (U := t.U) (fun k => by have := Sb.bd (g k); omega) i
        have c := smU_bd (f := Sb.raw) (S := t.S) (U := t.U) (fun k => by have := Sb.bd (g k); omega) i
        omega)
      have N1 := Lib.hid (show smU Sb.wl t.S t.U (i + 1) = smU Sb.wl t.S t.U i + (t.S u).wl from by rw [← HU.out]; rfl)
      have N2 := Lib.hid (show smU Sb.veg t.S t.U (i + 1) = smU Sb.veg t.S t.U i + (t.S u).veg from by rw [← HU.out]; rfl)
      have N3 := Lib.hid (show smU Sb.raw t.S t.U (i + 1) = smU Sb.raw t.S t.U i + (t.S u).raw from by rw [← HU.out]; rfl)
      have u1 : (0 : Int) ≤ (u : Int) := by omega
      have u2 : (u : Int) < (t.n : Int) := by omega
      clear hu uo un bl
      obtain ⟨y1, y2, y3, y4, y5, y6⟩ := Sb.bd GD.out
      obtain ⟨⟨d1, d2⟩, ⟨d3, d4⟩, d5, d6⟩ := BD.out
      have e1 : IntKind.i64.wrap (smU Sb.wl t.S t.U i + (t.S u).wl) = smU Sb.wl t.S t.U i + (t.S u).wl := hwI (by omega) (by omega)
      have e2 : IntKind.i64.wrap (smU Sb.veg t.S t.U i + (t.S u).veg) = smU Sb.veg t.S t.U i + (t.S u).veg := hwI (by omega) (by omega)
      have e3 : IntKind.i64.wrap (smU Sb.raw t.S t.U i + (t.S u).raw) = smU Sb.raw t.S t.U i + (t.S u).raw := hwI (by omega) (by omega)
      have CW := Lib.hid (fun W => rwool_any (t.S u).raw (t.S u).dry (t.S u).ash (t.S u).gre (t.S u).veg GD.out W)
      have EW := Lib.hid (show (t.S u).dry - (t.S u).ash - (t.S u).gre - (t.S u).veg = (t.S u).wl from rfl)
      rw [EW.out] at CW
      clear GD BD EW y1 y2 y3 y4 y5 y6 d1 d2 d3 d4 d5 d6
      generalize smU Sb.wl t.S t.U i = z1 at *
      generalize smU Sb.veg t.S t.U i = z2 at *
      generalize smU Sb.raw t.S t.U i = z3 at *
      generalize hsu : t.S u = su at *
      clear hsu
      have AL : ∀ o, Below wr.heap.size wr (wr.alloc o) := fun o => (Below.refl _ _).alloc (Nat.le_refl _) o
      go_upto_region 7 with fail
      go_cut [6] from 21 to 29 (fun v6 wx => ∃ g, v6 = .pointer (some ⟨g, 0, none⟩) ∧ Hid (OB wx g 35 5 (sbC su) ∧ Below wr.heap.size wr wx ∧ wr.heap.size ≤ g))
      case first =>
        go_region_held3 (fun w' => w'.cell? ⟨w.heap.size, 1, none⟩ = some (.slice (some x) t.n cL) ∧ w'.cell? ⟨w.heap.size, 3, none⟩ = some (.slice (some y) m cU) ∧ w'.cell? (y.add i) = some (.int .i64 (u : Int)) ∧ w'.cell? (x.add (u * 5)) = some (.int .i64 su.raw) ∧ w'.cell? ⟨(x.add (u * 5)).block, (x.add (u * 5)).off + 1, none⟩ = some (.int .i64 su.dry) ∧ w'.cell? ⟨(x.add (u * 5)).block, (x.add (u * 5)).off + 2, none⟩ = some (.int .i64 su.ash) ∧ w'.cell? ⟨(x.add (u * 5)).block, (x.add (u * 5)).off + 3, none⟩ = some (.int .i64 su.gre) ∧ w'.cell? ⟨(x.add (u * 5)).block, (x.add (u * 5)).off + 4, none⟩ = some (.int .i64 su.veg)) (first | exact ⟨k1, k3, cy, a0, a1, a2, a3, a4⟩ | exact ⟨cellDr k1, cellDr k3, cellDr cy, cellDr a0, cellDr a1, cellDr a2, cellDr a3, cellDr a4⟩ | exact ⟨cellGr (AL _) k1, cellGr (AL _) k3, cellGr (AL _) cy, cellGr (AL _) a0, cellGr (AL _) a1, cellGr (AL _) a2, cellGr (AL _) a3, cellGr (AL _) a4⟩ | exact ⟨cellGr ((Below.refl _ _).drew.alloc (Nat.le_refl _) _) k1, cellGr ((Below.refl _ _).drew.alloc (Nat.le_refl _) _) k3, cellGr ((Below.refl _ _).drew.alloc (Nat.le_refl _) _) cy, cellGr ((Below.refl _ _).drew.alloc (Nat.le_refl _) _) a0, cellGr ((Below.refl _ _).drew.alloc (Nat.le_refl _) _) a1, cellGr ((Below.refl _ _).drew.alloc (Nat.le_refl _) _) a2, cellGr ((Below.refl _ _).drew.alloc (Nat.le_refl _) _) a3, cellGr ((Below.refl _ _).drew.alloc (Nat.le_refl _) _) a4⟩) (first | fail)
        all_goals
          go_wp2_with fail
          go_meet
          first
            | exact ⟨_, rfl, Lib.hid ⟨(ob_n5 _ _ _).below (Below.refl _ _).drew, ((Below.refl _ _).alloc (Nat.le_refl _) _).drew, Nat.le_refl _⟩⟩
            | exact ⟨_, rfl, Lib.hid ⟨ob_n5 _ _ _, (Below.refl _ _).drew.alloc (Nat.le_refl _) _, Nat.le_refl _⟩⟩
      case rest =>
        obtain ⟨g, rfl, TW⟩ := hcut
        rename World => wx
        have gx : ¬ g = w.heap.size + 2 := by have := HI.out.o1.lt; have := TW.out.2.2; omega
        have HI := Lib.hid (HI.out.below TW.out.2.1)
        have p0 : wx.cell? ⟨g, 0, none⟩ = some (.int .i64 su.raw) := TW.out.1.cell (k := 0) (by decide)
        have p1 : wx.cell? ⟨g, 1, none⟩ = some (.int .i64 su.dry) := TW.out.1.cell (k := 1) (by decide)
        have p2 : wx.cell? ⟨g, 2, none⟩ = some (.int .i64 su.ash) := TW.out.1.cell (k := 2) (by decide)
        have p3 : wx.cell? ⟨g, 3, none⟩ = some (.int .i64 su.gre) := TW.out.1.cell (k := 3) (by decide)
        have p4 : wx.cell? ⟨g, 4, none⟩ = some (.int .i64 su.veg) := TW.out.1.cell (k := 4) (by decide)
        obtain ⟨q0, q1, q2, q3, f0, f1, f2⟩ := HI.out.own
        have gl := TW.out.1.lt
        clear k0 k1 k2 k3 cy a0 a1 a2 a3 a4 AL q3
        go_wp2_with fail
        go_region_law (first
          | (go_simp; go_at_call 27; (with_reducible refine (CW.out _).mono ?_); rintro e w4 ⟨rfl, q⟩; have st : Below wx.heap.size wx w4 := (by first | exact q | exact (Below.refl _ _).drew.trans q | exact (below_drewN (Below.refl _ _) _).trans q); have TW := Lib.hid (TW.out.1.below st); have HI := Lib.hid (HI.out.below st); have q0 := cellGr st q0; have f0 := HI.out.o1.frozen 0; clear q st))
        all_goals (
          have p4 : w4.cell? ⟨g, 4, none⟩ = some (.int .i64 su.veg) := TW.out.cell (k := 4) (by decide)
          have p0 : w4.cell? ⟨g, 0, none⟩ = some (.int .i64 su.raw) := TW.out.cell (k := 0) (by decide)
          have TW := Lib.hid (TW.out.so (g' := w.heap.size + 2) (k := 0) (v := .int .i64 (z1 + su.wl)) gx)
          have HI := Lib.hid (HI.out.put 0 (z1 + su.wl) _ z2 z3 (resC_0 _ _ _ _ _))
          clear q0 q1 q2 f0 f1 f2 p0 p1 p2 p3 p4 CW
          generalize w4.setCell ⟨w.heap.size + 2, 0, none⟩ (.int .i64 (z1 + su.wl)) = w5 at *
          have p4 : w5.cell? ⟨g, 4, none⟩ = some (.int .i64 su.veg) := TW.out.cell (k := 4) (by decide)
          obtain ⟨q0, q1, q2, q3, f0, f1, f2⟩ := HI.out.own
          go_upto_region 9 with fail
          go_upto_region 10 with fail
          have TW := Lib.hid (TW.out.so (g' := w.heap.size + 2) (k := 1) (v := .int .i64 (z2 + su.veg)) gx)
          have HI := Lib.hid (HI.out.put 1 (z2 + su.veg) _ _ z3 (resC_1 _ _ _ _ _))
          clear q0 q1 q2 q3 f0 f1 f2 p4
          generalize w5.setCell ⟨w.heap.size + 2, 1, none⟩ (.int .i64 (z2 + su.veg)) = w6 at *
          have p0 : w6.cell? ⟨g, 0, none⟩ = some (.int .i64 su.raw) := TW.out.cell (k := 0) (by decide)
          obtain ⟨q0, q1, q2, q3, f0, f1, f2⟩ := HI.out.own
          have HI := Lib.hid (HI.out.put 2 (z3 + su.raw) _ _ _ (resC_2 _ _ _ _ _))
          go_wp2_with fail
          clear q0 q1 q2 q3 f0 f1 f2 p0
          generalize w6.setCell ⟨w.heap.size + 2, 2, none⟩ (.int .i64 (z3 + su.raw)) = w7 at *
          go_roundw
          case rel => exact ⟨i + 1, by omega, by go_num, by rw [N1.out, N2.out, N3.out]; exact HI⟩
          case measure => simp [intOf]; omega)
    · obtain rfl : i = m := by omega
      obtain ⟨q0, q1, q2, q3, -, -, -⟩ := HI.out.own
      obtain ⟨r0, r1, r2, r3, g0, g1, g2, g3, lw⟩ := HI.out.res
      have FF := Lib.hid FIN.out
      clear FIN
      have XL := XW.out
      have NU2 := Lib.hid (NU.out.below HI.out.bl)
      generalize smU Sb.wl t.S t.U i = z1 at *
      generalize smU Sb.veg t.S t.U i = z2 at *
      generalize smU Sb.raw t.S t.U i = z3 at *
      go_wp2_with fail
      refine bodyPost_ret (v := .tuple #[.agg #[.int .i64 z1, .int .i64 z2, .int .i64 z3, .slice (some y) i cU], .int .i64 0]) (by simp [results, Try.results14, go_sem, r0, r1, r2, r3, lw]) rfl (FF.out _ ?_ ?_)
      · exact four_bl HI.out.bl (by omega) _ _ _ _
      · exact four_nm NU2.out (fun a ha => by cases ha; omega) _ _ _ _
end Go.Proofs.Ytkhdpmicejmabaa

/- Classing's tests: what the laws compare. -/
namespace Go.Proofs.Ytkhdpmicejmabaa
open Go.RowKit Go.Proofs.Ytkhdpmicejmabaa.Ct Go.Proofs.Ytkhdpmicejmabaa.Stb
set_option linter.unusedVariables false
set_option linter.unusedSimpArgs false

set_option maxRecDepth 100000 in
set_option maxHeartbeats 2000000 in
theorem same_true (p q : Option Addr) (n c d : Nat) (M : Nat → Int) (w : World) (rp : NmR w p n M) (rq : NmR w q n M) (ln : n ≤ 1000) :
    Calls Try.prog 28 #[.slice p n c, .slice q n d] w fun e w' => e = .returned (.bool true) ∧ Below w.heap.size w w' := by
  have RP := Lib.hid rp
  have RQ := Lib.hid rq
  clear rp rq
  have nn : ((n : Int) == (n : Int)) = true := by simp
  go_enter Try.func28, Try.ntmps28
  go_wp2_with fail
  go_loopw [5] (fun kv wr => ∃ i : Nat, i ≤ n ∧ kv = .int .i64 i ∧ Hid (Below w.heap.size w wr)) (fun kv _ => n - (intOf kv).toNat)
  case atStart => exact ⟨0, Nat.zero_le _, rfl, Lib.hid (Below.refl _ _)⟩
  case round =>
    obtain ⟨i, hi, rfl, HB⟩ := hrel
    by_cases t1 : i < n
    · have i1 : (0 : Int) ≤ (i : Int) := by omega
      have i2 : (i : Int) < (n : Int) := by omega
      obtain ⟨x, rfl, -, cx⟩ := (RP.out.below HB.out) i t1
      obtain ⟨y, rfl, -, cy⟩ := (RQ.out.below HB.out) i t1
      have vv : (M i == M i) = true := by simp
      generalize M i = v at *
      go_wp2_with fail
      go_quiet (fail)
      have HB := Lib.hid (below_drewN HB.out nq)
      clear cx cy vv
      generalize wr.drewN nq = wn at *
      go_wp2_with fail
      go_roundw
      case rel => exact ⟨i + 1, by omega, by go_num, HB⟩
      case measure => simp [intOf]; omega
    · obtain rfl : i = n := by omega
      go_wp2_with fail
      go_ret
      exact ⟨rfl, HB.out⟩
set_option maxRecDepth 100000 in
set_option maxHeartbeats 2000000 in
theorem found_true (z1 z2 z3 : Int) (p q : Option Addr) (n c d : Nat) (M : Nat → Int) (w : World) (rp : NmR w p n M) (rq : NmR w q n M) (ln : n ≤ 1000) :
    Calls Try.prog 15 #[.agg #[.int .i64 z1, .int .i64 z2, .int .i64 z3, .slice p n c], .agg #[.int .i64 z1, .int .i64 z2, .int .i64 z3, .slice q n d]] w fun e w' => e = .returned (.bool true) ∧ Below w.heap.size w w' := by
  have oa := ob_old (ob_new4 w z1 z2 z3 (.slice p n c) 39) (Obj.cells #[.int .i64 z1, .int .i64 z2, .int .i64 z3, .slice q n d] 39)
  have ob : OB ((w.alloc (Obj.cells #[.int .i64 z1, .int .i64 z2, .int .i64 z3, .slice p n c] 39)).alloc (Obj.cells #[.int .i64 z1, .int .i64 z2, .int .i64 z3, .slice q n d] 39)) (w.heap.size + 1) 39 4 (resC z1 z2 z3 (.slice q n d)) := by
    have := ob_new4 (w.alloc (Obj.cells #[.int .i64 z1, .int .i64 z2, .int .i64 z3, .slice p n c] 39)) z1 z2 z3 (.slice q n d) 39
    simpa using this
  have HB : Below w.heap.size w ((w.alloc (Obj.cells #[.int .i64 z1, .int .i64 z2, .int .i64 z3, .slice p n c] 39)).alloc (Obj.cells #[.int .i64 z1, .int .i64 z2, .int .i64 z3, .slice q n d] 39)) := ((Below.refl _ _).alloc (Nat.le_refl _) _).alloc (by simp) _
  have CS := Lib.hid (same_true p q n c d M _ (rp.below HB) (rq.below HB) ln)
  have KB := Lib.hid HB
  have e1 : (z1 == z1) = true := by simp
  have e2 : (z2 == z2) = true := by simp
  have e3 : (z3 == z3) = true := by simp
  clear rp rq HB
  go_enter Try.func15, Try.ntmps15
  go_upto_region 1 with fail
  generalize ((w.alloc (Obj.cells #[.int .i64 z1, .int .i64 z2, .int .i64 z3, .slice p n c] 39)).alloc (Obj.cells #[.int .i64 z1, .int .i64 z2, .int .i64 z3, .slice q n d] 39)) = w1 at *
  have a0 : w1.cell? ⟨w.heap.size, 0, none⟩ = some (.int .i64 z1) := oa.cell (k := 0) (by decide)
  have a1 : w1.cell? ⟨w.heap.size, 1, none⟩ = some (.int .i64 z2) := oa.cell (k := 1) (by decide)
  have a2 : w1.cell? ⟨w.heap.size, 2, none⟩ = some (.int .i64 z3) := oa.cell (k := 2) (by decide)
  have a3 : w1.cell? ⟨w.heap.size, 3, none⟩ = some (.slice p n c) := oa.cell (k := 3) (by decide)
  have b0 : w1.cell? ⟨w.heap.size + 1, 0, none⟩ = some (.int .i64 z1) := ob.cell (k := 0) (by decide)
  have b1 : w1.cell? ⟨w.heap.size + 1, 1, none⟩ = some (.int .i64 z2) := ob.cell (k := 1) (by decide)
  have b2 : w1.cell? ⟨w.heap.size + 1, 2, none⟩ = some (.int .i64 z3) := ob.cell (k := 2) (by decide)
  have b3 : w1.cell? ⟨w.heap.size + 1, 3, none⟩ = some (.slice q n d) := ob.cell (k := 3) (by decide)
  clear oa ob
  go_wp2_with fail
  refine CS.out.mono ?_
  rintro e w2 ⟨rfl, st⟩
  have KB := Lib.hid (KB.out.trans (st.mono KB.out.size))
  clear st
  go_wp2_with fail
  go_ret
  exact ⟨rfl, KB.out⟩
end Go.Proofs.Ytkhdpmicejmabaa
