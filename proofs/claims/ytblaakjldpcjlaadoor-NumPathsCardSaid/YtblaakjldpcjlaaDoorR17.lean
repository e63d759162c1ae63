/- The reference's Lowest of a denominator below 0; Make. -/
import Derived.Test.YtblaakjldpcjlaaDoorR16
namespace Go.Proofs.YtblaakjldpcjlaaDoor
open Go.RowKit
set_option linter.unusedVariables false
set_option linter.unusedSimpArgs false

/-- The two numbers' boxes may be written. -/
def Free4 (w v : World) : Prop := v.frozen? ⟨w.heap.size, 0, none⟩ = false ∧ v.frozen? ⟨w.heap.size, 1, none⟩ = false ∧ v.frozen? ⟨w.heap.size + 1, 0, none⟩ = false ∧ v.frozen? ⟨w.heap.size + 1, 1, none⟩ = false
theorem Free4.below {w v v' : World} (h : Free4 w v) (hz : w.heap.size + 1 + 1 < v.heap.size) (hb : Below v.heap.size v v') : Free4 w v' := by
  have z0 : w.heap.size < v.heap.size := by omega
  have z1 : w.heap.size + 1 < v.heap.size := by omega
  exact ⟨(hb.frozen (p := ⟨w.heap.size, 0, none⟩) z0).trans h.1, (hb.frozen (p := ⟨w.heap.size, 1, none⟩) z0).trans h.2.1, (hb.frozen (p := ⟨w.heap.size + 1, 0, none⟩) z1).trans h.2.2.1, (hb.frozen (p := ⟨w.heap.size + 1, 1, none⟩) z1).trans h.2.2.2⟩
theorem Free4.new (w : World) (s t : Bool) (P Q : Value) : Free4 w (((w.alloc (Obj.cells #[Value.bool s, P] 30)).alloc (Obj.cells #[Value.bool t, Q] 30)).alloc (Obj.cells #[Value.int .i64 0, Value.int .i64 0] 23)) := by
  refine ⟨?_, ?_, ?_, ?_⟩ <;> simp [go_sem]

set_option maxRecDepth 100000 in
set_option maxHeartbeats 4000000 in
theorem Lowest_neg {N : Nat} (p q : Option Addr) (c d : Nat) (l m : List Int) (X Y : Int) (w : World) (A : BigR N w p l X) (B : BigR N w q m Y) (hY : Y < 0) (hN : N ≤ 80000) :
    Calls Tryd.prog 68 #[.agg #[.bool (decide (X < 0)), .slice p l.length c], .agg #[.bool (decide (Y < 0)), .slice q m.length d]] w (Res (IsFrac X Y) w) := by
  have K := BoxF.new w (decide (X < 0)) (decide (Y < 0)) (.slice p l.length c) (.slice q m.length d)
  have ht : decide (Y < 0) = true := by simpa using hY
  have FR := Free4.new w (decide (X < 0)) (decide (Y < 0)) (.slice p l.length c) (.slice q m.length d)
  have NX := Lib.hid (fun W (h : Below w.heap.size w W) => Neg_any p c l X W (A.below h) (by omega))
  have NY := Lib.hid (fun W (h : Below w.heap.size w W) => Neg_any q d m Y W (B.below h) (by omega))
  rw [ht] at K NY FR ⊢
  clear ht A B
  generalize decide (X < 0) = s at *
  obtain ⟨sx, hsx⟩ : ∃ b, b = decide (-X < 0) := ⟨_, rfl⟩
  obtain ⟨sy, hsy⟩ : ∃ b, b = decide (-Y < 0) := ⟨_, rfl⟩
  unfold BigRes at NX NY
  rw [← hsx] at NX
  rw [← hsy] at NY
  have HSX := Lib.hid hsx
  have HSY := Lib.hid hsy
  clear hsx hsy
  go_enter Tryd.func68, Tryd.ntmps68
  go_upto_region 1 with fail
  generalize (((w.alloc (Obj.cells #[Value.bool s, Value.slice p l.length c] 30)).alloc (Obj.cells #[Value.bool true, Value.slice q m.length d] 30)).alloc (Obj.cells #[Value.int .i64 0, Value.int .i64 0] 23)) = v at *
  have HK := Lib.hid K
  have HF := Lib.hid FR
  have HZ := Lib.hid K.sz
  obtain ⟨k1, k2, k3, k4, k5, k6, k7, k8, k9, kb⟩ := K
  obtain ⟨q1, q2, q3, q4⟩ := FR
  go_upto_region 2 with fail
  go_cut [17] from 17 to 20 (fun _ wx => Turned N w X Y wx)
  case first =>
    have hcur : Below v.heap.size v v := Below.refl _ _
    go_region_law (first | (go_simp; go_at_call 47; first | (refine (NX.out _ (by first | exact kb | exact kb.drew | exact below_drewN kb _)).mono ?_; rintro e wx ⟨p1, l1, c1, rfl, x1, x2, x3⟩; replace hcur : Below v.heap.size v wx := (by first | exact hcur.trans (x3.mono hcur.size) | exact hcur.drew.trans (x3.mono hcur.size) | exact (below_drewN hcur _).trans (x3.mono hcur.size)); clear k1 k2 k3 k4 k5 k6 k7 k8 k9 kb q1 q2 q3 q4; obtain ⟨k1, k2, k3, k4, k5, k6, k7, k8, k9, kb⟩ := HK.out.below hcur; obtain ⟨q1, q2, q3, q4⟩ := HF.out.below HZ.out hcur; have X1 := Lib.hid x1; have X2 := Lib.hid x2; have X3 := Lib.hid x3; clear x1 x2 x3) | (refine (NY.out _ (by first | exact kb | exact kb.drew | exact below_drewN kb _)).mono ?_; rintro e wy ⟨p2, l2, c2, rfl, y1, y2, y3⟩; replace hcur : Below v.heap.size v wy := (by first | exact hcur.trans (y3.mono hcur.size) | exact hcur.drew.trans (y3.mono hcur.size) | exact (below_drewN hcur _).trans (y3.mono hcur.size)); clear k1 k2 k3 k4 k5 k6 k7 k8 k9 kb q1 q2 q3 q4; obtain ⟨k1, k2, k3, k4, k5, k6, k7, k8, k9, kb⟩ := HK.out.below hcur; obtain ⟨q1, q2, q3, q4⟩ := HF.out.below HZ.out hcur; have Y1 := Lib.hid y1; have Y2 := Lib.hid y2; have Y3 := Lib.hid y3; clear y1 y2 y3)))
    all_goals
      first
        | (have T := turned_of (c := c1) (d := c2) HK.out hcur (X1.out.below (by first | exact Y3.out | exact ((Below.refl _ _).drew).trans Y3.out)) Y1.out X2.out (fun a h => Nat.le_trans X3.out.size (Y2.out a h)); rw [← HSX.out, ← HSY.out] at T; have TT := Lib.hid T; clear T)
        | (have T := turned_of (c := c1) (d := c2) HK.out hcur X1.out (Y1.out.below (by first | exact X3.out | exact ((Below.refl _ _).drew).trans X3.out)) (fun a h => Nat.le_trans Y3.out.size (X2.out a h)) Y2.out; rw [← HSX.out, ← HSY.out] at T; have TT := Lib.hid T; clear T)
    all_goals clear X1 X2 X3 Y1 Y2 Y3 NX NY
    all_goals go_wp2_with fail
    all_goals go_meet
    all_goals exact TT.out
  case rest =>
    obtain ⟨p', l', c', q', m', d', K, bx, by'⟩ := hcut
    have ht : decide (-Y < 0) = false := by simp; omega
    have hY' : 0 < -Y := by omega
    have conv : ∀ V D E, IsFrac (-X) (-Y) V D E → IsFrac X Y V D E := fun _ _ _ h => frac_neg h
    have hXs : (bif decide (-X < 0) then -((-X).natAbs : Int) else ((-X).natAbs : Int)) = -X := sgn_abs _
    rw [ht] at K
    clear ht hY HK HF HZ HSX HSY k1 k2 k3 k4 k5 k6 k7 k8 k9 kb q1 q2 q3 q4 NX NY
    generalize decide (-X < 0) = s' at *
    generalize -X = XX at *
    generalize -Y = YY at *
    -- XX over YY, YY above 0
    have HX := Lib.hid bx
    have HY := Lib.hid by'
    have HK := Lib.hid K
    have HC := Lib.hid conv
    have HXs := Lib.hid hXs
    have Y1 : 1 ≤ (YY.natAbs : Int) := by omega
    have Y2 := Lib.hid hY'
    clear bx by' K conv hXs hY'
    obtain ⟨k1, k2, k3, k4, k5, k6, k7, k8, k9, kb⟩ := HK.out
    have GC := Lib.hid (fun W (h : Below wc.heap.size wc W) => gcdD_any N p' q' c' d' l' m' XX.natAbs YY.natAbs W HX.out.can HY.out.can (HX.out.row.below h) (HY.out.row.below h) HX.out.size HY.out.size (by omega))
    have LX := HX.out.size
    have LY := HY.out.size
    generalize hln : l'.length = nl at *
    generalize hmn : m'.length = nm at *
    have HLN := Lib.hid hln
    have HMN := Lib.hid hmn
    clear hln hmn
    go_wp2_with fail
    refine (GC.out _ (Below.refl _ _)).mono ?_
    rintro e v1 ⟨g, pg, cg, rfl, g1, g2, g3, g4⟩
    obtain ⟨G, hG⟩ : ∃ G : Int, G = (Int.gcd (XX.natAbs : Int) YY.natAbs : Int) := ⟨_, rfl⟩
    rw [← hG] at g1
    have gp : 0 < G := by
      have := Int.gcd_pos_of_ne_zero_right (XX.natAbs : Int) (show (YY.natAbs : Int) ≠ 0 by omega)
      omega
    have HG := Lib.hid hG
    clear hG
    have DX := Lib.hid (fun W (h : Below v1.heap.size v1 W) => by
      have := divD_any p' pg c' cg l' g G W HX.out.can.digs g1 gp ((HX.out.row.below g4).below h) (g3.below h) (by have := HLN.out; omega) (by omega)
      rwa [HX.out.can.val, HLN.out] at this)
    have DY := Lib.hid (fun W (h : Below v1.heap.size v1 W) => by
      have := divD_any q' pg d' cg m' g G W HY.out.can.digs g1 gp ((HY.out.row.below g4).below h) (g3.below h) (by have := HMN.out; omega) (by omega)
      rwa [HY.out.can.val, HMN.out] at this)
    have K1 := Lib.hid (HK.out.below g4)
    clear k1 k2 k3 k4 k5 k6 k7 k8 k9 kb g1 g2 g3 g4 GC
    obtain ⟨k1, k2, k3, k4, k5, k6, k7, k8, k9, kb⟩ := K1.out
    go_wp2_with fail
    refine (DX.out _ (Below.refl _ _)).mono ?_
    rintro e v2 ⟨q1, pq1, cq1, r1, pr1, cr1, rfl, a1, a2, a3, a4, a5, a6, a7⟩
    have K2 := Lib.hid (K1.out.below a7)
    have A1 := Lib.hid a1
    have A2 := Lib.hid a2
    have A3 := Lib.hid a3
    have A7 := Lib.hid a7
    clear a1 a2 a3 a4 a5 a6 a7 DX k1 k2 k3 k4 k5 k6 k7 k8 k9 kb
    obtain ⟨k1, k2, k3, k4, k5, k6, k7, k8, k9, kb⟩ := K2.out
    go_wp2_with fail
    refine (DY.out _ A7.out).mono ?_
    rintro e v3 ⟨q2, pq2, cq2, r2, pr2, cr2, rfl, b1, b2, b3, b4, b5, b6, b7⟩
    have K3 := Lib.hid (K2.out.below b7)
    have B1 := Lib.hid b1
    have B2 := Lib.hid b2
    have B3 := Lib.hid b3
    have A3' := Lib.hid (A3.out.below b7)
    clear b1 b2 b3 b4 b5 b6 b7 DY k1 k2 k3 k4 k5 k6 k7 k8 k9 kb
    obtain ⟨k1, k2, k3, k4, k5, k6, k7, k8, k9, kb⟩ := K3.out
    obtain ⟨P, hP⟩ : ∃ P, P = (bif s' then -((XX.natAbs : Int) / G) else (XX.natAbs : Int) / G) := ⟨_, rfl⟩
    have W1 := Lib.hid (whole_to hP.symm pq1 cq1 q1 v3 A1.out.digs A1.out.val A3'.out (by have := A2.out; omega))
    have HP := Lib.hid hP
    clear hP
    go_wp2_with fail
    refine (W1.out).mono ?_
    rintro e v4 ⟨pw, lw, cw, rfl, w1, w2, w3⟩
    have WI := Lib.hid (Within_any pw cw lw P 1099511627776 (by omega) (by omega) v4 w1 (by have := A2.out; omega))
    have B3' := Lib.hid (B3.out.below w3)
    have K4 := Lib.hid (K3.out.below w3)
    clear w1 w2 w3 W1 k1 k2 k3 k4 k5 k6 k7 k8 k9 kb
    generalize decide (P < 0) = sp at *
    go_wp2_with fail
    refine (WI.out).mono ?_
    rintro e v5 ⟨rfl, w4⟩
    obtain ⟨Q, hQ⟩ : ∃ Q, Q = (YY.natAbs : Int) / G := ⟨_, rfl⟩
    have K5 := Lib.hid (K4.out.below w4)
    have W2 := Lib.hid (whole_to (s := false) (X := Q) hQ.symm pq2 cq2 q2 v5 B1.out.digs B1.out.val (B3'.out.below w4) (by have := B2.out; omega))
    have HQ := Lib.hid hQ
    clear w4 WI hQ
    go_wp2_with fail
    refine (W2.out).mono ?_
    rintro e v6 ⟨px, lx, cx, rfl, x1, x2, x3⟩
    have WJ := Lib.hid (Within_any px cx lx Q 1048576 (by omega) (by omega) v6 x1 (by have := B2.out; omega))
    have K6 := Lib.hid (K5.out.below x3)
    clear x1 x2 x3 W2
    generalize decide (Q < 0) = sq at *
    go_wp2_with fail
    refine (WJ.out).mono ?_
    rintro e v7 ⟨rfl, x4⟩
    have K7 := Lib.hid (K6.out.below x4)
    clear x4 WJ
    obtain ⟨k1, k2, k3, k4, k5, k6, k7, k8, k9, kb⟩ := K7.out
    obtain ⟨E1, E2⟩ := low_end (P := P) (Q := Q) HXs.out Y2.out (by rw [← HG.out]; exact HP.out) (by rw [← HG.out]; exact HQ.out)
    have E1' := Lib.hid E1
    have E2' := Lib.hid E2
    clear E1 E2
    by_cases hp : (P.natAbs : Int) ≤ 1099511627776
    · by_cases hq : (Q.natAbs : Int) ≤ 1048576
      · have F := Lib.hid (HC.out _ _ _ (E1'.out hp hq))
        rw [show wiV P 1099511627776 = P from if_pos hp, show wiB P 1099511627776 = true from by simpa [wiB] using hp, show wiV Q 1048576 = Q from if_pos hq, show wiB Q 1048576 = true from by simpa [wiB] using hq]
        clear hp hq
        go_wp2_with fail
        refine bodyPost_ret (v := fracV P Q 0) (by simp [results, Tryd.results68, go_sem, fracV, k5, k6, k9]) rfl ⟨P, Q, 0, F.out, rfl, ?_⟩
        exact by repeat' (first | exact Below.refl _ _ | refine below_drewN ?_ _ | refine Below.setCell ?_ ?_ _ | refine Below.alloc ?_ ?_ _ | (with_reducible exact kb) | (simp; done) | (simp; omega) | omega)
      · have F := Lib.hid (HC.out _ _ _ (E2'.out (.inr (by omega))))
        rw [show wiV P 1099511627776 = P from if_pos hp, show wiB P 1099511627776 = true from by simpa [wiB] using hp, show wiV Q 1048576 = 0 from if_neg hq, show wiB Q 1048576 = false from by simpa [wiB] using hq]
        clear hp hq
        go_wp2_with fail
        refine bodyPost_ret (v := fracV 0 0 4) (by simp [results, Tryd.results68, go_sem, fracV, k5, k6, k9]) rfl ⟨0, 0, 4, F.out, rfl, ?_⟩
        exact by repeat' (first | exact Below.refl _ _ | refine below_drewN ?_ _ | refine Below.setCell ?_ ?_ _ | refine Below.alloc ?_ ?_ _ | (with_reducible exact kb) | (simp; done) | (simp; omega) | omega)
    · have F := Lib.hid (HC.out _ _ _ (E2'.out (.inl (by omega))))
      rw [show wiV P 1099511627776 = 0 from if_neg hp, show wiB P 1099511627776 = false from by simpa [wiB] using hp]
      generalize wiV Q 1048576 = vq
      generalize wiB Q 1048576 = bq
      clear hp
      go_wp2_with fail
      refine bodyPost_ret (v := fracV 0 0 4) (by simp [results, Tryd.results68, go_sem, fracV, k5, k6, k9]) rfl ⟨0, 0, 4, F.out, rfl, ?_⟩
      exact by repeat' (first | exact Below.refl _ _ | refine below_drewN ?_ _ | refine Below.setCell ?_ ?_ _ | refine Below.alloc ?_ ?_ _ | (with_reducible exact kb) | (simp; done) | (simp; omega) | omega)
end Go.Proofs.YtblaakjldpcjlaaDoor
