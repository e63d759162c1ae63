/- The reference's Rounded, of every denominator but 0. -/
import Derived.Test.YtblaakjldpcjlaaDoorR24
namespace Go.Proofs.YtblaakjldpcjlaaDoor
open Go.RowKit
set_option linter.unusedVariables false
set_option linter.unusedSimpArgs false

/-- Both numbers with their signs turned. -/
def Turned3 (N : Nat) (w v : World) (X Y : Int) (wx : World) : Prop :=
  ∃ p l c q m d, Box3 w wx (decide (-X < 0)) (decide (-Y < 0)) (.slice p (List.length l) c) (.slice q (List.length m) d) ∧ BigR N wx p l (-X) ∧ BigR N wx q m (-Y)
theorem turned3_of {N : Nat} {w v wx : World} {X Y : Int} {s t : Bool} {P Q : Value} {p q : Option Addr} {l m : List Int} {c d : Nat} (K : Box3 w v s t P Q) (hb : Below v.heap.size v wx) (A : BigR N wx p l (-X)) (B : BigR N wx q m (-Y))
    (fa : ∀ a, p = some a → v.heap.size ≤ a.block) (fb : ∀ a, q = some a → v.heap.size ≤ a.block) :
    Turned3 N w v X Y ((((wx.setCell ⟨w.heap.size, 0, none⟩ (.bool (decide (-X < 0)))).setCell ⟨w.heap.size, 1, none⟩ (.slice p l.length c)).setCell ⟨w.heap.size + 1, 0, none⟩ (.bool (decide (-Y < 0)))).setCell ⟨w.heap.size + 1, 1, none⟩ (.slice q m.length d)) := by
  have K' := K.below hb
  have sz := K.sz
  have f0 : ∀ a, p = some a → a.block ≠ w.heap.size := fun a h => by have := fa a h; omega
  have f1 : ∀ a, p = some a → a.block ≠ w.heap.size + 1 := fun a h => by have := fa a h; omega
  have e0 : ∀ a, q = some a → a.block ≠ w.heap.size := fun a h => by have := fb a h; omega
  have e1 : ∀ a, q = some a → a.block ≠ w.heap.size + 1 := fun a h => by have := fb a h; omega
  have sz' := K'.sz
  refine ⟨p, l, c, q, m, d, ?_, ⟨A.can, A.size, ?_⟩, ⟨B.can, B.size, ?_⟩⟩
  · generalize decide (-X < 0) = s'
    generalize decide (-Y < 0) = t'
    obtain ⟨k1, k2, k3, k4, k5, k6, k7, k8, k9, kb⟩ := K'
    have z0 : w.heap.size < wx.heap.size := by omega
    have z1 : w.heap.size + 1 < wx.heap.size := by omega
    refine ⟨?_, ?_, ?_, ?_, ?_, ?_, ?_, ?_, ?_, (((kb.setCell (Nat.le_refl _) _).setCell (Nat.le_refl _) _).setCell (Nat.le_succ _) _).setCell (Nat.le_succ _) _⟩
    all_goals simp [go_sem, k1, k2, k3, k4, k5, k6, k7, k8, k9, z0, z1]
  · exact (((A.row.setCell (q := ⟨w.heap.size, 0, none⟩) f0 _).setCell (q := ⟨w.heap.size, 1, none⟩) f0 _).setCell (q := ⟨w.heap.size + 1, 0, none⟩) f1 _).setCell (q := ⟨w.heap.size + 1, 1, none⟩) f1 _
  · exact (((B.row.setCell (q := ⟨w.heap.size, 0, none⟩) e0 _).setCell (q := ⟨w.heap.size, 1, none⟩) e0 _).setCell (q := ⟨w.heap.size + 1, 0, none⟩) e1 _).setCell (q := ⟨w.heap.size + 1, 1, none⟩) e1 _
/-- The two numbers' boxes may be written. -/
def Free3 (w v : World) : Prop := v.frozen? ⟨w.heap.size, 0, none⟩ = false ∧ v.frozen? ⟨w.heap.size, 1, none⟩ = false ∧ v.frozen? ⟨w.heap.size + 1, 0, none⟩ = false ∧ v.frozen? ⟨w.heap.size + 1, 1, none⟩ = false
theorem Free3.below {w v v' : World} (h : Free3 w v) (hz : w.heap.size + 1 + 1 < v.heap.size) (hb : Below v.heap.size v v') : Free3 w v' := by
  have z0 : w.heap.size < v.heap.size := by omega
  have z1 : w.heap.size + 1 < v.heap.size := by omega
  exact ⟨(hb.frozen (p := ⟨w.heap.size, 0, none⟩) z0).trans h.1, (hb.frozen (p := ⟨w.heap.size, 1, none⟩) z0).trans h.2.1, (hb.frozen (p := ⟨w.heap.size + 1, 0, none⟩) z1).trans h.2.2.1, (hb.frozen (p := ⟨w.heap.size + 1, 1, none⟩) z1).trans h.2.2.2⟩
theorem Free3.new (w : World) (s t : Bool) (P Q : Value) : Free3 w (((w.alloc (Obj.cells #[Value.bool s, P] 30)).alloc (Obj.cells #[Value.bool t, Q] 30)).alloc (Obj.cells #[Value.bool false, Value.slice none 0 0] 30)) := by
  refine ⟨?_, ?_, ?_, ?_⟩ <;> simp [go_sem]

set_option maxRecDepth 100000 in
set_option maxHeartbeats 8000000 in
theorem Rounded_neg {N : Nat} (p q : Option Addr) (c d : Nat) (l m : List Int) (X Y mode : Int) (w : World) (A : BigR N w p l X) (B : BigR N w q m Y) (hY : Y < 0) (m0 : 0 ≤ mode) (m4 : mode ≤ 4) (hN : N ≤ 70000) :
    Calls Tryd.prog 64 #[.agg #[.bool (decide (X < 0)), .slice p l.length c], .agg #[.bool (decide (Y < 0)), .slice q m.length d], .int .i64 mode] w (BigRes (N + 6) (rz (-X) (-Y) mode) w) := by
  have K := Box3.new w (decide (X < 0)) (decide (Y < 0)) (.slice p l.length c) (.slice q m.length d)
  have ht : decide (Y < 0) = true := by simpa using hY
  have FR := Free3.new w (decide (X < 0)) (decide (Y < 0)) (.slice p l.length c) (.slice q m.length d)
  have NX := Lib.hid (fun W (h : Below w.heap.size w W) => Neg_any p c l X W (A.below h) (by omega))
  have NY := Lib.hid (fun W (h : Below w.heap.size w W) => Neg_any q d m Y W (B.below h) (by omega))
  rw [ht] at K NY FR ⊢
  clear ht A B
  generalize decide (X < 0) = s at *
  obtain ⟨sx, hsx⟩ : ∃ b, b = decide (-X < 0) := ⟨_, rfl⟩
  obtain ⟨sy, hsy⟩ : ∃ b, b = decide (-Y < 0) := ⟨_, rfl⟩
  unfold BigRes at NX NY
  rw [← hsx] at NX
  rw [← hsy] at NY
  have HSX := Lib.hid hsx
  have HSY := Lib.hid hsy
  clear hsx hsy
  go_enter Tryd.func64, Tryd.ntmps64
  go_upto_region 1 with fail
  generalize (((w.alloc (Obj.cells #[Value.bool s, Value.slice p l.length c] 30)).alloc (Obj.cells #[Value.bool true, Value.slice q m.length d] 30)).alloc (Obj.cells #[Value.bool false, Value.slice none 0 0] 30)) = v at *
  have HK := Lib.hid K
  have HF := Lib.hid FR
  have HZ := Lib.hid K.sz
  obtain ⟨k1, k2, k3, k4, k5, k6, k7, k8, k9, kb⟩ := K
  obtain ⟨q1, q2, q3, q4⟩ := FR
  go_upto_region 2 with fail
  go_cut [13] from 13 to 16 (fun _ wx => Turned3 N w v X Y wx)
  case first =>
    have hcur : Below v.heap.size v v := Below.refl _ _
    go_region_law (first | (go_simp; go_at_call 47; first | ((with_reducible refine (NX.out _ (by first | exact kb | exact kb.drew | exact below_drewN kb _)).mono ?_); rintro e wx ⟨p1, l1, c1, rfl, x1, x2, x3⟩; replace hcur : Below v.heap.size v wx := (by first | exact hcur.trans (x3.mono hcur.size) | exact hcur.drew.trans (x3.mono hcur.size) | exact (below_drewN hcur _).trans (x3.mono hcur.size)); clear k1 k2 k3 k4 k5 k6 k7 k8 k9 kb q1 q2 q3 q4; obtain ⟨k1, k2, k3, k4, k5, k6, k7, k8, k9, kb⟩ := HK.out.below hcur; obtain ⟨q1, q2, q3, q4⟩ := HF.out.below HZ.out hcur; have X1 := Lib.hid x1; have X2 := Lib.hid x2; have X3 := Lib.hid x3; clear x1 x2 x3) | ((with_reducible refine (NY.out _ (by first | exact kb | exact kb.drew | exact below_drewN kb _)).mono ?_); rintro e wy ⟨p2, l2, c2, rfl, y1, y2, y3⟩; replace hcur : Below v.heap.size v wy := (by first | exact hcur.trans (y3.mono hcur.size) | exact hcur.drew.trans (y3.mono hcur.size) | exact (below_drewN hcur _).trans (y3.mono hcur.size)); clear k1 k2 k3 k4 k5 k6 k7 k8 k9 kb q1 q2 q3 q4; obtain ⟨k1, k2, k3, k4, k5, k6, k7, k8, k9, kb⟩ := HK.out.below hcur; obtain ⟨q1, q2, q3, q4⟩ := HF.out.below HZ.out hcur; have Y1 := Lib.hid y1; have Y2 := Lib.hid y2; have Y3 := Lib.hid y3; clear y1 y2 y3)))
    all_goals
      first
        | (have T := turned3_of (c := c1) (d := c2) HK.out hcur (X1.out.below (by first | exact Y3.out | exact ((Below.refl _ _).drew).trans Y3.out)) Y1.out X2.out (fun a h => Nat.le_trans X3.out.size (Y2.out a h)); rw [← HSX.out, ← HSY.out] at T; have TT := Lib.hid T; clear T)
        | (have T := turned3_of (c := c1) (d := c2) HK.out hcur X1.out (Y1.out.below (by first | exact X3.out | exact ((Below.refl _ _).drew).trans X3.out)) (fun a h => Nat.le_trans Y3.out.size (X2.out a h)) Y2.out; rw [← HSX.out, ← HSY.out] at T; have TT := Lib.hid T; clear T)
    all_goals clear X1 X2 X3 Y1 Y2 Y3 NX NY
    all_goals go_wp2_with fail
    all_goals go_meet
    all_goals exact TT.out
  case rest =>
    obtain ⟨p', l', c', q', m', d', K, bx, by'⟩ := hcut
    have ht : decide (-Y < 0) = false := by simp; omega
    have hY' : 0 < -Y := by omega
    rw [ht] at K
    obtain ⟨s', hs'⟩ : ∃ b, b = decide (-X < 0) := ⟨_, rfl⟩
    obtain ⟨u, hu⟩ : ∃ b, b = decide (-X / -Y < 0) := ⟨_, rfl⟩
    rw [← hs'] at K
    clear ht hY HK HF HZ HSX HSY k1 k2 k3 k4 k5 k6 k7 k8 k9 kb q1 q2 q3 q4 NX NY
    generalize -X = XX at *
    generalize -Y = YY at *
    generalize wc = vc at *
    have HS := Lib.hid hs'
    have HU := Lib.hid hu
    clear hs' hu
    -- the core: XX over YY, YY above 0
    have ht := Lib.hid (show false = decide (YY < 0) by simp; omega)
    have LX := bx.size
    have LY := by'.size
    have OV := Lib.hid (over_any p' q' c' d' l' m' XX YY s' false u HS.out HU.out vc bx by' hY' (by omega))
    have HX := Lib.hid bx
    have HY := Lib.hid by'
    have K0 := Lib.hid K
    have m10 := Lib.hid (Int.emod_nonneg XX (show YY ≠ 0 by omega))
    have m11 := Lib.hid (Int.emod_lt_of_pos XX hY')
    have HZr := Lib.hid (show false = decide (XX % YY < 0) by have := m10.out; simp; omega)
    have HZ2 := Lib.hid (show false = decide (XX % YY + XX % YY < 0) by have := m10.out; simp; omega)
    clear bx by'
    generalize hln : l'.length = nl at *
    generalize hmn : m'.length = nm at *
    have HMN := Lib.hid hmn
    clear hln hmn
    obtain ⟨k1, k2, k3, k4, k5, k6, k7, k8, k9, kb⟩ := K
    go_wp2_with fail
    refine (OV.out).mono ?_
    rintro e v1 ⟨p1, l1, c1, p2, l2, c2, rfl, o1, o2, of, o3⟩
    have K1 := Lib.hid (Rd.new (K0.out.below o3) u false (.slice p1 l1.length c1) (.slice p2 l2.length c2))
    have al : Below v1.heap.size v1 ((v1.alloc (Obj.cells #[Value.bool u, Value.slice p1 l1.length c1] 30)).alloc (Obj.cells #[Value.bool false, Value.slice p2 l2.length c2] 30)) := ((Below.refl _ v1).alloc (Nat.le_refl _) _).alloc (by simp) _
    have QA := Lib.hid (o1.below al)
    have RA := Lib.hid (o2.below al)
    have YA := Lib.hid ((HY.out.below o3).below al)
    have OF := Lib.hid of
    have O3 := Lib.hid (o3.trans (al.mono o3.size))
    have V1 := Lib.hid o3.size
    clear o1 o2 of o3 al OV k1 k2 k3 k4 k5 k6 k7 k8 k9 kb
    go_upto_region 4 with fail
    generalize ((v1.alloc (Obj.cells #[Value.bool u, Value.slice p1 l1.length c1] 30)).alloc (Obj.cells #[Value.bool false, Value.slice p2 l2.length c2] 30)) = va at *
    generalize v1.heap.size = g at *
    obtain ⟨k1, k2, k3, k4, k5, k6, k7, k8, k9, k10, k11, k12, k13, k14, k15, k16, k17, kb⟩ := K1.out
    go_wp2_with fail
    refine (Zero_any _ _ _ _ _).mono ?_
    rintro e v2 ⟨rfl, hz⟩
    have D0 := Lib.hid (K1.out.below hz)
    have QB := Lib.hid (QA.out.below hz)
    have RB := Lib.hid (RA.out.below hz)
    have YB := Lib.hid (YA.out.below hz)
    have OB := Lib.hid (O3.out.trans (hz.mono O3.out.size))
    have L2 := RB.out.can.length_zero
    rw [show ((XX % YY).natAbs : Int) = XX % YY from by have := m10.out; omega] at L2
    clear hz k1 k2 k3 k4 k5 k6 k7 k8 k9 k10 k11 k12 k13 k14 k15 k16 k17 kb QA RA YA O3
    obtain ⟨k1, k2, k3, k4, k5, k6, k7, k8, k9, k10, k11, k12, k13, k14, k15, k16, k17, kb⟩ := D0.out
    by_cases hr : XX % YY = 0
    · have l20 := L2.2 hr
      rw [show decide (l2.length = 0) = true from by simpa using l20]
      have FIN := Lib.hid (show BigRes (N + 6) (rz XX YY mode) w (.returned (.agg #[.bool u, .slice p1 l1.length c1])) ((v2.setCell ⟨w.heap.size + 1 + 1, 0, none⟩ (.bool u)).setCell ⟨w.heap.size + 1 + 1, 1, none⟩ (.slice p1 l1.length c1)) by
        rw [rz_exact hr, HU.out]
        exact BigRes.stored (c := c1) (r := w.heap.size + 1 + 1) K0.out.bel (by omega) K0.out.sz (QB.out.more (by omega)) OF.out OB.out)
      clear L2 l20 hr
      go_wp2_with fail
      exact bodyPost_ret (v := .agg #[.bool u, .slice p1 l1.length c1]) (by simp [results, Tryd.results64, go_sem, k5, k6, k15]) rfl FIN.out
    · have l20 : ¬ l2.length = 0 := fun h => hr (L2.1 h)
      rw [show decide (l2.length = 0) = false from by simpa using l20]
      have HR := Lib.hid hr
      clear L2 l20 hr
      go_wp2_with fail
      go_region_held3 (fun w' => w'.cell? ⟨w.heap.size + 1, 0, none⟩ = some (.bool false) ∧ w'.cell? ⟨w.heap.size + 1, 1, none⟩ = some (.slice q' nm d') ∧ w'.cell? ⟨g + 1, 0, none⟩ = some (.bool false) ∧ w'.cell? ⟨g + 1, 1, none⟩ = some (.slice p2 l2.length c2))
        (first | exact ⟨k3, k4, k11, k12⟩)
        (first
          | (go_at_call 62; (with_reducible refine (plus_s (k := N + 1) (XX % YY) (XX % YY) false false false HZr.out HZr.out HZ2.out p2 p2 c2 c2 l2 l2 _ (by first | exact RB.out | exact RB.out.drew | exact RB.out.drewN _) (by first | exact RB.out | exact RB.out.drew | exact RB.out.drewN _) (by omega)).mono ?_); rintro e v3 ⟨p3, l3, c3, rfl, r1, r2, r3⟩; have st : Below v2.heap.size v2 v3 := (by first | exact r3 | exact ((Below.refl _ _).drew).trans r3 | exact (below_drewN (Below.refl _ _) _).trans r3); have D1 := Lib.hid (D0.out.below st); clear k3 k4 k11 k12 k1 k2 k5 k6 k7 k8 k9 k10 k13 k14 k15 k16 k17 kb; obtain ⟨k1, k2, k3, k4, k5, k6, k7, k8, k9, k10, k11, k12, k13, k14, k15, k16, k17, kb⟩ := D1.out; have YB_1 := Lib.hid (YB.out.below st); have QB_1 := Lib.hid (QB.out.below st); have B3 := Lib.hid r1; have OB1 := Lib.hid (OB.out.trans (st.mono OB.out.size)); clear r1 r2 r3; clear st)
          | (go_at_call 17; (with_reducible refine (compare_s' (n := N + 1 + 1) (m := N) (XX % YY + XX % YY) YY false false nm HZ2.out ht.out HMN.out p3 q' c3 d' l3 m' _ (by first | exact B3.out | exact B3.out.drew | exact B3.out.drewN _) (by first | exact YB_1.out | exact YB_1.out.drew | exact YB_1.out.drewN _) (by omega) (by omega)).mono ?_); rintro e v4 ⟨rfl, r3⟩; have st : Below v3.heap.size v3 v4 := (by first | exact r3 | exact ((Below.refl _ _).drew).trans r3 | exact (below_drewN (Below.refl _ _) _).trans r3); have D2 := Lib.hid (D1.out.below st); clear k3 k4 k11 k12 k1 k2 k5 k6 k7 k8 k9 k10 k13 k14 k15 k16 k17 kb; obtain ⟨k1, k2, k3, k4, k5, k6, k7, k8, k9, k10, k11, k12, k13, k14, k15, k16, k17, kb⟩ := D2.out; have QB_2 := Lib.hid (QB_1.out.below st); have OB2 := Lib.hid (OB1.out.trans (st.mono OB1.out.size)); clear r3; clear st))
      have key : (YY < XX % YY + XX % YY ∧ cmpZ (XX % YY + XX % YY) YY = 1) ∨ (XX % YY + XX % YY = YY ∧ cmpZ (XX % YY + XX % YY) YY = 0) ∨ (XX % YY + XX % YY < YY ∧ cmpZ (XX % YY + XX % YY) YY = -1) := by
        unfold cmpZ
        rcases Int.lt_trichotomy (XX % YY + XX % YY) YY with h | h | h
        · rw [if_pos h]; exact .inr (.inr ⟨h, rfl⟩)
        · rw [if_neg (by omega), if_neg (by omega)]; exact .inr (.inl ⟨h, rfl⟩)
        · rw [if_neg (by omega), if_pos h]; exact .inl ⟨h, rfl⟩
      have QV := Lib.hid QB_2.out.can
      have KEY := Lib.hid key
      clear key
      generalize cmpZ (XX % YY + XX % YY) YY = z at *
      generalize hn1 : l1.length = n1 at *
      have HN1 := Lib.hid hn1
      clear hn1 D0 D1 K1 YB_1 QB_1 QB RB YB OB OB1 B3
      go_upto_block 0 with fail
      go_cut [10] from 32 to 63 (fun uv wx => uv = .bool (rzU XX (XX / YY) (XX % YY) YY mode) ∧ wx = v4)
      case first =>
        rcases (by omega : mode = 0 ∨ mode = 1 ∨ mode = 2 ∨ mode = 3 ∨ mode = 4) with rfl | rfl | rfl | rfl | rfl
        · go_wp2_with fail
          go_meet
          exact ⟨congrArg _ (by simp [rzU]), rfl⟩
        · go_wp2_with fail
          go_meet
          exact ⟨congrArg _ (by simp [rzU]), rfl⟩
        · go_wp2_with fail
          go_meet
          exact ⟨congrArg _ (by rw [HS.out]; simp [rzU]), rfl⟩
        · rcases KEY.out with ⟨h, e⟩ | ⟨h, e⟩ | ⟨h, e⟩
          · have HH := Lib.hid h
            have zz : 0 ≤ z := by omega
            clear e h KEY
            go_wp2_with fail
            go_meet
            exact ⟨congrArg _ (by have := HH.out; simp [rzU]; omega), rfl⟩
          · have HH := Lib.hid h
            have zz : 0 ≤ z := by omega
            clear e h KEY
            go_wp2_with fail
            go_meet
            exact ⟨congrArg _ (by have := HH.out; simp [rzU]; omega), rfl⟩
          · have HH := Lib.hid h
            have zz : z < 0 := by omega
            clear e h KEY
            go_wp2_with fail
            go_meet
            exact ⟨congrArg _ (by have := HH.out; simp [rzU]; omega), rfl⟩
        · rcases KEY.out with ⟨h, e⟩ | ⟨h, e⟩ | ⟨h, e⟩
          · have HH := Lib.hid h
            have zz : 0 < z := by omega
            clear e h KEY
            go_wp2_with fail
            go_meet
            exact ⟨congrArg _ (by have := HH.out; simp [rzU]; omega), rfl⟩
          · have HH := Lib.hid h
            have zz : ¬ 0 < z := by omega
            have z0 : (z == 0) = true := by simpa using e
            have LZ := QV.out.length_zero
            by_cases l0 : n1 = 0
            · have VAL := Lib.hid (show XX / YY = 0 by have := LZ.1 (HN1.out.trans l0); omega)
              have l1' : n1 ≤ 0 := by omega
              clear e h KEY LZ l0
              go_wp2_with fail
              go_meet
              exact ⟨congrArg _ (by have := HH.out; rw [VAL.out]; simp [rzU]; omega), rfl⟩
            · have lp : 0 < l1.length := by have := HN1.out; omega
              have ln : 0 < n1 := by omega
              have QR := QB_2.out.row
              obtain ⟨g1, hg1, gk, gc⟩ := QR 0 lp
              have OD := odd_digit QV.out lp
              have DG := QV.out.digs _ (List.getElem_mem lp)
              generalize l1[0] = dg at *
              have HOD := Lib.hid OD
              subst hg1
              clear e h KEY LZ QR OD l0
              by_cases od : dg % 2 = 1
              · have OQ := Lib.hid od
                have od2 : (dg % 2 == 1) = true := by simpa using od
                clear od
                go_wp2_with fail
                go_meet
                exact ⟨congrArg _ (by have := HH.out; have := HOD.out; have := OQ.out; simp [rzU]; omega), rfl⟩
              · have OQ := Lib.hid (show dg % 2 = 0 by omega)
                have od2 : (dg % 2 == 1) = false := by simpa using od
                clear od
                go_wp2_with fail
                go_meet
                exact ⟨congrArg _ (by have := HH.out; have := HOD.out; have := OQ.out; simp [rzU]; omega), rfl⟩
          · have HH := Lib.hid h
            have zz : ¬ 0 < z := by omega
            have z0 : (z == 0) = false := by simp; omega
            clear e h KEY
            go_wp2_with fail
            go_meet
            exact ⟨congrArg _ (by have := HH.out; simp [rzU]; omega), rfl⟩
      case rest =>
        obtain ⟨rfl, hwc⟩ := hcut
        subst hwc
        cases hU : rzU XX (XX / YY) (XX % YY) YY mode
        · have FIN := Lib.hid (show BigRes (N + 6) (rz XX YY mode) w (.returned (.agg #[.bool u, .slice p1 n1 c1])) ((wc.setCell ⟨w.heap.size + 1 + 1, 0, none⟩ (.bool u)).setCell ⟨w.heap.size + 1 + 1, 1, none⟩ (.slice p1 n1 c1)) by
            rw [rz_down HR.out hU, HU.out, ← HN1.out]
            exact BigRes.stored (c := c1) (r := w.heap.size + 1 + 1) K0.out.bel (by omega) K0.out.sz (QB_2.out.more (by omega)) OF.out OB2.out)
          clear hU
          go_wp2_with fail
          exact bodyPost_ret (v := .agg #[.bool u, .slice p1 n1 c1]) (by simp [results, Tryd.results64, go_sem, k5, k6, k15]) rfl FIN.out
        · have RU := Lib.hid (rz_up HR.out hU)
          obtain ⟨u2, hu2⟩ : ∃ b, b = decide (XX / YY + 1 < 0) := ⟨_, rfl⟩
          have HU2 := Lib.hid hu2
          have H1 := Lib.hid (show false = decide ((1 : Int) < 0) by decide)
          clear hU hu2
          go_wp2_with fail
          go_region_law (first | (go_simp; go_at_call 16; (with_reducible refine (of_s 1 false H1.out (by omega) (by omega) _).mono ?_); rintro e v5 ⟨p7, l7, c7, rfl, r1, r2, r3⟩; have st : Below wc.heap.size wc v5 := (by first | exact r3 | exact ((Below.refl _ _).drew).trans r3 | exact (below_drewN (Below.refl _ _) _).trans r3); have D3 := Lib.hid (D2.out.below st); have OB3 := Lib.hid (OB2.out.trans (st.mono OB2.out.size)); have QB3 := Lib.hid (QB_2.out.below st); have O7 := Lib.hid r1; clear r1 r2 r3 k1 k2 k3 k4 k5 k6 k7 k8 k9 k10 k11 k12 k13 k14 k15 k16 k17 kb; obtain ⟨k1, k2, k3, k4, k5, k6, k7, k8, k9, k10, k11, k12, k13, k14, k15, k16, k17, kb⟩ := D3.out) | (go_simp; go_at_call 62; (with_reducible refine (plus_n (k := N + 5) (XX / YY) 1 u false u2 n1 HU.out H1.out HU2.out HN1.out p1 p7 c1 c7 l7 _ (by first | exact QB3.out.more (by omega) | exact QB3.out.drew.more (by omega) | exact (QB3.out.drewN _).more (by omega)) (by first | exact O7.out.more (by omega) | exact O7.out.drew.more (by omega) | exact (O7.out.drewN _).more (by omega)) (by omega)).mono ?_); rintro e v6 ⟨p8, l8, c8, rfl, r1, r2, r3⟩; have st : Below v5.heap.size v5 v6 := (by first | exact r3 | exact ((Below.refl _ _).drew).trans r3 | exact (below_drewN (Below.refl _ _) _).trans r3); have D4 := Lib.hid (D3.out.below st); have OB4 := Lib.hid (OB3.out.trans (st.mono OB3.out.size)); have R1 := Lib.hid r1; have R2 := Lib.hid (show ∀ a, p8 = some a → v5.heap.size ≤ a.block from r2); clear r1 r2 r3 k1 k2 k3 k4 k5 k6 k7 k8 k9 k10 k11 k12 k13 k14 k15 k16 k17 kb; obtain ⟨k1, k2, k3, k4, k5, k6, k7, k8, k9, k10, k11, k12, k13, k14, k15, k16, k17, kb⟩ := D4.out))
          all_goals
            have s5 := D3.out.sg
            have n8 : ∀ a, p8 = some a → a.block ≠ g := fun a h => by have := R2.out a h; omega
            have FIN := Lib.hid (show BigRes (N + 6) (rz XX YY mode) w (.returned (.agg #[.bool u2, .slice p8 l8.length c8])) ((((v6.setCell ⟨g, 0, none⟩ (.bool u2)).setCell ⟨g, 1, none⟩ (.slice p8 l8.length c8)).setCell ⟨w.heap.size + 1 + 1, 0, none⟩ (.bool u2)).setCell ⟨w.heap.size + 1 + 1, 1, none⟩ (.slice p8 l8.length c8)) by
              rw [RU.out, HU2.out]
              refine BigRes.stored (c := c8) (r := w.heap.size + 1 + 1) K0.out.bel (by omega) K0.out.sz ⟨R1.out.can, by have := R1.out.size; omega, ((R1.out.row.setCell (q := ⟨g, 0, none⟩) n8 _).setCell (q := ⟨g, 1, none⟩) n8 _)⟩ (fun a h => Nat.le_trans OB3.out.size (R2.out a h)) ((OB4.out.setCell V1.out _).setCell V1.out _))
            clear n8 s5 R1 R2 RU D3 D4 OB3 OB4 QB3 O7 QB_2 D2 OB2 OF K0 HX HY QV
          all_goals go_wp2_with fail
          all_goals exact bodyPost_ret (v := .agg #[.bool u2, .slice p8 l8.length c8]) (by simp [results, Tryd.results64, go_sem, k5, k6, k9, k10, k15, k16]) rfl FIN.out

theorem Rounded_any {N : Nat} (p q : Option Addr) (c d : Nat) (l m : List Int) (X Y mode : Int) (w : World) (A : BigR N w p l X) (B : BigR N w q m Y) (hY : Y ≠ 0) (m0 : 0 ≤ mode) (m4 : mode ≤ 4) (hN : N ≤ 70000) :
    Calls Tryd.prog 64 #[.agg #[.bool (decide (X < 0)), .slice p l.length c], .agg #[.bool (decide (Y < 0)), .slice q m.length d], .int .i64 mode] w (BigRes (N + 6) (if 0 < Y then rz X Y mode else rz (-X) (-Y) mode) w) := by
  by_cases h : 0 < Y
  · rw [if_pos h]; exact Rounded_pos p q c d l m X Y mode w A B h m0 m4 hN
  · rw [if_neg h]; exact Rounded_neg p q c d l m X Y mode w A B (by omega) m0 m4 hN
end Go.Proofs.YtblaakjldpcjlaaDoor
