/- The law NumNearest: its walk. -/
import Derived.Test.YtblaakjldpcjlaaDoorT4
import Derived.Test.YtblaakjldpcjlaaDoorE1
namespace Go.Proofs.YtblaakjldpcjlaaDoor.numNearest
open Go.RowKit
set_option linter.unusedVariables false
set_option linter.unusedSimpArgs false

theorem carry {v v' : World} {b o : Nat} {x : Value} (hb : Below v.heap.size v v') (z : b < v.heap.size) (h : v.cell? ⟨b, o, none⟩ = some x) : v'.cell? ⟨b, o, none⟩ = some x := (hb.cell (p := ⟨b, o, none⟩) z).trans h
theorem carryF {v v' : World} {b o : Nat} {x : Bool} (hb : Below v.heap.size v v') (z : b < v.heap.size) (h : v.frozen? ⟨b, o, none⟩ = x) : v'.frozen? ⟨b, o, none⟩ = x := (hb.frozen (p := ⟨b, o, none⟩) z).trans h
theorem hne_of {b s : Nat} {p : Option Addr} (z : b < s) (h : ∀ a, p = some a → s ≤ a.block) : ∀ a, p = some a → a.block ≠ b := fun a ha => by have := h a ha; omega
structure Sq (w v : World) (g r : Nat) (V D : Int) (P : Value) : Prop where
  sm : Sm w v g V D
  o0 : v.cell? ⟨r, 0, none⟩ = some (.bool false)
  o1 : v.cell? ⟨r, 1, none⟩ = some P
  oz : r < v.heap.size
theorem Sq.below {w v v' : World} {g r : Nat} {V D : Int} {P : Value} (h : Sq w v g r V D P) (hb : Below v.heap.size v v') : Sq w v' g r V D P :=
  ⟨h.sm.below hb, (hb.cell (p := ⟨r, 0, none⟩) h.oz).trans h.o0, (hb.cell (p := ⟨r, 1, none⟩) h.oz).trans h.o1, Nat.lt_of_lt_of_le h.oz hb.size⟩

set_option maxRecDepth 100000 in
set_option maxHeartbeats 4000000 in
theorem walk (n d most p q : Int) (n1 : -9223372036854775808 ≤ n) (n2 : n ≤ 9223372036854775807) (d1 : -9223372036854775808 ≤ d) (d2 : d ≤ 9223372036854775807) (p1 : -9223372036854775808 ≤ p) (p2 : p ≤ 9223372036854775807) (q1 : -9223372036854775808 ≤ q) (q2 : q ≤ 9223372036854775807) (w : World) :
    Calls Tryd.prog 3 #[.int .i64 n, .int .i64 d, .int .i64 most, .int .i64 p, .int .i64 q] w fun e w' => e = .returned (.bool true) ∧ Below w.heap.size w w' := by
  have K0 : Hid (Below w.heap.size w w) := Below.refl _ _
  go_enter Tryd.func3, Tryd.ntmps3
  go_wp2_with fail
  refine (Best_all n d most _).mono ?_
  rintro e w1 ⟨V, D, E, rfl, R, hq⟩
  unfold fracV
  have CS := Lib.hid R
  have J0 : Hid (Sm w (w1.alloc (Obj.cells #[Value.int IntKind.i64 V, Value.int IntKind.i64 D] 23)) w1.heap.size V D) :=
    ⟨by simp [go_sem], by simp [go_sem], by simp, hq.alloc hq.size _⟩
  clear hq R K0
  go_upto_region 2 with fail
  generalize (w1.alloc (Obj.cells #[Value.int IntKind.i64 V, Value.int IntKind.i64 D] 23)) = v1 at *
  generalize w1.heap.size = g at *
  obtain ⟨xc0, xc1, xz, kb⟩ := J0.out
  rcases CS.out with ⟨rfl, BR, n3, n4, d3, d4, m1, m2⟩ | ⟨rfl, rfl, rfl, -⟩
  · clear CS
    obtain ⟨D1, hv, NE⟩ := BR
    obtain ⟨D2, D3, V1, V2, _⟩ := vldB_true.1 hv
    have HV := Lib.hid hv
    clear hv
    have D4 : (D == 0) = false := by simp; omega
    by_cases hq : q < 1 ∨ most < q
    · clear NE HV
      rcases (by omega : q < 1 ∨ (¬ q < 1 ∧ most < q)) with hq | ⟨hq, hq'⟩
      · go_wp2_with fail
        refine (alive_any _).mono ?_
        rintro e wq ⟨rfl, hq⟩
        have J9 := Lib.hid (J0.out.below (by first | exact hq | exact ((Below.refl _ _).drew).trans hq | exact (below_drewN (Below.refl _ _) _).trans hq))
        clear hq xc0 xc1 xz kb
        obtain ⟨xc0, xc1, xz, kb⟩ := J9.out
        go_wp2_with fail
        go_ret
        exact ⟨rfl, by first | exact kb | exact kb.drew | exact below_drewN kb _⟩
      · go_wp2_with fail
        refine (alive_any _).mono ?_
        rintro e wq ⟨rfl, hq⟩
        have J9 := Lib.hid (J0.out.below (by first | exact hq | exact ((Below.refl _ _).drew).trans hq | exact (below_drewN (Below.refl _ _) _).trans hq))
        clear hq xc0 xc1 xz kb
        obtain ⟨xc0, xc1, xz, kb⟩ := J9.out
        go_wp2_with fail
        go_ret
        exact ⟨rfl, by first | exact kb | exact kb.drew | exact below_drewN kb _⟩
    · have NR := NE p q (by omega) (by omega)
      clear NE
      unfold Nearer at NR
      have OF1 := fun W => off_any n d V D n1 n2 d1 d2 (by omega) (by omega) (by omega) (by omega) W
      have OF2 := fun W => off_any n d p q n1 n2 d1 d2 p1 p2 q1 q2 W
      have A0 : 0 ≤ ((n * D - V * d).natAbs : Int) := by omega
      have B0 : 0 ≤ ((n * q - p * d).natAbs : Int) := by omega
      generalize ((n * D - V * d).natAbs : Int) = A at *
      generalize ((n * q - p * d).natAbs : Int) = B at *
      replace OF1 := Lib.hid OF1
      replace OF2 := Lib.hid OF2
      have OQ := Lib.hid (fun W => of_s q false (by symm; rw [decide_eq_false_iff_not]; omega) q1 q2 W)
      have OD := Lib.hid (fun W => of_s D false (by symm; rw [decide_eq_false_iff_not]; omega) (by omega) (by omega) W)
      have Aq : 0 ≤ A * q := Int.mul_nonneg A0 (by omega)
      have BD : 0 ≤ B * D := Int.mul_nonneg B0 (by omega)
      have TQ := Lib.hid (fun W pa pb ca cb a b H1 H2 => times_s (n := 11) (m := 5) A q false false false (by symm; rw [decide_eq_false_iff_not]; omega) (by symm; rw [decide_eq_false_iff_not]; omega) (by symm; rw [decide_eq_false_iff_not]; omega) pa pb ca cb a b W H1 H2 (by omega) (by omega))
      have TD := Lib.hid (fun W pa pb ca cb a b H1 H2 => times_s (n := 11) (m := 5) B D false false false (by symm; rw [decide_eq_false_iff_not]; omega) (by symm; rw [decide_eq_false_iff_not]; omega) (by symm; rw [decide_eq_false_iff_not]; omega) pa pb ca cb a b W H1 H2 (by omega) (by omega))
      have CMP := Lib.hid (fun W pa pb ca cb a b H1 H2 => compare_s (n := 11 + 5) (m := 11 + 5) (A * q) (B * D) false false (by symm; rw [decide_eq_false_iff_not]; omega) (by symm; rw [decide_eq_false_iff_not]; omega) pa pb ca cb a b W H1 H2 (by omega) (by omega))
      replace NR := Lib.hid NR
      clear Aq BD A0 B0
      generalize A * q = X at *
      generalize B * D = Y at *
      go_wp2_with fail
      refine (OF1.out _).mono ?_
      rintro e wq1 ⟨g1, l1, h1, rfl, B1, _, hq⟩
      have hq' := (show Below _ _ wq1 from by first | exact hq | exact ((Below.refl _ _).drew).trans hq | exact (below_drewN (Below.refl _ _) _).trans hq)
      have J1 := Lib.hid (J0.out.below hq')
      have F1 := Lib.hid B1
      clear hq hq' xc0 xc1 xz kb J0 B1 OF1
      obtain ⟨xc0, xc1, xz, kb⟩ := J1.out
      go_wp2_with fail
      refine (OQ.out _).mono ?_
      rintro e wq2 ⟨g2, l2, h2, rfl, B2, _, hq⟩
      have hq' := (show Below _ _ wq2 from by first | exact hq | exact ((Below.refl _ _).drew).trans hq | exact (below_drewN (Below.refl _ _) _).trans hq)
      have J2 := Lib.hid (J1.out.below hq')
      have F1' := Lib.hid (F1.out.below hq'); clear F1; have F1 := Lib.hid F1'.out; clear F1'
      have F2 := Lib.hid B2
      clear hq hq' xc0 xc1 xz kb J1 B2 OQ
      obtain ⟨xc0, xc1, xz, kb⟩ := J2.out
      go_wp2_with fail
      refine (TQ.out _ g1 g2 h1 h2 l1 l2 F1.out F2.out).mono ?_
      rintro e wq3 ⟨g3, l3, h3, rfl, B3, _, hq⟩
      have hq' := (show Below _ _ wq3 from by first | exact hq | exact ((Below.refl _ _).drew).trans hq | exact (below_drewN (Below.refl _ _) _).trans hq)
      have J3 := Lib.hid (J2.out.below hq')
      have F3 := Lib.hid B3
      clear hq hq' xc0 xc1 xz kb J2 B3 TQ F1 F2
      obtain ⟨xc0, xc1, xz, kb⟩ := J3.out
      go_upto_region 5 with fail
      have K0 : Hid (Sq w (wq3.alloc (Obj.cells #[Value.bool false, Value.slice g3 l3.length h3] 30)) g wq3.heap.size V D (.slice g3 l3.length h3)) := ⟨J3.out.below ((Below.refl _ _).alloc (Nat.le_refl _) _), by simp [go_sem], by simp [go_sem], by simp⟩
      have FX := Lib.hid (F3.out.below ((Below.refl _ wq3).alloc (Nat.le_refl _) (Obj.cells #[Value.bool false, Value.slice g3 l3.length h3] 30)))
      clear F3 J3 xc0 xc1 xz kb
      generalize (wq3.alloc (Obj.cells #[Value.bool false, Value.slice g3 l3.length h3] 30)) = U at *
      generalize wq3.heap.size = r at *
      obtain ⟨⟨xc0, xc1, xz, kb⟩, o0, o1, oz⟩ := K0.out
      have us0 : U.heap.size ≤ U.heap.size := Nat.le_refl _
      have bu0 : Below U.heap.size U U := Below.refl _ _
      have gU : g < U.heap.size := xz
      have gz : ¬ U.heap.size = g := by omega
      have gz' : ¬ g = U.heap.size := by omega
      go_cut [14] from 53 to 61 (fun bv wx => ∃ bk g6 l6 h6, bv = .pointer (some ⟨bk, 0, none⟩) ∧ Hid (Below U.heap.size U wx) ∧ Hid (BigR (11 + 5) wx g6 l6 Y) ∧ Hid (wx.cell? ⟨bk, 0, none⟩ = some (.bool false) ∧ wx.cell? ⟨bk, 1, none⟩ = some (.slice g6 (List.length l6) h6) ∧ bk < wx.heap.size))
      case first =>
        go_region_held3 (fun w' => w'.cell? ⟨g, 1, none⟩ = some (.int .i64 D))
          (first | exact xc1 | (have z1 : ¬ g = v4.heap.size := (by omega); have z2 : ¬ v4.heap.size = g := (by omega); simp [go_sem, xc1, xz, z1, z2]; done) | (have z1 : ¬ g = v5.heap.size := (by omega); have z2 : ¬ v5.heap.size = g := (by omega); simp [go_sem, xc1, xz, z1, z2]; done) | (have z1 : ¬ g = v6.heap.size := (by omega); have z2 : ¬ v6.heap.size = g := (by omega); simp [go_sem, xc1, xz, z1, z2]; done) | (simp [go_sem, xc1, xz, gz, gz']; done) | go_keep)
          (first
            | (go_at_call 15; (with_reducible refine (OF2.out _).mono ?_); rintro e v4 ⟨g4, l4, h4, rfl, r1, r2, r3⟩; have st : Below U.heap.size U v4 := (by first | exact r3 | exact ((Below.refl _ _).drew).trans r3 | exact (below_drewN (Below.refl _ _) _).trans r3 | exact ((Below.refl _ _).alloc (Nat.le_refl _) _).trans (r3.mono (by simp)) | exact (((Below.refl _ _).drew).alloc (by simp) _).trans (r3.mono (by simp))); (first | (have a0n := carry st az a0; have a1n := carry st az a1; have f0n := carryF st az f0; have f1n := carryF st az f1; have azn := Nat.lt_of_lt_of_le az st.size; clear a0 a1 f0 f1 az; have a0 := a0n; have a1 := a1n; have f0 := f0n; have f1 := f1n; have az := azn; clear a0n a1n f0n f1n azn) | (have a0 := r3.cell (p := ⟨U.heap.size, 0, none⟩) (by simp; done); have a1 := r3.cell (p := ⟨U.heap.size, 1, none⟩) (by simp; done); have f0 := r3.frozen (p := ⟨U.heap.size, 0, none⟩) (by simp; done); have f1 := r3.frozen (p := ⟨U.heap.size, 1, none⟩) (by simp; done); have az : U.heap.size < v4.heap.size := (by have := r3.size; simp at this; omega); have bB : U.heap.size ≤ U.heap.size := (by omega); simp [go_sem] at a0 a1 f0 f1) | skip); have K1 := Lib.hid (K0.out.below st); clear xc0 xc1 xz kb o0 o1 oz; obtain ⟨⟨xc0, xc1, xz, kb⟩, o0, o1, oz⟩ := K1.out; have bu1 : Below U.heap.size U v4 := bu0.trans (st.mono bu0.size); have us1 : U.heap.size ≤ v4.heap.size := bu1.size; have G4 := Lib.hid r1; clear r1 r2 r3 st)
            | (go_at_call 16; (with_reducible refine (OD.out _).mono ?_); rintro e v5 ⟨g5, l5, h5, rfl, r1, r2, r3⟩; have st : Below v4.heap.size v4 v5 := (by first | exact r3 | exact ((Below.refl _ _).drew).trans r3 | exact (below_drewN (Below.refl _ _) _).trans r3 | exact ((Below.refl _ _).alloc (Nat.le_refl _) _).trans (r3.mono (by simp)) | exact (((Below.refl _ _).drew).alloc (by simp) _).trans (r3.mono (by simp))); (first | (have a0n := carry st az a0; have a1n := carry st az a1; have f0n := carryF st az f0; have f1n := carryF st az f1; have azn := Nat.lt_of_lt_of_le az st.size; clear a0 a1 f0 f1 az; have a0 := a0n; have a1 := a1n; have f0 := f0n; have f1 := f1n; have az := azn; clear a0n a1n f0n f1n azn) | (have a0 := r3.cell (p := ⟨v4.heap.size, 0, none⟩) (by simp; done); have a1 := r3.cell (p := ⟨v4.heap.size, 1, none⟩) (by simp; done); have f0 := r3.frozen (p := ⟨v4.heap.size, 0, none⟩) (by simp; done); have f1 := r3.frozen (p := ⟨v4.heap.size, 1, none⟩) (by simp; done); have az : v4.heap.size < v5.heap.size := (by have := r3.size; simp at this; omega); have bB : U.heap.size ≤ v4.heap.size := (by omega); simp [go_sem] at a0 a1 f0 f1) | skip); have K2 := Lib.hid (K1.out.below st); clear xc0 xc1 xz kb o0 o1 oz; obtain ⟨⟨xc0, xc1, xz, kb⟩, o0, o1, oz⟩ := K2.out; have bu2 : Below U.heap.size U v5 := bu1.trans (st.mono bu1.size); have us2 : U.heap.size ≤ v5.heap.size := bu2.size; have G4n := Lib.hid (G4.out.below st); clear G4; have G4 := Lib.hid G4n.out; clear G4n; have G5 := Lib.hid r1; clear r1 r2 r3 st)
            | (go_at_call 14; (with_reducible refine (TD.out _ g4 g5 h4 h5 l4 l5 (by first | exact G4.out | exact G4.out.drew | exact G4.out.drewN _ | exact G4.out.below ((Below.refl _ _).alloc (Nat.le_refl _) _) | exact G4.out.below (((Below.refl _ _).drew).alloc (by simp) _)) (by first | exact G5.out | exact G5.out.drew | exact G5.out.drewN _ | exact G5.out.below ((Below.refl _ _).alloc (Nat.le_refl _) _) | exact G5.out.below (((Below.refl _ _).drew).alloc (by simp) _))).mono ?_); rintro e v6 ⟨g6, l6, h6, rfl, r1, r2, r3⟩; have st : Below v5.heap.size v5 v6 := (by first | exact r3 | exact ((Below.refl _ _).drew).trans r3 | exact (below_drewN (Below.refl _ _) _).trans r3 | exact ((Below.refl _ _).alloc (Nat.le_refl _) _).trans (r3.mono (by simp)) | exact (((Below.refl _ _).drew).alloc (by simp) _).trans (r3.mono (by simp))); (first | (have hne := hne_of az (fun a ha => by have := r2 a ha; simpa using this); have a0n := carry st az a0; have a1n := carry st az a1; have f0n := carryF st az f0; have f1n := carryF st az f1; have azn := Nat.lt_of_lt_of_le az st.size; clear a0 a1 f0 f1 az; have a0 := a0n; have a1 := a1n; have f0 := f0n; have f1 := f1n; have az := azn; clear a0n a1n f0n f1n azn) | (have hne : ∀ a, g6 = some a → a.block ≠ v5.heap.size := (fun a ha => by have := r2 a ha; simp at this; omega); have a0 := r3.cell (p := ⟨v5.heap.size, 0, none⟩) (by simp; done); have a1 := r3.cell (p := ⟨v5.heap.size, 1, none⟩) (by simp; done); have f0 := r3.frozen (p := ⟨v5.heap.size, 0, none⟩) (by simp; done); have f1 := r3.frozen (p := ⟨v5.heap.size, 1, none⟩) (by simp; done); have az : v5.heap.size < v6.heap.size := (by have := r3.size; simp at this; omega); have bB : U.heap.size ≤ v5.heap.size := (by omega); simp [go_sem] at a0 a1 f0 f1) | skip); have K3 := Lib.hid (K2.out.below st); clear xc0 xc1 xz kb o0 o1 oz; obtain ⟨⟨xc0, xc1, xz, kb⟩, o0, o1, oz⟩ := K3.out; have bu3 : Below U.heap.size U v6 := bu2.trans (st.mono bu2.size); have us3 : U.heap.size ≤ v6.heap.size := bu3.size; have G6 := Lib.hid r1; clear r1 r2 r3 st))
        · clear OF2 OD TD G4 G5 K1 K2 K3 NR CMP FX
          have y0 : (v6.alloc (Obj.cells #[Value.bool false, Value.slice g6 l6.length h6] 30)).cell? ⟨v6.heap.size, 0, none⟩ = some (.bool false) := by simp [go_sem]
          have y1 : (v6.alloc (Obj.cells #[Value.bool false, Value.slice g6 l6.length h6] 30)).cell? ⟨v6.heap.size, 1, none⟩ = some (.slice g6 l6.length h6) := by simp [go_sem]
          have yz : v6.heap.size < (v6.alloc (Obj.cells #[Value.bool false, Value.slice g6 l6.length h6] 30)).heap.size := by simp
          have bV : Hid (Below U.heap.size U (v6.alloc (Obj.cells #[Value.bool false, Value.slice g6 l6.length h6] 30))) := bu3.alloc bu3.size _
          have FY : Hid (BigR (11 + 5) (v6.alloc (Obj.cells #[Value.bool false, Value.slice g6 l6.length h6] 30)) g6 l6 Y) := G6.out.below ((Below.refl _ v6).alloc (Nat.le_refl _) (Obj.cells #[Value.bool false, Value.slice g6 l6.length h6] 30))
          have Y3 := Lib.hid (And.intro y0 (And.intro y1 yz))
          clear bu1 bu2 bu3 us1 us2 us3 G6 y0 y1 yz K0 xc0 xc1 xz kb o0 o1 oz
          go_wp2_with fail
          go_meet
          exact ⟨_, _, _, _, rfl, bV, FY, Y3⟩
        · clear OF2 OD TD G4 G5 K1 K2 K3 NR CMP FX
          have y0 : ((v6.setCell ⟨v5.heap.size, 0, none⟩ (Value.bool false)).setCell ⟨v5.heap.size, 1, none⟩ (Value.slice g6 l6.length h6)).cell? ⟨v5.heap.size, 0, none⟩ = some (.bool false) := by simp [go_sem, a0, a1]
          have y1 : ((v6.setCell ⟨v5.heap.size, 0, none⟩ (Value.bool false)).setCell ⟨v5.heap.size, 1, none⟩ (Value.slice g6 l6.length h6)).cell? ⟨v5.heap.size, 1, none⟩ = some (.slice g6 l6.length h6) := by simp [go_sem, a0, a1]
          have yz : v5.heap.size < ((v6.setCell ⟨v5.heap.size, 0, none⟩ (Value.bool false)).setCell ⟨v5.heap.size, 1, none⟩ (Value.slice g6 l6.length h6)).heap.size := by simpa using az
          have bV : Hid (Below U.heap.size U ((v6.setCell ⟨v5.heap.size, 0, none⟩ (Value.bool false)).setCell ⟨v5.heap.size, 1, none⟩ (Value.slice g6 l6.length h6))) := (bu3.setCell bB _).setCell bB _
          have FY : Hid (BigR (11 + 5) ((v6.setCell ⟨v5.heap.size, 0, none⟩ (Value.bool false)).setCell ⟨v5.heap.size, 1, none⟩ (Value.slice g6 l6.length h6)) g6 l6 Y) := ⟨G6.out.can, G6.out.size, (G6.out.row.setCell (q := ⟨v5.heap.size, 0, none⟩) hne _).setCell (q := ⟨v5.heap.size, 1, none⟩) hne _⟩
          have Y3 := Lib.hid (And.intro y0 (And.intro y1 yz))
          clear bu1 bu2 bu3 us1 us2 us3 G6 y0 y1 yz K0 xc0 xc1 xz kb o0 o1 oz
          go_wp2_with fail
          go_meet
          exact ⟨_, _, _, _, rfl, bV, FY, Y3⟩
        · clear OF2 OD TD G4 G5 K1 K2 K3 NR CMP FX
          have y0 : ((v6.setCell ⟨v4.heap.size, 0, none⟩ (Value.bool false)).setCell ⟨v4.heap.size, 1, none⟩ (Value.slice g6 l6.length h6)).cell? ⟨v4.heap.size, 0, none⟩ = some (.bool false) := by simp [go_sem, a0, a1]
          have y1 : ((v6.setCell ⟨v4.heap.size, 0, none⟩ (Value.bool false)).setCell ⟨v4.heap.size, 1, none⟩ (Value.slice g6 l6.length h6)).cell? ⟨v4.heap.size, 1, none⟩ = some (.slice g6 l6.length h6) := by simp [go_sem, a0, a1]
          have yz : v4.heap.size < ((v6.setCell ⟨v4.heap.size, 0, none⟩ (Value.bool false)).setCell ⟨v4.heap.size, 1, none⟩ (Value.slice g6 l6.length h6)).heap.size := by simpa using az
          have bV : Hid (Below U.heap.size U ((v6.setCell ⟨v4.heap.size, 0, none⟩ (Value.bool false)).setCell ⟨v4.heap.size, 1, none⟩ (Value.slice g6 l6.length h6))) := (bu3.setCell bB _).setCell bB _
          have FY : Hid (BigR (11 + 5) ((v6.setCell ⟨v4.heap.size, 0, none⟩ (Value.bool false)).setCell ⟨v4.heap.size, 1, none⟩ (Value.slice g6 l6.length h6)) g6 l6 Y) := ⟨G6.out.can, G6.out.size, (G6.out.row.setCell (q := ⟨v4.heap.size, 0, none⟩) hne _).setCell (q := ⟨v4.heap.size, 1, none⟩) hne _⟩
          have Y3 := Lib.hid (And.intro y0 (And.intro y1 yz))
          clear bu1 bu2 bu3 us1 us2 us3 G6 y0 y1 yz K0 xc0 xc1 xz kb o0 o1 oz
          go_wp2_with fail
          go_meet
          exact ⟨_, _, _, _, rfl, bV, FY, Y3⟩
        · clear OF2 OD TD G4 G5 K1 K2 K3 NR CMP FX
          have y0 : ((v6.setCell ⟨U.heap.size, 0, none⟩ (Value.bool false)).setCell ⟨U.heap.size, 1, none⟩ (Value.slice g6 l6.length h6)).cell? ⟨U.heap.size, 0, none⟩ = some (.bool false) := by simp [go_sem, a0, a1]
          have y1 : ((v6.setCell ⟨U.heap.size, 0, none⟩ (Value.bool false)).setCell ⟨U.heap.size, 1, none⟩ (Value.slice g6 l6.length h6)).cell? ⟨U.heap.size, 1, none⟩ = some (.slice g6 l6.length h6) := by simp [go_sem, a0, a1]
          have yz : U.heap.size < ((v6.setCell ⟨U.heap.size, 0, none⟩ (Value.bool false)).setCell ⟨U.heap.size, 1, none⟩ (Value.slice g6 l6.length h6)).heap.size := by simpa using az
          have bV : Hid (Below U.heap.size U ((v6.setCell ⟨U.heap.size, 0, none⟩ (Value.bool false)).setCell ⟨U.heap.size, 1, none⟩ (Value.slice g6 l6.length h6))) := (bu3.setCell bB _).setCell bB _
          have FY : Hid (BigR (11 + 5) ((v6.setCell ⟨U.heap.size, 0, none⟩ (Value.bool false)).setCell ⟨U.heap.size, 1, none⟩ (Value.slice g6 l6.length h6)) g6 l6 Y) := ⟨G6.out.can, G6.out.size, (G6.out.row.setCell (q := ⟨U.heap.size, 0, none⟩) hne _).setCell (q := ⟨U.heap.size, 1, none⟩) hne _⟩
          have Y3 := Lib.hid (And.intro y0 (And.intro y1 yz))
          clear bu1 bu2 bu3 us1 us2 us3 G6 y0 y1 yz K0 xc0 xc1 xz kb o0 o1 oz
          go_wp2_with fail
          go_meet
          exact ⟨_, _, _, _, rfl, bV, FY, Y3⟩
      case rest =>
        obtain ⟨bk, g6, l6, h6, rfl, BV, FY, Y3⟩ := hcut
        obtain ⟨y0, y1, yz⟩ := Y3.out
        have J5 := Lib.hid (K0.out.below BV.out)
        have FXX := Lib.hid (FX.out.below BV.out)
        clear bu0 us0 gU gz gz' Y3 BV OF2 OD TD xc0 xc1 xz kb o0 o1 oz
        obtain ⟨⟨xc0, xc1, xz, kb⟩, o0, o1, oz⟩ := J5.out
        go_wp2_with fail
        refine (CMP.out _ g3 g6 h3 h6 l3 l6 FXX.out FY.out).mono ?_
        rintro e x1 ⟨rfl, hq⟩
        have J6 := Lib.hid ((J5.out.below hq).sm)
        clear hq y0 y1 yz J5 CMP FX FXX FY K0 xc0 xc1 xz kb o0 o1 oz
        obtain ⟨xc0, xc1, xz, kb⟩ := J6.out
        rcases NR.out with c | ⟨c, c1 | ⟨c1, c2⟩⟩
        · rw [show cmpZ X Y = -1 from if_pos c]
          clear c NR
          go_wp2_with fail
          refine (Valid_any V D (by omega) (by omega) _).mono ?_
          rintro e wy ⟨rfl, hq⟩
          rw [HV.out]
          have J7 := Lib.hid (J6.out.below hq)
          clear hq xc0 xc1 xz kb J6
          obtain ⟨xc0, xc1, xz, kb⟩ := J7.out
          go_wp2_with fail
          refine (alive_any _).mono ?_
          rintro e wq ⟨rfl, hq⟩
          have J9 := Lib.hid (J7.out.below (by first | exact hq | exact ((Below.refl _ _).drew).trans hq | exact (below_drewN (Below.refl _ _) _).trans hq))
          clear hq xc0 xc1 xz kb
          obtain ⟨xc0, xc1, xz, kb⟩ := J9.out
          go_wp2_with fail
          go_ret
          exact ⟨rfl, by first | exact kb | exact kb.drew | exact below_drewN kb _⟩
        · rw [show cmpZ X Y = 0 from by unfold cmpZ; rw [if_neg (by omega), if_neg (by omega)]]
          clear c NR
          go_wp2_with fail
          refine (Valid_any V D (by omega) (by omega) _).mono ?_
          rintro e wy ⟨rfl, hq⟩
          rw [HV.out]
          have J7 := Lib.hid (J6.out.below hq)
          clear hq xc0 xc1 xz kb J6
          obtain ⟨xc0, xc1, xz, kb⟩ := J7.out
          go_wp2_with fail
          refine (alive_any _).mono ?_
          rintro e wq ⟨rfl, hq⟩
          have J9 := Lib.hid (J7.out.below (by first | exact hq | exact ((Below.refl _ _).drew).trans hq | exact (below_drewN (Below.refl _ _) _).trans hq))
          clear hq xc0 xc1 xz kb
          obtain ⟨xc0, xc1, xz, kb⟩ := J9.out
          go_wp2_with fail
          go_ret
          exact ⟨rfl, by first | exact kb | exact kb.drew | exact below_drewN kb _⟩
        · rw [show cmpZ X Y = 0 from by unfold cmpZ; rw [if_neg (by omega), if_neg (by omega)]]
          clear c NR
          have c3 : (D == q) = true := by simpa using c1
          have c4 : ¬ D < q := by omega
          clear c1
          go_wp2_with fail
          refine (Valid_any V D (by omega) (by omega) _).mono ?_
          rintro e wy ⟨rfl, hq⟩
          rw [HV.out]
          have J7 := Lib.hid (J6.out.below hq)
          clear hq xc0 xc1 xz kb J6
          obtain ⟨xc0, xc1, xz, kb⟩ := J7.out
          go_wp2_with fail
          refine (alive_any _).mono ?_
          rintro e wq ⟨rfl, hq⟩
          have J9 := Lib.hid (J7.out.below (by first | exact hq | exact ((Below.refl _ _).drew).trans hq | exact (below_drewN (Below.refl _ _) _).trans hq))
          clear hq xc0 xc1 xz kb
          obtain ⟨xc0, xc1, xz, kb⟩ := J9.out
          go_wp2_with fail
          go_ret
          exact ⟨rfl, by first | exact kb | exact kb.drew | exact below_drewN kb _⟩
  · clear CS
    go_wp2_with fail
    refine (alive_any _).mono ?_
    rintro e wq ⟨rfl, hq⟩
    have J9 := Lib.hid (J0.out.below (by first | exact hq | exact ((Below.refl _ _).drew).trans hq | exact (below_drewN (Below.refl _ _) _).trans hq))
    clear hq xc0 xc1 xz kb
    obtain ⟨xc0, xc1, xz, kb⟩ := J9.out
    go_wp2_with fail
    go_ret
    exact ⟨rfl, by first | exact kb | exact kb.drew | exact below_drewN kb _⟩

end Go.Proofs.YtblaakjldpcjlaaDoor.numNearest
