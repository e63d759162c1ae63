/- The reference's Cmp. -/
import Derived.Test.YtbnbbekfackaiaaDoorR19
namespace Go.Proofs.YtbnbbekfackaiaaDoor
open Go.RowKit
set_option linter.unusedVariables false
set_option linter.unusedSimpArgs false

set_option maxRecDepth 100000 in
set_option maxHeartbeats 4000000 in
theorem rCmp_ok (an ad bn bd : Int) (ha : vldB an ad = true) (hb : vldB bn bd = true) (w : World) :
    Calls Tryd.prog 23 #[.agg #[.int .i64 an, .int .i64 ad], .agg #[.int .i64 bn, .int .i64 bd]] w fun e w' => e = .returned (.tuple #[.int .i64 (cmpZ (an * bd) (bn * ad)), .int .i64 0]) ∧ Below w.heap.size w w' := by
  obtain ⟨a1, a2, a3, a4, a5⟩ := vldB_true.1 ha
  obtain ⟨b1, b2, b3, b4, b5⟩ := vldB_true.1 hb
  have HA := Lib.hid ha; clear ha a5
  have HB := Lib.hid hb; clear hb b5
  obtain ⟨sa, hsa⟩ : ∃ b, b = decide (an < 0) := ⟨_, rfl⟩
  have Hsa := Lib.hid hsa; clear hsa
  obtain ⟨tb, htb⟩ : ∃ b, b = decide (bd < 0) := ⟨_, rfl⟩
  have Htb := Lib.hid htb; clear htb
  obtain ⟨sb, hsb⟩ : ∃ b, b = decide (bn < 0) := ⟨_, rfl⟩
  have Hsb := Lib.hid hsb; clear hsb
  obtain ⟨ta, hta⟩ : ∃ b, b = decide (ad < 0) := ⟨_, rfl⟩
  have Hta := Lib.hid hta; clear hta
  obtain ⟨u1, hu1⟩ : ∃ b, b = decide (an * bd < 0) := ⟨_, rfl⟩
  have Hu1 := Lib.hid hu1; clear hu1
  obtain ⟨u2, hu2⟩ : ∃ b, b = decide (bn * ad < 0) := ⟨_, rfl⟩
  have Hu2 := Lib.hid hu2; clear hu2
  go_enter Tryd.func23, Tryd.ntmps23
  go_wp2_with fail
  refine (rValid_any _ _ (by omega) (by omega) _).mono ?_
  rintro e w1 ⟨rfl, hb1⟩
  have K1 := Lib.hid ((Fr2.new w an ad bn bd).below hb1)
  rw [HA.out]
  clear hb1
  obtain ⟨k1, k2, k3, k4, ksz, kb⟩ := K1.out
  go_wp2_with fail
  refine (rValid_any _ _ (by omega) (by omega) _).mono ?_
  rintro e w2 ⟨rfl, hb2⟩
  have K0 := Lib.hid (K1.out.below hb2)
  rw [HB.out]
  clear hb2 k1 k2 k3 k4 ksz kb K1 HA HB
  obtain ⟨k1, k2, k3, k4, ksz, kb⟩ := K0.out
  have hfd := fld1
  go_wp2_with fail
  go_region_held3 (fun w' => w'.cell? ⟨w.heap.size, 0, none⟩ = some (.int .i64 an) ∧ w'.cell? ⟨w.heap.size, 1, none⟩ = some (.int .i64 ad) ∧ w'.cell? ⟨w.heap.size + 1, 0, none⟩ = some (.int .i64 bn) ∧ w'.cell? ⟨w.heap.size + 1, 1, none⟩ = some (.int .i64 bd))
    (first | exact ⟨k1, k2, k3, k4⟩)
    (first
      | (go_at_call 46; (with_reducible refine (of_s an sa Hsa.out (by omega) (by omega) _).mono ?_); rintro e v1 ⟨p1, l1, c1, rfl, r1, r2, r3⟩; have st : Below w2.heap.size w2 v1 := (by first | exact r3 | exact ((Below.refl _ _).drew).trans r3 | exact (below_drewN (Below.refl _ _) _).trans r3); have K1 := Lib.hid (K0.out.below st); clear k1 k2 k3 k4 ksz kb; obtain ⟨k1, k2, k3, k4, ksz, kb⟩ := K1.out; have B1 := Lib.hid r1; clear r1 r2 r3; clear st)
      | (go_at_call 46; (with_reducible refine (of_s bd tb Htb.out (by omega) (by omega) _).mono ?_); rintro e v2 ⟨p2, l2, c2, rfl, r1, r2, r3⟩; have st : Below v1.heap.size v1 v2 := (by first | exact r3 | exact ((Below.refl _ _).drew).trans r3 | exact (below_drewN (Below.refl _ _) _).trans r3); have K2 := Lib.hid (K1.out.below st); clear k1 k2 k3 k4 ksz kb; obtain ⟨k1, k2, k3, k4, ksz, kb⟩ := K2.out; have B1_2 := Lib.hid (B1.out.below st); have B2 := Lib.hid r1; clear r1 r2 r3; clear st)
      | (go_at_call 44; (with_reducible refine (times_s (n := 5) (m := 5) an bd sa tb u1 Hsa.out Htb.out Hu1.out p1 p2 c1 c2 l1 l2 _ (by first | exact B1_2.out | exact B1_2.out.drew | exact B1_2.out.drewN _) (by first | exact B2.out | exact B2.out.drew | exact B2.out.drewN _) (by omega) (by omega)).mono ?_); rintro e v3 ⟨p3, l3, c3, rfl, r1, r2, r3⟩; have st : Below v2.heap.size v2 v3 := (by first | exact r3 | exact ((Below.refl _ _).drew).trans r3 | exact (below_drewN (Below.refl _ _) _).trans r3); have K3 := Lib.hid (K2.out.below st); clear k1 k2 k3 k4 ksz kb; obtain ⟨k1, k2, k3, k4, ksz, kb⟩ := K3.out; have B3 := Lib.hid r1; clear r1 r2 r3; clear st)
      | (go_at_call 46; (with_reducible refine (of_s bn sb Hsb.out (by omega) (by omega) _).mono ?_); rintro e v4 ⟨p4, l4, c4, rfl, r1, r2, r3⟩; have st : Below v3.heap.size v3 v4 := (by first | exact r3 | exact ((Below.refl _ _).drew).trans r3 | exact (below_drewN (Below.refl _ _) _).trans r3); have K4 := Lib.hid (K3.out.below st); clear k1 k2 k3 k4 ksz kb; obtain ⟨k1, k2, k3, k4, ksz, kb⟩ := K4.out; have B3_4 := Lib.hid (B3.out.below st); have B4 := Lib.hid r1; clear r1 r2 r3; clear st)
      | (go_at_call 46; (with_reducible refine (of_s ad ta Hta.out (by omega) (by omega) _).mono ?_); rintro e v5 ⟨p5, l5, c5, rfl, r1, r2, r3⟩; have st : Below v4.heap.size v4 v5 := (by first | exact r3 | exact ((Below.refl _ _).drew).trans r3 | exact (below_drewN (Below.refl _ _) _).trans r3); have K5 := Lib.hid (K4.out.below st); clear k1 k2 k3 k4 ksz kb; obtain ⟨k1, k2, k3, k4, ksz, kb⟩ := K5.out; have B3_5 := Lib.hid (B3_4.out.below st); have B4_5 := Lib.hid (B4.out.below st); have B5 := Lib.hid r1; clear r1 r2 r3; clear st)
      | (go_at_call 44; (with_reducible refine (times_s (n := 5) (m := 5) bn ad sb ta u2 Hsb.out Hta.out Hu2.out p4 p5 c4 c5 l4 l5 _ (by first | exact B4_5.out | exact B4_5.out.drew | exact B4_5.out.drewN _) (by first | exact B5.out | exact B5.out.drew | exact B5.out.drewN _) (by omega) (by omega)).mono ?_); rintro e v6 ⟨p6, l6, c6, rfl, r1, r2, r3⟩; have st : Below v5.heap.size v5 v6 := (by first | exact r3 | exact ((Below.refl _ _).drew).trans r3 | exact (below_drewN (Below.refl _ _) _).trans r3); have K6 := Lib.hid (K5.out.below st); clear k1 k2 k3 k4 ksz kb; obtain ⟨k1, k2, k3, k4, ksz, kb⟩ := K6.out; have B3_6 := Lib.hid (B3_5.out.below st); have B6 := Lib.hid r1; clear r1 r2 r3; clear st)
      | (go_at_call 47; (with_reducible refine (compare_s (n := 10) (m := 10) (an * bd) (bn * ad) u1 u2 Hu1.out Hu2.out p3 p6 c3 c6 l3 l6 _ (by first | exact B3_6.out | exact B3_6.out.drew | exact B3_6.out.drewN _) (by first | exact B6.out | exact B6.out.drew | exact B6.out.drewN _) (by omega) (by omega)).mono ?_); rintro e v7 ⟨rfl, r3⟩; have st : Below v6.heap.size v6 v7 := (by first | exact r3 | exact ((Below.refl _ _).drew).trans r3 | exact (below_drewN (Below.refl _ _) _).trans r3); have K7 := Lib.hid (K6.out.below st); clear k1 k2 k3 k4 ksz kb; obtain ⟨k1, k2, k3, k4, ksz, kb⟩ := K7.out; clear r3; clear st))
  go_wp2_with fail
  go_ret2
  exact ⟨rfl, by first | exact kb | exact kb.drew | exact below_drewN kb _⟩
theorem rCmp_bad (an ad bn bd : Int) (x1 : -9223372036854775808 ≤ an) (x2 : an ≤ 9223372036854775807) (x3 : -9223372036854775808 ≤ bn) (x4 : bn ≤ 9223372036854775807) (h : vldB an ad = false ∨ vldB bn bd = false) (w : World) :
    Calls Tryd.prog 23 #[.agg #[.int .i64 an, .int .i64 ad], .agg #[.int .i64 bn, .int .i64 bd]] w fun e w' => e = .returned (.tuple #[.int .i64 0, .int .i64 2]) ∧ Below w.heap.size w w' := by
  by_cases ha : vldB an ad = true
  · have hb : vldB bn bd = false := by rcases h with h | h; (rw [ha] at h; cases h); exact h
    have HA := Lib.hid ha; clear ha
    have HB := Lib.hid hb; clear hb h
    go_enter Tryd.func23, Tryd.ntmps23
    go_wp2_with fail
    refine (rValid_any _ _ (by omega) (by omega) _).mono ?_
    rintro e w1 ⟨rfl, hb1⟩
    have K1 := Lib.hid ((Fr2.new w an ad bn bd).below hb1)
    rw [HA.out]
    clear hb1
    obtain ⟨k1, k2, k3, k4, ksz, kb⟩ := K1.out
    go_wp2_with fail
    refine (rValid_any _ _ (by omega) (by omega) _).mono ?_
    rintro e w2 ⟨rfl, hb2⟩
    have K0 := Lib.hid (K1.out.below hb2)
    rw [HB.out]
    clear hb2 k1 k2 k3 k4 ksz kb K1 HA HB
    obtain ⟨k1, k2, k3, k4, ksz, kb⟩ := K0.out
    go_wp2_with fail
    go_ret2
    exact ⟨rfl, kb⟩
  · have ha' : vldB an ad = false := by simpa using ha
    have HA := Lib.hid ha'; clear ha ha' h
    go_enter Tryd.func23, Tryd.ntmps23
    go_wp2_with fail
    refine (rValid_any _ _ (by omega) (by omega) _).mono ?_
    rintro e w1 ⟨rfl, hb1⟩
    have K1 := Lib.hid ((Fr2.new w an ad bn bd).below hb1)
    rw [HA.out]
    clear hb1
    obtain ⟨k1, k2, k3, k4, ksz, kb⟩ := K1.out
    go_wp2_with fail
    go_ret2
    exact ⟨rfl, kb⟩
end Go.Proofs.YtbnbbekfackaiaaDoor
