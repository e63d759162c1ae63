/- The reference's Arith: the quotient. -/
import Derived.Test.YtbnbbekfackaiaaDoorR21
namespace Go.Proofs.YtbnbbekfackaiaaDoor
open Go.RowKit
set_option linter.unusedVariables false
set_option linter.unusedSimpArgs false

set_option maxRecDepth 100000 in
set_option maxHeartbeats 8000000 in
theorem rArith_3 (an ad bn bd : Int) (ha : vldB an ad = true) (hb : vldB bn bd = true) (h0 : bn ≠ 0) (w : World) :
    Calls Tryd.prog 19 #[.int .i64 3, .agg #[.int .i64 an, .int .i64 ad], .agg #[.int .i64 bn, .int .i64 bd]] w (Res (IsFrac (an * bd) (ad * bn)) w) := by
  obtain ⟨a1, a2, a3, a4, a5⟩ := vldB_true.1 ha
  obtain ⟨b1, b2, b3, b4, b5⟩ := vldB_true.1 hb
  have HA := Lib.hid ha; clear ha a5
  have HB := Lib.hid hb; clear hb b5
  obtain ⟨sa, hsa⟩ : ∃ b, b = decide (an < 0) := ⟨_, rfl⟩
  have Hsa := Lib.hid hsa; clear hsa
  obtain ⟨tb, htb⟩ : ∃ b, b = decide (bd < 0) := ⟨_, rfl⟩
  have Htb := Lib.hid htb; clear htb
  obtain ⟨sb, hsb⟩ : ∃ b, b = decide (bn < 0) := ⟨_, rfl⟩
  have Hsb := Lib.hid hsb; clear hsb
  obtain ⟨ta, hta⟩ : ∃ b, b = decide (ad < 0) := ⟨_, rfl⟩
  have Hta := Lib.hid hta; clear hta
  obtain ⟨u5, hu5⟩ : ∃ b, b = decide (an * bd < 0) := ⟨_, rfl⟩
  have Hu5 := Lib.hid hu5; clear hu5
  obtain ⟨u6, hu6⟩ : ∃ b, b = decide (ad * bn < 0) := ⟨_, rfl⟩
  have Hu6 := Lib.hid hu6; clear hu6
  have HD := Lib.hid (show ad * bn ≠ 0 from Int.mul_ne_zero (by omega) h0)
  have h0' : (bn == 0) = false := by simpa using h0
  clear h0
  have O1 := Lib.hid (fun W => of_s an sa Hsa.out (by omega) (by omega) W)
  have O2 := Lib.hid (fun W => of_s ad ta Hta.out (by omega) (by omega) W)
  have O3 := Lib.hid (fun W => of_s bn sb Hsb.out (by omega) (by omega) W)
  have O4 := Lib.hid (fun W => of_s bd tb Htb.out (by omega) (by omega) W)
  go_enter Tryd.func19, Tryd.ntmps19
  go_wp2_with fail
  refine (rValid_any _ _ (by omega) (by omega) _).mono ?_
  rintro e w1 ⟨rfl, hb1⟩
  have J1 := Lib.hid ((Fr3.new w an ad bn bd).below hb1)
  rw [HA.out]
  clear hb1
  obtain ⟨k1, k2, k3, k4, k5, k6, k7, k8, ksz, kb⟩ := J1.out
  go_wp2_with fail
  refine (rValid_any _ _ (by omega) (by omega) _).mono ?_
  rintro e w2 ⟨rfl, hb2⟩
  have K0 := Lib.hid (J1.out.below hb2)
  rw [HB.out]
  clear hb2 k1 k2 k3 k4 k5 k6 k7 k8 ksz kb J1 HA HB
  go_wp2_with fail
  refine wp_region_any (by kernel_rfl) ?_
  refine wpAny_inv (by kernel_rfl) (ArI 3 an ad bn bd sa ta sb tb w) (fun L => ∀ j, j < 16 → L.getD j false = true) ?hstop ?hstep ?hend _ _ _ _ (by simp) ?hclosed ?hunl ?hinit
  case hstop => intro L h hs j hj; exact getD_bool (h j) (by rw [hs]; simp; omega)
  case hclosed =>
    intro i o ho hl
    simp [Array.getD] at hl
  case hunl => decide
  case hinit => exact ⟨undef, undef, undef, undef, undef, undef, undef, undef, undef, undef, undef, undef, undef, undef, undef, undef, rfl, Fr3.drew K0.out, (by simp [Array.getD]), (by simp [Array.getD]), (by simp [Array.getD]), (by simp [Array.getD]), (by simp [Array.getD]), (by simp [Array.getD]), (by simp [Array.getD]), (by simp [Array.getD]), (by simp [Array.getD]), (by simp [Array.getD]), (by simp [Array.getD]), (by simp [Array.getD]), (by simp [Array.getD]), (by simp [Array.getD]), (by simp [Array.getD]), (by simp [Array.getD]), (by simp [Array.getD]), (by simp [Array.getD]), (by simp [Array.getD]), (by simp [Array.getD]), (by simp [Array.getD]), (by simp [Array.getD]), (fun j hj => by simp [Array.getD])⟩
  case hend =>
    intro fuel L a v hs hc hI hst hu
    obtain ⟨y8, y9, y10, y11, x21, x22, x23, x24, x25, x26, x27, x28, x29, x30, x31, x32, rfl, K, q0, q1, q3, q4, q6, q7, q9, q10, q2, q5, q8, q11, q12, q13, q14, q15, d12_13, d12_14, d12_15, d13_14, d13_15, d14_15, hz⟩ := hI
    obtain rfl := q0 (hst 0 (by omega))
    obtain rfl := q1 (hst 1 (by omega))
    obtain rfl := q3 (hst 3 (by omega))
    obtain rfl := q4 (hst 4 (by omega))
    obtain rfl := q6 (hst 6 (by omega))
    obtain rfl := q7 (hst 7 (by omega))
    obtain rfl := q9 (hst 9 (by omega))
    obtain rfl := q10 (hst 10 (by omega))
    obtain ⟨p1, l1, c1, rfl, B1⟩ := q2 (hst 2 (by omega))
    obtain ⟨p2, l2, c2, rfl, B2⟩ := q5 (hst 5 (by omega))
    obtain ⟨p3, l3, c3, rfl, B3⟩ := q8 (hst 8 (by omega))
    obtain ⟨p4, l4, c4, rfl, B4⟩ := q11 (hst 11 (by omega))
    obtain ⟨g1, rfl, w1, h1⟩ := q12 (hst 12 (by omega))
    obtain ⟨g2, rfl, w2, h2⟩ := q13 (hst 13 (by omega))
    obtain ⟨g3, rfl, w3, h3⟩ := q14 (hst 14 (by omega))
    obtain ⟨g4, rfl, w4, h4⟩ := q15 (hst 15 (by omega))
    have n12 : ¬ g1 = g2 := by have := d12_13 (hst 12 (by omega)) (hst 13 (by omega)); simpa using this
    have n21 : ¬ g2 = g1 := fun e => n12 e.symm
    have n13 : ¬ g1 = g3 := by have := d12_14 (hst 12 (by omega)) (hst 14 (by omega)); simpa using this
    have n31 : ¬ g3 = g1 := fun e => n13 e.symm
    have n14 : ¬ g1 = g4 := by have := d12_15 (hst 12 (by omega)) (hst 15 (by omega)); simpa using this
    have n41 : ¬ g4 = g1 := fun e => n14 e.symm
    have n23 : ¬ g2 = g3 := by have := d13_14 (hst 13 (by omega)) (hst 14 (by omega)); simpa using this
    have n32 : ¬ g3 = g2 := fun e => n23 e.symm
    have n24 : ¬ g2 = g4 := by have := d13_15 (hst 13 (by omega)) (hst 15 (by omega)); simpa using this
    have n42 : ¬ g4 = g2 := fun e => n24 e.symm
    have n34 : ¬ g3 = g4 := by have := d14_15 (hst 14 (by omega)) (hst 15 (by omega)); simpa using this
    have n43 : ¬ g4 = g3 := fun e => n34 e.symm
    have hL : L = #[true, true, true, true, true, true, true, true, true, true, true, true, true, true, true, true, false, false, false, false] := by
      refine Array.ext (by simpa using hs) fun j h1 h2 => ?_
      have hj : j < 20 := by simpa using h2
      have e : L.getD j false = L[j] := by simp [Array.getD, h1]
      rw [← e]
      rcases (by omega : j = 0 ∨ j = 1 ∨ j = 2 ∨ j = 3 ∨ j = 4 ∨ j = 5 ∨ j = 6 ∨ j = 7 ∨ j = 8 ∨ j = 9 ∨ j = 10 ∨ j = 11 ∨ j = 12 ∨ j = 13 ∨ j = 14 ∨ j = 15 ∨ j = 16 ∨ j = 17 ∨ j = 18 ∨ j = 19) with rfl | rfl | rfl | rfl | rfl | rfl | rfl | rfl | rfl | rfl | rfl | rfl | rfl | rfl | rfl | rfl | rfl | rfl | rfl | rfl
      all_goals first | (rw [hst _ (by omega)]; rfl) | (rw [hz _ (by omega)]; rfl)
    subst hL
    obtain ⟨f, rfl⟩ : ∃ f, fuel = f + 1 + 1 + 1 + 1 := ⟨fuel - 4, by have h4 : unl #[true, true, true, true, true, true, true, true, true, true, true, true, true, true, true, true, false, false, false, false] = 4 := (by decide); omega⟩
    have X1 := Lib.hid (four_boxes (s1 := sa) (s2 := ta) (s3 := sb) (s4 := tb) (c1 := c1) (c2 := c2) (c3 := c3) (c4 := c4) K B1 B2 B3 B4 w1 w2 w3 w4 h1 h2 h3 h4 n12 n13 n14 n23 n24 n34)
    have e10 : v.cell? ⟨g1, 0, none⟩ = some (.bool false) := (cell_of_row v g1 0 _ _ (0, 0) h1).trans rfl
    have e11 : v.cell? ⟨g1, 1, none⟩ = some (.slice none 0 0) := (cell_of_row v g1 1 _ _ (0, 0) h1).trans rfl
    have f10 : v.frozen? ⟨g1, 0, none⟩ = false := frozen_of_row v g1 0 _ _ h1
    have f11 : v.frozen? ⟨g1, 1, none⟩ = false := frozen_of_row v g1 1 _ _ h1
    have e20 : v.cell? ⟨g2, 0, none⟩ = some (.bool false) := (cell_of_row v g2 0 _ _ (0, 0) h2).trans rfl
    have e21 : v.cell? ⟨g2, 1, none⟩ = some (.slice none 0 0) := (cell_of_row v g2 1 _ _ (0, 0) h2).trans rfl
    have f20 : v.frozen? ⟨g2, 0, none⟩ = false := frozen_of_row v g2 0 _ _ h2
    have f21 : v.frozen? ⟨g2, 1, none⟩ = false := frozen_of_row v g2 1 _ _ h2
    have e30 : v.cell? ⟨g3, 0, none⟩ = some (.bool false) := (cell_of_row v g3 0 _ _ (0, 0) h3).trans rfl
    have e31 : v.cell? ⟨g3, 1, none⟩ = some (.slice none 0 0) := (cell_of_row v g3 1 _ _ (0, 0) h3).trans rfl
    have f30 : v.frozen? ⟨g3, 0, none⟩ = false := frozen_of_row v g3 0 _ _ h3
    have f31 : v.frozen? ⟨g3, 1, none⟩ = false := frozen_of_row v g3 1 _ _ h3
    have e40 : v.cell? ⟨g4, 0, none⟩ = some (.bool false) := (cell_of_row v g4 0 _ _ (0, 0) h4).trans rfl
    have e41 : v.cell? ⟨g4, 1, none⟩ = some (.slice none 0 0) := (cell_of_row v g4 1 _ _ (0, 0) h4).trans rfl
    have f40 : v.frozen? ⟨g4, 0, none⟩ = false := frozen_of_row v g4 0 _ _ h4
    have f41 : v.frozen? ⟨g4, 1, none⟩ = false := frozen_of_row v g4 1 _ _ h4
    clear q0 q1 q3 q4 q6 q7 q9 q10 q2 q5 q8 q11 q12 q13 q14 q15 d12_13 d12_14 d12_15 d13_14 d13_15 d14_15 hz hs hc hst hu K B1 B2 B3 B4 h1 h2 h3 h4 w1 w2 w3 w4
    unfold arF
    refine wpAny_one (i := 16) (by kernel_rfl) rfl ?_
    intro K' hK
    go_simp
    refine hK _ _ ?_
    clear hK K'
    refine wpAny_one (i := 17) (by kernel_rfl) rfl ?_
    intro K' hK
    go_simp
    refine hK _ _ ?_
    clear hK K'
    refine wpAny_one (i := 18) (by kernel_rfl) rfl ?_
    intro K' hK
    go_simp
    refine hK _ _ ?_
    clear hK K'
    refine wpAny_one (i := 19) (by kernel_rfl) rfl ?_
    intro K' hK
    go_simp
    refine hK _ _ ?_
    clear hK K'
    refine wpAny_done (by kernel_rfl) ?_ _
    show Exit.then _ _ _ _ (st4 v g1 g2 g3 g4 sa ta sb tb (.slice p1 l1.length c1) (.slice p2 l2.length c2) (.slice p3 l3.length c3) (.slice p4 l4.length c4))
    generalize st4 v g1 g2 g3 g4 sa ta sb tb (.slice p1 l1.length c1) (.slice p2 l2.length c2) (.slice p3 l3.length c3) (.slice p4 l4.length c4) = V at X1 ⊢
    have K0 := Lib.hid X1.out.1
    have A1 := Lib.hid X1.out.2.1
    have A2 := Lib.hid X1.out.2.2.1
    have A3 := Lib.hid X1.out.2.2.2.1
    have A4 := Lib.hid X1.out.2.2.2.2
    clear X1 e10 e11 e20 e21 e30 e31 e40 e41 f10 f11 f20 f21 f30 f31 f40 f41 O1 O2 O3 O4
    obtain ⟨k1, k2, k3, k4, k5, k6, k7, k8, k9, k10, k11, k12, k13, k14, k15, k16, k17, k18, k19, k20, k21, k22, k23⟩ := K0.out
    have t1 : ¬ g1 = w.heap.size + 1 + 1 := by omega
    have t2 : ¬ g2 = w.heap.size + 1 + 1 := by omega
    have t3 : ¬ g3 = w.heap.size + 1 + 1 := by omega
    have t4 : ¬ g4 = w.heap.size + 1 + 1 := by omega
    go_wp2_with fail
    go_region_held3 (fun w' => w'.cell? ⟨g1, 0, none⟩ = some (.bool sa) ∧ w'.cell? ⟨g1, 1, none⟩ = some (.slice p1 l1.length c1) ∧ w'.cell? ⟨g2, 0, none⟩ = some (.bool ta) ∧ w'.cell? ⟨g2, 1, none⟩ = some (.slice p2 l2.length c2) ∧ w'.cell? ⟨g3, 0, none⟩ = some (.bool sb) ∧ w'.cell? ⟨g3, 1, none⟩ = some (.slice p3 l3.length c3) ∧ w'.cell? ⟨g4, 0, none⟩ = some (.bool tb) ∧ w'.cell? ⟨g4, 1, none⟩ = some (.slice p4 l4.length c4))
      (first | exact ⟨k1, k2, k3, k4, k5, k6, k7, k8⟩ | (refine ⟨?_, ?_, ?_, ?_, ?_, ?_, ?_, ?_⟩ <;> simp [go_sem, k1, k2, k3, k4, k5, k6, k7, k8, t1, t2, t3, t4]; done))
      (first
        | (go_at_call 44; (with_reducible refine (times_s (n := 5) (m := 5) (an) (bd) sa tb u5 Hsa.out Htb.out Hu5.out p1 p4 c1 c4 l1 l4 _ (by first | exact A1.out | exact A1.out.drew | exact (A1.out.drewN _)) (by first | exact A4.out | exact A4.out.drew | exact (A4.out.drewN _)) (by omega) (by omega)).mono ?_); rintro e V5 ⟨p5, l5, c5, rfl, r1, r2, r3⟩; have st : Below V.heap.size V V5 := (by first | exact r3 | exact ((Below.refl _ _).drew).trans r3 | exact (below_drewN (Below.refl _ _) _).trans r3); have K1 := Lib.hid (K0.out.below st); clear k1 k2 k3 k4 k5 k6 k7 k8 k9 k10 k11 k12 k13 k14 k15 k16 k17 k18 k19 k20 k21 k22 k23; obtain ⟨k1, k2, k3, k4, k5, k6, k7, k8, k9, k10, k11, k12, k13, k14, k15, k16, k17, k18, k19, k20, k21, k22, k23⟩ := K1.out; have A1_1 := Lib.hid (A1.out.below st); have A2_1 := Lib.hid (A2.out.below st); have A3_1 := Lib.hid (A3.out.below st); have A4_1 := Lib.hid (A4.out.below st); have T1 := Lib.hid r1; clear r1 r2 r3; clear st)
        | (go_at_call 44; (with_reducible refine (times_s (n := 5) (m := 5) (ad) (bn) ta sb u6 Hta.out Hsb.out Hu6.out p2 p3 c2 c3 l2 l3 _ (by first | exact A2_1.out | exact A2_1.out.drew | exact (A2_1.out.drewN _)) (by first | exact A3_1.out | exact A3_1.out.drew | exact (A3_1.out.drewN _)) (by omega) (by omega)).mono ?_); rintro e V6 ⟨p6, l6, c6, rfl, r1, r2, r3⟩; have st : Below V5.heap.size V5 V6 := (by first | exact r3 | exact ((Below.refl _ _).drew).trans r3 | exact (below_drewN (Below.refl _ _) _).trans r3); have K2 := Lib.hid (K1.out.below st); clear k1 k2 k3 k4 k5 k6 k7 k8 k9 k10 k11 k12 k13 k14 k15 k16 k17 k18 k19 k20 k21 k22 k23; obtain ⟨k1, k2, k3, k4, k5, k6, k7, k8, k9, k10, k11, k12, k13, k14, k15, k16, k17, k18, k19, k20, k21, k22, k23⟩ := K2.out; have A1_2 := Lib.hid (A1_1.out.below st); have A2_2 := Lib.hid (A2_1.out.below st); have A3_2 := Lib.hid (A3_1.out.below st); have A4_2 := Lib.hid (A4_1.out.below st); have T1_2 := Lib.hid (T1.out.below st); have T2 := Lib.hid r1; clear r1 r2 r3; clear st)
        | (go_at_call 53; (with_reducible refine (lowest_s (N := 11) (an * bd) (ad * bn) u5 u6 Hu5.out Hu6.out HD.out p5 p6 c5 c6 l5 l6 _ (by first | exact T1_2.out.more (by omega) | exact T1_2.out.drew.more (by omega) | exact (T1_2.out.drewN _).more (by omega)) (by first | exact T2.out.more (by omega) | exact T2.out.drew.more (by omega) | exact (T2.out.drewN _).more (by omega)) (by omega)).mono ?_); rintro e VE ⟨X, D, E, hF, rfl, r3⟩; have st : Below V6.heap.size V6 VE := (by first | exact r3 | exact ((Below.refl _ _).drew).trans r3 | exact (below_drewN (Below.refl _ _) _).trans r3); have K3 := Lib.hid (K2.out.below st); clear k1 k2 k3 k4 k5 k6 k7 k8 k9 k10 k11 k12 k13 k14 k15 k16 k17 k18 k19 k20 k21 k22 k23; obtain ⟨k1, k2, k3, k4, k5, k6, k7, k8, k9, k10, k11, k12, k13, k14, k15, k16, k17, k18, k19, k20, k21, k22, k23⟩ := K3.out; unfold fracV; have HF := Lib.hid hF; clear hF r3; clear st))
    go_wp2_with fail
    refine bodyPost_ret (v := fracV X D E) (by simp [results, Tryd.results19, go_sem, fracV, k10, k11, k14]) rfl ⟨X, D, E, HF.out, rfl, ?_⟩
    exact by repeat' (first | exact Below.refl _ _ | refine below_drewN ?_ _ | refine Below.drew ?_ | refine Below.setCell ?_ ?_ _ | (with_reducible exact k23) | (simp; done) | (simp; omega) | omega)
  case hstep =>
    intro L a v hs hc hI hst i o ho hun hall K' hK
    have hi : i < 20 := by have := (Array.getElem?_eq_some_iff.1 ho).1; simpa using this
    obtain ⟨y8, y9, y10, y11, x21, x22, x23, x24, x25, x26, x27, x28, x29, x30, x31, x32, rfl, K, q0, q1, q3, q4, q6, q7, q9, q10, q2, q5, q8, q11, q12, q13, q14, q15, d12_13, d12_14, d12_15, d13_14, d13_15, d14_15, hz⟩ := hI
    rcases (by omega : i = 0 ∨ i = 1 ∨ i = 2 ∨ i = 3 ∨ i = 4 ∨ i = 5 ∨ i = 6 ∨ i = 7 ∨ i = 8 ∨ i = 9 ∨ i = 10 ∨ i = 11 ∨ i = 12 ∨ i = 13 ∨ i = 14 ∨ i = 15 ∨ 16 ≤ i) with rfl | rfl | rfl | rfl | rfl | rfl | rfl | rfl | rfl | rfl | rfl | rfl | rfl | rfl | rfl | rfl | h16
    · -- operation 0
      simp at ho
      subst ho
      unfold arF
      go_simp
      exact hK _ _ ⟨y8, y9, y10, y11, (.pointer (some ⟨w.heap.size, 0, none⟩)), x22, x23, x24, x25, x26, x27, x28, x29, x30, x31, x32, rfl, K, (fun _ => rfl), (fun h => q1 (getD_set_back h (by decide))), (fun h => q3 (getD_set_back h (by decide))), (fun h => q4 (getD_set_back h (by decide))), (fun h => q6 (getD_set_back h (by decide))), (fun h => q7 (getD_set_back h (by decide))), (fun h => q9 (getD_set_back h (by decide))), (fun h => q10 (getD_set_back h (by decide))), (fun h => q2 (getD_set_back h (by decide))), (fun h => q5 (getD_set_back h (by decide))), (fun h => q8 (getD_set_back h (by decide))), (fun h => q11 (getD_set_back h (by decide))), (fun h => q12 (getD_set_back h (by decide))), (fun h => q13 (getD_set_back h (by decide))), (fun h => q14 (getD_set_back h (by decide))), (fun h => q15 (getD_set_back h (by decide))), (fun h h' => d12_13 (getD_set_back h (by decide)) (getD_set_back h' (by decide))), (fun h h' => d12_14 (getD_set_back h (by decide)) (getD_set_back h' (by decide))), (fun h h' => d12_15 (getD_set_back h (by decide)) (getD_set_back h' (by decide))), (fun h h' => d13_14 (getD_set_back h (by decide)) (getD_set_back h' (by decide))), (fun h h' => d13_15 (getD_set_back h (by decide)) (getD_set_back h' (by decide))), (fun h h' => d14_15 (getD_set_back h (by decide)) (getD_set_back h' (by decide))), (fun j hj => by rw [getD_set_other (by omega)]; exact hz j hj)⟩
    · -- operation 1
      simp at ho
      subst ho
      simp [Region.binds] at hall
      have hd := q0 (gq (by first | exact hall | exact hall.1 | exact hall.2))
      subst hd
      obtain ⟨k1, k2, k3, k4, k5, k6, k7, k8, ksz, kb⟩ := id K
      unfold arF
      go_simp
      exact hK _ _ ⟨y8, y9, y10, y11, (.pointer (some ⟨w.heap.size, 0, none⟩)), (.int .i64 an), x23, x24, x25, x26, x27, x28, x29, x30, x31, x32, rfl, K, (fun h => q0 (getD_set_back h (by decide))), (fun _ => rfl), (fun h => q3 (getD_set_back h (by decide))), (fun h => q4 (getD_set_back h (by decide))), (fun h => q6 (getD_set_back h (by decide))), (fun h => q7 (getD_set_back h (by decide))), (fun h => q9 (getD_set_back h (by decide))), (fun h => q10 (getD_set_back h (by decide))), (fun h => q2 (getD_set_back h (by decide))), (fun h => q5 (getD_set_back h (by decide))), (fun h => q8 (getD_set_back h (by decide))), (fun h => q11 (getD_set_back h (by decide))), (fun h => q12 (getD_set_back h (by decide))), (fun h => q13 (getD_set_back h (by decide))), (fun h => q14 (getD_set_back h (by decide))), (fun h => q15 (getD_set_back h (by decide))), (fun h h' => d12_13 (getD_set_back h (by decide)) (getD_set_back h' (by decide))), (fun h h' => d12_14 (getD_set_back h (by decide)) (getD_set_back h' (by decide))), (fun h h' => d12_15 (getD_set_back h (by decide)) (getD_set_back h' (by decide))), (fun h h' => d13_14 (getD_set_back h (by decide)) (getD_set_back h' (by decide))), (fun h h' => d13_15 (getD_set_back h (by decide)) (getD_set_back h' (by decide))), (fun h h' => d14_15 (getD_set_back h (by decide)) (getD_set_back h' (by decide))), (fun j hj => by rw [getD_set_other (by omega)]; exact hz j hj)⟩
    · -- operation 2
      simp at ho
      subst ho
      simp [Region.binds] at hall
      have hd := q1 (gq (by first | exact hall | exact hall.1 | exact hall.2))
      subst hd
      unfold arF
      go_simp
      go_at_call 46
      refine (O1.out _).mono ?_
      rintro e v' ⟨p1, l1, c1, rfl, r1, r2, r3⟩
      exact hK _ _ ⟨y8, y9, y10, y11, x21, (.int .i64 an), (.agg #[.bool sa, .slice p1 l1.length c1]), x24, x25, x26, x27, x28, x29, x30, x31, x32, rfl, K.below r3, (fun h => q0 (getD_set_back h (by decide))), (fun h => q1 (getD_set_back h (by decide))), (fun h => q3 (getD_set_back h (by decide))), (fun h => q4 (getD_set_back h (by decide))), (fun h => q6 (getD_set_back h (by decide))), (fun h => q7 (getD_set_back h (by decide))), (fun h => q9 (getD_set_back h (by decide))), (fun h => q10 (getD_set_back h (by decide))), (fun _ => ⟨p1, l1, c1, rfl, r1⟩), (fun h => (q5 (getD_set_back h (by decide))).below r3), (fun h => (q8 (getD_set_back h (by decide))).below r3), (fun h => (q11 (getD_set_back h (by decide))).below r3), (fun h => (q12 (getD_set_back h (by decide))).below r3), (fun h => (q13 (getD_set_back h (by decide))).below r3), (fun h => (q14 (getD_set_back h (by decide))).below r3), (fun h => (q15 (getD_set_back h (by decide))).below r3), (fun h h' => d12_13 (getD_set_back h (by decide)) (getD_set_back h' (by decide))), (fun h h' => d12_14 (getD_set_back h (by decide)) (getD_set_back h' (by decide))), (fun h h' => d12_15 (getD_set_back h (by decide)) (getD_set_back h' (by decide))), (fun h h' => d13_14 (getD_set_back h (by decide)) (getD_set_back h' (by decide))), (fun h h' => d13_15 (getD_set_back h (by decide)) (getD_set_back h' (by decide))), (fun h h' => d14_15 (getD_set_back h (by decide)) (getD_set_back h' (by decide))), (fun j hj => by rw [getD_set_other (by omega)]; exact hz j hj)⟩
    · -- operation 3
      simp at ho
      subst ho
      unfold arF
      go_simp
      exact hK _ _ ⟨y8, y9, y10, y11, x21, x22, x23, (.pointer (some ⟨w.heap.size, 1, none⟩)), x25, x26, x27, x28, x29, x30, x31, x32, rfl, K, (fun h => q0 (getD_set_back h (by decide))), (fun h => q1 (getD_set_back h (by decide))), (fun _ => rfl), (fun h => q4 (getD_set_back h (by decide))), (fun h => q6 (getD_set_back h (by decide))), (fun h => q7 (getD_set_back h (by decide))), (fun h => q9 (getD_set_back h (by decide))), (fun h => q10 (getD_set_back h (by decide))), (fun h => q2 (getD_set_back h (by decide))), (fun h => q5 (getD_set_back h (by decide))), (fun h => q8 (getD_set_back h (by decide))), (fun h => q11 (getD_set_back h (by decide))), (fun h => q12 (getD_set_back h (by decide))), (fun h => q13 (getD_set_back h (by decide))), (fun h => q14 (getD_set_back h (by decide))), (fun h => q15 (getD_set_back h (by decide))), (fun h h' => d12_13 (getD_set_back h (by decide)) (getD_set_back h' (by decide))), (fun h h' => d12_14 (getD_set_back h (by decide)) (getD_set_back h' (by decide))), (fun h h' => d12_15 (getD_set_back h (by decide)) (getD_set_back h' (by decide))), (fun h h' => d13_14 (getD_set_back h (by decide)) (getD_set_back h' (by decide))), (fun h h' => d13_15 (getD_set_back h (by decide)) (getD_set_back h' (by decide))), (fun h h' => d14_15 (getD_set_back h (by decide)) (getD_set_back h' (by decide))), (fun j hj => by rw [getD_set_other (by omega)]; exact hz j hj)⟩
    · -- operation 4
      simp at ho
      subst ho
      simp [Region.binds] at hall
      have hd := q3 (gq (by first | exact hall | exact hall.1 | exact hall.2))
      subst hd
      obtain ⟨k1, k2, k3, k4, k5, k6, k7, k8, ksz, kb⟩ := id K
      unfold arF
      go_simp
      exact hK _ _ ⟨y8, y9, y10, y11, x21, x22, x23, (.pointer (some ⟨w.heap.size, 1, none⟩)), (.int .i64 ad), x26, x27, x28, x29, x30, x31, x32, rfl, K, (fun h => q0 (getD_set_back h (by decide))), (fun h => q1 (getD_set_back h (by decide))), (fun h => q3 (getD_set_back h (by decide))), (fun _ => rfl), (fun h => q6 (getD_set_back h (by decide))), (fun h => q7 (getD_set_back h (by decide))), (fun h => q9 (getD_set_back h (by decide))), (fun h => q10 (getD_set_back h (by decide))), (fun h => q2 (getD_set_back h (by decide))), (fun h => q5 (getD_set_back h (by decide))), (fun h => q8 (getD_set_back h (by decide))), (fun h => q11 (getD_set_back h (by decide))), (fun h => q12 (getD_set_back h (by decide))), (fun h => q13 (getD_set_back h (by decide))), (fun h => q14 (getD_set_back h (by decide))), (fun h => q15 (getD_set_back h (by decide))), (fun h h' => d12_13 (getD_set_back h (by decide)) (getD_set_back h' (by decide))), (fun h h' => d12_14 (getD_set_back h (by decide)) (getD_set_back h' (by decide))), (fun h h' => d12_15 (getD_set_back h (by decide)) (getD_set_back h' (by decide))), (fun h h' => d13_14 (getD_set_back h (by decide)) (getD_set_back h' (by decide))), (fun h h' => d13_15 (getD_set_back h (by decide)) (getD_set_back h' (by decide))), (fun h h' => d14_15 (getD_set_back h (by decide)) (getD_set_back h' (by decide))), (fun j hj => by rw [getD_set_other (by omega)]; exact hz j hj)⟩
    · -- operation 5
      simp at ho
      subst ho
      simp [Region.binds] at hall
      have hd := q4 (gq (by first | exact hall | exact hall.1 | exact hall.2))
      subst hd
      unfold arF
      go_simp
      go_at_call 46
      refine (O2.out _).mono ?_
      rintro e v' ⟨p1, l1, c1, rfl, r1, r2, r3⟩
      exact hK _ _ ⟨y8, y9, y10, y11, x21, x22, x23, x24, (.int .i64 ad), (.agg #[.bool ta, .slice p1 l1.length c1]), x27, x28, x29, x30, x31, x32, rfl, K.below r3, (fun h => q0 (getD_set_back h (by decide))), (fun h => q1 (getD_set_back h (by decide))), (fun h => q3 (getD_set_back h (by decide))), (fun h => q4 (getD_set_back h (by decide))), (fun h => q6 (getD_set_back h (by decide))), (fun h => q7 (getD_set_back h (by decide))), (fun h => q9 (getD_set_back h (by decide))), (fun h => q10 (getD_set_back h (by decide))), (fun h => (q2 (getD_set_back h (by decide))).below r3), (fun _ => ⟨p1, l1, c1, rfl, r1⟩), (fun h => (q8 (getD_set_back h (by decide))).below r3), (fun h => (q11 (getD_set_back h (by decide))).below r3), (fun h => (q12 (getD_set_back h (by decide))).below r3), (fun h => (q13 (getD_set_back h (by decide))).below r3), (fun h => (q14 (getD_set_back h (by decide))).below r3), (fun h => (q15 (getD_set_back h (by decide))).below r3), (fun h h' => d12_13 (getD_set_back h (by decide)) (getD_set_back h' (by decide))), (fun h h' => d12_14 (getD_set_back h (by decide)) (getD_set_back h' (by decide))), (fun h h' => d12_15 (getD_set_back h (by decide)) (getD_set_back h' (by decide))), (fun h h' => d13_14 (getD_set_back h (by decide)) (getD_set_back h' (by decide))), (fun h h' => d13_15 (getD_set_back h (by decide)) (getD_set_back h' (by decide))), (fun h h' => d14_15 (getD_set_back h (by decide)) (getD_set_back h' (by decide))), (fun j hj => by rw [getD_set_other (by omega)]; exact hz j hj)⟩
    · -- operation 6
      simp at ho
      subst ho
      unfold arF
      go_simp
      exact hK _ _ ⟨y8, y9, y10, y11, x21, x22, x23, x24, x25, x26, (.pointer (some ⟨w.heap.size + 1, 0, none⟩)), x28, x29, x30, x31, x32, rfl, K, (fun h => q0 (getD_set_back h (by decide))), (fun h => q1 (getD_set_back h (by decide))), (fun h => q3 (getD_set_back h (by decide))), (fun h => q4 (getD_set_back h (by decide))), (fun _ => rfl), (fun h => q7 (getD_set_back h (by decide))), (fun h => q9 (getD_set_back h (by decide))), (fun h => q10 (getD_set_back h (by decide))), (fun h => q2 (getD_set_back h (by decide))), (fun h => q5 (getD_set_back h (by decide))), (fun h => q8 (getD_set_back h (by decide))), (fun h => q11 (getD_set_back h (by decide))), (fun h => q12 (getD_set_back h (by decide))), (fun h => q13 (getD_set_back h (by decide))), (fun h => q14 (getD_set_back h (by decide))), (fun h => q15 (getD_set_back h (by decide))), (fun h h' => d12_13 (getD_set_back h (by decide)) (getD_set_back h' (by decide))), (fun h h' => d12_14 (getD_set_back h (by decide)) (getD_set_back h' (by decide))), (fun h h' => d12_15 (getD_set_back h (by decide)) (getD_set_back h' (by decide))), (fun h h' => d13_14 (getD_set_back h (by decide)) (getD_set_back h' (by decide))), (fun h h' => d13_15 (getD_set_back h (by decide)) (getD_set_back h' (by decide))), (fun h h' => d14_15 (getD_set_back h (by decide)) (getD_set_back h' (by decide))), (fun j hj => by rw [getD_set_other (by omega)]; exact hz j hj)⟩
    · -- operation 7
      simp at ho
      subst ho
      simp [Region.binds] at hall
      have hd := q6 (gq (by first | exact hall | exact hall.1 | exact hall.2))
      subst hd
      obtain ⟨k1, k2, k3, k4, k5, k6, k7, k8, ksz, kb⟩ := id K
      unfold arF
      go_simp
      exact hK _ _ ⟨y8, y9, y10, y11, x21, x22, x23, x24, x25, x26, (.pointer (some ⟨w.heap.size + 1, 0, none⟩)), (.int .i64 bn), x29, x30, x31, x32, rfl, K, (fun h => q0 (getD_set_back h (by decide))), (fun h => q1 (getD_set_back h (by decide))), (fun h => q3 (getD_set_back h (by decide))), (fun h => q4 (getD_set_back h (by decide))), (fun h => q6 (getD_set_back h (by decide))), (fun _ => rfl), (fun h => q9 (getD_set_back h (by decide))), (fun h => q10 (getD_set_back h (by decide))), (fun h => q2 (getD_set_back h (by decide))), (fun h => q5 (getD_set_back h (by decide))), (fun h => q8 (getD_set_back h (by decide))), (fun h => q11 (getD_set_back h (by decide))), (fun h => q12 (getD_set_back h (by decide))), (fun h => q13 (getD_set_back h (by decide))), (fun h => q14 (getD_set_back h (by decide))), (fun h => q15 (getD_set_back h (by decide))), (fun h h' => d12_13 (getD_set_back h (by decide)) (getD_set_back h' (by decide))), (fun h h' => d12_14 (getD_set_back h (by decide)) (getD_set_back h' (by decide))), (fun h h' => d12_15 (getD_set_back h (by decide)) (getD_set_back h' (by decide))), (fun h h' => d13_14 (getD_set_back h (by decide)) (getD_set_back h' (by decide))), (fun h h' => d13_15 (getD_set_back h (by decide)) (getD_set_back h' (by decide))), (fun h h' => d14_15 (getD_set_back h (by decide)) (getD_set_back h' (by decide))), (fun j hj => by rw [getD_set_other (by omega)]; exact hz j hj)⟩
    · -- operation 8
      simp at ho
      subst ho
      simp [Region.binds] at hall
      have hd := q7 (gq (by first | exact hall | exact hall.1 | exact hall.2))
      subst hd
      unfold arF
      go_simp
      go_at_call 46
      refine (O3.out _).mono ?_
      rintro e v' ⟨p1, l1, c1, rfl, r1, r2, r3⟩
      exact hK _ _ ⟨y8, y9, y10, y11, x21, x22, x23, x24, x25, x26, x27, (.int .i64 bn), (.agg #[.bool sb, .slice p1 l1.length c1]), x30, x31, x32, rfl, K.below r3, (fun h => q0 (getD_set_back h (by decide))), (fun h => q1 (getD_set_back h (by decide))), (fun h => q3 (getD_set_back h (by decide))), (fun h => q4 (getD_set_back h (by decide))), (fun h => q6 (getD_set_back h (by decide))), (fun h => q7 (getD_set_back h (by decide))), (fun h => q9 (getD_set_back h (by decide))), (fun h => q10 (getD_set_back h (by decide))), (fun h => (q2 (getD_set_back h (by decide))).below r3), (fun h => (q5 (getD_set_back h (by decide))).below r3), (fun _ => ⟨p1, l1, c1, rfl, r1⟩), (fun h => (q11 (getD_set_back h (by decide))).below r3), (fun h => (q12 (getD_set_back h (by decide))).below r3), (fun h => (q13 (getD_set_back h (by decide))).below r3), (fun h => (q14 (getD_set_back h (by decide))).below r3), (fun h => (q15 (getD_set_back h (by decide))).below r3), (fun h h' => d12_13 (getD_set_back h (by decide)) (getD_set_back h' (by decide))), (fun h h' => d12_14 (getD_set_back h (by decide)) (getD_set_back h' (by decide))), (fun h h' => d12_15 (getD_set_back h (by decide)) (getD_set_back h' (by decide))), (fun h h' => d13_14 (getD_set_back h (by decide)) (getD_set_back h' (by decide))), (fun h h' => d13_15 (getD_set_back h (by decide)) (getD_set_back h' (by decide))), (fun h h' => d14_15 (getD_set_back h (by decide)) (getD_set_back h' (by decide))), (fun j hj => by rw [getD_set_other (by omega)]; exact hz j hj)⟩
    · -- operation 9
      simp at ho
      subst ho
      unfold arF
      go_simp
      exact hK _ _ ⟨y8, y9, y10, y11, x21, x22, x23, x24, x25, x26, x27, x28, x29, (.pointer (some ⟨w.heap.size + 1, 1, none⟩)), x31, x32, rfl, K, (fun h => q0 (getD_set_back h (by decide))), (fun h => q1 (getD_set_back h (by decide))), (fun h => q3 (getD_set_back h (by decide))), (fun h => q4 (getD_set_back h (by decide))), (fun h => q6 (getD_set_back h (by decide))), (fun h => q7 (getD_set_back h (by decide))), (fun _ => rfl), (fun h => q10 (getD_set_back h (by decide))), (fun h => q2 (getD_set_back h (by decide))), (fun h => q5 (getD_set_back h (by decide))), (fun h => q8 (getD_set_back h (by decide))), (fun h => q11 (getD_set_back h (by decide))), (fun h => q12 (getD_set_back h (by decide))), (fun h => q13 (getD_set_back h (by decide))), (fun h => q14 (getD_set_back h (by decide))), (fun h => q15 (getD_set_back h (by decide))), (fun h h' => d12_13 (getD_set_back h (by decide)) (getD_set_back h' (by decide))), (fun h h' => d12_14 (getD_set_back h (by decide)) (getD_set_back h' (by decide))), (fun h h' => d12_15 (getD_set_back h (by decide)) (getD_set_back h' (by decide))), (fun h h' => d13_14 (getD_set_back h (by decide)) (getD_set_back h' (by decide))), (fun h h' => d13_15 (getD_set_back h (by decide)) (getD_set_back h' (by decide))), (fun h h' => d14_15 (getD_set_back h (by decide)) (getD_set_back h' (by decide))), (fun j hj => by rw [getD_set_other (by omega)]; exact hz j hj)⟩
    · -- operation 10
      simp at ho
      subst ho
      simp [Region.binds] at hall
      have hd := q9 (gq (by first | exact hall | exact hall.1 | exact hall.2))
      subst hd
      obtain ⟨k1, k2, k3, k4, k5, k6, k7, k8, ksz, kb⟩ := id K
      unfold arF
      go_simp
      exact hK _ _ ⟨y8, y9, y10, y11, x21, x22, x23, x24, x25, x26, x27, x28, x29, (.pointer (some ⟨w.heap.size + 1, 1, none⟩)), (.int .i64 bd), x32, rfl, K, (fun h => q0 (getD_set_back h (by decide))), (fun h => q1 (getD_set_back h (by decide))), (fun h => q3 (getD_set_back h (by decide))), (fun h => q4 (getD_set_back h (by decide))), (fun h => q6 (getD_set_back h (by decide))), (fun h => q7 (getD_set_back h (by decide))), (fun h => q9 (getD_set_back h (by decide))), (fun _ => rfl), (fun h => q2 (getD_set_back h (by decide))), (fun h => q5 (getD_set_back h (by decide))), (fun h => q8 (getD_set_back h (by decide))), (fun h => q11 (getD_set_back h (by decide))), (fun h => q12 (getD_set_back h (by decide))), (fun h => q13 (getD_set_back h (by decide))), (fun h => q14 (getD_set_back h (by decide))), (fun h => q15 (getD_set_back h (by decide))), (fun h h' => d12_13 (getD_set_back h (by decide)) (getD_set_back h' (by decide))), (fun h h' => d12_14 (getD_set_back h (by decide)) (getD_set_back h' (by decide))), (fun h h' => d12_15 (getD_set_back h (by decide)) (getD_set_back h' (by decide))), (fun h h' => d13_14 (getD_set_back h (by decide)) (getD_set_back h' (by decide))), (fun h h' => d13_15 (getD_set_back h (by decide)) (getD_set_back h' (by decide))), (fun h h' => d14_15 (getD_set_back h (by decide)) (getD_set_back h' (by decide))), (fun j hj => by rw [getD_set_other (by omega)]; exact hz j hj)⟩
    · -- operation 11
      simp at ho
      subst ho
      simp [Region.binds] at hall
      have hd := q10 (gq (by first | exact hall | exact hall.1 | exact hall.2))
      subst hd
      unfold arF
      go_simp
      go_at_call 46
      refine (O4.out _).mono ?_
      rintro e v' ⟨p1, l1, c1, rfl, r1, r2, r3⟩
      exact hK _ _ ⟨y8, y9, y10, y11, x21, x22, x23, x24, x25, x26, x27, x28, x29, x30, (.int .i64 bd), (.agg #[.bool tb, .slice p1 l1.length c1]), rfl, K.below r3, (fun h => q0 (getD_set_back h (by decide))), (fun h => q1 (getD_set_back h (by decide))), (fun h => q3 (getD_set_back h (by decide))), (fun h => q4 (getD_set_back h (by decide))), (fun h => q6 (getD_set_back h (by decide))), (fun h => q7 (getD_set_back h (by decide))), (fun h => q9 (getD_set_back h (by decide))), (fun h => q10 (getD_set_back h (by decide))), (fun h => (q2 (getD_set_back h (by decide))).below r3), (fun h => (q5 (getD_set_back h (by decide))).below r3), (fun h => (q8 (getD_set_back h (by decide))).below r3), (fun _ => ⟨p1, l1, c1, rfl, r1⟩), (fun h => (q12 (getD_set_back h (by decide))).below r3), (fun h => (q13 (getD_set_back h (by decide))).below r3), (fun h => (q14 (getD_set_back h (by decide))).below r3), (fun h => (q15 (getD_set_back h (by decide))).below r3), (fun h h' => d12_13 (getD_set_back h (by decide)) (getD_set_back h' (by decide))), (fun h h' => d12_14 (getD_set_back h (by decide)) (getD_set_back h' (by decide))), (fun h h' => d12_15 (getD_set_back h (by decide)) (getD_set_back h' (by decide))), (fun h h' => d13_14 (getD_set_back h (by decide)) (getD_set_back h' (by decide))), (fun h h' => d13_15 (getD_set_back h (by decide)) (getD_set_back h' (by decide))), (fun h h' => d14_15 (getD_set_back h (by decide)) (getD_set_back h' (by decide))), (fun j hj => by rw [getD_set_other (by omega)]; exact hz j hj)⟩
    · -- operation 12
      simp at ho
      subst ho
      unfold arF
      go_simp
      have hb0 : Below v.heap.size v (v.alloc (Obj.cells #[Value.bool false, Value.slice none 0 0] 53)) := (Below.refl _ _).alloc (Nat.le_refl _) _
      exact hK _ _ ⟨(.pointer (some ⟨v.heap.size, 0, none⟩)), y9, y10, y11, x21, x22, x23, x24, x25, x26, x27, x28, x29, x30, x31, x32, rfl, K.below hb0, (fun h => q0 (getD_set_back h (by decide))), (fun h => q1 (getD_set_back h (by decide))), (fun h => q3 (getD_set_back h (by decide))), (fun h => q4 (getD_set_back h (by decide))), (fun h => q6 (getD_set_back h (by decide))), (fun h => q7 (getD_set_back h (by decide))), (fun h => q9 (getD_set_back h (by decide))), (fun h => q10 (getD_set_back h (by decide))), (fun h => (q2 (getD_set_back h (by decide))).below hb0), (fun h => (q5 (getD_set_back h (by decide))).below hb0), (fun h => (q8 (getD_set_back h (by decide))).below hb0), (fun h => (q11 (getD_set_back h (by decide))).below hb0), (fun _ => BoxAt.new K.sz), (fun h => (q13 (getD_set_back h (by decide))).below hb0), (fun h => (q14 (getD_set_back h (by decide))).below hb0), (fun h => (q15 (getD_set_back h (by decide))).below hb0), (fun _ h => ((q13 (getD_set_back h (by decide))).ne).symm), (fun _ h => ((q14 (getD_set_back h (by decide))).ne).symm), (fun _ h => ((q15 (getD_set_back h (by decide))).ne).symm), (fun h h' => d13_14 (getD_set_back h (by decide)) (getD_set_back h' (by decide))), (fun h h' => d13_15 (getD_set_back h (by decide)) (getD_set_back h' (by decide))), (fun h h' => d14_15 (getD_set_back h (by decide)) (getD_set_back h' (by decide))), (fun j hj => by rw [getD_set_other (by omega)]; exact hz j hj)⟩
    · -- operation 13
      simp at ho
      subst ho
      unfold arF
      go_simp
      have hb0 : Below v.heap.size v (v.alloc (Obj.cells #[Value.bool false, Value.slice none 0 0] 53)) := (Below.refl _ _).alloc (Nat.le_refl _) _
      exact hK _ _ ⟨y8, (.pointer (some ⟨v.heap.size, 0, none⟩)), y10, y11, x21, x22, x23, x24, x25, x26, x27, x28, x29, x30, x31, x32, rfl, K.below hb0, (fun h => q0 (getD_set_back h (by decide))), (fun h => q1 (getD_set_back h (by decide))), (fun h => q3 (getD_set_back h (by decide))), (fun h => q4 (getD_set_back h (by decide))), (fun h => q6 (getD_set_back h (by decide))), (fun h => q7 (getD_set_back h (by decide))), (fun h => q9 (getD_set_back h (by decide))), (fun h => q10 (getD_set_back h (by decide))), (fun h => (q2 (getD_set_back h (by decide))).below hb0), (fun h => (q5 (getD_set_back h (by decide))).below hb0), (fun h => (q8 (getD_set_back h (by decide))).below hb0), (fun h => (q11 (getD_set_back h (by decide))).below hb0), (fun h => (q12 (getD_set_back h (by decide))).below hb0), (fun _ => BoxAt.new K.sz), (fun h => (q14 (getD_set_back h (by decide))).below hb0), (fun h => (q15 (getD_set_back h (by decide))).below hb0), (fun h _ => (q12 (getD_set_back h (by decide))).ne), (fun h h' => d12_14 (getD_set_back h (by decide)) (getD_set_back h' (by decide))), (fun h h' => d12_15 (getD_set_back h (by decide)) (getD_set_back h' (by decide))), (fun _ h => ((q14 (getD_set_back h (by decide))).ne).symm), (fun _ h => ((q15 (getD_set_back h (by decide))).ne).symm), (fun h h' => d14_15 (getD_set_back h (by decide)) (getD_set_back h' (by decide))), (fun j hj => by rw [getD_set_other (by omega)]; exact hz j hj)⟩
    · -- operation 14
      simp at ho
      subst ho
      unfold arF
      go_simp
      have hb0 : Below v.heap.size v (v.alloc (Obj.cells #[Value.bool false, Value.slice none 0 0] 53)) := (Below.refl _ _).alloc (Nat.le_refl _) _
      exact hK _ _ ⟨y8, y9, (.pointer (some ⟨v.heap.size, 0, none⟩)), y11, x21, x22, x23, x24, x25, x26, x27, x28, x29, x30, x31, x32, rfl, K.below hb0, (fun h => q0 (getD_set_back h (by decide))), (fun h => q1 (getD_set_back h (by decide))), (fun h => q3 (getD_set_back h (by decide))), (fun h => q4 (getD_set_back h (by decide))), (fun h => q6 (getD_set_back h (by decide))), (fun h => q7 (getD_set_back h (by decide))), (fun h => q9 (getD_set_back h (by decide))), (fun h => q10 (getD_set_back h (by decide))), (fun h => (q2 (getD_set_back h (by decide))).below hb0), (fun h => (q5 (getD_set_back h (by decide))).below hb0), (fun h => (q8 (getD_set_back h (by decide))).below hb0), (fun h => (q11 (getD_set_back h (by decide))).below hb0), (fun h => (q12 (getD_set_back h (by decide))).below hb0), (fun h => (q13 (getD_set_back h (by decide))).below hb0), (fun _ => BoxAt.new K.sz), (fun h => (q15 (getD_set_back h (by decide))).below hb0), (fun h h' => d12_13 (getD_set_back h (by decide)) (getD_set_back h' (by decide))), (fun h _ => (q12 (getD_set_back h (by decide))).ne), (fun h h' => d12_15 (getD_set_back h (by decide)) (getD_set_back h' (by decide))), (fun h _ => (q13 (getD_set_back h (by decide))).ne), (fun h h' => d13_15 (getD_set_back h (by decide)) (getD_set_back h' (by decide))), (fun _ h => ((q15 (getD_set_back h (by decide))).ne).symm), (fun j hj => by rw [getD_set_other (by omega)]; exact hz j hj)⟩
    · -- operation 15
      simp at ho
      subst ho
      unfold arF
      go_simp
      have hb0 : Below v.heap.size v (v.alloc (Obj.cells #[Value.bool false, Value.slice none 0 0] 53)) := (Below.refl _ _).alloc (Nat.le_refl _) _
      exact hK _ _ ⟨y8, y9, y10, (.pointer (some ⟨v.heap.size, 0, none⟩)), x21, x22, x23, x24, x25, x26, x27, x28, x29, x30, x31, x32, rfl, K.below hb0, (fun h => q0 (getD_set_back h (by decide))), (fun h => q1 (getD_set_back h (by decide))), (fun h => q3 (getD_set_back h (by decide))), (fun h => q4 (getD_set_back h (by decide))), (fun h => q6 (getD_set_back h (by decide))), (fun h => q7 (getD_set_back h (by decide))), (fun h => q9 (getD_set_back h (by decide))), (fun h => q10 (getD_set_back h (by decide))), (fun h => (q2 (getD_set_back h (by decide))).below hb0), (fun h => (q5 (getD_set_back h (by decide))).below hb0), (fun h => (q8 (getD_set_back h (by decide))).below hb0), (fun h => (q11 (getD_set_back h (by decide))).below hb0), (fun h => (q12 (getD_set_back h (by decide))).below hb0), (fun h => (q13 (getD_set_back h (by decide))).below hb0), (fun h => (q14 (getD_set_back h (by decide))).below hb0), (fun _ => BoxAt.new K.sz), (fun h h' => d12_13 (getD_set_back h (by decide)) (getD_set_back h' (by decide))), (fun h h' => d12_14 (getD_set_back h (by decide)) (getD_set_back h' (by decide))), (fun h _ => (q12 (getD_set_back h (by decide))).ne), (fun h h' => d13_14 (getD_set_back h (by decide)) (getD_set_back h' (by decide))), (fun h _ => (q13 (getD_set_back h (by decide))).ne), (fun h _ => (q14 (getD_set_back h (by decide))).ne), (fun j hj => by rw [getD_set_other (by omega)]; exact hz j hj)⟩
    · rcases (by omega : i = 16 ∨ i = 17 ∨ i = 18 ∨ i = 19) with rfl | rfl | rfl | rfl
      · simp at ho
        subst ho
        simp [Region.binds] at hall
        have h11 : L.getD 11 false = true := gq (by simp [hall])
        have c11 := hc 11 _ (by simp; rfl) h11
        simp [Region.binds] at c11
        have c10 := hc 10 _ (by simp; rfl) (gq (by simp [c11]))
        simp [Region.binds] at c10
        have c8 := hc 8 _ (by simp; rfl) (gq (by simp [c11]))
        simp [Region.binds] at c8
        have c7 := hc 7 _ (by simp; rfl) (gq (by simp [c8]))
        simp [Region.binds] at c7
        have c5 := hc 5 _ (by simp; rfl) (gq (by simp [c8]))
        simp [Region.binds] at c5
        have c4 := hc 4 _ (by simp; rfl) (gq (by simp [c5]))
        simp [Region.binds] at c4
        refine absurd (fun j hj => ?_) hst
        rcases (by omega : j = 0 ∨ j = 1 ∨ j = 2 ∨ j = 3 ∨ j = 4 ∨ j = 5 ∨ j = 6 ∨ j = 7 ∨ j = 8 ∨ j = 9 ∨ j = 10 ∨ j = 11 ∨ j = 12 ∨ j = 13 ∨ j = 14 ∨ j = 15) with rfl | rfl | rfl | rfl | rfl | rfl | rfl | rfl | rfl | rfl | rfl | rfl | rfl | rfl | rfl | rfl
        all_goals exact gq (by simp [hall, c11, c10, c8, c7, c5, c4])
      all_goals
        simp at ho
        subst ho
        simp [Region.binds] at hall
        have z0 := hz 16 (by omega)
        have z1 := hz 17 (by omega)
        have z2 := hz 18 (by omega)
        rw [Array.getD_eq_getD_getElem?] at z0 z1 z2
        simp [z0, z1, z2] at hall
set_option maxRecDepth 100000 in
set_option maxHeartbeats 8000000 in
theorem rArith_30 (an ad bn bd : Int) (ha : vldB an ad = true) (hb : vldB bn bd = true) (h0 : bn = 0) (w : World) :
    Calls Tryd.prog 19 #[.int .i64 3, .agg #[.int .i64 an, .int .i64 ad], .agg #[.int .i64 bn, .int .i64 bd]] w (fun e w' => e = .returned (fracV 0 0 5) ∧ Below w.heap.size w w') := by
  obtain ⟨a1, a2, a3, a4, a5⟩ := vldB_true.1 ha
  obtain ⟨b1, b2, b3, b4, b5⟩ := vldB_true.1 hb
  have HA := Lib.hid ha; clear ha a5
  have HB := Lib.hid hb; clear hb b5
  obtain ⟨sa, hsa⟩ : ∃ b, b = decide (an < 0) := ⟨_, rfl⟩
  have Hsa := Lib.hid hsa; clear hsa
  obtain ⟨tb, htb⟩ : ∃ b, b = decide (bd < 0) := ⟨_, rfl⟩
  have Htb := Lib.hid htb; clear htb
  obtain ⟨sb, hsb⟩ : ∃ b, b = decide (bn < 0) := ⟨_, rfl⟩
  have Hsb := Lib.hid hsb; clear hsb
  obtain ⟨ta, hta⟩ : ∃ b, b = decide (ad < 0) := ⟨_, rfl⟩
  have Hta := Lib.hid hta; clear hta
  have h0' : (bn == 0) = true := by simpa using h0
  clear h0
  have O1 := Lib.hid (fun W => of_s an sa Hsa.out (by omega) (by omega) W)
  have O2 := Lib.hid (fun W => of_s ad ta Hta.out (by omega) (by omega) W)
  have O3 := Lib.hid (fun W => of_s bn sb Hsb.out (by omega) (by omega) W)
  have O4 := Lib.hid (fun W => of_s bd tb Htb.out (by omega) (by omega) W)
  go_enter Tryd.func19, Tryd.ntmps19
  go_wp2_with fail
  refine (rValid_any _ _ (by omega) (by omega) _).mono ?_
  rintro e w1 ⟨rfl, hb1⟩
  have J1 := Lib.hid ((Fr3.new w an ad bn bd).below hb1)
  rw [HA.out]
  clear hb1
  obtain ⟨k1, k2, k3, k4, k5, k6, k7, k8, ksz, kb⟩ := J1.out
  go_wp2_with fail
  refine (rValid_any _ _ (by omega) (by omega) _).mono ?_
  rintro e w2 ⟨rfl, hb2⟩
  have K0 := Lib.hid (J1.out.below hb2)
  rw [HB.out]
  clear hb2 k1 k2 k3 k4 k5 k6 k7 k8 ksz kb J1 HA HB
  go_wp2_with fail
  refine wp_region_any (by kernel_rfl) ?_
  refine wpAny_inv (by kernel_rfl) (ArI 3 an ad bn bd sa ta sb tb w) (fun L => ∀ j, j < 16 → L.getD j false = true) ?hstop ?hstep ?hend _ _ _ _ (by simp) ?hclosed ?hunl ?hinit
  case hstop => intro L h hs j hj; exact getD_bool (h j) (by rw [hs]; simp; omega)
  case hclosed =>
    intro i o ho hl
    simp [Array.getD] at hl
  case hunl => decide
  case hinit => exact ⟨undef, undef, undef, undef, undef, undef, undef, undef, undef, undef, undef, undef, undef, undef, undef, undef, rfl, Fr3.drew K0.out, (by simp [Array.getD]), (by simp [Array.getD]), (by simp [Array.getD]), (by simp [Array.getD]), (by simp [Array.getD]), (by simp [Array.getD]), (by simp [Array.getD]), (by simp [Array.getD]), (by simp [Array.getD]), (by simp [Array.getD]), (by simp [Array.getD]), (by simp [Array.getD]), (by simp [Array.getD]), (by simp [Array.getD]), (by simp [Array.getD]), (by simp [Array.getD]), (by simp [Array.getD]), (by simp [Array.getD]), (by simp [Array.getD]), (by simp [Array.getD]), (by simp [Array.getD]), (by simp [Array.getD]), (fun j hj => by simp [Array.getD])⟩
  case hend =>
    intro fuel L a v hs hc hI hst hu
    obtain ⟨y8, y9, y10, y11, x21, x22, x23, x24, x25, x26, x27, x28, x29, x30, x31, x32, rfl, K, q0, q1, q3, q4, q6, q7, q9, q10, q2, q5, q8, q11, q12, q13, q14, q15, d12_13, d12_14, d12_15, d13_14, d13_15, d14_15, hz⟩ := hI
    obtain rfl := q0 (hst 0 (by omega))
    obtain rfl := q1 (hst 1 (by omega))
    obtain rfl := q3 (hst 3 (by omega))
    obtain rfl := q4 (hst 4 (by omega))
    obtain rfl := q6 (hst 6 (by omega))
    obtain rfl := q7 (hst 7 (by omega))
    obtain rfl := q9 (hst 9 (by omega))
    obtain rfl := q10 (hst 10 (by omega))
    obtain ⟨p1, l1, c1, rfl, B1⟩ := q2 (hst 2 (by omega))
    obtain ⟨p2, l2, c2, rfl, B2⟩ := q5 (hst 5 (by omega))
    obtain ⟨p3, l3, c3, rfl, B3⟩ := q8 (hst 8 (by omega))
    obtain ⟨p4, l4, c4, rfl, B4⟩ := q11 (hst 11 (by omega))
    obtain ⟨g1, rfl, w1, h1⟩ := q12 (hst 12 (by omega))
    obtain ⟨g2, rfl, w2, h2⟩ := q13 (hst 13 (by omega))
    obtain ⟨g3, rfl, w3, h3⟩ := q14 (hst 14 (by omega))
    obtain ⟨g4, rfl, w4, h4⟩ := q15 (hst 15 (by omega))
    have n12 : ¬ g1 = g2 := by have := d12_13 (hst 12 (by omega)) (hst 13 (by omega)); simpa using this
    have n21 : ¬ g2 = g1 := fun e => n12 e.symm
    have n13 : ¬ g1 = g3 := by have := d12_14 (hst 12 (by omega)) (hst 14 (by omega)); simpa using this
    have n31 : ¬ g3 = g1 := fun e => n13 e.symm
    have n14 : ¬ g1 = g4 := by have := d12_15 (hst 12 (by omega)) (hst 15 (by omega)); simpa using this
    have n41 : ¬ g4 = g1 := fun e => n14 e.symm
    have n23 : ¬ g2 = g3 := by have := d13_14 (hst 13 (by omega)) (hst 14 (by omega)); simpa using this
    have n32 : ¬ g3 = g2 := fun e => n23 e.symm
    have n24 : ¬ g2 = g4 := by have := d13_15 (hst 13 (by omega)) (hst 15 (by omega)); simpa using this
    have n42 : ¬ g4 = g2 := fun e => n24 e.symm
    have n34 : ¬ g3 = g4 := by have := d14_15 (hst 14 (by omega)) (hst 15 (by omega)); simpa using this
    have n43 : ¬ g4 = g3 := fun e => n34 e.symm
    have hL : L = #[true, true, true, true, true, true, true, true, true, true, true, true, true, true, true, true, false, false, false, false] := by
      refine Array.ext (by simpa using hs) fun j h1 h2 => ?_
      have hj : j < 20 := by simpa using h2
      have e : L.getD j false = L[j] := by simp [Array.getD, h1]
      rw [← e]
      rcases (by omega : j = 0 ∨ j = 1 ∨ j = 2 ∨ j = 3 ∨ j = 4 ∨ j = 5 ∨ j = 6 ∨ j = 7 ∨ j = 8 ∨ j = 9 ∨ j = 10 ∨ j = 11 ∨ j = 12 ∨ j = 13 ∨ j = 14 ∨ j = 15 ∨ j = 16 ∨ j = 17 ∨ j = 18 ∨ j = 19) with rfl | rfl | rfl | rfl | rfl | rfl | rfl | rfl | rfl | rfl | rfl | rfl | rfl | rfl | rfl | rfl | rfl | rfl | rfl | rfl
      all_goals first | (rw [hst _ (by omega)]; rfl) | (rw [hz _ (by omega)]; rfl)
    subst hL
    obtain ⟨f, rfl⟩ : ∃ f, fuel = f + 1 + 1 + 1 + 1 := ⟨fuel - 4, by have h4 : unl #[true, true, true, true, true, true, true, true, true, true, true, true, true, true, true, true, false, false, false, false] = 4 := (by decide); omega⟩
    have X1 := Lib.hid (four_boxes (s1 := sa) (s2 := ta) (s3 := sb) (s4 := tb) (c1 := c1) (c2 := c2) (c3 := c3) (c4 := c4) K B1 B2 B3 B4 w1 w2 w3 w4 h1 h2 h3 h4 n12 n13 n14 n23 n24 n34)
    have e10 : v.cell? ⟨g1, 0, none⟩ = some (.bool false) := (cell_of_row v g1 0 _ _ (0, 0) h1).trans rfl
    have e11 : v.cell? ⟨g1, 1, none⟩ = some (.slice none 0 0) := (cell_of_row v g1 1 _ _ (0, 0) h1).trans rfl
    have f10 : v.frozen? ⟨g1, 0, none⟩ = false := frozen_of_row v g1 0 _ _ h1
    have f11 : v.frozen? ⟨g1, 1, none⟩ = false := frozen_of_row v g1 1 _ _ h1
    have e20 : v.cell? ⟨g2, 0, none⟩ = some (.bool false) := (cell_of_row v g2 0 _ _ (0, 0) h2).trans rfl
    have e21 : v.cell? ⟨g2, 1, none⟩ = some (.slice none 0 0) := (cell_of_row v g2 1 _ _ (0, 0) h2).trans rfl
    have f20 : v.frozen? ⟨g2, 0, none⟩ = false := frozen_of_row v g2 0 _ _ h2
    have f21 : v.frozen? ⟨g2, 1, none⟩ = false := frozen_of_row v g2 1 _ _ h2
    have e30 : v.cell? ⟨g3, 0, none⟩ = some (.bool false) := (cell_of_row v g3 0 _ _ (0, 0) h3).trans rfl
    have e31 : v.cell? ⟨g3, 1, none⟩ = some (.slice none 0 0) := (cell_of_row v g3 1 _ _ (0, 0) h3).trans rfl
    have f30 : v.frozen? ⟨g3, 0, none⟩ = false := frozen_of_row v g3 0 _ _ h3
    have f31 : v.frozen? ⟨g3, 1, none⟩ = false := frozen_of_row v g3 1 _ _ h3
    have e40 : v.cell? ⟨g4, 0, none⟩ = some (.bool false) := (cell_of_row v g4 0 _ _ (0, 0) h4).trans rfl
    have e41 : v.cell? ⟨g4, 1, none⟩ = some (.slice none 0 0) := (cell_of_row v g4 1 _ _ (0, 0) h4).trans rfl
    have f40 : v.frozen? ⟨g4, 0, none⟩ = false := frozen_of_row v g4 0 _ _ h4
    have f41 : v.frozen? ⟨g4, 1, none⟩ = false := frozen_of_row v g4 1 _ _ h4
    clear q0 q1 q3 q4 q6 q7 q9 q10 q2 q5 q8 q11 q12 q13 q14 q15 d12_13 d12_14 d12_15 d13_14 d13_15 d14_15 hz hs hc hst hu K B1 B2 B3 B4 h1 h2 h3 h4 w1 w2 w3 w4
    unfold arF
    refine wpAny_one (i := 16) (by kernel_rfl) rfl ?_
    intro K' hK
    go_simp
    refine hK _ _ ?_
    clear hK K'
    refine wpAny_one (i := 17) (by kernel_rfl) rfl ?_
    intro K' hK
    go_simp
    refine hK _ _ ?_
    clear hK K'
    refine wpAny_one (i := 18) (by kernel_rfl) rfl ?_
    intro K' hK
    go_simp
    refine hK _ _ ?_
    clear hK K'
    refine wpAny_one (i := 19) (by kernel_rfl) rfl ?_
    intro K' hK
    go_simp
    refine hK _ _ ?_
    clear hK K'
    refine wpAny_done (by kernel_rfl) ?_ _
    show Exit.then _ _ _ _ (st4 v g1 g2 g3 g4 sa ta sb tb (.slice p1 l1.length c1) (.slice p2 l2.length c2) (.slice p3 l3.length c3) (.slice p4 l4.length c4))
    generalize st4 v g1 g2 g3 g4 sa ta sb tb (.slice p1 l1.length c1) (.slice p2 l2.length c2) (.slice p3 l3.length c3) (.slice p4 l4.length c4) = V at X1 ⊢
    have K0 := Lib.hid X1.out.1
    have A1 := Lib.hid X1.out.2.1
    have A2 := Lib.hid X1.out.2.2.1
    have A3 := Lib.hid X1.out.2.2.2.1
    have A4 := Lib.hid X1.out.2.2.2.2
    clear X1 e10 e11 e20 e21 e30 e31 e40 e41 f10 f11 f20 f21 f30 f31 f40 f41 O1 O2 O3 O4
    obtain ⟨k1, k2, k3, k4, k5, k6, k7, k8, k9, k10, k11, k12, k13, k14, k15, k16, k17, k18, k19, k20, k21, k22, k23⟩ := K0.out
    have t1 : ¬ g1 = w.heap.size + 1 + 1 := by omega
    have t2 : ¬ g2 = w.heap.size + 1 + 1 := by omega
    have t3 : ¬ g3 = w.heap.size + 1 + 1 := by omega
    have t4 : ¬ g4 = w.heap.size + 1 + 1 := by omega
    go_wp2_with fail
    refine bodyPost_ret (v := fracV 0 0 5) (by simp [results, Tryd.results19, go_sem, fracV, k10, k11, k14]) rfl ⟨rfl, ?_⟩
    exact by repeat' (first | exact Below.refl _ _ | refine below_drewN ?_ _ | refine Below.drew ?_ | refine Below.setCell ?_ ?_ _ | (with_reducible exact k23) | (simp; done) | (simp; omega) | omega)
  case hstep =>
    intro L a v hs hc hI hst i o ho hun hall K' hK
    have hi : i < 20 := by have := (Array.getElem?_eq_some_iff.1 ho).1; simpa using this
    obtain ⟨y8, y9, y10, y11, x21, x22, x23, x24, x25, x26, x27, x28, x29, x30, x31, x32, rfl, K, q0, q1, q3, q4, q6, q7, q9, q10, q2, q5, q8, q11, q12, q13, q14, q15, d12_13, d12_14, d12_15, d13_14, d13_15, d14_15, hz⟩ := hI
    rcases (by omega : i = 0 ∨ i = 1 ∨ i = 2 ∨ i = 3 ∨ i = 4 ∨ i = 5 ∨ i = 6 ∨ i = 7 ∨ i = 8 ∨ i = 9 ∨ i = 10 ∨ i = 11 ∨ i = 12 ∨ i = 13 ∨ i = 14 ∨ i = 15 ∨ 16 ≤ i) with rfl | rfl | rfl | rfl | rfl | rfl | rfl | rfl | rfl | rfl | rfl | rfl | rfl | rfl | rfl | rfl | h16
    · -- operation 0
      simp at ho
      subst ho
      unfold arF
      go_simp
      exact hK _ _ ⟨y8, y9, y10, y11, (.pointer (some ⟨w.heap.size, 0, none⟩)), x22, x23, x24, x25, x26, x27, x28, x29, x30, x31, x32, rfl, K, (fun _ => rfl), (fun h => q1 (getD_set_back h (by decide))), (fun h => q3 (getD_set_back h (by decide))), (fun h => q4 (getD_set_back h (by decide))), (fun h => q6 (getD_set_back h (by decide))), (fun h => q7 (getD_set_back h (by decide))), (fun h => q9 (getD_set_back h (by decide))), (fun h => q10 (getD_set_back h (by decide))), (fun h => q2 (getD_set_back h (by decide))), (fun h => q5 (getD_set_back h (by decide))), (fun h => q8 (getD_set_back h (by decide))), (fun h => q11 (getD_set_back h (by decide))), (fun h => q12 (getD_set_back h (by decide))), (fun h => q13 (getD_set_back h (by decide))), (fun h => q14 (getD_set_back h (by decide))), (fun h => q15 (getD_set_back h (by decide))), (fun h h' => d12_13 (getD_set_back h (by decide)) (getD_set_back h' (by decide))), (fun h h' => d12_14 (getD_set_back h (by decide)) (getD_set_back h' (by decide))), (fun h h' => d12_15 (getD_set_back h (by decide)) (getD_set_back h' (by decide))), (fun h h' => d13_14 (getD_set_back h (by decide)) (getD_set_back h' (by decide))), (fun h h' => d13_15 (getD_set_back h (by decide)) (getD_set_back h' (by decide))), (fun h h' => d14_15 (getD_set_back h (by decide)) (getD_set_back h' (by decide))), (fun j hj => by rw [getD_set_other (by omega)]; exact hz j hj)⟩
    · -- operation 1
      simp at ho
      subst ho
      simp [Region.binds] at hall
      have hd := q0 (gq (by first | exact hall | exact hall.1 | exact hall.2))
      subst hd
      obtain ⟨k1, k2, k3, k4, k5, k6, k7, k8, ksz, kb⟩ := id K
      unfold arF
      go_simp
      exact hK _ _ ⟨y8, y9, y10, y11, (.pointer (some ⟨w.heap.size, 0, none⟩)), (.int .i64 an), x23, x24, x25, x26, x27, x28, x29, x30, x31, x32, rfl, K, (fun h => q0 (getD_set_back h (by decide))), (fun _ => rfl), (fun h => q3 (getD_set_back h (by decide))), (fun h => q4 (getD_set_back h (by decide))), (fun h => q6 (getD_set_back h (by decide))), (fun h => q7 (getD_set_back h (by decide))), (fun h => q9 (getD_set_back h (by decide))), (fun h => q10 (getD_set_back h (by decide))), (fun h => q2 (getD_set_back h (by decide))), (fun h => q5 (getD_set_back h (by decide))), (fun h => q8 (getD_set_back h (by decide))), (fun h => q11 (getD_set_back h (by decide))), (fun h => q12 (getD_set_back h (by decide))), (fun h => q13 (getD_set_back h (by decide))), (fun h => q14 (getD_set_back h (by decide))), (fun h => q15 (getD_set_back h (by decide))), (fun h h' => d12_13 (getD_set_back h (by decide)) (getD_set_back h' (by decide))), (fun h h' => d12_14 (getD_set_back h (by decide)) (getD_set_back h' (by decide))), (fun h h' => d12_15 (getD_set_back h (by decide)) (getD_set_back h' (by decide))), (fun h h' => d13_14 (getD_set_back h (by decide)) (getD_set_back h' (by decide))), (fun h h' => d13_15 (getD_set_back h (by decide)) (getD_set_back h' (by decide))), (fun h h' => d14_15 (getD_set_back h (by decide)) (getD_set_back h' (by decide))), (fun j hj => by rw [getD_set_other (by omega)]; exact hz j hj)⟩
    · -- operation 2
      simp at ho
      subst ho
      simp [Region.binds] at hall
      have hd := q1 (gq (by first | exact hall | exact hall.1 | exact hall.2))
      subst hd
      unfold arF
      go_simp
      go_at_call 46
      refine (O1.out _).mono ?_
      rintro e v' ⟨p1, l1, c1, rfl, r1, r2, r3⟩
      exact hK _ _ ⟨y8, y9, y10, y11, x21, (.int .i64 an), (.agg #[.bool sa, .slice p1 l1.length c1]), x24, x25, x26, x27, x28, x29, x30, x31, x32, rfl, K.below r3, (fun h => q0 (getD_set_back h (by decide))), (fun h => q1 (getD_set_back h (by decide))), (fun h => q3 (getD_set_back h (by decide))), (fun h => q4 (getD_set_back h (by decide))), (fun h => q6 (getD_set_back h (by decide))), (fun h => q7 (getD_set_back h (by decide))), (fun h => q9 (getD_set_back h (by decide))), (fun h => q10 (getD_set_back h (by decide))), (fun _ => ⟨p1, l1, c1, rfl, r1⟩), (fun h => (q5 (getD_set_back h (by decide))).below r3), (fun h => (q8 (getD_set_back h (by decide))).below r3), (fun h => (q11 (getD_set_back h (by decide))).below r3), (fun h => (q12 (getD_set_back h (by decide))).below r3), (fun h => (q13 (getD_set_back h (by decide))).below r3), (fun h => (q14 (getD_set_back h (by decide))).below r3), (fun h => (q15 (getD_set_back h (by decide))).below r3), (fun h h' => d12_13 (getD_set_back h (by decide)) (getD_set_back h' (by decide))), (fun h h' => d12_14 (getD_set_back h (by decide)) (getD_set_back h' (by decide))), (fun h h' => d12_15 (getD_set_back h (by decide)) (getD_set_back h' (by decide))), (fun h h' => d13_14 (getD_set_back h (by decide)) (getD_set_back h' (by decide))), (fun h h' => d13_15 (getD_set_back h (by decide)) (getD_set_back h' (by decide))), (fun h h' => d14_15 (getD_set_back h (by decide)) (getD_set_back h' (by decide))), (fun j hj => by rw [getD_set_other (by omega)]; exact hz j hj)⟩
    · -- operation 3
      simp at ho
      subst ho
      unfold arF
      go_simp
      exact hK _ _ ⟨y8, y9, y10, y11, x21, x22, x23, (.pointer (some ⟨w.heap.size, 1, none⟩)), x25, x26, x27, x28, x29, x30, x31, x32, rfl, K, (fun h => q0 (getD_set_back h (by decide))), (fun h => q1 (getD_set_back h (by decide))), (fun _ => rfl), (fun h => q4 (getD_set_back h (by decide))), (fun h => q6 (getD_set_back h (by decide))), (fun h => q7 (getD_set_back h (by decide))), (fun h => q9 (getD_set_back h (by decide))), (fun h => q10 (getD_set_back h (by decide))), (fun h => q2 (getD_set_back h (by decide))), (fun h => q5 (getD_set_back h (by decide))), (fun h => q8 (getD_set_back h (by decide))), (fun h => q11 (getD_set_back h (by decide))), (fun h => q12 (getD_set_back h (by decide))), (fun h => q13 (getD_set_back h (by decide))), (fun h => q14 (getD_set_back h (by decide))), (fun h => q15 (getD_set_back h (by decide))), (fun h h' => d12_13 (getD_set_back h (by decide)) (getD_set_back h' (by decide))), (fun h h' => d12_14 (getD_set_back h (by decide)) (getD_set_back h' (by decide))), (fun h h' => d12_15 (getD_set_back h (by decide)) (getD_set_back h' (by decide))), (fun h h' => d13_14 (getD_set_back h (by decide)) (getD_set_back h' (by decide))), (fun h h' => d13_15 (getD_set_back h (by decide)) (getD_set_back h' (by decide))), (fun h h' => d14_15 (getD_set_back h (by decide)) (getD_set_back h' (by decide))), (fun j hj => by rw [getD_set_other (by omega)]; exact hz j hj)⟩
    · -- operation 4
      simp at ho
      subst ho
      simp [Region.binds] at hall
      have hd := q3 (gq (by first | exact hall | exact hall.1 | exact hall.2))
      subst hd
      obtain ⟨k1, k2, k3, k4, k5, k6, k7, k8, ksz, kb⟩ := id K
      unfold arF
      go_simp
      exact hK _ _ ⟨y8, y9, y10, y11, x21, x22, x23, (.pointer (some ⟨w.heap.size, 1, none⟩)), (.int .i64 ad), x26, x27, x28, x29, x30, x31, x32, rfl, K, (fun h => q0 (getD_set_back h (by decide))), (fun h => q1 (getD_set_back h (by decide))), (fun h => q3 (getD_set_back h (by decide))), (fun _ => rfl), (fun h => q6 (getD_set_back h (by decide))), (fun h => q7 (getD_set_back h (by decide))), (fun h => q9 (getD_set_back h (by decide))), (fun h => q10 (getD_set_back h (by decide))), (fun h => q2 (getD_set_back h (by decide))), (fun h => q5 (getD_set_back h (by decide))), (fun h => q8 (getD_set_back h (by decide))), (fun h => q11 (getD_set_back h (by decide))), (fun h => q12 (getD_set_back h (by decide))), (fun h => q13 (getD_set_back h (by decide))), (fun h => q14 (getD_set_back h (by decide))), (fun h => q15 (getD_set_back h (by decide))), (fun h h' => d12_13 (getD_set_back h (by decide)) (getD_set_back h' (by decide))), (fun h h' => d12_14 (getD_set_back h (by decide)) (getD_set_back h' (by decide))), (fun h h' => d12_15 (getD_set_back h (by decide)) (getD_set_back h' (by decide))), (fun h h' => d13_14 (getD_set_back h (by decide)) (getD_set_back h' (by decide))), (fun h h' => d13_15 (getD_set_back h (by decide)) (getD_set_back h' (by decide))), (fun h h' => d14_15 (getD_set_back h (by decide)) (getD_set_back h' (by decide))), (fun j hj => by rw [getD_set_other (by omega)]; exact hz j hj)⟩
    · -- operation 5
      simp at ho
      subst ho
      simp [Region.binds] at hall
      have hd := q4 (gq (by first | exact hall | exact hall.1 | exact hall.2))
      subst hd
      unfold arF
      go_simp
      go_at_call 46
      refine (O2.out _).mono ?_
      rintro e v' ⟨p1, l1, c1, rfl, r1, r2, r3⟩
      exact hK _ _ ⟨y8, y9, y10, y11, x21, x22, x23, x24, (.int .i64 ad), (.agg #[.bool ta, .slice p1 l1.length c1]), x27, x28, x29, x30, x31, x32, rfl, K.below r3, (fun h => q0 (getD_set_back h (by decide))), (fun h => q1 (getD_set_back h (by decide))), (fun h => q3 (getD_set_back h (by decide))), (fun h => q4 (getD_set_back h (by decide))), (fun h => q6 (getD_set_back h (by decide))), (fun h => q7 (getD_set_back h (by decide))), (fun h => q9 (getD_set_back h (by decide))), (fun h => q10 (getD_set_back h (by decide))), (fun h => (q2 (getD_set_back h (by decide))).below r3), (fun _ => ⟨p1, l1, c1, rfl, r1⟩), (fun h => (q8 (getD_set_back h (by decide))).below r3), (fun h => (q11 (getD_set_back h (by decide))).below r3), (fun h => (q12 (getD_set_back h (by decide))).below r3), (fun h => (q13 (getD_set_back h (by decide))).below r3), (fun h => (q14 (getD_set_back h (by decide))).below r3), (fun h => (q15 (getD_set_back h (by decide))).below r3), (fun h h' => d12_13 (getD_set_back h (by decide)) (getD_set_back h' (by decide))), (fun h h' => d12_14 (getD_set_back h (by decide)) (getD_set_back h' (by decide))), (fun h h' => d12_15 (getD_set_back h (by decide)) (getD_set_back h' (by decide))), (fun h h' => d13_14 (getD_set_back h (by decide)) (getD_set_back h' (by decide))), (fun h h' => d13_15 (getD_set_back h (by decide)) (getD_set_back h' (by decide))), (fun h h' => d14_15 (getD_set_back h (by decide)) (getD_set_back h' (by decide))), (fun j hj => by rw [getD_set_other (by omega)]; exact hz j hj)⟩
    · -- operation 6
      simp at ho
      subst ho
      unfold arF
      go_simp
      exact hK _ _ ⟨y8, y9, y10, y11, x21, x22, x23, x24, x25, x26, (.pointer (some ⟨w.heap.size + 1, 0, none⟩)), x28, x29, x30, x31, x32, rfl, K, (fun h => q0 (getD_set_back h (by decide))), (fun h => q1 (getD_set_back h (by decide))), (fun h => q3 (getD_set_back h (by decide))), (fun h => q4 (getD_set_back h (by decide))), (fun _ => rfl), (fun h => q7 (getD_set_back h (by decide))), (fun h => q9 (getD_set_back h (by decide))), (fun h => q10 (getD_set_back h (by decide))), (fun h => q2 (getD_set_back h (by decide))), (fun h => q5 (getD_set_back h (by decide))), (fun h => q8 (getD_set_back h (by decide))), (fun h => q11 (getD_set_back h (by decide))), (fun h => q12 (getD_set_back h (by decide))), (fun h => q13 (getD_set_back h (by decide))), (fun h => q14 (getD_set_back h (by decide))), (fun h => q15 (getD_set_back h (by decide))), (fun h h' => d12_13 (getD_set_back h (by decide)) (getD_set_back h' (by decide))), (fun h h' => d12_14 (getD_set_back h (by decide)) (getD_set_back h' (by decide))), (fun h h' => d12_15 (getD_set_back h (by decide)) (getD_set_back h' (by decide))), (fun h h' => d13_14 (getD_set_back h (by decide)) (getD_set_back h' (by decide))), (fun h h' => d13_15 (getD_set_back h (by decide)) (getD_set_back h' (by decide))), (fun h h' => d14_15 (getD_set_back h (by decide)) (getD_set_back h' (by decide))), (fun j hj => by rw [getD_set_other (by omega)]; exact hz j hj)⟩
    · -- operation 7
      simp at ho
      subst ho
      simp [Region.binds] at hall
      have hd := q6 (gq (by first | exact hall | exact hall.1 | exact hall.2))
      subst hd
      obtain ⟨k1, k2, k3, k4, k5, k6, k7, k8, ksz, kb⟩ := id K
      unfold arF
      go_simp
      exact hK _ _ ⟨y8, y9, y10, y11, x21, x22, x23, x24, x25, x26, (.pointer (some ⟨w.heap.size + 1, 0, none⟩)), (.int .i64 bn), x29, x30, x31, x32, rfl, K, (fun h => q0 (getD_set_back h (by decide))), (fun h => q1 (getD_set_back h (by decide))), (fun h => q3 (getD_set_back h (by decide))), (fun h => q4 (getD_set_back h (by decide))), (fun h => q6 (getD_set_back h (by decide))), (fun _ => rfl), (fun h => q9 (getD_set_back h (by decide))), (fun h => q10 (getD_set_back h (by decide))), (fun h => q2 (getD_set_back h (by decide))), (fun h => q5 (getD_set_back h (by decide))), (fun h => q8 (getD_set_back h (by decide))), (fun h => q11 (getD_set_back h (by decide))), (fun h => q12 (getD_set_back h (by decide))), (fun h => q13 (getD_set_back h (by decide))), (fun h => q14 (getD_set_back h (by decide))), (fun h => q15 (getD_set_back h (by decide))), (fun h h' => d12_13 (getD_set_back h (by decide)) (getD_set_back h' (by decide))), (fun h h' => d12_14 (getD_set_back h (by decide)) (getD_set_back h' (by decide))), (fun h h' => d12_15 (getD_set_back h (by decide)) (getD_set_back h' (by decide))), (fun h h' => d13_14 (getD_set_back h (by decide)) (getD_set_back h' (by decide))), (fun h h' => d13_15 (getD_set_back h (by decide)) (getD_set_back h' (by decide))), (fun h h' => d14_15 (getD_set_back h (by decide)) (getD_set_back h' (by decide))), (fun j hj => by rw [getD_set_other (by omega)]; exact hz j hj)⟩
    · -- operation 8
      simp at ho
      subst ho
      simp [Region.binds] at hall
      have hd := q7 (gq (by first | exact hall | exact hall.1 | exact hall.2))
      subst hd
      unfold arF
      go_simp
      go_at_call 46
      refine (O3.out _).mono ?_
      rintro e v' ⟨p1, l1, c1, rfl, r1, r2, r3⟩
      exact hK _ _ ⟨y8, y9, y10, y11, x21, x22, x23, x24, x25, x26, x27, (.int .i64 bn), (.agg #[.bool sb, .slice p1 l1.length c1]), x30, x31, x32, rfl, K.below r3, (fun h => q0 (getD_set_back h (by decide))), (fun h => q1 (getD_set_back h (by decide))), (fun h => q3 (getD_set_back h (by decide))), (fun h => q4 (getD_set_back h (by decide))), (fun h => q6 (getD_set_back h (by decide))), (fun h => q7 (getD_set_back h (by decide))), (fun h => q9 (getD_set_back h (by decide))), (fun h => q10 (getD_set_back h (by decide))), (fun h => (q2 (getD_set_back h (by decide))).below r3), (fun h => (q5 (getD_set_back h (by decide))).below r3), (fun _ => ⟨p1, l1, c1, rfl, r1⟩), (fun h => (q11 (getD_set_back h (by decide))).below r3), (fun h => (q12 (getD_set_back h (by decide))).below r3), (fun h => (q13 (getD_set_back h (by decide))).below r3), (fun h => (q14 (getD_set_back h (by decide))).below r3), (fun h => (q15 (getD_set_back h (by decide))).below r3), (fun h h' => d12_13 (getD_set_back h (by decide)) (getD_set_back h' (by decide))), (fun h h' => d12_14 (getD_set_back h (by decide)) (getD_set_back h' (by decide))), (fun h h' => d12_15 (getD_set_back h (by decide)) (getD_set_back h' (by decide))), (fun h h' => d13_14 (getD_set_back h (by decide)) (getD_set_back h' (by decide))), (fun h h' => d13_15 (getD_set_back h (by decide)) (getD_set_back h' (by decide))), (fun h h' => d14_15 (getD_set_back h (by decide)) (getD_set_back h' (by decide))), (fun j hj => by rw [getD_set_other (by omega)]; exact hz j hj)⟩
    · -- operation 9
      simp at ho
      subst ho
      unfold arF
      go_simp
      exact hK _ _ ⟨y8, y9, y10, y11, x21, x22, x23, x24, x25, x26, x27, x28, x29, (.pointer (some ⟨w.heap.size + 1, 1, none⟩)), x31, x32, rfl, K, (fun h => q0 (getD_set_back h (by decide))), (fun h => q1 (getD_set_back h (by decide))), (fun h => q3 (getD_set_back h (by decide))), (fun h => q4 (getD_set_back h (by decide))), (fun h => q6 (getD_set_back h (by decide))), (fun h => q7 (getD_set_back h (by decide))), (fun _ => rfl), (fun h => q10 (getD_set_back h (by decide))), (fun h => q2 (getD_set_back h (by decide))), (fun h => q5 (getD_set_back h (by decide))), (fun h => q8 (getD_set_back h (by decide))), (fun h => q11 (getD_set_back h (by decide))), (fun h => q12 (getD_set_back h (by decide))), (fun h => q13 (getD_set_back h (by decide))), (fun h => q14 (getD_set_back h (by decide))), (fun h => q15 (getD_set_back h (by decide))), (fun h h' => d12_13 (getD_set_back h (by decide)) (getD_set_back h' (by decide))), (fun h h' => d12_14 (getD_set_back h (by decide)) (getD_set_back h' (by decide))), (fun h h' => d12_15 (getD_set_back h (by decide)) (getD_set_back h' (by decide))), (fun h h' => d13_14 (getD_set_back h (by decide)) (getD_set_back h' (by decide))), (fun h h' => d13_15 (getD_set_back h (by decide)) (getD_set_back h' (by decide))), (fun h h' => d14_15 (getD_set_back h (by decide)) (getD_set_back h' (by decide))), (fun j hj => by rw [getD_set_other (by omega)]; exact hz j hj)⟩
    · -- operation 10
      simp at ho
      subst ho
      simp [Region.binds] at hall
      have hd := q9 (gq (by first | exact hall | exact hall.1 | exact hall.2))
      subst hd
      obtain ⟨k1, k2, k3, k4, k5, k6, k7, k8, ksz, kb⟩ := id K
      unfold arF
      go_simp
      exact hK _ _ ⟨y8, y9, y10, y11, x21, x22, x23, x24, x25, x26, x27, x28, x29, (.pointer (some ⟨w.heap.size + 1, 1, none⟩)), (.int .i64 bd), x32, rfl, K, (fun h => q0 (getD_set_back h (by decide))), (fun h => q1 (getD_set_back h (by decide))), (fun h => q3 (getD_set_back h (by decide))), (fun h => q4 (getD_set_back h (by decide))), (fun h => q6 (getD_set_back h (by decide))), (fun h => q7 (getD_set_back h (by decide))), (fun h => q9 (getD_set_back h (by decide))), (fun _ => rfl), (fun h => q2 (getD_set_back h (by decide))), (fun h => q5 (getD_set_back h (by decide))), (fun h => q8 (getD_set_back h (by decide))), (fun h => q11 (getD_set_back h (by decide))), (fun h => q12 (getD_set_back h (by decide))), (fun h => q13 (getD_set_back h (by decide))), (fun h => q14 (getD_set_back h (by decide))), (fun h => q15 (getD_set_back h (by decide))), (fun h h' => d12_13 (getD_set_back h (by decide)) (getD_set_back h' (by decide))), (fun h h' => d12_14 (getD_set_back h (by decide)) (getD_set_back h' (by decide))), (fun h h' => d12_15 (getD_set_back h (by decide)) (getD_set_back h' (by decide))), (fun h h' => d13_14 (getD_set_back h (by decide)) (getD_set_back h' (by decide))), (fun h h' => d13_15 (getD_set_back h (by decide)) (getD_set_back h' (by decide))), (fun h h' => d14_15 (getD_set_back h (by decide)) (getD_set_back h' (by decide))), (fun j hj => by rw [getD_set_other (by omega)]; exact hz j hj)⟩
    · -- operation 11
      simp at ho
      subst ho
      simp [Region.binds] at hall
      have hd := q10 (gq (by first | exact hall | exact hall.1 | exact hall.2))
      subst hd
      unfold arF
      go_simp
      go_at_call 46
      refine (O4.out _).mono ?_
      rintro e v' ⟨p1, l1, c1, rfl, r1, r2, r3⟩
      exact hK _ _ ⟨y8, y9, y10, y11, x21, x22, x23, x24, x25, x26, x27, x28, x29, x30, (.int .i64 bd), (.agg #[.bool tb, .slice p1 l1.length c1]), rfl, K.below r3, (fun h => q0 (getD_set_back h (by decide))), (fun h => q1 (getD_set_back h (by decide))), (fun h => q3 (getD_set_back h (by decide))), (fun h => q4 (getD_set_back h (by decide))), (fun h => q6 (getD_set_back h (by decide))), (fun h => q7 (getD_set_back h (by decide))), (fun h => q9 (getD_set_back h (by decide))), (fun h => q10 (getD_set_back h (by decide))), (fun h => (q2 (getD_set_back h (by decide))).below r3), (fun h => (q5 (getD_set_back h (by decide))).below r3), (fun h => (q8 (getD_set_back h (by decide))).below r3), (fun _ => ⟨p1, l1, c1, rfl, r1⟩), (fun h => (q12 (getD_set_back h (by decide))).below r3), (fun h => (q13 (getD_set_back h (by decide))).below r3), (fun h => (q14 (getD_set_back h (by decide))).below r3), (fun h => (q15 (getD_set_back h (by decide))).below r3), (fun h h' => d12_13 (getD_set_back h (by decide)) (getD_set_back h' (by decide))), (fun h h' => d12_14 (getD_set_back h (by decide)) (getD_set_back h' (by decide))), (fun h h' => d12_15 (getD_set_back h (by decide)) (getD_set_back h' (by decide))), (fun h h' => d13_14 (getD_set_back h (by decide)) (getD_set_back h' (by decide))), (fun h h' => d13_15 (getD_set_back h (by decide)) (getD_set_back h' (by decide))), (fun h h' => d14_15 (getD_set_back h (by decide)) (getD_set_back h' (by decide))), (fun j hj => by rw [getD_set_other (by omega)]; exact hz j hj)⟩
    · -- operation 12
      simp at ho
      subst ho
      unfold arF
      go_simp
      have hb0 : Below v.heap.size v (v.alloc (Obj.cells #[Value.bool false, Value.slice none 0 0] 53)) := (Below.refl _ _).alloc (Nat.le_refl _) _
      exact hK _ _ ⟨(.pointer (some ⟨v.heap.size, 0, none⟩)), y9, y10, y11, x21, x22, x23, x24, x25, x26, x27, x28, x29, x30, x31, x32, rfl, K.below hb0, (fun h => q0 (getD_set_back h (by decide))), (fun h => q1 (getD_set_back h (by decide))), (fun h => q3 (getD_set_back h (by decide))), (fun h => q4 (getD_set_back h (by decide))), (fun h => q6 (getD_set_back h (by decide))), (fun h => q7 (getD_set_back h (by decide))), (fun h => q9 (getD_set_back h (by decide))), (fun h => q10 (getD_set_back h (by decide))), (fun h => (q2 (getD_set_back h (by decide))).below hb0), (fun h => (q5 (getD_set_back h (by decide))).below hb0), (fun h => (q8 (getD_set_back h (by decide))).below hb0), (fun h => (q11 (getD_set_back h (by decide))).below hb0), (fun _ => BoxAt.new K.sz), (fun h => (q13 (getD_set_back h (by decide))).below hb0), (fun h => (q14 (getD_set_back h (by decide))).below hb0), (fun h => (q15 (getD_set_back h (by decide))).below hb0), (fun _ h => ((q13 (getD_set_back h (by decide))).ne).symm), (fun _ h => ((q14 (getD_set_back h (by decide))).ne).symm), (fun _ h => ((q15 (getD_set_back h (by decide))).ne).symm), (fun h h' => d13_14 (getD_set_back h (by decide)) (getD_set_back h' (by decide))), (fun h h' => d13_15 (getD_set_back h (by decide)) (getD_set_back h' (by decide))), (fun h h' => d14_15 (getD_set_back h (by decide)) (getD_set_back h' (by decide))), (fun j hj => by rw [getD_set_other (by omega)]; exact hz j hj)⟩
    · -- operation 13
      simp at ho
      subst ho
      unfold arF
      go_simp
      have hb0 : Below v.heap.size v (v.alloc (Obj.cells #[Value.bool false, Value.slice none 0 0] 53)) := (Below.refl _ _).alloc (Nat.le_refl _) _
      exact hK _ _ ⟨y8, (.pointer (some ⟨v.heap.size, 0, none⟩)), y10, y11, x21, x22, x23, x24, x25, x26, x27, x28, x29, x30, x31, x32, rfl, K.below hb0, (fun h => q0 (getD_set_back h (by decide))), (fun h => q1 (getD_set_back h (by decide))), (fun h => q3 (getD_set_back h (by decide))), (fun h => q4 (getD_set_back h (by decide))), (fun h => q6 (getD_set_back h (by decide))), (fun h => q7 (getD_set_back h (by decide))), (fun h => q9 (getD_set_back h (by decide))), (fun h => q10 (getD_set_back h (by decide))), (fun h => (q2 (getD_set_back h (by decide))).below hb0), (fun h => (q5 (getD_set_back h (by decide))).below hb0), (fun h => (q8 (getD_set_back h (by decide))).below hb0), (fun h => (q11 (getD_set_back h (by decide))).below hb0), (fun h => (q12 (getD_set_back h (by decide))).below hb0), (fun _ => BoxAt.new K.sz), (fun h => (q14 (getD_set_back h (by decide))).below hb0), (fun h => (q15 (getD_set_back h (by decide))).below hb0), (fun h _ => (q12 (getD_set_back h (by decide))).ne), (fun h h' => d12_14 (getD_set_back h (by decide)) (getD_set_back h' (by decide))), (fun h h' => d12_15 (getD_set_back h (by decide)) (getD_set_back h' (by decide))), (fun _ h => ((q14 (getD_set_back h (by decide))).ne).symm), (fun _ h => ((q15 (getD_set_back h (by decide))).ne).symm), (fun h h' => d14_15 (getD_set_back h (by decide)) (getD_set_back h' (by decide))), (fun j hj => by rw [getD_set_other (by omega)]; exact hz j hj)⟩
    · -- operation 14
      simp at ho
      subst ho
      unfold arF
      go_simp
      have hb0 : Below v.heap.size v (v.alloc (Obj.cells #[Value.bool false, Value.slice none 0 0] 53)) := (Below.refl _ _).alloc (Nat.le_refl _) _
      exact hK _ _ ⟨y8, y9, (.pointer (some ⟨v.heap.size, 0, none⟩)), y11, x21, x22, x23, x24, x25, x26, x27, x28, x29, x30, x31, x32, rfl, K.below hb0, (fun h => q0 (getD_set_back h (by decide))), (fun h => q1 (getD_set_back h (by decide))), (fun h => q3 (getD_set_back h (by decide))), (fun h => q4 (getD_set_back h (by decide))), (fun h => q6 (getD_set_back h (by decide))), (fun h => q7 (getD_set_back h (by decide))), (fun h => q9 (getD_set_back h (by decide))), (fun h => q10 (getD_set_back h (by decide))), (fun h => (q2 (getD_set_back h (by decide))).below hb0), (fun h => (q5 (getD_set_back h (by decide))).below hb0), (fun h => (q8 (getD_set_back h (by decide))).below hb0), (fun h => (q11 (getD_set_back h (by decide))).below hb0), (fun h => (q12 (getD_set_back h (by decide))).below hb0), (fun h => (q13 (getD_set_back h (by decide))).below hb0), (fun _ => BoxAt.new K.sz), (fun h => (q15 (getD_set_back h (by decide))).below hb0), (fun h h' => d12_13 (getD_set_back h (by decide)) (getD_set_back h' (by decide))), (fun h _ => (q12 (getD_set_back h (by decide))).ne), (fun h h' => d12_15 (getD_set_back h (by decide)) (getD_set_back h' (by decide))), (fun h _ => (q13 (getD_set_back h (by decide))).ne), (fun h h' => d13_15 (getD_set_back h (by decide)) (getD_set_back h' (by decide))), (fun _ h => ((q15 (getD_set_back h (by decide))).ne).symm), (fun j hj => by rw [getD_set_other (by omega)]; exact hz j hj)⟩
    · -- operation 15
      simp at ho
      subst ho
      unfold arF
      go_simp
      have hb0 : Below v.heap.size v (v.alloc (Obj.cells #[Value.bool false, Value.slice none 0 0] 53)) := (Below.refl _ _).alloc (Nat.le_refl _) _
      exact hK _ _ ⟨y8, y9, y10, (.pointer (some ⟨v.heap.size, 0, none⟩)), x21, x22, x23, x24, x25, x26, x27, x28, x29, x30, x31, x32, rfl, K.below hb0, (fun h => q0 (getD_set_back h (by decide))), (fun h => q1 (getD_set_back h (by decide))), (fun h => q3 (getD_set_back h (by decide))), (fun h => q4 (getD_set_back h (by decide))), (fun h => q6 (getD_set_back h (by decide))), (fun h => q7 (getD_set_back h (by decide))), (fun h => q9 (getD_set_back h (by decide))), (fun h => q10 (getD_set_back h (by decide))), (fun h => (q2 (getD_set_back h (by decide))).below hb0), (fun h => (q5 (getD_set_back h (by decide))).below hb0), (fun h => (q8 (getD_set_back h (by decide))).below hb0), (fun h => (q11 (getD_set_back h (by decide))).below hb0), (fun h => (q12 (getD_set_back h (by decide))).below hb0), (fun h => (q13 (getD_set_back h (by decide))).below hb0), (fun h => (q14 (getD_set_back h (by decide))).below hb0), (fun _ => BoxAt.new K.sz), (fun h h' => d12_13 (getD_set_back h (by decide)) (getD_set_back h' (by decide))), (fun h h' => d12_14 (getD_set_back h (by decide)) (getD_set_back h' (by decide))), (fun h _ => (q12 (getD_set_back h (by decide))).ne), (fun h h' => d13_14 (getD_set_back h (by decide)) (getD_set_back h' (by decide))), (fun h _ => (q13 (getD_set_back h (by decide))).ne), (fun h _ => (q14 (getD_set_back h (by decide))).ne), (fun j hj => by rw [getD_set_other (by omega)]; exact hz j hj)⟩
    · rcases (by omega : i = 16 ∨ i = 17 ∨ i = 18 ∨ i = 19) with rfl | rfl | rfl | rfl
      · simp at ho
        subst ho
        simp [Region.binds] at hall
        have h11 : L.getD 11 false = true := gq (by simp [hall])
        have c11 := hc 11 _ (by simp; rfl) h11
        simp [Region.binds] at c11
        have c10 := hc 10 _ (by simp; rfl) (gq (by simp [c11]))
        simp [Region.binds] at c10
        have c8 := hc 8 _ (by simp; rfl) (gq (by simp [c11]))
        simp [Region.binds] at c8
        have c7 := hc 7 _ (by simp; rfl) (gq (by simp [c8]))
        simp [Region.binds] at c7
        have c5 := hc 5 _ (by simp; rfl) (gq (by simp [c8]))
        simp [Region.binds] at c5
        have c4 := hc 4 _ (by simp; rfl) (gq (by simp [c5]))
        simp [Region.binds] at c4
        refine absurd (fun j hj => ?_) hst
        rcases (by omega : j = 0 ∨ j = 1 ∨ j = 2 ∨ j = 3 ∨ j = 4 ∨ j = 5 ∨ j = 6 ∨ j = 7 ∨ j = 8 ∨ j = 9 ∨ j = 10 ∨ j = 11 ∨ j = 12 ∨ j = 13 ∨ j = 14 ∨ j = 15) with rfl | rfl | rfl | rfl | rfl | rfl | rfl | rfl | rfl | rfl | rfl | rfl | rfl | rfl | rfl | rfl
        all_goals exact gq (by simp [hall, c11, c10, c8, c7, c5, c4])
      all_goals
        simp at ho
        subst ho
        simp [Region.binds] at hall
        have z0 := hz 16 (by omega)
        have z1 := hz 17 (by omega)
        have z2 := hz 18 (by omega)
        rw [Array.getD_eq_getD_getElem?] at z0 z1 z2
        simp [z0, z1, z2] at hall

theorem rArith_bad (what an ad bn bd : Int) (x1 : -9223372036854775808 ≤ an) (x2 : an ≤ 9223372036854775807) (x3 : -9223372036854775808 ≤ bn) (x4 : bn ≤ 9223372036854775807) (h : vldB an ad = false ∨ vldB bn bd = false) (w : World) :
    Calls Tryd.prog 19 #[.int .i64 what, .agg #[.int .i64 an, .int .i64 ad], .agg #[.int .i64 bn, .int .i64 bd]] w fun e w' => e = .returned (fracV 0 0 2) ∧ Below w.heap.size w w' := by
  by_cases ha : vldB an ad = true
  · have hb : vldB bn bd = false := by rcases h with h | h; (rw [ha] at h; cases h); exact h
    have HA := Lib.hid ha; clear ha
    have HB := Lib.hid hb; clear hb h
    go_enter Tryd.func19, Tryd.ntmps19
    go_wp2_with fail
    refine (rValid_any _ _ (by omega) (by omega) _).mono ?_
    rintro e w1 ⟨rfl, hb1⟩
    have J1 := Lib.hid ((Fr3.new w an ad bn bd).below hb1)
    rw [HA.out]
    clear hb1
    obtain ⟨k1, k2, k3, k4, k5, k6, k7, k8, ksz, kb⟩ := J1.out
    go_wp2_with fail
    refine (rValid_any _ _ (by omega) (by omega) _).mono ?_
    rintro e w2 ⟨rfl, hb2⟩
    have K0 := Lib.hid (J1.out.below hb2)
    rw [HB.out]
    clear hb2 k1 k2 k3 k4 k5 k6 k7 k8 ksz kb J1 HA HB
    obtain ⟨k1, k2, k3, k4, k5, k6, k7, k8, ksz, kb⟩ := K0.out
    go_wp2_with fail
    refine bodyPost_ret (v := fracV 0 0 2) (by simp [results, Tryd.results19, go_sem, fracV, k5, k6, ksz]) rfl ⟨rfl, ?_⟩
    exact by repeat' (first | exact Below.refl _ _ | refine below_drewN ?_ _ | refine Below.drew ?_ | refine Below.setCell ?_ ?_ _ | (with_reducible exact kb) | (simp; done) | (simp; omega) | omega)
  · have ha' : vldB an ad = false := by simpa using ha
    have HA := Lib.hid ha'; clear ha ha' h
    go_enter Tryd.func19, Tryd.ntmps19
    go_wp2_with fail
    refine (rValid_any _ _ (by omega) (by omega) _).mono ?_
    rintro e w1 ⟨rfl, hb1⟩
    have J1 := Lib.hid ((Fr3.new w an ad bn bd).below hb1)
    rw [HA.out]
    clear hb1
    obtain ⟨k1, k2, k3, k4, k5, k6, k7, k8, ksz, kb⟩ := J1.out
    go_wp2_with fail
    refine bodyPost_ret (v := fracV 0 0 2) (by simp [results, Tryd.results19, go_sem, fracV, k5, k6, ksz]) rfl ⟨rfl, ?_⟩
    exact by repeat' (first | exact Below.refl _ _ | refine below_drewN ?_ _ | refine Below.drew ?_ | refine Below.setCell ?_ ?_ _ | (with_reducible exact kb) | (simp; done) | (simp; omega) | omega)
end Go.Proofs.YtbnbbekfackaiaaDoor
