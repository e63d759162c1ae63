/- The law NumSimplest: its walk. -/
import Derived.Test.YtbnbbekfackaiaaDoorS2
import Derived.Test.YtbnbbekfackaiaaDoorS3
import Derived.Test.YtbnbbekfackaiaaDoorE1
namespace Go.Proofs.YtbnbbekfackaiaaDoor.numSimplest
open Go.RowKit
set_option linter.unusedVariables false
set_option linter.unusedSimpArgs false

theorem simpZ_low {an ad bn bd n d V D : Int} (h : SimpZ an ad bn bd n d) (hv : vldB V D = true) (e : V * d = n * D) : SimpZ an ad bn bd V D := by
  obtain ⟨h1, h2, h3, h4, h5⟩ := vldB_true.1 hv
  obtain ⟨d1, ⟨b1, b2⟩, hm⟩ := h
  obtain ⟨k, hk⟩ : D ∣ d := dvd_cop (n := V) (by rw [Int.gcd_comm]; exact h5) ⟨n, by rw [Int.mul_comm, e, Int.mul_comm]⟩
  have k0 : 0 < k := by
    rcases Int.lt_or_le 0 k with t | t
    · exact t
    · have := Int.mul_le_mul_of_nonneg_left t (show 0 ≤ D by omega); omega
  have kD : D * 1 ≤ D * k := Int.mul_le_mul_of_nonneg_left k0 (by omega)
  have hn : n = V * k := by
    refine Int.eq_of_mul_eq_mul_right (a := D) (by omega) ?_
    rw [← e, hk]; ac_rfl
  have na : V.natAbs ≤ n.natAbs := by
    rw [hn, Int.natAbs_mul]
    exact Nat.le_mul_of_pos_right _ (by omega)
  refine ⟨h1, ⟨?_, ?_⟩, fun p q hq hb => ?_⟩
  · have : (an * D) * k < (V * ad) * k := by
      calc (an * D) * k = an * d := by rw [hk]; ac_rfl
        _ < n * ad := b1
        _ = (V * ad) * k := by rw [hn]; ac_rfl
    exact Int.lt_of_mul_lt_mul_right this (by omega)
  · have : (V * bd) * k < (bn * D) * k := by
      calc (V * bd) * k = n * bd := by rw [hn]; ac_rfl
        _ < bn * d := b2
        _ = (bn * D) * k := by rw [hk]; ac_rfl
    exact Int.lt_of_mul_lt_mul_right this (by omega)
  · obtain ⟨e1, e2⟩ := hm p q hq hb
    omega
theorem btw_cases {an ad bn bd V D E : Int} (h : BtwR an ad bn bd V D E) : ((E = 2 ∨ E = 4) ∧ V = 0 ∧ D = 0) ∨ (E = 0 ∧ vldB an ad = true ∧ vldB bn bd = true ∧ vldB V D = true ∧ SimpZ an ad bn bd V D) := by
  rcases h with ⟨v, hl, n, d, hs, ⟨a, b, c⟩ | ⟨a, b, c, _⟩⟩ | ⟨_, a, b, c⟩
  · rw [Bool.and_eq_true] at v
    exact .inr ⟨a, v.1, v.2, b, simpZ_low hs b c⟩
  · exact .inl ⟨.inr a, b, c⟩
  · exact .inl ⟨.inl c, a, b⟩

/-- The two operands' boxes and the result's. -/
structure Sx (w v : World) (g : Nat) (an ad bn bd V D : Int) : Prop where
  fr : Fr2 w v an ad bn bd
  c0 : v.cell? ⟨g, 0, none⟩ = some (.int .i64 V)
  c1 : v.cell? ⟨g, 1, none⟩ = some (.int .i64 D)
  cz : g < v.heap.size
theorem Sx.below {w v v' : World} {g : Nat} {an ad bn bd V D : Int} (h : Sx w v g an ad bn bd V D) (hb : Below v.heap.size v v') : Sx w v' g an ad bn bd V D :=
  ⟨h.fr.below hb, (hb.cell (p := ⟨g, 0, none⟩) h.cz).trans h.c0, (hb.cell (p := ⟨g, 1, none⟩) h.cz).trans h.c1, Nat.lt_of_lt_of_le h.cz hb.size⟩

set_option maxRecDepth 100000 in
set_option maxHeartbeats 4000000 in
theorem walk (an ad bn bd p q : Int) (x1 : -9223372036854775808 ≤ an) (x2 : an ≤ 9223372036854775807) (x3 : -9223372036854775808 ≤ bn) (x4 : bn ≤ 9223372036854775807) (p1 : -9223372036854775808 ≤ p) (p2 : p ≤ 9223372036854775807) (q1 : -9223372036854775808 ≤ q) (q2 : q ≤ 9223372036854775807) (w : World) :
    Calls Tryd.prog 11 #[.agg #[.int .i64 an, .int .i64 ad], .agg #[.int .i64 bn, .int .i64 bd], .int .i64 p, .int .i64 q] w fun e w' => e = .returned (.bool true) ∧ Below w.heap.size w w' := by
  have K0 := Lib.hid (Fr2.new w an ad bn bd)
  go_enter Tryd.func11, Tryd.ntmps11
  go_wp2_with fail
  generalize ((w.alloc (Obj.cells #[Value.int .i64 an, Value.int .i64 ad] 23)).alloc (Obj.cells #[Value.int .i64 bn, Value.int .i64 bd] 23)) = v at *
  obtain ⟨k1, k2, k3, k4, ksz, kb⟩ := K0.out
  refine (Between_all an ad bn bd x1 x2 x3 x4 _).mono ?_
  rintro e w1 ⟨V, D, E, R, rfl, hq⟩
  unfold fracV
  have CS := Lib.hid (btw_cases R)
  have K1 := Lib.hid (K0.out.below hq)
  clear hq R k1 k2 k3 k4 ksz kb K0
  have J0 : Hid (Sx w (w1.alloc (Obj.cells #[Value.int .i64 V, Value.int .i64 D] 23)) w1.heap.size an ad bn bd V D) :=
    ⟨K1.out.below ((Below.refl _ _).alloc (Nat.le_refl _) _), by simp [go_sem], by simp [go_sem], by simp⟩
  clear K1
  go_upto_region 2 with fail
  generalize (w1.alloc (Obj.cells #[Value.int .i64 V, Value.int .i64 D] 23)) = v1 at *
  generalize w1.heap.size = g at *
  obtain ⟨⟨k1, k2, k3, k4, ksz, kb⟩, c0, c1, cz⟩ := J0.out
  rcases CS.out with ⟨hE, rfl, rfl⟩ | ⟨rfl, ha, hb, hx, hs⟩
  · clear CS
    rcases hE with rfl | rfl
    all_goals go_wp2_with fail
    all_goals
      refine (alive_any _).mono ?_
      rintro e wq ⟨rfl, hq⟩
      have J9 := Lib.hid (J0.out.below (by first | exact hq | exact ((Below.refl _ _).drew).trans hq | exact (below_drewN (Below.refl _ _) _).trans hq))
      clear hq k1 k2 k3 k4 ksz kb c0 c1 cz
      obtain ⟨⟨k1, k2, k3, k4, ksz, kb⟩, c0, c1, cz⟩ := J9.out
      go_wp2_with fail
      go_ret
      exact ⟨rfl, by first | exact kb | exact kb.drew | exact below_drewN kb _⟩
  · obtain ⟨a1, a2, a3, a4, a5⟩ := vldB_true.1 ha
    obtain ⟨b1, b2, b3, b4, b5⟩ := vldB_true.1 hb
    obtain ⟨v1', v2', v3', v4', v5'⟩ := vldB_true.1 hx
    obtain ⟨s1, ⟨s2, s3⟩, s4⟩ := hs
    have C1 := Lib.hid (fun W => Cmp_ok an ad V D ha hx W)
    have C2 := Lib.hid (fun W => Cmp_ok V D bn bd hx hb W)
    rw [show cmpZ (an * D) (V * ad) = -1 from if_pos s2] at C1
    rw [show cmpZ (V * bd) (bn * D) = -1 from if_pos s3] at C2
    have VX := Lib.hid hx
    have S4 := Lib.hid s4
    clear CS ha hb hx s4 a5 b5 v5' s2 s3
    go_wp2_with fail
    refine (C1.out _).mono ?_
    rintro e wq ⟨rfl, hq⟩
    have J1 := Lib.hid (J0.out.below hq)
    clear hq k1 k2 k3 k4 ksz kb c0 c1 cz J0
    obtain ⟨⟨k1, k2, k3, k4, ksz, kb⟩, c0, c1, cz⟩ := J1.out
    clear C1
    go_wp2_with fail
    refine (C2.out _).mono ?_
    rintro e wq ⟨rfl, hq⟩
    have J2 := Lib.hid (J1.out.below hq)
    clear hq k1 k2 k3 k4 ksz kb c0 c1 cz J1
    obtain ⟨⟨k1, k2, k3, k4, ksz, kb⟩, c0, c1, cz⟩ := J2.out
    clear C2
    go_wp2_with fail
    refine (Valid_any V D (by omega) (by omega) _).mono ?_
    rintro e wq ⟨rfl, hq⟩
    have J3 := Lib.hid (J2.out.below hq)
    clear hq k1 k2 k3 k4 ksz kb c0 c1 cz J2
    obtain ⟨⟨k1, k2, k3, k4, ksz, kb⟩, c0, c1, cz⟩ := J3.out
    rw [VX.out]
    clear VX
    by_cases hq1 : q < 1
    · go_wp2_with fail
      refine (alive_any _).mono ?_
      rintro e wq ⟨rfl, hq⟩
      have J9 := Lib.hid (J3.out.below (by first | exact hq | exact ((Below.refl _ _).drew).trans hq | exact (below_drewN (Below.refl _ _) _).trans hq))
      clear hq k1 k2 k3 k4 ksz kb c0 c1 cz
      obtain ⟨⟨k1, k2, k3, k4, ksz, kb⟩, c0, c1, cz⟩ := J9.out
      go_wp2_with fail
      go_ret
      exact ⟨rfl, by first | exact kb | exact kb.drew | exact below_drewN kb _⟩
    · have BF1 := Lib.hid (fun W => before_any an ad p q (by omega) (by omega) (by omega) (by omega) p1 p2 q1 q2 W)
      have BF2 := Lib.hid (fun W => before_any p q bn bd p1 p2 q1 q2 (by omega) (by omega) (by omega) (by omega) W)
      obtain ⟨t1, ht1⟩ : ∃ t, t = decide (an * q < p * ad) := ⟨_, rfl⟩
      obtain ⟨t2, ht2⟩ : ∃ t, t = decide (p * bd < bn * q) := ⟨_, rfl⟩
      rw [← ht1] at BF1
      rw [← ht2] at BF2
      have T1 := Lib.hid ht1
      have T2 := Lib.hid ht2
      clear ht1 ht2
      go_wp2_with fail
      refine (BF1.out _).mono ?_
      rintro e wq ⟨rfl, hq⟩
      have J4 := Lib.hid (J3.out.below hq)
      clear hq k1 k2 k3 k4 ksz kb c0 c1 cz J3
      obtain ⟨⟨k1, k2, k3, k4, ksz, kb⟩, c0, c1, cz⟩ := J4.out
      clear BF1
      cases t1
      · go_wp2_with fail
        refine (alive_any _).mono ?_
        rintro e wq ⟨rfl, hq⟩
        have J9 := Lib.hid (J4.out.below (by first | exact hq | exact ((Below.refl _ _).drew).trans hq | exact (below_drewN (Below.refl _ _) _).trans hq))
        clear hq k1 k2 k3 k4 ksz kb c0 c1 cz
        obtain ⟨⟨k1, k2, k3, k4, ksz, kb⟩, c0, c1, cz⟩ := J9.out
        go_wp2_with fail
        go_ret
        exact ⟨rfl, by first | exact kb | exact kb.drew | exact below_drewN kb _⟩
      · 
        go_wp2_with fail
        refine (BF2.out _).mono ?_
        rintro e wq ⟨rfl, hq⟩
        have J5 := Lib.hid (J4.out.below hq)
        clear hq k1 k2 k3 k4 ksz kb c0 c1 cz J4
        obtain ⟨⟨k1, k2, k3, k4, ksz, kb⟩, c0, c1, cz⟩ := J5.out
        clear BF2
        cases t2
        · go_wp2_with fail
          refine (alive_any _).mono ?_
          rintro e wq ⟨rfl, hq⟩
          have J9 := Lib.hid (J5.out.below (by first | exact hq | exact ((Below.refl _ _).drew).trans hq | exact (below_drewN (Below.refl _ _) _).trans hq))
          clear hq k1 k2 k3 k4 ksz kb c0 c1 cz
          obtain ⟨⟨k1, k2, k3, k4, ksz, kb⟩, c0, c1, cz⟩ := J9.out
          go_wp2_with fail
          go_ret
          exact ⟨rfl, by first | exact kb | exact kb.drew | exact below_drewN kb _⟩
        · have LE := S4.out p q (by omega) ⟨by simpa using T1.out.symm, by simpa using T2.out.symm⟩
          obtain ⟨l1, l2⟩ := LE
          clear S4 T1 T2
          by_cases hD : D = q
          · subst hD
            have DS1 := Lib.hid (fun W => distance_any V (by omega) (by omega) W)
            have DS2 := Lib.hid (fun W => distance_any p p1 p2 W)
            have CMP := Lib.hid (fun W pa pb ca cb a b A B => compare_s (n := 5) (m := 5) V.natAbs p.natAbs false false (by symm; rw [decide_eq_false_iff_not]; omega) (by symm; rw [decide_eq_false_iff_not]; omega) pa pb ca cb a b W A B (by omega) (by omega))
            have FIN := Lib.hid ((cmpZ_le0 V.natAbs p.natAbs).trans (decide_eq_true (by omega)))
            clear l1 l2
            generalize (V.natAbs : Int) = m1 at *
            generalize (p.natAbs : Int) = m2 at *
            go_wp2_with fail
            refine (DS1.out _).mono ?_
            rintro e wq ⟨g1, l1, h1, rfl, B1, _, hq⟩
            have J6 := Lib.hid (J5.out.below hq)
            clear hq k1 k2 k3 k4 ksz kb c0 c1 cz J5
            obtain ⟨⟨k1, k2, k3, k4, ksz, kb⟩, c0, c1, cz⟩ := J6.out
            clear DS1
            go_wp2_with fail
            refine (DS2.out _).mono ?_
            rintro e wq2 ⟨g2, l2, h2, rfl, B2, _, hq⟩
            have J7 := Lib.hid (J6.out.below hq)
            have B1' := Lib.hid (B1.below hq)
            have B2' := Lib.hid B2
            clear hq k1 k2 k3 k4 ksz kb c0 c1 cz J6 DS2 B1 B2
            obtain ⟨⟨k1, k2, k3, k4, ksz, kb⟩, c0, c1, cz⟩ := J7.out
            go_wp2_with fail
            refine (CMP.out _ g1 g2 h1 h2 l1 l2 B1'.out B2'.out).mono ?_
            rintro e wq3 ⟨rfl, hq⟩
            have J8 := Lib.hid (J7.out.below hq)
            clear hq k1 k2 k3 k4 ksz kb c0 c1 cz J7 CMP B1' B2'
            obtain ⟨⟨k1, k2, k3, k4, ksz, kb⟩, c0, c1, cz⟩ := J8.out
            obtain ⟨z, hz⟩ : ∃ z, z = cmpZ m1 m2 := ⟨_, rfl⟩
            rw [← hz] at FIN ⊢
            have z0 : z ≤ 0 := by simpa using FIN.out
            clear hz FIN
            go_wp2_with fail
            refine (alive_any _).mono ?_
            rintro e wq ⟨rfl, hq⟩
            have J9 := Lib.hid (J8.out.below (by first | exact hq | exact ((Below.refl _ _).drew).trans hq | exact (below_drewN (Below.refl _ _) _).trans hq))
            clear hq k1 k2 k3 k4 ksz kb c0 c1 cz
            obtain ⟨⟨k1, k2, k3, k4, ksz, kb⟩, c0, c1, cz⟩ := J9.out
            go_wp2_with fail
            go_ret
            exact ⟨rfl, by first | exact kb | exact kb.drew | exact below_drewN kb _⟩
          · have l3 : D < q := by omega
            clear l1 l2
            go_wp2_with fail
            refine (alive_any _).mono ?_
            rintro e wq ⟨rfl, hq⟩
            have J9 := Lib.hid (J5.out.below (by first | exact hq | exact ((Below.refl _ _).drew).trans hq | exact (below_drewN (Below.refl _ _) _).trans hq))
            clear hq k1 k2 k3 k4 ksz kb c0 c1 cz
            obtain ⟨⟨k1, k2, k3, k4, ksz, kb⟩, c0, c1, cz⟩ := J9.out
            go_wp2_with fail
            go_ret
            exact ⟨rfl, by first | exact kb | exact kb.drew | exact below_drewN kb _⟩
end Go.Proofs.YtbnbbekfackaiaaDoor.numSimplest
