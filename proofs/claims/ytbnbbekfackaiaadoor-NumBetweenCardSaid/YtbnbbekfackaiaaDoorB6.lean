/- Mul, Div and Cmp of package num, by what their results are. -/
import Derived.Test.YtbnbbekfackaiaaDoorB5
namespace Go.Proofs.YtbnbbekfackaiaaDoor
open Go.RowKit
set_option linter.unusedVariables false
set_option linter.unusedSimpArgs false

theorem frac_cross {n d n' d' V D E : Int} (hd : d ≠ 0) (hd' : d' ≠ 0) (e : n * d' = n' * d) (h : IsFrac n d V D E) : IsFrac n' d' V D E := by
  rcases h with ⟨h1, h2, h3⟩ | ⟨h1, h2, h3, h4⟩
  · refine Or.inl ⟨h1, h2, Int.eq_of_mul_eq_mul_right hd ?_⟩
    calc V * d' * d = (V * d) * d' := by ac_rfl
      _ = (n * d') * D := by rw [h3]; ac_rfl
      _ = n' * D * d := by rw [e]; ac_rfl
  · refine Or.inr ⟨h1, h2, h3, fun x y hv e' => h4 x y hv (Int.eq_of_mul_eq_mul_right hd' ?_)⟩
    calc x * d * d' = (x * d') * d := by ac_rfl
      _ = (n' * d) * y := by rw [e']; ac_rfl
      _ = n * y * d' := by rw [← e]; ac_rfl

theorem cop_mul {a b c d : Int} (h1 : Int.gcd a c = 1) (h2 : Int.gcd a d = 1) (h3 : Int.gcd b c = 1) (h4 : Int.gcd b d = 1) : Int.gcd (a * b) (c * d) = 1 := by
  unfold Int.gcd at *
  rw [Int.natAbs_mul, Int.natAbs_mul]
  exact Nat.Coprime.mul_left (Nat.Coprime.mul_right h1 h2) (Nat.Coprime.mul_right h3 h4)
theorem cop_sub {a c x y : Int} (h : Int.gcd a c = 1) (ha : x ∣ a) (hc : y ∣ c) : Int.gcd x y = 1 :=
  Nat.Coprime.coprime_dvd_left (Int.natAbs_dvd_natAbs.2 ha) (Nat.Coprime.coprime_dvd_right (Int.natAbs_dvd_natAbs.2 hc) h)

theorem mul_cross {an ad bn bd L R : Int} (a1 : 1 ≤ ad) (b1 : 1 ≤ bd) (ga : Int.gcd an ad = 1) (gb : Int.gcd bn bd = 1)
    (hL : ((Int.gcd (an.natAbs : Int) (bd.natAbs : Int) : Nat) : Int) = L) (hR : ((Int.gcd (bn.natAbs : Int) (ad.natAbs : Int) : Nat) : Int) = R) :
    Int.gcd ((an.natAbs : Int) / L * ((bn.natAbs : Int) / R)) ((ad.natAbs : Int) / R * ((bd.natAbs : Int) / L)) = 1 ∧
    (bif (decide (an < 0) != decide (bn < 0)) then -((an.natAbs : Int) / L * ((bn.natAbs : Int) / R)) else (an.natAbs : Int) / L * ((bn.natAbs : Int) / R)) * (ad * bd) = (an * bn) * ((ad.natAbs : Int) / R * ((bd.natAbs : Int) / L)) := by
  have gL : 0 < Int.gcd (an.natAbs : Int) (bd.natAbs : Int) := Int.gcd_pos_of_ne_zero_right _ (by omega)
  have gR : 0 < Int.gcd (bn.natAbs : Int) (ad.natAbs : Int) := Int.gcd_pos_of_ne_zero_right _ (by omega)
  have cL := Int.gcd_ediv_gcd_ediv_gcd gL
  have cR := Int.gcd_ediv_gcd_ediv_gcd gR
  have eA : L * ((an.natAbs : Int) / L) = an.natAbs := Int.mul_ediv_cancel' (by rw [← hL]; exact Int.gcd_dvd_left _ _)
  have eD : L * ((bd.natAbs : Int) / L) = bd.natAbs := Int.mul_ediv_cancel' (by rw [← hL]; exact Int.gcd_dvd_right _ _)
  have eB : R * ((bn.natAbs : Int) / R) = bn.natAbs := Int.mul_ediv_cancel' (by rw [← hR]; exact Int.gcd_dvd_left _ _)
  have eC : R * ((ad.natAbs : Int) / R) = ad.natAbs := Int.mul_ediv_cancel' (by rw [← hR]; exact Int.gcd_dvd_right _ _)
  rw [hL] at cL
  rw [hR] at cR
  clear hL hR gL gR
  have e1 : (ad.natAbs : Int) = ad := by omega
  have e2 : (bd.natAbs : Int) = bd := by omega
  rw [e1] at eC cR ⊢
  rw [e2] at eD cL ⊢
  generalize (an.natAbs : Int) / L = a at *
  generalize (bn.natAbs : Int) / R = b at *
  generalize ad / R = c at *
  generalize bd / L = d at *
  refine ⟨cop_mul (cop_sub ga (Int.dvd_natAbs.1 ⟨L, by rw [← eA, Int.mul_comm]⟩) ⟨R, by rw [← eC, Int.mul_comm]⟩) cL cR (cop_sub gb (Int.dvd_natAbs.1 ⟨R, by rw [← eB, Int.mul_comm]⟩) ⟨L, by rw [← eD, Int.mul_comm]⟩), ?_⟩
  have m : a * b * (ad * bd) = (an.natAbs : Int) * bn.natAbs * (c * d) := by
    rw [← eA, ← eB]
    calc a * b * (ad * bd) = a * b * ((R * c) * (L * d)) := by rw [eC, eD]
      _ = L * a * (R * b) * (c * d) := by ac_rfl
  by_cases s1 : an < 0 <;> by_cases s2 : bn < 0
  · simp only [s1, s2, decide_true, bne_self_eq_false, cond_false]
    rw [m, show (an.natAbs : Int) = -an from by omega, show (bn.natAbs : Int) = -bn from by omega, Int.neg_mul_neg]
  · simp only [s1, s2, decide_true, decide_false, Bool.bne_false, cond_true]
    rw [Int.neg_mul, m, show (an.natAbs : Int) = -an from by omega, show (bn.natAbs : Int) = bn from by omega, Int.neg_mul, Int.neg_mul, Int.neg_neg]
  · simp only [s1, s2, decide_true, decide_false, Bool.false_bne, cond_true]
    rw [Int.neg_mul, m, show (an.natAbs : Int) = an from by omega, show (bn.natAbs : Int) = -bn from by omega, Int.mul_neg, Int.neg_mul, Int.neg_neg]
  · simp only [s1, s2, decide_false, bne_self_eq_false, cond_false]
    rw [m, show (an.natAbs : Int) = an from by omega, show (bn.natAbs : Int) = bn from by omega]

theorem frac_none {n d n' d' : Int} (hd : d ≠ 0) (hd' : 1 ≤ d') (e : n' * d = n * d') (g : Int.gcd n' d' = 1) (big : 1099511627776 < n' ∨ n' < -1099511627776) : IsFrac n d 0 0 4 := by
  refine Or.inr ⟨rfl, rfl, rfl, fun x y hv h => ?_⟩
  obtain ⟨b1, b2, b3, b4, b5⟩ := vldB_true.1 hv
  have : x * d' = n' * y := by
    refine Int.eq_of_mul_eq_mul_right hd ?_
    calc x * d' * d = (x * d) * d' := by ac_rfl
      _ = n * d' * y := by rw [h]; ac_rfl
      _ = n' * y * d := by rw [← e]; ac_rfl
  obtain ⟨u, v⟩ := cop_unique (by omega) (by omega) b5 g this
  omega

theorem Mul_ok (an ad bn bd : Int) (ha : vldB an ad = true) (hb : vldB bn bd = true) (w : World) :
    Calls Tryd.prog 60 #[.agg #[.int .i64 an, .int .i64 ad], .agg #[.int .i64 bn, .int .i64 bd]] w (Res (IsFrac (an * bn) (ad * bd)) w) := by
  obtain ⟨a1, a2, a3, a4, a5⟩ := vldB_true.1 ha
  obtain ⟨b1, b2, b3, b4, b5⟩ := vldB_true.1 hb
  have HA := Lib.hid ha; clear ha
  have HB := Lib.hid hb; clear hb
  have HG := Lib.hid (And.intro a5 b5); clear a5 b5
  have hL : (1 : Int) ≤ (Int.gcd (an.natAbs : Int) (bd.natAbs : Int) : Int) := by
    have : 0 < Int.gcd (an.natAbs : Int) (bd.natAbs : Int) := Int.gcd_pos_of_ne_zero_right _ (by omega)
    omega
  have hR : (1 : Int) ≤ (Int.gcd (bn.natAbs : Int) (ad.natAbs : Int) : Int) := by
    have : 0 < Int.gcd (bn.natAbs : Int) (ad.natAbs : Int) := Int.gcd_pos_of_ne_zero_right _ (by omega)
    omega
  go_enter Tryd.func60, Tryd.ntmps60
  go_wp2_with fail
  refine (Valid_any _ _ (by omega) (by omega) _).mono ?_
  rintro e w1 ⟨rfl, hb1⟩
  rw [HA.out]
  obtain ⟨hc1, hf1⟩ := bcell hb1
  have hz1 : w.heap.size + 2 < w1.heap.size := by have := hb1.size; simp at this; omega
  go_wp2_with fail
  refine (Valid_any _ _ (by omega) (by omega) _).mono ?_
  rintro e w2 ⟨rfl, hb2⟩
  rw [HB.out]
  have hb := hb1.trans (hb2.mono hb1.size)
  clear hb1 hb2 hc1 hf1 hz1
  obtain ⟨hc, hf⟩ := bcell hb
  have hz : w.heap.size + 2 < w2.heap.size := by have := hb.size; simp at this; omega
  go_wp2_with fail
  go_quiet (first
    | (go_at_call 52; exact Calls.quiet_of_same (flip (size_any _ (by omega) (by omega) _)))
    | (go_at_call 55; exact Calls.quiet_of (gcd_any _ _ (by omega) (by omega) (by omega) (by omega) _)))
  go_wp2_with fail
  replace hb := below_drewN hb nq
  clear hc hf hz
  generalize w2.drewN nq = w3 at hb ⊢
  obtain ⟨hc, hf⟩ := bcell hb
  have hz : w.heap.size + 2 < w3.heap.size := by have := hb.size; simp at this; omega
  go_quiet (first
    | (go_at_call 52; exact Calls.quiet_of_same (flip (size_any _ (by omega) (by omega) _)))
    | (go_at_call 55; exact Calls.quiet_of (gcd_any _ _ (by omega) (by omega) (by omega) (by omega) _)))
  go_wp2_with fail
  replace hb := below_drewN hb nq
  clear hc hf hz
  generalize w3.drewN nq = w4 at hb ⊢
  obtain ⟨hc, hf⟩ := bcell hb
  have hz : w.heap.size + 2 < w4.heap.size := by have := hb.size; simp at this; omega
  go_wp2_with fail
  generalize hLe : ((Int.gcd (an.natAbs : Int) (bd.natAbs : Int) : Nat) : Int) = L at hL ⊢
  generalize hRe : ((Int.gcd (bn.natAbs : Int) (ad.natAbs : Int) : Nat) : Int) = R at hR ⊢
  have HL := Lib.hid hLe; clear hLe
  have HR := Lib.hid hRe; clear hRe
  have q1 : 0 ≤ (an.natAbs : Int) / L := Int.ediv_nonneg (by omega) (by omega)
  have q2 : (an.natAbs : Int) / L ≤ an.natAbs := Int.ediv_le_self _ (by omega)
  have q3 : 0 ≤ (bn.natAbs : Int) / R := Int.ediv_nonneg (by omega) (by omega)
  have q4 : (bn.natAbs : Int) / R ≤ bn.natAbs := Int.ediv_le_self _ (by omega)
  have q5 : (an.natAbs : Int) / L ≤ 1099511627776 := by omega
  have q6 : (bn.natAbs : Int) / R ≤ 1099511627776 := by omega
  have e1 : IntKind.u64.wrap ((an.natAbs : Int).tdiv L) = (an.natAbs : Int) / L := IntWalk.u64_quo _ _ ⟨by omega, by omega, hL⟩
  have e2 : IntKind.u64.wrap ((bn.natAbs : Int).tdiv R) = (bn.natAbs : Int) / R := IntWalk.u64_quo _ _ ⟨by omega, by omega, hR⟩
  go_quiet (first
    | (go_at_call 52; exact Calls.quiet_of_same (flip (size_any _ (by omega) (by omega) _)))
    | (go_at_call 99; exact Calls.quiet_of_same (flip (mul64_any _ _ (by omega) (by omega) (by omega) (by omega) _))))
  clear e1 e2
  replace hb := below_drewN hb nq
  clear hc hf hz
  generalize w4.drewN nq = w5 at hb ⊢
  obtain ⟨hc, hf⟩ := bcell hb
  have hz : w.heap.size + 2 < w5.heap.size := by have := hb.size; simp at this; omega
  have r1 : 1 ≤ (ad.natAbs : Int) / R := by
    rw [Int.le_ediv_iff_mul_le (by omega)]
    have := Int.le_of_dvd (by omega) (Int.gcd_dvd_right (bn.natAbs : Int) (ad.natAbs : Int))
    rw [HR.out] at this; omega
  have r2 : (ad.natAbs : Int) / R ≤ ad.natAbs := Int.ediv_le_self _ (by omega)
  have r3 : 1 ≤ (bd.natAbs : Int) / L := by
    rw [Int.le_ediv_iff_mul_le (by omega)]
    have := Int.le_of_dvd (by omega) (Int.gcd_dvd_right (an.natAbs : Int) (bd.natAbs : Int))
    rw [HL.out] at this; omega
  have r4 : (bd.natAbs : Int) / L ≤ bd.natAbs := Int.ediv_le_self _ (by omega)
  obtain ⟨r5, r6⟩ := den_mul r1 (by omega) r3 (by omega)
  have p0 : 0 ≤ (an.natAbs : Int) / L * ((bn.natAbs : Int) / R) := Int.mul_nonneg q1 q3
  by_cases hh : 0 < (an.natAbs : Int) / L * ((bn.natAbs : Int) / R) / 18446744073709551616
  · go_wp2_with fail
    refine bodyPost_ret (v := fracV 0 0 4) (by simp [results, Tryd.results60, go_sem, fracV, hc, hz]) rfl ⟨0, 0, 4, ?_, rfl, ?_⟩
    · obtain ⟨g, x⟩ := mul_cross a1 b1 HG.out.1 HG.out.2 HL.out HR.out
      refine frac_none (d' := (ad.natAbs : Int) / R * ((bd.natAbs : Int) / L)) (by have := den_mul a1 a2 b1 b2; omega) (by omega) x ?_ ?_
      · cases (decide (an < 0) != decide (bn < 0))
        · exact g
        · simpa using g
      · cases (decide (an < 0) != decide (bn < 0)) <;> simp <;> omega
    · exact by repeat' (first | exact Below.refl _ _ | refine below_drewN ?_ _ | refine Below.setCell ?_ ?_ _ | refine Below.alloc ?_ ?_ _ | (with_reducible refine Below.trans ?_ (Below.mono hb ?_)) | (simp; done) | (simp; omega) | omega)
  · have hh' : (an.natAbs : Int) / L * ((bn.natAbs : Int) / R) % 18446744073709551616 = (an.natAbs : Int) / L * ((bn.natAbs : Int) / R) := by omega
    have k1 : w5.cell? ⟨w.heap.size, 0, none⟩ = some (.int .i64 an) := by simp [hc, go_sem]
    have k2 : w5.cell? ⟨w.heap.size, 1, none⟩ = some (.int .i64 ad) := by simp [hc, go_sem]
    have k3 : w5.cell? ⟨w.heap.size + 1, 0, none⟩ = some (.int .i64 bn) := by simp [hc, go_sem]
    have k4 : w5.cell? ⟨w.heap.size + 1, 1, none⟩ = some (.int .i64 bd) := by simp [hc, go_sem]
    have k5 : w5.cell? ⟨w.heap.size + 1 + 1, 0, none⟩ = some (.int .i64 0) := by simp [hc, go_sem]
    have k6 : w5.cell? ⟨w.heap.size + 1 + 1, 1, none⟩ = some (.int .i64 0) := by simp [hc, go_sem]
    have f5 : w5.frozen? ⟨w.heap.size + 1 + 1, 0, none⟩ = false := by simp [hf, go_sem]
    have f6 : w5.frozen? ⟨w.heap.size + 1 + 1, 1, none⟩ = false := by simp [hf, go_sem]
    clear hc hf
    have e1 : IntKind.u64.wrap ((ad.natAbs : Int) / R) = (ad.natAbs : Int) / R := IntWalk.u64_in _ ⟨by omega, by omega⟩
    have e2 : IntKind.u64.wrap ((bd.natAbs : Int) / L) = (bd.natAbs : Int) / L := IntWalk.u64_in _ ⟨by omega, by omega⟩
    have e3 : IntKind.u64.wrap ((ad.natAbs : Int) / R * ((bd.natAbs : Int) / L)) = (ad.natAbs : Int) / R * ((bd.natAbs : Int) / L) := IntWalk.u64_in _ ⟨by omega, by omega⟩
    have hR0 : (R == 0) = false := by simp; omega
    have hL0 : (L == 0) = false := by simp; omega
    have hR1 : ¬ R = 0 := by omega
    have hL1 : ¬ L = 0 := by omega
    go_wp2_with fail
    go_region_held3 (fun w' => w'.cell? ⟨w.heap.size, 0, none⟩ = some (.int .i64 an) ∧ w'.cell? ⟨w.heap.size, 1, none⟩ = some (.int .i64 ad) ∧ w'.cell? ⟨w.heap.size + 1, 0, none⟩ = some (.int .i64 bn) ∧ w'.cell? ⟨w.heap.size + 1, 1, none⟩ = some (.int .i64 bd))
      (first | exact ⟨k1, k2, k3, k4⟩ | exact ⟨t1, t2, t3, t4⟩ | (refine ⟨?_, ?_, ?_, ?_⟩ <;> simp [go_sem, t1, t2, t3, t4]))
      (first
        | (go_at_call 52; refine (size_any _ (by omega) (by omega) _).mono ?_; rintro e w' ⟨rfl, rfl⟩)
        | (go_at_call 51; refine (lowest_rel _ _ _ (by omega) (by omega) (by omega) (by omega) _).mono ?_; rintro e w6 ⟨V, D, E, hF, rfl, hb6⟩; unfold fracV; have HF := Lib.hid hF; clear hF; have HB6 := hb.drew.trans (hb6.mono hb.drew.size); have z6 : w.heap.size + 1 + 1 < w6.heap.size := (by have := hb6.size; simp at this; omega); have t1 := (hb6.cell (p := ⟨w.heap.size, 0, none⟩) (by simp; omega)).trans k1; have t2 := (hb6.cell (p := ⟨w.heap.size, 1, none⟩) (by simp; omega)).trans k2; have t3 := (hb6.cell (p := ⟨w.heap.size + 1, 0, none⟩) (by simp; omega)).trans k3; have t4 := (hb6.cell (p := ⟨w.heap.size + 1, 1, none⟩) (by simp; omega)).trans k4; have m5 := (hb6.cell (p := ⟨w.heap.size + 1 + 1, 0, none⟩) (by simp; omega)).trans k5; have m6 := (hb6.cell (p := ⟨w.heap.size + 1 + 1, 1, none⟩) (by simp; omega)).trans k6; have n5 := (hb6.frozen (p := ⟨w.heap.size + 1 + 1, 0, none⟩) (by simp; omega)).trans f5; have n6 := (hb6.frozen (p := ⟨w.heap.size + 1 + 1, 1, none⟩) (by simp; omega)).trans f6))
    go_wp2_with fail
    refine bodyPost_ret (v := fracV V D E) (by simp [results, Tryd.results60, go_sem, fracV, m5, m6, z6]) rfl ⟨V, D, E, ?_, rfl, ?_⟩
    · obtain ⟨g, x⟩ := mul_cross a1 b1 HG.out.1 HG.out.2 HL.out HR.out
      exact frac_cross (by omega) (by have := den_mul a1 a2 b1 b2; omega) x HF.out
    · exact by repeat' (first | exact Below.refl _ _ | refine below_drewN ?_ _ | refine Below.drew ?_ | refine Below.setCell ?_ ?_ _ | refine Below.alloc ?_ ?_ _ | (with_reducible refine Below.trans ?_ (Below.mono HB6 ?_)) | (simp; done) | (simp; omega) | omega)
end Go.Proofs.YtbnbbekfackaiaaDoor
