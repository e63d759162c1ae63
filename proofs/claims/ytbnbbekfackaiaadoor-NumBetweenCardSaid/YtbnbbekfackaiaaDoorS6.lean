/- The reference's Between; both sides agree. -/
import Derived.Test.YtbnbbekfackaiaaDoorS4
namespace Go.Proofs.YtbnbbekfackaiaaDoor
open Go.RowKit
set_option linter.unusedVariables false
set_option linter.unusedSimpArgs false

theorem ediv_in {n d B : Int} (h1 : -B ≤ n) (h2 : n ≤ B) (hd : 1 ≤ d) : -B ≤ n / d ∧ n / d ≤ B := by
  have e1 : n / d * d ≤ n := Int.ediv_mul_le n (by omega)
  have e2 : n < (n / d + 1) * d := Int.lt_ediv_add_one_mul_self n (by omega)
  rcases Int.lt_or_le (n / d) 0 with t | t
  · have : (n / d + 1) * d ≤ (n / d + 1) * 1 := Int.mul_le_mul_of_nonpos_left (by omega) hd
    omega
  · have : n / d * 1 ≤ n / d * d := Int.mul_le_mul_of_nonneg_left hd t
    omega
theorem betw_iff {an ad bn bd p k : Int} (ha : 1 ≤ ad) (hb : 1 ≤ bd) : Betw an ad bn bd p k ↔ an * k / ad + 1 ≤ p ∧ p ≤ -((-bn) * k / bd + 1) := by
  have a : an * k / ad < p ↔ an * k < p * ad := Int.ediv_lt_iff_lt_mul (by omega)
  have b : (-bn) * k / bd < -p ↔ (-bn) * k < (-p) * bd := Int.ediv_lt_iff_lt_mul (by omega)
  rw [Int.neg_mul, Int.neg_mul] at b
  rw [Int.neg_mul]
  unfold Betw
  constructor
  · rintro ⟨x, y⟩
    have := a.2 x
    have := b.2 (by omega)
    omega
  · rintro ⟨x, y⟩
    have := a.1 (by omega)
    have := b.1 (by omega)
    omega
theorem SimpZ.cop {an ad bn bd n d : Int} (h : SimpZ an ad bn bd n d) : Int.gcd n d = 1 := by
  obtain ⟨d1, ⟨b1, b2⟩, hm⟩ := h
  have g0 : 0 < Int.gcd n d := Int.gcd_pos_of_ne_zero_right _ (by omega)
  have e1 : (Int.gcd n d : Int) * (n / Int.gcd n d) = n := Int.mul_ediv_cancel' (Int.gcd_dvd_left _ _)
  have e2 : (Int.gcd n d : Int) * (d / Int.gcd n d) = d := Int.mul_ediv_cancel' (Int.gcd_dvd_right _ _)
  have k1 := (low_parts n d d1).2.1
  generalize d / (Int.gcd n d : Int) = y at *
  generalize n / (Int.gcd n d : Int) = x at *
  generalize Int.gcd n d = g at *
  have h1 : (an * y) * g < (x * ad) * g := by
    calc (an * y) * g = an * d := by rw [← e2]; ac_rfl
      _ < n * ad := b1
      _ = (x * ad) * g := by rw [← e1]; ac_rfl
  have h2 : (x * bd) * g < (bn * y) * g := by
    calc (x * bd) * g = n * bd := by rw [← e1]; ac_rfl
      _ < bn * d := b2
      _ = (bn * y) * g := by rw [← e2]; ac_rfl
  have le := (hm x y k1 ⟨Int.lt_of_mul_lt_mul_right h1 (by omega), Int.lt_of_mul_lt_mul_right h2 (by omega)⟩).1
  rcases (by omega : g = 1 ∨ 2 ≤ g) with t | t
  · exact t
  · have : (2 : Int) * y ≤ g * y := Int.mul_le_mul_of_nonneg_right (by omega) (by omega)
    omega

/-- The simplest if it is within the limits, else the error. -/
def FinS (n d V D E : Int) : Prop :=
  (d ≤ 1048576 ∧ -1099511627776 ≤ n ∧ n ≤ 1099511627776 ∧ V = n ∧ D = d ∧ E = 0) ∨ ((1048576 < d ∨ n < -1099511627776 ∨ 1099511627776 < n) ∧ V = 0 ∧ D = 0 ∧ E = 4)
theorem FinS.unique {n d V D E V' D' E' : Int} (h : FinS n d V D E) (h' : FinS n d V' D' E') : V' = V ∧ D' = D ∧ E' = E := by
  unfold FinS at *; omega
theorem frac_fin {an ad bn bd n d V D E : Int} (h : SimpZ an ad bn bd n d) (hf : IsFrac n d V D E) : FinS n d V D E := by
  rcases hf with ⟨a, b, c⟩ | ⟨a, b, c, f⟩
  · obtain ⟨rfl, rfl⟩ := h.unique (numSimplest.simpZ_low h b c)
    obtain ⟨h1, h2, h3, h4, h5⟩ := vldB_true.1 b
    exact .inl ⟨h2, h3, h4, rfl, rfl, a⟩
  · refine .inr ⟨?_, b, c, a⟩
    by_cases t : 1048576 < d ∨ n < -1099511627776 ∨ 1099511627776 < n
    · exact t
    · exact absurd rfl (f n d (vldB_true.2 ⟨h.1, by omega, by omega, by omega, h.cop⟩))

set_option maxRecDepth 100000 in
theorem above_any (n d k : Int) (h1 : -1152921504606846976 ≤ n * k) (h2 : n * k ≤ 1152921504606846976) (hd : 1 ≤ d) (hd' : d ≤ 1048576) (w : World) :
    Calls Tryd.prog 75 #[.agg #[.int .i64 n, .int .i64 d], .int .i64 k] w fun e w' => e = .returned (.int .i64 (n * k / d + 1)) ∧ Below w.heap.size w w' := by
  obtain ⟨r1, r2⟩ := ediv_in h1 h2 hd
  have m0 : 0 ≤ n * k % d := Int.emod_nonneg _ (by omega)
  have m1 : n * k % d < d := Int.emod_lt_of_pos _ (by omega)
  by_cases h : 0 ≤ n * k
  · go_enter Tryd.func75, Tryd.ntmps75
    go_wp2
    go_ret
    exact ⟨rfl, by go_grown⟩
  · have hz : (d == 0) = false := by simp; omega
    by_cases hdv : d ∣ n * k
    · have t0 : (n * k).tdiv d = n * k / d := by rw [Int.tdiv_eq_ediv, if_pos (Or.inr hdv)]; simp
      have t1 : (n * k).tmod d = 0 := Int.tmod_eq_zero_of_dvd hdv
      have T0 := Lib.hid t0
      have b1 : -1152921504606846976 ≤ (n * k).tdiv d := by omega
      have b2 : (n * k).tdiv d ≤ 1152921504606846976 := by omega
      have b3 : 0 ≤ (n * k).tmod d := by omega
      clear t0 t1 hdv
      go_enter Tryd.func75, Tryd.ntmps75
      go_wp2
      go_ret
      exact ⟨ret_i (by have := T0.out; omega), by go_grown⟩
    · have t0 : (n * k).tdiv d = n * k / d + 1 := by rw [Int.tdiv_eq_ediv, if_neg (by rintro (a | a); omega; exact hdv a), Int.sign_eq_one_of_pos (by omega)]
      have t1 : (n * k).tmod d = n * k % d - d := by rw [Int.tmod_eq_emod, if_neg (by rintro (a | a); omega; exact hdv a)]; omega
      have T0 := Lib.hid t0
      have b1 : -1152921504606846976 ≤ (n * k).tdiv d := by omega
      have b2 : (n * k).tdiv d ≤ 1152921504606846977 := by omega
      have b3 : (n * k).tmod d < 0 := by omega
      clear t0 t1 hdv
      go_enter Tryd.func75, Tryd.ntmps75
      go_wp2
      go_ret
      exact ⟨ret_i (by have := T0.out; omega), by go_grown⟩

set_option maxRecDepth 100000 in
set_option maxHeartbeats 1000000 in
theorem rBetween_bad (an ad bn bd : Int) (x1 : -9223372036854775808 ≤ an) (x2 : an ≤ 9223372036854775807) (x3 : -9223372036854775808 ≤ bn) (x4 : bn ≤ 9223372036854775807) (h : vldB an ad = false ∨ vldB bn bd = false) (w : World) :
    Calls Tryd.prog 39 #[.agg #[.int .i64 an, .int .i64 ad], .agg #[.int .i64 bn, .int .i64 bd]] w fun e w' => e = .returned (fracV 0 0 2) ∧ Below w.heap.size w w' := by
  have H := Lib.hid h; clear h
  go_enter Tryd.func39, Tryd.ntmps39
  go_wp2_with fail
  refine (rCmp_bad an ad bn bd x1 x2 x3 x4 H.out _).mono ?_
  rintro e w1 ⟨rfl, hb1⟩
  have K1 := Lib.hid ((Bx3.new w an ad bn bd).below hb1)
  clear hb1
  obtain ⟨k1, k2, k3, k4, k5, k6, k7, k8, ksz, kb⟩ := K1.out
  clear H
  go_wp2_with fail
  refine bodyPost_ret (v := fracV 0 0 2) (by simp [results, Tryd.results39, go_sem, fracV, k5, k6, ksz]) rfl ?_
  exact ⟨rfl, by repeat' (first | exact Below.refl _ _ | refine below_drewN ?_ _ | refine Below.drew ?_ | refine Below.setCell ?_ ?_ _ | (with_reducible exact kb) | (simp; done) | (simp; omega) | omega)⟩

set_option maxRecDepth 100000 in
set_option maxHeartbeats 1000000 in
theorem rBetween_out (an ad bn bd : Int) (ha : vldB an ad = true) (hb : vldB bn bd = true) (hl : bn * ad ≤ an * bd) (w : World) :
    Calls Tryd.prog 39 #[.agg #[.int .i64 an, .int .i64 ad], .agg #[.int .i64 bn, .int .i64 bd]] w fun e w' => e = .returned (fracV 0 0 2) ∧ Below w.heap.size w w' := by
  obtain ⟨C, hC⟩ : ∃ C, C = cmpZ (an * bd) (bn * ad) := ⟨_, rfl⟩
  have c1 : 0 ≤ C := by rw [hC]; unfold cmpZ; rw [if_neg (by omega)]; split <;> omega
  have c2 : C ≤ 1 := by rw [hC]; exact (cmpZ_le _ _).2
  have CM := Lib.hid (fun W => rCmp_ok an ad bn bd ha hb W)
  rw [← hC] at CM
  clear hC hl ha hb
  go_enter Tryd.func39, Tryd.ntmps39
  go_wp2_with fail
  refine (CM.out _).mono ?_
  rintro e w1 ⟨rfl, hb1⟩
  have K1 := Lib.hid ((Bx3.new w an ad bn bd).below hb1)
  clear hb1
  obtain ⟨k1, k2, k3, k4, k5, k6, k7, k8, ksz, kb⟩ := K1.out
  clear CM
  go_wp2_with fail
  refine bodyPost_ret (v := fracV 0 0 2) (by simp [results, Tryd.results39, go_sem, fracV, k5, k6, ksz]) rfl ?_
  exact ⟨rfl, by repeat' (first | exact Below.refl _ _ | refine below_drewN ?_ _ | refine Below.drew ?_ | refine Below.setCell ?_ ?_ _ | (with_reducible exact kb) | (simp; done) | (simp; omega) | omega)⟩

set_option maxRecDepth 100000 in
set_option maxHeartbeats 4000000 in
theorem rBetween_in (an ad bn bd : Int) (ha : vldB an ad = true) (hb : vldB bn bd = true) (hl : an * bd < bn * ad) (n d : Int) (hs : SimpZ an ad bn bd n d) (w : World) :
    Calls Tryd.prog 39 #[.agg #[.int .i64 an, .int .i64 ad], .agg #[.int .i64 bn, .int .i64 bd]] w (Res (FinS n d) w) := by
  have CM := Lib.hid (fun W => rCmp_ok an ad bn bd ha hb W)
  rw [show cmpZ (an * bd) (bn * ad) = -1 from if_pos hl] at CM
  obtain ⟨a1, a2, a3, a4, a5⟩ := vldB_true.1 ha
  obtain ⟨b1, b2, b3, b4, b5⟩ := vldB_true.1 hb
  have HA := Lib.hid ha; clear ha a5
  have HB := Lib.hid hb; clear hb b5
  have SZ := Lib.hid hs
  have d1 := hs.1
  clear hl hs
  go_enter Tryd.func39, Tryd.ntmps39
  go_wp2_with fail
  refine (CM.out _).mono ?_
  rintro e w1 ⟨rfl, hb1⟩
  have K1 := Lib.hid ((Bx3.new w an ad bn bd).below hb1)
  clear hb1
  obtain ⟨k1, k2, k3, k4, k5, k6, k7, k8, ksz, kb⟩ := K1.out
  clear CM HA HB
  go_wp2_with fail
  go_loopw [8] (fun kv wr => ∃ k : Int, 1 ≤ k ∧ k ≤ d ∧ k ≤ 1048577 ∧ kv = .int .i64 k ∧ Hid (Bx3 w wr an ad bn bd)) (fun kv _ => (1048577 - intOf kv).toNat)
  case atStart => exact ⟨1, by omega, by omega, by omega, rfl, K1⟩
  case round =>
    clear k1 k2 k3 k4 k5 k6 k7 k8 ksz kb K1
    obtain ⟨k, q0, q1, q2, rfl, K0⟩ := hrel
    obtain ⟨k1, k2, k3, k4, k5, k6, k7, k8, ksz, kb⟩ := K0.out
    by_cases hk : k ≤ 1048576
    · obtain ⟨f1, f2⟩ := fr_mul a3 a4 q0 hk
      obtain ⟨g1, g2⟩ := fr_mul (n := -bn) (d := k) (by omega) (by omega) q0 hk
      have AB1 := Lib.hid (fun W => above_any an ad k f1 f2 a1 a2 W)
      have AB2 := Lib.hid (fun W => above_any (-bn) bd k g1 g2 b1 b2 W)
      have IFF := Lib.hid (fun p => betw_iff (p := p) (k := k) (an := an) (bn := bn) a1 b1)
      obtain ⟨l1, l2⟩ := ediv_in f1 f2 a1
      obtain ⟨m1, m2⟩ := ediv_in g1 g2 b1
      clear f1 f2 g1 g2
      have wn : IntKind.i64.wrap (-bn) = -bn := IntWalk.i64_in _ (by omega)
      generalize an * k / ad = lo at *
      generalize (-bn) * k / bd = m at *
      have wm : IntKind.i64.wrap (-(m + 1)) = -(m + 1) := IntWalk.i64_in _ (by omega)
      go_wp2_with fail
      go_region_held3 (fun w' => w'.cell? ⟨w.heap.size, 0, none⟩ = some (.int .i64 an) ∧ w'.cell? ⟨w.heap.size, 1, none⟩ = some (.int .i64 ad) ∧ w'.cell? ⟨w.heap.size + 1, 0, none⟩ = some (.int .i64 bn) ∧ w'.cell? ⟨w.heap.size + 1, 1, none⟩ = some (.int .i64 bd))
        (first | exact ⟨k1, k2, k3, k4⟩)
        (first
          | (go_at_call 75; (with_reducible refine (AB1.out _).mono ?_); rintro e v1 ⟨rfl, r3⟩; have st : Below wr.heap.size wr v1 := (by first | exact r3 | exact ((Below.refl _ _).drew).trans r3 | exact (below_drewN (Below.refl _ _) _).trans r3); have K1 := Lib.hid (K0.out.below st); clear k1 k2 k3 k4 k5 k6 k7 k8 ksz kb; obtain ⟨k1, k2, k3, k4, k5, k6, k7, k8, ksz, kb⟩ := K1.out; clear r3; clear st)
          | (go_at_call 75; (try rw [wn]); (with_reducible refine (AB2.out _).mono ?_); rintro e v2 ⟨rfl, r3⟩; have st : Below v1.heap.size v1 v2 := (by first | exact r3 | exact ((Below.refl _ _).drew).trans r3 | exact (below_drewN (Below.refl _ _) _).trans r3); have K2 := Lib.hid (K1.out.below st); clear k1 k2 k3 k4 k5 k6 k7 k8 ksz kb; obtain ⟨k1, k2, k3, k4, k5, k6, k7, k8, ksz, kb⟩ := K2.out; clear r3; clear st))
      clear AB1 AB2 K0 K1
      rcases (by omega : k < d ∨ k = d) with hkd | hkd
      · have no : -(m + 1) < lo + 1 := by
          rcases Int.lt_or_le (-(m + 1)) (lo + 1) with t | t
          · exact t
          · have := (SZ.out.2.2 (lo + 1) k q0 ((IFF.out _).2 ⟨by omega, t⟩)).1
            omega
        clear SZ IFF
        go_wp2_with fail
        go_roundw
        case rel => exact ⟨k + 1, by omega, by omega, by omega, rfl, by first | exact K2 | exact ⟨k1, k2, k3, k4, k5, k6, k7, k8, ksz, kb⟩⟩
        case measure => simp [intOf]; omega
      · subst hkd
        obtain ⟨t1, t2⟩ := (IFF.out n).1 SZ.out.2.1
        rcases (by omega : (lo + 1 ≤ 0 ∧ 0 ≤ -(m + 1)) ∨ -(m + 1) < 0 ∨ 0 < lo + 1) with ⟨c1, c2⟩ | c | c
        · have z := (SZ.out.2.2 0 k q0 ((IFF.out _).2 ⟨by omega, by omega⟩)).2
          have n0 : n = 0 := by omega
          subst n0
          clear SZ IFF z
          go_wp2_with fail
          refine bodyPost_ret (v := fracV 0 k 0) (by simp [results, Tryd.results39, go_sem, fracV, k5, k6, ksz]) rfl ?_
          exact ⟨0, k, 0, .inl ⟨hk, by omega, by omega, rfl, rfl, rfl⟩, rfl, by repeat' (first | exact Below.refl _ _ | refine below_drewN ?_ _ | refine Below.drew ?_ | refine Below.setCell ?_ ?_ _ | (with_reducible exact kb) | (simp; done) | (simp; omega) | omega)⟩
        · have z := (SZ.out.2.2 (-(m + 1)) k q0 ((IFF.out _).2 ⟨by omega, by omega⟩)).2
          have n0 : n = -(m + 1) := by omega
          subst n0
          clear SZ IFF z
          rcases (by omega : -(m + 1) < -1099511627776 ∨ -1099511627776 ≤ -(m + 1)) with t | t
          · go_wp2_with fail
            refine bodyPost_ret (v := fracV 0 0 4) (by simp [results, Tryd.results39, go_sem, fracV, k5, k6, ksz]) rfl ?_
            exact ⟨0, 0, 4, .inr ⟨.inr (.inl t), rfl, rfl, rfl⟩, rfl, by repeat' (first | exact Below.refl _ _ | refine below_drewN ?_ _ | refine Below.drew ?_ | refine Below.setCell ?_ ?_ _ | (with_reducible exact kb) | (simp; done) | (simp; omega) | omega)⟩
          · go_wp2_with fail
            refine bodyPost_ret (v := fracV (-(m + 1)) k 0) (by simp [results, Tryd.results39, go_sem, fracV, k5, k6, ksz]) rfl ?_
            exact ⟨(-(m + 1)), k, 0, .inl ⟨hk, t, by omega, rfl, rfl, rfl⟩, rfl, by repeat' (first | exact Below.refl _ _ | refine below_drewN ?_ _ | refine Below.drew ?_ | refine Below.setCell ?_ ?_ _ | (with_reducible exact kb) | (simp; done) | (simp; omega) | omega)⟩
        · have z := (SZ.out.2.2 (lo + 1) k q0 ((IFF.out _).2 ⟨by omega, by omega⟩)).2
          have n0 : n = lo + 1 := by omega
          subst n0
          clear SZ IFF z
          rcases (by omega : 1099511627776 < lo + 1 ∨ lo + 1 ≤ 1099511627776) with t | t
          · go_wp2_with fail
            refine bodyPost_ret (v := fracV 0 0 4) (by simp [results, Tryd.results39, go_sem, fracV, k5, k6, ksz]) rfl ?_
            exact ⟨0, 0, 4, .inr ⟨.inr (.inr t), rfl, rfl, rfl⟩, rfl, by repeat' (first | exact Below.refl _ _ | refine below_drewN ?_ _ | refine Below.drew ?_ | refine Below.setCell ?_ ?_ _ | (with_reducible exact kb) | (simp; done) | (simp; omega) | omega)⟩
          · go_wp2_with fail
            refine bodyPost_ret (v := fracV (lo + 1) k 0) (by simp [results, Tryd.results39, go_sem, fracV, k5, k6, ksz]) rfl ?_
            exact ⟨(lo + 1), k, 0, .inl ⟨hk, by omega, t, rfl, rfl, rfl⟩, rfl, by repeat' (first | exact Below.refl _ _ | refine below_drewN ?_ _ | refine Below.drew ?_ | refine Below.setCell ?_ ?_ _ | (with_reducible exact kb) | (simp; done) | (simp; omega) | omega)⟩
    · have hk' : 1048576 < k := by omega
      clear SZ
      go_wp2_with fail
      refine bodyPost_ret (v := fracV 0 0 4) (by simp [results, Tryd.results39, go_sem, fracV, k5, k6, ksz]) rfl ?_
      exact ⟨0, 0, 4, .inr ⟨.inl (by omega), rfl, rfl, rfl⟩, rfl, by repeat' (first | exact Below.refl _ _ | refine below_drewN ?_ _ | refine Below.drew ?_ | refine Below.setCell ?_ ?_ _ | (with_reducible exact kb) | (simp; done) | (simp; omega) | omega)⟩

theorem rBetween_rel (an ad bn bd V D E : Int) (x1 : -9223372036854775808 ≤ an) (x2 : an ≤ 9223372036854775807) (x3 : -9223372036854775808 ≤ bn) (x4 : bn ≤ 9223372036854775807) (R : BtwR an ad bn bd V D E) (w : World) :
    Calls Tryd.prog 39 #[.agg #[.int .i64 an, .int .i64 ad], .agg #[.int .i64 bn, .int .i64 bd]] w fun e w' => e = .returned (fracV V D E) ∧ Below w.heap.size w w' := by
  rcases R with ⟨v, hl, n, d, hs, hf⟩ | ⟨h, rfl, rfl, rfl⟩
  · rw [Bool.and_eq_true] at v
    refine (rBetween_in an ad bn bd v.1 v.2 hl n d hs w).mono ?_
    rintro e w' ⟨V', D', E', r, rfl, hb⟩
    obtain ⟨rfl, rfl, rfl⟩ := (frac_fin hs hf).unique r
    exact ⟨rfl, hb⟩
  · cases hv : (vldB an ad && vldB bn bd)
    · exact rBetween_bad an ad bn bd x1 x2 x3 x4 (by cases h1 : vldB an ad <;> cases h2 : vldB bn bd <;> simp_all) w
    · have hl : bn * ad ≤ an * bd := by
        rcases h with h | h
        · rw [hv] at h; cases h
        · exact h
      rw [Bool.and_eq_true] at hv
      exact rBetween_out an ad bn bd hv.1 hv.2 hl w
end Go.Proofs.YtbnbbekfackaiaaDoor
