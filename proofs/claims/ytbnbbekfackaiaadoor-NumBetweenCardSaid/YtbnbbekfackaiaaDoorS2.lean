/- num.Between. -/
import Derived.Test.YtbnbbekfackaiaaDoorN1
import Derived.Test.YtbnbbekfackaiaaDoorS1
namespace Go.Proofs.YtbnbbekfackaiaaDoor
open Go.RowKit
set_option linter.unusedVariables false
set_option linter.unusedSimpArgs false

/-- n/d is the simplest fraction strictly between, of either sign. -/
def SimpZ (an ad bn bd n d : Int) : Prop := 1 ≤ d ∧ Betw an ad bn bd n d ∧ ∀ p q : Int, 1 ≤ q → Betw an ad bn bd p q → d ≤ q ∧ n.natAbs ≤ p.natAbs
theorem simpZ_pos {an ad bn bd n d : Int} (h : Simp an ad bn bd n d) : SimpZ an ad bn bd n d :=
  ⟨h.2.1, h.2.2.1, fun p q hq hb => ⟨(h.2.2.2 p q hq hb).1, by have := (h.2.2.2 p q hq hb).2; have := h.1; omega⟩⟩
theorem simpZ_neg {an ad bn bd n d : Int} (h : Simp (-bn) bd (-an) ad n d) : SimpZ an ad bn bd (-n) d := by
  obtain ⟨h1, h2, ⟨b1, b2⟩, hm⟩ := h
  refine ⟨h2, ⟨by grind, by grind⟩, fun p q hq hb => ?_⟩
  obtain ⟨c1, c2⟩ := hb
  obtain ⟨e1, e2⟩ := hm (-p) q hq ⟨by grind, by grind⟩
  exact ⟨e1, by omega⟩
theorem simpZ_zero {an ad bn bd : Int} (h1 : an < 0) (h2 : 0 < bn) : SimpZ an ad bn bd 0 1 :=
  ⟨by omega, ⟨by omega, by omega⟩, fun p q hq _ => ⟨hq, by omega⟩⟩
theorem SimpZ.most {an ad bn bd n d : Int} (h : SimpZ an ad bn bd n d) (hd : 1 ≤ ad + bd) (hl : an * bd < bn * ad) : d ≤ ad + bd ∧ n.natAbs ≤ (an + bn).natAbs :=
  h.2.2 _ _ hd (betw_med hl)
theorem SimpZ.unique {an ad bn bd n d n' d' : Int} (h : SimpZ an ad bn bd n d) (h' : SimpZ an ad bn bd n' d') : n = n' ∧ d = d' := by
  have a := h.2.2 n' d' h'.1 h'.2.1
  have b := h'.2.2 n d h.1 h.2.1
  have e : d = d' := by omega
  subst e
  rcases (by omega : n = n' ∨ (n = -n' ∧ n ≠ 0)) with hn | ⟨hn, h0⟩
  · exact ⟨hn, rfl⟩
  · exfalso
    obtain ⟨a1, a2⟩ := h.2.1
    obtain ⟨b1, b2⟩ := h'.2.1
    rw [hn, Int.neg_mul] at a1 a2
    have z := (h.2.2 0 d h.1 ⟨by rw [Int.zero_mul]; omega, by rw [Int.zero_mul]; omega⟩).2
    omega

/-- Boxes of two fractions and of a result. -/
structure Bx3 (w v : World) (an ad bn bd : Int) : Prop where
  a0 : v.cell? ⟨w.heap.size, 0, none⟩ = some (.int .i64 an)
  a1 : v.cell? ⟨w.heap.size, 1, none⟩ = some (.int .i64 ad)
  b0 : v.cell? ⟨w.heap.size + 1, 0, none⟩ = some (.int .i64 bn)
  b1 : v.cell? ⟨w.heap.size + 1, 1, none⟩ = some (.int .i64 bd)
  c0 : v.cell? ⟨w.heap.size + 1 + 1, 0, none⟩ = some (.int .i64 0)
  c1 : v.cell? ⟨w.heap.size + 1 + 1, 1, none⟩ = some (.int .i64 0)
  f0 : v.frozen? ⟨w.heap.size + 1 + 1, 0, none⟩ = false
  f1 : v.frozen? ⟨w.heap.size + 1 + 1, 1, none⟩ = false
  sz : w.heap.size + 1 + 1 < v.heap.size
  bel : Below w.heap.size w v
theorem Bx3.below {w v v' : World} {an ad bn bd : Int} (h : Bx3 w v an ad bn bd) (hb : Below v.heap.size v v') : Bx3 w v' an ad bn bd := by
  obtain ⟨h1, h2, h3, h4, h5, h6, h7, h8, h9, h10⟩ := h
  have z0 : w.heap.size < v.heap.size := by omega
  have z1 : w.heap.size + 1 < v.heap.size := by omega
  exact ⟨(hb.cell (p := ⟨w.heap.size, 0, none⟩) z0).trans h1, (hb.cell (p := ⟨w.heap.size, 1, none⟩) z0).trans h2, (hb.cell (p := ⟨w.heap.size + 1, 0, none⟩) z1).trans h3, (hb.cell (p := ⟨w.heap.size + 1, 1, none⟩) z1).trans h4,
    (hb.cell (p := ⟨w.heap.size + 1 + 1, 0, none⟩) h9).trans h5, (hb.cell (p := ⟨w.heap.size + 1 + 1, 1, none⟩) h9).trans h6, (hb.frozen (p := ⟨w.heap.size + 1 + 1, 0, none⟩) h9).trans h7, (hb.frozen (p := ⟨w.heap.size + 1 + 1, 1, none⟩) h9).trans h8, Nat.lt_of_lt_of_le h9 hb.size, h10.trans (hb.mono h10.size)⟩
theorem Bx3.new (w : World) (an ad bn bd : Int) : Bx3 w (((w.alloc (Obj.cells #[Value.int .i64 an, Value.int .i64 ad] 23)).alloc (Obj.cells #[Value.int .i64 bn, Value.int .i64 bd] 23)).alloc (Obj.cells #[Value.int .i64 0, Value.int .i64 0] 23)) an ad bn bd := by
  refine ⟨?_, ?_, ?_, ?_, ?_, ?_, ?_, ?_, ?_, by go_grown⟩ <;> simp [go_sem]

set_option maxRecDepth 100000 in
set_option maxHeartbeats 1000000 in
theorem Between_bad (an ad bn bd : Int) (x1 : -9223372036854775808 ≤ an) (x2 : an ≤ 9223372036854775807) (x3 : -9223372036854775808 ≤ bn) (x4 : bn ≤ 9223372036854775807) (h : vldB an ad = false ∨ vldB bn bd = false) (w : World) :
    Calls Tryd.prog 38 #[.agg #[.int .i64 an, .int .i64 ad], .agg #[.int .i64 bn, .int .i64 bd]] w fun e w' => e = .returned (fracV 0 0 2) ∧ Below w.heap.size w w' := by
  have H := Lib.hid h; clear h
  go_enter Tryd.func38, Tryd.ntmps38
  go_wp2_with fail
  refine (Cmp_bad an ad bn bd x1 x2 x3 x4 H.out _).mono ?_
  rintro e w1 ⟨rfl, hb1⟩
  have K1 := Lib.hid ((Bx3.new w an ad bn bd).below hb1)
  clear hb1
  obtain ⟨k1, k2, k3, k4, k5, k6, k7, k8, ksz, kb⟩ := K1.out
  clear H
  go_wp2_with fail
  refine bodyPost_ret (v := fracV 0 0 2) (by simp [results, Tryd.results38, go_sem, fracV, k5, k6, ksz]) rfl ?_
  exact ⟨rfl, by repeat' (first | exact Below.refl _ _ | refine below_drewN ?_ _ | refine Below.drew ?_ | refine Below.setCell ?_ ?_ _ | (with_reducible exact kb) | (simp; done) | (simp; omega) | omega)⟩

set_option maxRecDepth 100000 in
set_option maxHeartbeats 1000000 in
theorem Between_out (an ad bn bd : Int) (ha : vldB an ad = true) (hb : vldB bn bd = true) (hl : bn * ad ≤ an * bd) (w : World) :
    Calls Tryd.prog 38 #[.agg #[.int .i64 an, .int .i64 ad], .agg #[.int .i64 bn, .int .i64 bd]] w fun e w' => e = .returned (fracV 0 0 2) ∧ Below w.heap.size w w' := by
  obtain ⟨C, hC⟩ : ∃ C, C = cmpZ (an * bd) (bn * ad) := ⟨_, rfl⟩
  have c1 : 0 ≤ C := by rw [hC]; unfold cmpZ; rw [if_neg (by omega)]; split <;> omega
  have c2 : C ≤ 1 := by rw [hC]; exact (cmpZ_le _ _).2
  have CM := Lib.hid (fun W => Cmp_ok an ad bn bd ha hb W)
  rw [← hC] at CM
  clear hC hl ha hb
  go_enter Tryd.func38, Tryd.ntmps38
  go_wp2_with fail
  refine (CM.out _).mono ?_
  rintro e w1 ⟨rfl, hb1⟩
  have K1 := Lib.hid ((Bx3.new w an ad bn bd).below hb1)
  clear hb1
  obtain ⟨k1, k2, k3, k4, k5, k6, k7, k8, ksz, kb⟩ := K1.out
  clear CM
  go_wp2_with fail
  refine bodyPost_ret (v := fracV 0 0 2) (by simp [results, Tryd.results38, go_sem, fracV, k5, k6, ksz]) rfl ?_
  exact ⟨rfl, by repeat' (first | exact Below.refl _ _ | refine below_drewN ?_ _ | refine Below.drew ?_ | refine Below.setCell ?_ ?_ _ | (with_reducible exact kb) | (simp; done) | (simp; omega) | omega)⟩

set_option maxRecDepth 100000 in
set_option maxHeartbeats 2000000 in
theorem Between_zero (an ad bn bd : Int) (ha : vldB an ad = true) (hb : vldB bn bd = true) (hl : an * bd < bn * ad) (h1 : an < 0) (h2 : 0 < bn) (w : World) :
    Calls Tryd.prog 38 #[.agg #[.int .i64 an, .int .i64 ad], .agg #[.int .i64 bn, .int .i64 bd]] w (Res (fun V D E => ∃ n d, SimpZ an ad bn bd n d ∧ IsFrac n d V D E) w) := by
  have CM := Lib.hid (fun W => Cmp_ok an ad bn bd ha hb W)
  rw [show cmpZ (an * bd) (bn * ad) = -1 from if_pos hl] at CM
  obtain ⟨a1, a2, a3, a4, a5⟩ := vldB_true.1 ha
  obtain ⟨b1, b2, b3, b4, b5⟩ := vldB_true.1 hb
  have HA := Lib.hid ha; clear ha a5
  have HB := Lib.hid hb; clear hb b5
  have FR := Lib.hid (show ∃ n d, SimpZ an ad bn bd n d ∧ IsFrac n d 0 1 0 from ⟨0, 1, simpZ_zero h1 h2, .inl ⟨rfl, by kernel_rfl, rfl⟩⟩)
  clear hl
  go_enter Tryd.func38, Tryd.ntmps38
  go_wp2_with fail
  refine (CM.out _).mono ?_
  rintro e w1 ⟨rfl, hb1⟩
  have K1 := Lib.hid ((Bx3.new w an ad bn bd).below hb1)
  clear hb1
  obtain ⟨k1, k2, k3, k4, k5, k6, k7, k8, ksz, kb⟩ := K1.out
  clear CM HA HB
  go_wp2_with fail
  refine bodyPost_ret (v := fracV 0 1 0) (by simp [results, Tryd.results38, go_sem, fracV, k5, k6, ksz]) rfl ?_
  exact ⟨0, 1, 0, FR.out, rfl, by repeat' (first | exact Below.refl _ _ | refine below_drewN ?_ _ | refine Below.drew ?_ | refine Below.setCell ?_ ?_ _ | (with_reducible exact kb) | (simp; done) | (simp; omega) | omega)⟩

set_option maxRecDepth 100000 in
set_option maxHeartbeats 2000000 in
theorem Between_pos (an ad bn bd : Int) (ha : vldB an ad = true) (hb : vldB bn bd = true) (hl : an * bd < bn * ad) (h1 : 0 ≤ an) (w : World) :
    Calls Tryd.prog 38 #[.agg #[.int .i64 an, .int .i64 ad], .agg #[.int .i64 bn, .int .i64 bd]] w (Res (fun V D E => ∃ n d, SimpZ an ad bn bd n d ∧ IsFrac n d V D E) w) := by
  have CM := Lib.hid (fun W => Cmp_ok an ad bn bd ha hb W)
  rw [show cmpZ (an * bd) (bn * ad) = -1 from if_pos hl] at CM
  obtain ⟨a1, a2, a3, a4, a5⟩ := vldB_true.1 ha
  obtain ⟨b1, b2, b3, b4, b5⟩ := vldB_true.1 hb
  have HA := Lib.hid ha; clear ha a5
  have HB := Lib.hid hb; clear hb b5
  have HL := Lib.hid hl
  have ST := Lib.hid (fun W => simplest_any _ an ad bn bd (Nat.le_refl _) h1 a4 a1 a2 b4 (by omega) b2 hl W)
  clear hl
  go_enter Tryd.func38, Tryd.ntmps38
  go_wp2_with fail
  refine (CM.out _).mono ?_
  rintro e w1 ⟨rfl, hb1⟩
  have K1 := Lib.hid ((Bx3.new w an ad bn bd).below hb1)
  clear hb1
  obtain ⟨k1, k2, k3, k4, k5, k6, k7, k8, ksz, kb⟩ := K1.out
  clear CM HA HB
  go_wp2_with fail
  refine (ST.out _).mono ?_
  rintro e w2 ⟨n, d, rfl, hs, hb2⟩
  have K2 := Lib.hid (K1.out.below hb2)
  have n1 := hs.1
  have n2 := hs.2.1
  have SZ := Lib.hid (simpZ_pos hs)
  obtain ⟨n3, n4⟩ := SZ.out.most (by omega) HL.out
  clear hs hb2 k1 k2 k3 k4 k5 k6 k7 k8 ksz kb K1 ST HL
  obtain ⟨k1, k2, k3, k4, k5, k6, k7, k8, ksz, kb⟩ := K2.out
  go_wp2_with fail
  refine (Make_any _ _ (by omega) (by omega) (by omega) (by omega) (by omega) _).mono ?_
  rintro e w3 ⟨V, D, E, hF, rfl, hb3⟩
  unfold fracV
  have FR := Lib.hid (show ∃ n d, SimpZ an ad bn bd n d ∧ IsFrac n d V D E from ⟨_, _, SZ.out, hF⟩)
  have K3 := Lib.hid (K2.out.below hb3)
  clear hF hb3 k1 k2 k3 k4 k5 k6 k7 k8 ksz kb K2 SZ
  obtain ⟨k1, k2, k3, k4, k5, k6, k7, k8, ksz, kb⟩ := K3.out
  go_wp2_with fail
  refine bodyPost_ret (v := fracV V D E) (by simp [results, Tryd.results38, go_sem, fracV, k5, k6, ksz]) rfl ?_
  exact ⟨V, D, E, FR.out, rfl, by repeat' (first | exact Below.refl _ _ | refine below_drewN ?_ _ | refine Below.drew ?_ | refine Below.setCell ?_ ?_ _ | (with_reducible exact kb) | (simp; done) | (simp; omega) | omega)⟩

set_option maxRecDepth 100000 in
set_option maxHeartbeats 2000000 in
theorem Between_neg (an ad bn bd : Int) (ha : vldB an ad = true) (hb : vldB bn bd = true) (hl : an * bd < bn * ad) (h1 : an < 0) (h2 : bn ≤ 0) (w : World) :
    Calls Tryd.prog 38 #[.agg #[.int .i64 an, .int .i64 ad], .agg #[.int .i64 bn, .int .i64 bd]] w (Res (fun V D E => ∃ n d, SimpZ an ad bn bd n d ∧ IsFrac n d V D E) w) := by
  have CM := Lib.hid (fun W => Cmp_ok an ad bn bd ha hb W)
  rw [show cmpZ (an * bd) (bn * ad) = -1 from if_pos hl] at CM
  obtain ⟨a1, a2, a3, a4, a5⟩ := vldB_true.1 ha
  obtain ⟨b1, b2, b3, b4, b5⟩ := vldB_true.1 hb
  have HA := Lib.hid ha; clear ha a5
  have HB := Lib.hid hb; clear hb b5
  have HL := Lib.hid hl
  have ST := Lib.hid (fun W => simplest_any _ (-bn) bd (-an) ad (Nat.le_refl _) (by omega) (by omega) b1 b2 (by omega) (by omega) a2 (by rw [Int.neg_mul, Int.neg_mul]; omega) W)
  clear hl
  go_enter Tryd.func38, Tryd.ntmps38
  go_wp2_with fail
  refine (CM.out _).mono ?_
  rintro e w1 ⟨rfl, hb1⟩
  have K1 := Lib.hid ((Bx3.new w an ad bn bd).below hb1)
  clear hb1
  obtain ⟨k1, k2, k3, k4, k5, k6, k7, k8, ksz, kb⟩ := K1.out
  clear CM HA HB
  go_wp2_with fail
  refine (ST.out _).mono ?_
  rintro e w2 ⟨n, d, rfl, hs, hb2⟩
  have K2 := Lib.hid (K1.out.below hb2)
  have n1 := hs.1
  have n2 := hs.2.1
  have SZ := Lib.hid (simpZ_neg hs)
  obtain ⟨n3, n4⟩ := SZ.out.most (by omega) HL.out
  clear hs hb2 k1 k2 k3 k4 k5 k6 k7 k8 ksz kb K1 ST HL
  obtain ⟨k1, k2, k3, k4, k5, k6, k7, k8, ksz, kb⟩ := K2.out
  go_wp2_with fail
  refine (Make_any _ _ (by omega) (by omega) (by omega) (by omega) (by omega) _).mono ?_
  rintro e w3 ⟨V, D, E, hF, rfl, hb3⟩
  unfold fracV
  have FR := Lib.hid (show ∃ n d, SimpZ an ad bn bd n d ∧ IsFrac n d V D E from ⟨_, _, SZ.out, hF⟩)
  have K3 := Lib.hid (K2.out.below hb3)
  clear hF hb3 k1 k2 k3 k4 k5 k6 k7 k8 ksz kb K2 SZ
  obtain ⟨k1, k2, k3, k4, k5, k6, k7, k8, ksz, kb⟩ := K3.out
  go_wp2_with fail
  refine bodyPost_ret (v := fracV V D E) (by simp [results, Tryd.results38, go_sem, fracV, k5, k6, ksz]) rfl ?_
  exact ⟨V, D, E, FR.out, rfl, by repeat' (first | exact Below.refl _ _ | refine below_drewN ?_ _ | refine Below.drew ?_ | refine Below.setCell ?_ ?_ _ | (with_reducible exact kb) | (simp; done) | (simp; omega) | omega)⟩

/-- What Between comes to. -/
def BtwR (an ad bn bd V D E : Int) : Prop :=
  ((vldB an ad && vldB bn bd) = true ∧ an * bd < bn * ad ∧ ∃ n d, SimpZ an ad bn bd n d ∧ IsFrac n d V D E) ∨ (((vldB an ad && vldB bn bd) = false ∨ bn * ad ≤ an * bd) ∧ V = 0 ∧ D = 0 ∧ E = 2)
theorem Between_all (an ad bn bd : Int) (x1 : -9223372036854775808 ≤ an) (x2 : an ≤ 9223372036854775807) (x3 : -9223372036854775808 ≤ bn) (x4 : bn ≤ 9223372036854775807) (w : World) :
    Calls Tryd.prog 38 #[.agg #[.int .i64 an, .int .i64 ad], .agg #[.int .i64 bn, .int .i64 bd]] w (Res (BtwR an ad bn bd) w) := by
  cases h : (vldB an ad && vldB bn bd)
  · exact (Between_bad an ad bn bd x1 x2 x3 x4 (by cases h1 : vldB an ad <;> cases h2 : vldB bn bd <;> simp_all) w).mono fun _ _ ⟨a, b⟩ => ⟨0, 0, 2, .inr ⟨.inl h, rfl, rfl, rfl⟩, a, b⟩
  · have h' := h
    rw [Bool.and_eq_true] at h
    by_cases hl : an * bd < bn * ad
    · have K : Calls Tryd.prog 38 #[.agg #[.int .i64 an, .int .i64 ad], .agg #[.int .i64 bn, .int .i64 bd]] w (Res (fun V D E => ∃ n d, SimpZ an ad bn bd n d ∧ IsFrac n d V D E) w) := by
        by_cases h1 : an < 0
        · by_cases h2 : 0 < bn
          · exact Between_zero an ad bn bd h.1 h.2 hl h1 h2 w
          · exact Between_neg an ad bn bd h.1 h.2 hl h1 (by omega) w
        · exact Between_pos an ad bn bd h.1 h.2 hl (by omega) w
      exact K.mono fun _ _ ⟨V, D, E, r, a, b⟩ => ⟨V, D, E, .inl ⟨h', hl, r⟩, a, b⟩
    · exact (Between_out an ad bn bd h.1 h.2 (by omega) w).mono fun _ _ ⟨a, b⟩ => ⟨0, 0, 2, .inr ⟨.inr (by omega), rfl, rfl, rfl⟩, a, b⟩
end Go.Proofs.YtbnbbekfackaiaaDoor
