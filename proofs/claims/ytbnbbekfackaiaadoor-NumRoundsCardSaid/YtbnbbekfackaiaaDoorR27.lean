/- The reference's MulDiv, Scale, Round, and the program's, by the same numbers. -/
import Derived.Test.YtbnbbekfackaiaaDoorR26
namespace Go.Proofs.YtbnbbekfackaiaaDoor
open Go.RowKit
set_option linter.unusedVariables false
set_option linter.unusedSimpArgs false

theorem rMulDiv_bad (a b c m : Int) (h : wthB a 1125899906842624 = false ∨ wthB b 1125899906842624 = false ∨ wthB c 1125899906842624 = false ∨ modB m = false) (w : World) :
    Calls Tryd.prog 29 #[.int .i64 a, .int .i64 b, .int .i64 c, .int .i64 m] w fun e w' => e = .returned (.tuple #[.int .i64 0, .int .i64 2]) ∧ w = w' := by
  have k : wthB a 1125899906842624 = false ∨ (wthB a 1125899906842624 = true ∧ wthB b 1125899906842624 = false) ∨ (wthB a 1125899906842624 = true ∧ wthB b 1125899906842624 = true ∧ wthB c 1125899906842624 = false) ∨ (wthB a 1125899906842624 = true ∧ wthB b 1125899906842624 = true ∧ wthB c 1125899906842624 = true ∧ modB m = false) := by
    generalize wthB a 1125899906842624 = A at *
    generalize wthB b 1125899906842624 = B at *
    generalize wthB c 1125899906842624 = C at *
    generalize modB m = M at *
    cases A <;> cases B <;> cases C <;> cases M <;> simp_all
  clear h
  rcases k with k1 | ⟨k1, k2⟩ | ⟨k1, k2, k3⟩ | ⟨k1, k2, k3, k4⟩
  all_goals go_enter Tryd.func29, Tryd.ntmps29
  all_goals go_wp2_with (first
    | (go_at_call 70; refine (amount_any _ _).mono ?_; rintro e w' ⟨rfl, rfl⟩)
    | (go_at_call 67; refine (rMode_any _ _).mono ?_; rintro e w' ⟨rfl, rfl⟩))
  all_goals go_ret2
  all_goals exact ⟨rfl, rfl⟩
theorem rMulDiv_zero (a b m : Int) (ha : wthB a 1125899906842624 = true) (hb : wthB b 1125899906842624 = true) (hm : modB m = true) (w : World) :
    Calls Tryd.prog 29 #[.int .i64 a, .int .i64 b, .int .i64 0, .int .i64 m] w fun e w' => e = .returned (.tuple #[.int .i64 0, .int .i64 5]) ∧ w = w' := by
  have hc : wthB 0 1125899906842624 = true := by decide
  go_enter Tryd.func29, Tryd.ntmps29
  go_wp2_with (first
    | (go_at_call 70; refine (amount_any _ _).mono ?_; rintro e w' ⟨rfl, rfl⟩)
    | (go_at_call 67; refine (rMode_any _ _).mono ?_; rintro e w' ⟨rfl, rfl⟩))
  go_ret2
  exact ⟨rfl, rfl⟩
theorem rMulDiv_all (a b c m : Int) (w : World) :
    Calls Tryd.prog 29 #[.int .i64 a, .int .i64 b, .int .i64 c, .int .i64 m] w fun e w' => e = .returned (.tuple #[.int .i64 (mdV a b c m), .int .i64 (mdE a b c m)]) ∧ Below w.heap.size w w' := by
  cases h : mdOk a b c m
  · rw [(md_bad h).1, (md_bad h).2]
    exact (rMulDiv_bad a b c m (mdOk_false h) w).mono fun e w' ⟨x, y⟩ => ⟨x, y ▸ Below.refl _ _⟩
  · by_cases h0 : c = 0
    · obtain ⟨h1, h2, h3, h4⟩ := mdOk_true h
      rw [(md_zero h h0).1, (md_zero h h0).2, h0]
      exact (rMulDiv_zero a b m h1 h2 h4 w).mono fun e w' ⟨x, y⟩ => ⟨x, y ▸ Below.refl _ _⟩
    · exact rMulDiv_ok a b c m h h0 w

/-- What Scale comes to. -/
def scOk (k n d m : Int) : Bool := wthB k 1125899906842624 && vldB n d && modB m
def scV (k n d m : Int) : Int := bif scOk k n d m then mdV k n d m else 0
def scE (k n d m : Int) : Int := bif scOk k n d m then mdE k n d m else 2
theorem scOk_true {k n d m : Int} (h : scOk k n d m = true) : wthB k 1125899906842624 = true ∧ vldB n d = true ∧ modB m = true := by
  unfold scOk at h; simp only [Bool.and_eq_true] at h; exact ⟨h.1.1, h.1.2, h.2⟩
theorem scOk_false {k n d m : Int} (h : scOk k n d m = false) : wthB k 1125899906842624 = false ∨ vldB n d = false ∨ modB m = false := by
  unfold scOk at h
  generalize wthB k 1125899906842624 = A at *
  generalize vldB n d = B at *
  generalize modB m = M at *
  cases A <;> cases B <;> cases M <;> simp_all
theorem sc_md {k n d m : Int} (h : scOk k n d m = true) : mdV k n d m = rndV (!(decide (k < 0) == decide (n < 0))) (k.natAbs * n.natAbs) d m ∧ mdE k n d m = rndE (!(decide (k < 0) == decide (n < 0))) (k.natAbs * n.natAbs) d m := by
  obtain ⟨h1, h2, h3⟩ := scOk_true h
  obtain ⟨b1, b2, b3, b4, _⟩ := vldB_true.1 h2
  have o : mdOk k n d m = true := by
    unfold mdOk
    rw [h1, h3, wthB_true.2 (show -1125899906842624 ≤ n ∧ n ≤ 1125899906842624 by omega), wthB_true.2 (show -1125899906842624 ≤ d ∧ d ≤ 1125899906842624 by omega)]; rfl
  have e : ngB k n d = !(decide (k < 0) == decide (n < 0)) := by
    unfold ngB
    rw [show decide (d < 0) = false from by simp; omega]
    cases (!(decide (k < 0) == decide (n < 0))) <;> rfl
  rw [(md_ok o (by omega)).1, (md_ok o (by omega)).2, e, show (d.natAbs : Int) = d from by omega]
  exact ⟨rfl, rfl⟩
theorem Scale_all (k n d m : Int) (n1 : -9223372036854775808 ≤ n) (n2 : n ≤ 9223372036854775807) (w : World) :
    Calls Tryd.prog 26 #[.int .i64 k, .agg #[.int .i64 n, .int .i64 d], .int .i64 m] w fun e w' => e = .returned (.tuple #[.int .i64 (scV k n d m), .int .i64 (scE k n d m)]) ∧ Below w.heap.size w w' := by
  cases h : scOk k n d m
  · rw [show scV k n d m = 0 from by unfold scV; rw [h]; rfl, show scE k n d m = 2 from by unfold scE; rw [h]; rfl]
    exact Scale_bad k n d m n1 n2 (scOk_false h) w
  · obtain ⟨h1, h2, h3⟩ := scOk_true h
    rw [show scV k n d m = mdV k n d m from by unfold scV; rw [h]; rfl, show scE k n d m = mdE k n d m from by unfold scE; rw [h]; rfl, (sc_md h).1, (sc_md h).2]
    exact Scale_ok k n d m h1 h2 h3 w

set_option maxRecDepth 100000 in
set_option maxHeartbeats 1000000 in
theorem rScale_all (k n d m : Int) (n1 : -9223372036854775808 ≤ n) (n2 : n ≤ 9223372036854775807) (w : World) :
    Calls Tryd.prog 27 #[.int .i64 k, .agg #[.int .i64 n, .int .i64 d], .int .i64 m] w fun e w' => e = .returned (.tuple #[.int .i64 (scV k n d m), .int .i64 (scE k n d m)]) ∧ Below w.heap.size w w' := by
  cases h : scOk k n d m
  · rw [show scV k n d m = 0 from by unfold scV; rw [h]; rfl, show scE k n d m = 2 from by unfold scE; rw [h]; rfl]
    have kk : wthB k 1125899906842624 = false ∨ (wthB k 1125899906842624 = true ∧ vldB n d = false) ∨ (wthB k 1125899906842624 = true ∧ vldB n d = true ∧ modB m = false) := by
      have := scOk_false h
      generalize wthB k 1125899906842624 = A at *
      generalize vldB n d = B at *
      generalize modB m = M at *
      cases A <;> cases B <;> cases M <;> simp_all
    clear h
    rcases kk with h1 | ⟨h1, h2⟩ | ⟨h1, h2, h3⟩
    · have H1 := Lib.hid h1
      clear h1
      go_enter Tryd.func27, Tryd.ntmps27
      go_wp2_with fail
      refine (amount_any _ _).mono ?_
      rintro e w' ⟨rfl, rfl⟩
      rw [H1.out]
      go_wp2_with fail
      go_ret2
      exact ⟨rfl, by go_grown⟩
    · have H1 := Lib.hid h1
      have H2 := Lib.hid h2
      clear h1 h2
      go_enter Tryd.func27, Tryd.ntmps27
      go_wp2_with fail
      refine (amount_any _ _).mono ?_
      rintro e w' ⟨rfl, rfl⟩
      rw [H1.out]
      go_wp2_with fail
      refine (rValid_any _ _ n1 n2 _).mono ?_
      rintro e w1 ⟨rfl, hb1⟩
      rw [H2.out]
      go_wp2_with fail
      go_ret2
      exact ⟨rfl, ((Below.refl _ _).alloc (Nat.le_refl _) _).trans (hb1.mono (by simp))⟩
    · have H1 := Lib.hid h1
      have H2 := Lib.hid h2
      have H3 := Lib.hid h3
      clear h1 h2 h3
      go_enter Tryd.func27, Tryd.ntmps27
      go_wp2_with fail
      refine (amount_any _ _).mono ?_
      rintro e w' ⟨rfl, rfl⟩
      rw [H1.out]
      go_wp2_with fail
      refine (rValid_any _ _ n1 n2 _).mono ?_
      rintro e w1 ⟨rfl, hb1⟩
      rw [H2.out]
      go_wp2_with fail
      refine (rMode_any _ _).mono ?_
      rintro e w' ⟨rfl, rfl⟩
      rw [H3.out]
      go_wp2_with fail
      go_ret2
      exact ⟨rfl, ((Below.refl _ _).alloc (Nat.le_refl _) _).trans (hb1.mono (by simp))⟩
  · obtain ⟨h1, h2, h3⟩ := scOk_true h
    rw [show scV k n d m = mdV k n d m from by unfold scV; rw [h]; rfl, show scE k n d m = mdE k n d m from by unfold scE; rw [h]; rfl]
    have H1 := Lib.hid h1
    have H2 := Lib.hid h2
    have H3 := Lib.hid h3
    have MD := Lib.hid (fun W => rMulDiv_all k n d m W)
    generalize mdV k n d m = V at *
    generalize mdE k n d m = E at *
    clear h h1 h2 h3
    go_enter Tryd.func27, Tryd.ntmps27
    go_wp2_with fail
    refine (amount_any _ _).mono ?_
    rintro e w' ⟨rfl, rfl⟩
    rw [H1.out]
    go_wp2_with fail
    refine (rValid_any _ _ n1 n2 _).mono ?_
    rintro e w1 ⟨rfl, hb1⟩
    have f0 : w1.cell? ⟨w.heap.size, 0, none⟩ = some (.int .i64 n) := (hb1.cell (p := ⟨w.heap.size, 0, none⟩) (by simp)).trans (by simp [go_sem])
    have f1 : w1.cell? ⟨w.heap.size, 1, none⟩ = some (.int .i64 d) := (hb1.cell (p := ⟨w.heap.size, 1, none⟩) (by simp)).trans (by simp [go_sem])
    have hb : Below w.heap.size w w1 := ((Below.refl _ _).alloc (Nat.le_refl _) _).trans (hb1.mono (by simp))
    clear hb1
    rw [H2.out]
    go_wp2_with fail
    refine (rMode_any _ _).mono ?_
    rintro e w' ⟨rfl, rfl⟩
    rw [H3.out]
    go_wp2_with fail
    refine (MD.out _).mono ?_
    rintro e w2 ⟨rfl, hb2⟩
    have HB := Lib.hid (hb.trans (hb2.mono hb.size))
    clear hb hb2 MD f0 f1
    go_wp2_with fail
    go_ret2
    exact ⟨rfl, HB.out⟩

/-- What Round comes to. -/
def rdOk (n d m : Int) : Bool := vldB n d && modB m
def rdV (n d m : Int) : Int := bif rdOk n d m then rz n d m else 0
def rdE (n d m : Int) : Int := bif rdOk n d m then 0 else 2
theorem rdOk_true {n d m : Int} (h : rdOk n d m = true) : vldB n d = true ∧ modB m = true := by unfold rdOk at h; simpa using h
theorem rdOk_false {n d m : Int} (h : rdOk n d m = false) : vldB n d = false ∨ modB m = false := by unfold rdOk at h; cases h1 : vldB n d <;> cases h2 : modB m <;> simp_all
theorem rndQ_le (neg : Bool) (p c m : Int) (hp : 0 ≤ p) (hc : 1 ≤ c) (m0 : 0 ≤ m) (m4 : m ≤ 4) : rndQ neg p c m ≤ p := by
  have e := Int.mul_ediv_add_emod p c
  have r0 : 0 ≤ p % c := Int.emod_nonneg _ (by omega)
  have r1 : p % c < c := Int.emod_lt_of_pos _ (by omega)
  have q0 : 0 ≤ p / c := Int.ediv_nonneg hp (by omega)
  have q1 : p / c ≤ p := Int.ediv_le_self _ hp
  cases hu : upB neg (p / c) (p % c) c m
  · rw [rnd_down hu]; exact q1
  · rw [rnd_up hu]
    have rp : 0 < p % c := by
      rcases (by omega : p % c = 0 ∨ 0 < p % c) with h | h
      · exfalso
        rw [h] at hu
        unfold upB at hu
        rcases (by omega : m = 0 ∨ m = 1 ∨ m = 2 ∨ m = 3 ∨ m = 4) with rfl | rfl | rfl | rfl | rfl <;> simp at hu <;> omega
      · exact h
    have c2 : 2 ≤ c := by omega
    have := Int.mul_le_mul_of_nonneg_right c2 q0
    omega
theorem rd_rnd {n d m : Int} (hv : vldB n d = true) (hm : modB m = true) : rz n d m = rndV (decide (n < 0)) n.natAbs d m ∧ rndE (decide (n < 0)) n.natAbs d m = 0 ∧ ((rz n d m).natAbs : Int) ≤ 1099511627776 := by
  obtain ⟨b1, b2, b3, b4, _⟩ := vldB_true.1 hv
  obtain ⟨m0, m4⟩ := modB_true.1 hm
  have k := rz_rnd (decide (n < 0)) n.natAbs d m (by omega) b1 m0 m4
  rw [sgn_abs] at k
  have le := rndQ_le (decide (n < 0)) n.natAbs d m (by omega) b1 m0 m4
  have ok := rnd_ok (neg := decide (n < 0)) (p := n.natAbs) (c := d) (m := m) (by omega)
  have ab : ((rz n d m).natAbs : Int) = rndQ (decide (n < 0)) n.natAbs d m := by rw [k]; exact whole_abs _ (rndQ_nonneg _ _ _ _ (by omega) (by omega))
  exact ⟨by rw [k, ok.1], ok.2, by omega⟩
theorem Round_all (n d m : Int) (n1 : -9223372036854775808 ≤ n) (n2 : n ≤ 9223372036854775807) (w : World) :
    Calls Tryd.prog 24 #[.agg #[.int .i64 n, .int .i64 d], .int .i64 m] w fun e w' => e = .returned (.tuple #[.int .i64 (rdV n d m), .int .i64 (rdE n d m)]) ∧ Below w.heap.size w w' := by
  cases h : rdOk n d m
  · rw [show rdV n d m = 0 from by unfold rdV; rw [h]; rfl, show rdE n d m = 2 from by unfold rdE; rw [h]; rfl]
    exact Round_bad n d m n1 n2 (rdOk_false h) w
  · obtain ⟨h1, h2⟩ := rdOk_true h
    obtain ⟨e1, e2, _⟩ := rd_rnd h1 h2
    rw [show rdV n d m = rz n d m from by unfold rdV; rw [h]; rfl, show rdE n d m = 0 from by unfold rdE; rw [h]; rfl]
    have k := Round_ok n d m h1 h2 w
    rw [← e1, e2] at k
    exact k

/-- A boxed fraction. -/
structure Fr1 (w v : World) (n d : Int) : Prop where
  a0 : v.cell? ⟨w.heap.size, 0, none⟩ = some (.int .i64 n)
  a1 : v.cell? ⟨w.heap.size, 1, none⟩ = some (.int .i64 d)
  sz : w.heap.size < v.heap.size
  bel : Below w.heap.size w v
theorem Fr1.below {w v v' : World} {n d : Int} (h : Fr1 w v n d) (hb : Below v.heap.size v v') : Fr1 w v' n d := by
  obtain ⟨h1, h2, h3, h4⟩ := h
  exact ⟨(hb.cell (p := ⟨w.heap.size, 0, none⟩) h3).trans h1, (hb.cell (p := ⟨w.heap.size, 1, none⟩) h3).trans h2, Nat.lt_of_lt_of_le h3 hb.size, h4.trans (hb.mono h4.size)⟩
theorem Fr1.new (w : World) (n d : Int) : Fr1 w (w.alloc (Obj.cells #[Value.int .i64 n, Value.int .i64 d] 23)) n d := by
  refine ⟨?_, ?_, ?_, by go_grown⟩ <;> simp [go_sem]

set_option maxRecDepth 100000 in
set_option maxHeartbeats 4000000 in
theorem rRound_ok (n d m : Int) (h1 : vldB n d = true) (h2 : modB m = true) (w : World) :
    Calls Tryd.prog 25 #[.agg #[.int .i64 n, .int .i64 d], .int .i64 m] w fun e w' => e = .returned (.tuple #[.int .i64 (rz n d m), .int .i64 0]) ∧ Below w.heap.size w w' := by
  obtain ⟨b1, b2, b3, b4, b5⟩ := vldB_true.1 h1
  obtain ⟨m0, m4⟩ := modB_true.1 h2
  obtain ⟨-, -, hi⟩ := rd_rnd h1 h2
  obtain ⟨Z, hZ⟩ : ∃ Z, Z = rz n d m := ⟨_, rfl⟩
  rw [← hZ] at hi ⊢
  have ON := Lib.hid (fun W => of_s n _ rfl (by omega) (by omega) W)
  have OD := Lib.hid (fun W => of_s d _ rfl (by omega) (by omega) W)
  have RD := Lib.hid (fun p q e f l k W (A : BigR 5 W p l n) (B : BigR 5 W q k d) => rounded_s n d m Z _ _ _ rfl rfl (by rw [if_pos (by omega)]; exact hZ.symm) rfl (by omega) m0 m4 p q e f l k W A B (by omega))
  have WI := Lib.hid (fun p e l W (A : BigR 11 W p l Z) => within_s Z 1099511627776 _ rfl p e l (by omega) (by omega) W A (by omega))
  rw [show wiV Z 1099511627776 = Z from if_pos hi, show wiB Z 1099511627776 = true from by simpa [wiB] using hi] at WI
  generalize decide (n < 0) = sn at *
  generalize decide (d < 0) = sd at *
  generalize decide (Z < 0) = sz at *
  have H1 := Lib.hid h1
  have H2 := Lib.hid h2
  clear h1 h2 hZ hi b5
  go_enter Tryd.func25, Tryd.ntmps25
  go_wp2_with fail
  refine (rValid_any _ _ (by omega) (by omega) _).mono ?_
  rintro e w1 ⟨rfl, hb1⟩
  have K0 := Lib.hid ((Fr1.new w n d).below hb1)
  clear hb1
  rw [H1.out]
  go_wp2_with fail
  refine (rMode_any _ _).mono ?_
  rintro e w' ⟨rfl, rfl⟩
  rw [H2.out]
  obtain ⟨k1, k2, ksz, kb⟩ := K0.out
  go_wp2_with fail
  go_region_held3 (fun w' => w'.cell? ⟨w.heap.size, 0, none⟩ = some (.int .i64 n) ∧ w'.cell? ⟨w.heap.size, 1, none⟩ = some (.int .i64 d))
    (first | exact ⟨k1, k2⟩)
    (first
      | (go_at_call 46; (with_reducible refine (ON.out _).mono ?_); rintro e v1 ⟨p1, l1, c1, rfl, r1, r2, r3⟩; have st : Below w1.heap.size w1 v1 := (by first | exact r3 | exact ((Below.refl _ _).drew).trans r3 | exact (below_drewN (Below.refl _ _) _).trans r3); have K1 := Lib.hid (K0.out.below st); clear k1 k2 ksz kb; obtain ⟨k1, k2, ksz, kb⟩ := K1.out; have B1 := Lib.hid r1; clear r1 r2 r3; clear st)
      | (go_at_call 46; (with_reducible refine (OD.out _).mono ?_); rintro e v2 ⟨p2, l2, c2, rfl, r1, r2, r3⟩; have st : Below v1.heap.size v1 v2 := (by first | exact r3 | exact ((Below.refl _ _).drew).trans r3 | exact (below_drewN (Below.refl _ _) _).trans r3); have K2 := Lib.hid (K1.out.below st); clear k1 k2 ksz kb; obtain ⟨k1, k2, ksz, kb⟩ := K2.out; have B1_2 := Lib.hid (B1.out.below st); have B2 := Lib.hid r1; clear r1 r2 r3; clear st)
      | (go_at_call 69; (with_reducible refine (RD.out p1 p2 c1 c2 l1 l2 _ (by first | exact B1_2.out | exact B1_2.out.drew | exact B1_2.out.drewN _) (by first | exact B2.out | exact B2.out.drew | exact B2.out.drewN _)).mono ?_); rintro e v3 ⟨p3, l3, c3, rfl, r1, r2, r3⟩; have st : Below v2.heap.size v2 v3 := (by first | exact r3 | exact ((Below.refl _ _).drew).trans r3 | exact (below_drewN (Below.refl _ _) _).trans r3); have K3 := Lib.hid (K2.out.below st); clear k1 k2 ksz kb; obtain ⟨k1, k2, ksz, kb⟩ := K3.out; have B3 := Lib.hid r1; clear r1 r2 r3; clear st)
      | (go_at_call 68; (with_reducible refine (WI.out p3 c3 l3 _ (by first | exact B3.out | exact B3.out.drew | exact B3.out.drewN _)).mono ?_); rintro e v4 ⟨rfl, r3⟩; have st : Below v3.heap.size v3 v4 := (by first | exact r3 | exact ((Below.refl _ _).drew).trans r3 | exact (below_drewN (Below.refl _ _) _).trans r3); have K4 := Lib.hid (K3.out.below st); clear k1 k2 ksz kb; obtain ⟨k1, k2, ksz, kb⟩ := K4.out; clear r3; clear st))
  go_wp2_with fail
  go_ret2
  exact ⟨rfl, by first | exact kb | exact kb.drew | exact below_drewN kb _⟩
theorem rRound_bad (n d m : Int) (n1 : -9223372036854775808 ≤ n) (n2 : n ≤ 9223372036854775807) (h : vldB n d = false ∨ modB m = false) (w : World) :
    Calls Tryd.prog 25 #[.agg #[.int .i64 n, .int .i64 d], .int .i64 m] w fun e w' => e = .returned (.tuple #[.int .i64 0, .int .i64 2]) ∧ Below w.heap.size w w' := by
  by_cases hv : vldB n d = true
  · have hm : modB m = false := by rcases h with h | h; (rw [hv] at h; cases h); exact h
    have HV := Lib.hid hv; clear hv
    have HM := Lib.hid hm; clear hm h
    go_enter Tryd.func25, Tryd.ntmps25
    go_wp2_with fail
    refine (rValid_any _ _ n1 n2 _).mono ?_
    rintro e w1 ⟨rfl, hb1⟩
    rw [HV.out]
    go_wp2_with fail
    refine (rMode_any _ _).mono ?_
    rintro e w' ⟨rfl, rfl⟩
    rw [HM.out]
    go_wp2_with fail
    go_ret2
    exact ⟨rfl, ((Below.refl _ _).alloc (Nat.le_refl _) _).trans (hb1.mono (by simp))⟩
  · have hv' : vldB n d = false := by simpa using hv
    have HV := Lib.hid hv'; clear hv hv' h
    go_enter Tryd.func25, Tryd.ntmps25
    go_wp2_with fail
    refine (rValid_any _ _ n1 n2 _).mono ?_
    rintro e w1 ⟨rfl, hb1⟩
    rw [HV.out]
    go_wp2_with fail
    go_ret2
    exact ⟨rfl, ((Below.refl _ _).alloc (Nat.le_refl _) _).trans (hb1.mono (by simp))⟩
theorem rRound_all (n d m : Int) (n1 : -9223372036854775808 ≤ n) (n2 : n ≤ 9223372036854775807) (w : World) :
    Calls Tryd.prog 25 #[.agg #[.int .i64 n, .int .i64 d], .int .i64 m] w fun e w' => e = .returned (.tuple #[.int .i64 (rdV n d m), .int .i64 (rdE n d m)]) ∧ Below w.heap.size w w' := by
  cases h : rdOk n d m
  · rw [show rdV n d m = 0 from by unfold rdV; rw [h]; rfl, show rdE n d m = 2 from by unfold rdE; rw [h]; rfl]
    exact rRound_bad n d m n1 n2 (rdOk_false h) w
  · obtain ⟨h1, h2⟩ := rdOk_true h
    rw [show rdV n d m = rz n d m from by unfold rdV; rw [h]; rfl, show rdE n d m = 0 from by unfold rdE; rw [h]; rfl]
    exact rRound_ok n d m h1 h2 w
end Go.Proofs.YtbnbbekfackaiaaDoor
