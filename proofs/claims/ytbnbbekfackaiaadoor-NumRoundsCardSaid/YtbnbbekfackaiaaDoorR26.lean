/- Rounding by the reference and by the program: the same numbers. -/
import Derived.Test.YtbnbbekfackaiaaDoorR25
import Derived.Test.YtbnbbekfackaiaaDoorB10
import Derived.Test.YtbnbbekfackaiaaDoorR1
namespace Go.Proofs.YtbnbbekfackaiaaDoor
open Go.RowKit
set_option linter.unusedVariables false
set_option linter.unusedSimpArgs false

/-- The sign of a times b over c. -/
def ngB (a b c : Int) : Bool := !((!(decide (a < 0) == decide (b < 0))) == decide (c < 0))
/-- a times b over c, rounded. -/
def RZ (a b c m : Int) : Int := if 0 < c then rz (a * b) c m else rz (-(a * b)) (-c) m
theorem rndQ_nonneg (neg : Bool) (p c m : Int) (hp : 0 ≤ p) (hc : 0 < c) : 0 ≤ rndQ neg p c m := by
  have := rnd_ge neg p c m
  have := Int.ediv_nonneg hp (show 0 ≤ c by omega)
  omega
theorem RZ_rnd (a b c m : Int) (h : c ≠ 0) (m0 : 0 ≤ m) (m4 : m ≤ 4) : RZ a b c m = bif ngB a b c then -(rndQ (ngB a b c) (a.natAbs * b.natAbs) c.natAbs m) else rndQ (ngB a b c) (a.natAbs * b.natAbs) c.natAbs m := by
  have P : 0 ≤ (a.natAbs : Int) * b.natAbs := Int.mul_nonneg (by omega) (by omega)
  have k := rz_rnd (ngB a b c) (a.natAbs * b.natAbs) c.natAbs m P (by omega) m0 m4
  have g := sgn_mul a b
  rw [← k]
  unfold RZ ngB
  rw [show (decide (a < 0) != decide (b < 0)) = !(decide (a < 0) == decide (b < 0)) from rfl] at g
  generalize (!(decide (a < 0) == decide (b < 0))) = x at *
  by_cases hc : 0 < c
  · have e : decide (c < 0) = false := by simp; omega
    rw [if_pos hc, e, show (c.natAbs : Int) = c from by omega, ← g]
    cases x <;> rfl
  · have e : decide (c < 0) = true := by simp; omega
    rw [if_neg hc, e, show (c.natAbs : Int) = -c from by omega, ← g]
    cases x <;> simp
theorem RZ_abs (a b c m : Int) (h : c ≠ 0) (m0 : 0 ≤ m) (m4 : m ≤ 4) : ((RZ a b c m).natAbs : Int) = rndQ (ngB a b c) (a.natAbs * b.natAbs) c.natAbs m := by
  rw [RZ_rnd a b c m h m0 m4]
  exact whole_abs _ (rndQ_nonneg _ _ _ _ (Int.mul_nonneg (by omega) (by omega)) (by omega))
/-- What MulDiv comes to. -/
def mdOk (a b c m : Int) : Bool := wthB a 1125899906842624 && wthB b 1125899906842624 && wthB c 1125899906842624 && modB m
def mdV (a b c m : Int) : Int := bif mdOk a b c m then (if c = 0 then 0 else rndV (ngB a b c) (a.natAbs * b.natAbs) c.natAbs m) else 0
def mdE (a b c m : Int) : Int := bif mdOk a b c m then (if c = 0 then 5 else rndE (ngB a b c) (a.natAbs * b.natAbs) c.natAbs m) else 2
theorem md_bad {a b c m : Int} (h : mdOk a b c m = false) : mdV a b c m = 0 ∧ mdE a b c m = 2 := by unfold mdV mdE; rw [h]; exact ⟨rfl, rfl⟩
theorem md_zero {a b c m : Int} (h : mdOk a b c m = true) (h0 : c = 0) : mdV a b c m = 0 ∧ mdE a b c m = 5 := by unfold mdV mdE; rw [h, if_pos h0, if_pos h0]; exact ⟨rfl, rfl⟩
theorem md_ok {a b c m : Int} (h : mdOk a b c m = true) (h0 : c ≠ 0) : mdV a b c m = rndV (ngB a b c) (a.natAbs * b.natAbs) c.natAbs m ∧ mdE a b c m = rndE (ngB a b c) (a.natAbs * b.natAbs) c.natAbs m := by unfold mdV mdE; rw [h, if_neg h0, if_neg h0]; exact ⟨rfl, rfl⟩
theorem md_in {a b c m : Int} (h : mdOk a b c m = true) (h0 : c ≠ 0) (hi : ((RZ a b c m).natAbs : Int) ≤ 1125899906842624) : mdV a b c m = RZ a b c m ∧ mdE a b c m = 0 := by
  have hm : modB m = true := by unfold mdOk at h; simp only [Bool.and_eq_true] at h; exact h.2
  obtain ⟨m0, m4⟩ := modB_true.1 hm
  rw [RZ_abs a b c m h0 m0 m4] at hi
  rw [(md_ok h h0).1, (md_ok h h0).2, (rnd_ok hi).1, (rnd_ok hi).2, RZ_rnd a b c m h0 m0 m4]
  exact ⟨rfl, rfl⟩
theorem md_out {a b c m : Int} (h : mdOk a b c m = true) (h0 : c ≠ 0) (hi : ¬ ((RZ a b c m).natAbs : Int) ≤ 1125899906842624) : mdV a b c m = 0 ∧ mdE a b c m = 4 := by
  have hm : modB m = true := by unfold mdOk at h; simp only [Bool.and_eq_true] at h; exact h.2
  obtain ⟨m0, m4⟩ := modB_true.1 hm
  rw [RZ_abs a b c m h0 m0 m4] at hi
  rw [(md_ok h h0).1, (md_ok h h0).2, (rnd_big (by omega)).1, (rnd_big (by omega)).2]
  exact ⟨rfl, rfl⟩
theorem mdOk_true {a b c m : Int} (h : mdOk a b c m = true) : wthB a 1125899906842624 = true ∧ wthB b 1125899906842624 = true ∧ wthB c 1125899906842624 = true ∧ modB m = true := by
  unfold mdOk at h; simp only [Bool.and_eq_true] at h; exact ⟨h.1.1.1, h.1.1.2, h.1.2, h.2⟩
theorem mdOk_false {a b c m : Int} (h : mdOk a b c m = false) : wthB a 1125899906842624 = false ∨ wthB b 1125899906842624 = false ∨ wthB c 1125899906842624 = false ∨ modB m = false := by
  unfold mdOk at h
  generalize wthB a 1125899906842624 = A at *
  generalize wthB b 1125899906842624 = B at *
  generalize wthB c 1125899906842624 = C at *
  generalize modB m = M at *
  cases A <;> cases B <;> cases C <;> cases M <;> simp_all

theorem MulDiv_all (a b c m : Int) (w : World) :
    Calls Tryd.prog 28 #[.int .i64 a, .int .i64 b, .int .i64 c, .int .i64 m] w fun e w' => e = .returned (.tuple #[.int .i64 (mdV a b c m), .int .i64 (mdE a b c m)]) ∧ Below w.heap.size w w' := by
  cases h : mdOk a b c m
  · rw [(md_bad h).1, (md_bad h).2]
    exact (MulDiv_bad a b c m (mdOk_false h) w).mono fun e w' ⟨x, y⟩ => ⟨x, y ▸ Below.refl _ _⟩
  · obtain ⟨h1, h2, h3, h4⟩ := mdOk_true h
    by_cases h0 : c = 0
    · rw [(md_zero h h0).1, (md_zero h h0).2, h0]
      exact (MulDiv_zero a b m h1 h2 h4 w).mono fun e w' ⟨x, y⟩ => ⟨x, y ▸ Below.refl _ _⟩
    · rw [(md_ok h h0).1, (md_ok h h0).2]
      exact (MulDiv_ok a b c m h1 h2 h3 h4 h0 w).mono fun e w' ⟨x, n, y⟩ => ⟨x, y ▸ below_drewN (Below.refl _ _) _⟩

theorem rounded_s {N : Nat} (X Y m Z : Int) (s t u : Bool) (hs : s = decide (X < 0)) (ht : t = decide (Y < 0)) (hZ : (if 0 < Y then rz X Y m else rz (-X) (-Y) m) = Z) (hu : u = decide (Z < 0)) (hY : Y ≠ 0) (m0 : 0 ≤ m) (m4 : m ≤ 4) (p q : Option Addr) (c d : Nat) (l k : List Int) (w : World) (A : BigR N w p l X) (B : BigR N w q k Y) (hN : N ≤ 70000) :
    Calls Tryd.prog 69 #[.agg #[.bool s, .slice p l.length c], .agg #[.bool t, .slice q k.length d], .int .i64 m] w (BigS (N + 6) Z u w) := by
  subst hs ht
  have := Rounded_any p q c d l k X Y m w A B hY m0 m4 hN
  rw [hZ] at this
  exact this.mono fun _ _ h => h.s hu
theorem within_s {N : Nat} (x most : Int) (s : Bool) (hs : s = decide (x < 0)) (p : Option Addr) (c : Nat) (l : List Int) (h0 : 0 ≤ most) (hm : most ≤ 4611686018427387904) (w : World) (A : BigR N w p l x) (hN : N ≤ 90000) :
    Calls Tryd.prog 68 #[.agg #[.bool s, .slice p l.length c], .int .i64 most] w fun e w' => e = .returned (.tuple #[.int .i64 (wiV x most), .bool (wiB x most)]) ∧ Below w.heap.size w w' := by
  subst hs
  exact Within_any p c l x most h0 hm w A hN

set_option maxRecDepth 100000 in
set_option maxHeartbeats 4000000 in
theorem rMulDiv_ok (a b c m : Int) (h : mdOk a b c m = true) (h0 : c ≠ 0) (w : World) :
    Calls Tryd.prog 29 #[.int .i64 a, .int .i64 b, .int .i64 c, .int .i64 m] w fun e w' => e = .returned (.tuple #[.int .i64 (mdV a b c m), .int .i64 (mdE a b c m)]) ∧ Below w.heap.size w w' := by
  obtain ⟨h1, h2, h3, h4⟩ := mdOk_true h
  obtain ⟨a1, a2⟩ := wthB_true.1 h1
  obtain ⟨b1, b2⟩ := wthB_true.1 h2
  obtain ⟨c1, c2⟩ := wthB_true.1 h3
  obtain ⟨m0, m4⟩ := modB_true.1 h4
  have c0 : (c == 0) = false := by simpa using h0
  obtain ⟨Z, hZ⟩ : ∃ Z, Z = RZ a b c m := ⟨_, rfl⟩
  have MI := Lib.hid (fun hi => md_in h h0 hi)
  have MO := Lib.hid (fun hi => md_out h h0 hi)
  rw [← hZ] at MI MO
  have OA := Lib.hid (fun W => of_s a _ rfl (by omega) (by omega) W)
  have OB := Lib.hid (fun W => of_s b _ rfl (by omega) (by omega) W)
  have OC := Lib.hid (fun W => of_s c _ rfl (by omega) (by omega) W)
  have TM := Lib.hid (fun pa pb ca cb l k W (A : BigR 5 W pa l a) (B : BigR 5 W pb k b) => times_s a b _ _ _ rfl rfl rfl pa pb ca cb l k W A B (by omega) (by omega))
  have RD := Lib.hid (fun p q e d l k W (A : BigR 10 W p l (a * b)) (B : BigR 10 W q k c) => rounded_s (a * b) c m Z _ _ _ rfl rfl hZ.symm rfl h0 m0 m4 p q e d l k W A B (by omega))
  have WI := Lib.hid (fun p e l W (A : BigR 16 W p l Z) => within_s Z 1125899906842624 _ rfl p e l (by omega) (by omega) W A (by omega))
  generalize decide (a < 0) = sa at *
  generalize decide (b < 0) = sb at *
  generalize decide (c < 0) = sc at *
  generalize decide (a * b < 0) = sp at *
  generalize decide (Z < 0) = sz at *
  have H1 := Lib.hid h1
  have H2 := Lib.hid h2
  have H3 := Lib.hid h3
  have H4 := Lib.hid h4
  clear h hZ h0 h1 h2 h3 h4
  go_enter Tryd.func29, Tryd.ntmps29
  go_wp2_with fail
  refine (amount_any _ _).mono ?_
  rintro e w' ⟨rfl, rfl⟩
  rw [H1.out]
  go_wp2_with fail
  refine (amount_any _ _).mono ?_
  rintro e w' ⟨rfl, rfl⟩
  rw [H2.out]
  go_wp2_with fail
  refine (amount_any _ _).mono ?_
  rintro e w' ⟨rfl, rfl⟩
  rw [H3.out]
  go_wp2_with fail
  refine (rMode_any _ _).mono ?_
  rintro e w' ⟨rfl, rfl⟩
  rw [H4.out]
  go_wp2_with fail
  refine (OA.out _).mono ?_
  rintro e w1 ⟨p1, l1, c1, rfl, r1, -, r3⟩
  have A1 := Lib.hid r1
  have K1 := Lib.hid r3
  clear r1 r3
  go_wp2_with fail
  refine (OB.out _).mono ?_
  rintro e w2 ⟨p2, l2, c2, rfl, r1, -, r3⟩
  have A2 := Lib.hid (A1.out.below r3)
  have B2 := Lib.hid r1
  have K2 := Lib.hid (K1.out.trans (r3.mono K1.out.size))
  clear r1 r3
  go_wp2_with fail
  refine (TM.out _ _ _ _ _ _ _ A2.out B2.out).mono ?_
  rintro e w3 ⟨p3, l3, c3, rfl, r1, -, r3⟩
  have A3 := Lib.hid r1
  have K3 := Lib.hid (K2.out.trans (r3.mono K2.out.size))
  clear r1 r3
  go_wp2_with fail
  refine (OC.out _).mono ?_
  rintro e w4 ⟨p4, l4, c4, rfl, r1, -, r3⟩
  have A4 := Lib.hid (A3.out.below r3)
  have B4 := Lib.hid r1
  have K4 := Lib.hid (K3.out.trans (r3.mono K3.out.size))
  clear r1 r3
  go_wp2_with fail
  refine (RD.out _ _ _ _ _ _ _ A4.out (B4.out.more (by omega))).mono ?_
  rintro e w5 ⟨p5, l5, c5, rfl, r1, -, r3⟩
  have A5 := Lib.hid r1
  have K5 := Lib.hid (K4.out.trans (r3.mono K4.out.size))
  clear r1 r3
  go_wp2_with fail
  refine (WI.out _ _ _ _ A5.out).mono ?_
  rintro e w6 ⟨rfl, r3⟩
  have K6 := Lib.hid (K5.out.trans (r3.mono K5.out.size))
  clear r3 OA OB OC TM RD WI A1 A2 A3 A4 A5 B2 B4 K1 K2 K3 K4 K5
  by_cases hi : (Z.natAbs : Int) ≤ 1125899906842624
  · have HM := Lib.hid (MI.out hi)
    rw [show wiV Z 1125899906842624 = Z from if_pos hi, show wiB Z 1125899906842624 = true from by simpa [wiB] using hi]
    clear hi MI MO
    go_wp2_with fail
    go_ret2
    exact ⟨by rw [HM.out.1, HM.out.2]; first | done | rfl, K6.out⟩
  · have HM := Lib.hid (MO.out (by omega))
    rw [show wiV Z 1125899906842624 = 0 from if_neg hi, show wiB Z 1125899906842624 = false from by simpa [wiB] using hi]
    clear hi MI MO
    go_wp2_with fail
    go_ret2
    exact ⟨by rw [HM.out.1, HM.out.2]; first | done | rfl, K6.out⟩
end Go.Proofs.YtbnbbekfackaiaaDoor
