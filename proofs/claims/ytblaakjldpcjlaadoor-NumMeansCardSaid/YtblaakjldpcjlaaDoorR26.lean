/- Rounding by the reference and by the program: the same numbers. -/
import Derived.Test.YtblaakjldpcjlaaDoorR25
import Derived.Test.YtblaakjldpcjlaaDoorB10
import Derived.Test.YtblaakjldpcjlaaDoorR1
namespace Go.Proofs.YtblaakjldpcjlaaDoor
open Go.RowKit
set_option linter.unusedVariables false
set_option linter.unusedSimpArgs false

/-- The sign of a times b over c. -/
def ngB (a b c : Int) : Bool := !((!(decide (a < 0) == decide (b < 0))) == decide (c < 0))
/-- a times b over c, rounded. -/
def RZ (a b c m : Int) : Int := if 0 < c then rz (a * b) c m else rz (-(a * b)) (-c) m
theorem rndQ_nonneg (neg : Bool) (p c m : Int) (hp : 0 ≤ p) (hc : 0 < c) : 0 ≤ rndQ neg p c m := by
  have := rnd_ge neg p c m
  have := Int.ediv_nonneg hp (show 0 ≤ c by omega)
  omega
theorem RZ_rnd (a b c m : Int) (h : c ≠ 0) (m0 : 0 ≤ m) (m4 : m ≤ 4) : RZ a b c m = bif ngB a b c then -(rndQ (ngB a b c) (a.natAbs * b.natAbs) c.natAbs m) else rndQ (ngB a b c) (a.natAbs * b.natAbs) c.natAbs m := by
  have P : 0 ≤ (a.natAbs : Int) * b.natAbs := Int.mul_nonneg (by omega) (by omega)
  have k := rz_rnd (ngB a b c) (a.natAbs * b.natAbs) c.natAbs m P (by omega) m0 m4
  have g := sgn_mul a b
  rw [← k]
  unfold RZ ngB
  rw [show (decide (a < 0) != decide (b < 0)) = !(decide (a < 0) == decide (b < 0)) from rfl] at g
  generalize (!(decide (a < 0) == decide (b < 0))) = x at *
  by_cases hc : 0 < c
  · have e : decide (c < 0) = false := by simp; omega
    rw [if_pos hc, e, show (c.natAbs : Int) = c from by omega, ← g]
    cases x <;> rfl
  · have e : decide (c < 0) = true := by simp; omega
    rw [if_neg hc, e, show (c.natAbs : Int) = -c from by omega, ← g]
    cases x <;> simp
theorem RZ_abs (a b c m : Int) (h : c ≠ 0) (m0 : 0 ≤ m) (m4 : m ≤ 4) : ((RZ a b c m).natAbs : Int) = rndQ (ngB a b c) (a.natAbs * b.natAbs) c.natAbs m := by
  rw [RZ_rnd a b c m h m0 m4]
  exact whole_abs _ (rndQ_nonneg _ _ _ _ (Int.mul_nonneg (by omega) (by omega)) (by omega))
/-- What MulDiv comes to. -/
def mdOk (a b c m : Int) : Bool := wthB a 1125899906842624 && wthB b 1125899906842624 && wthB c 1125899906842624 && modB m
def mdV (a b c m : Int) : Int := bif mdOk a b c m then (if c = 0 then 0 else rndV (ngB a b c) (a.natAbs * b.natAbs) c.natAbs m) else 0
def mdE (a b c m : Int) : Int := bif mdOk a b c m then (if c = 0 then 5 else rndE (ngB a b c) (a.natAbs * b.natAbs) c.natAbs m) else 2
theorem md_bad {a b c m : Int} (h : mdOk a b c m = false) : mdV a b c m = 0 ∧ mdE a b c m = 2 := by unfold mdV mdE; rw [h]; exact ⟨rfl, rfl⟩
theorem md_zero {a b c m : Int} (h : mdOk a b c m = true) (h0 : c = 0) : mdV a b c m = 0 ∧ mdE a b c m = 5 := by unfold mdV mdE; rw [h, if_pos h0, if_pos h0]; exact ⟨rfl, rfl⟩
theorem md_ok {a b c m : Int} (h : mdOk a b c m = true) (h0 : c ≠ 0) : mdV a b c m = rndV (ngB a b c) (a.natAbs * b.natAbs) c.natAbs m ∧ mdE a b c m = rndE (ngB a b c) (a.natAbs * b.natAbs) c.natAbs m := by unfold mdV mdE; rw [h, if_neg h0, if_neg h0]; exact ⟨rfl, rfl⟩
theorem md_in {a b c m : Int} (h : mdOk a b c m = true) (h0 : c ≠ 0) (hi : ((RZ a b c m).natAbs : Int) ≤ 1125899906842624) : mdV a b c m = RZ a b c m ∧ mdE a b c m = 0 := by
  have hm : modB m = true := by unfold mdOk at h; simp only [Bool.and_eq_true] at h; exact h.2
  obtain ⟨m0, m4⟩ := modB_true.1 hm
  rw [RZ_abs a b c m h0 m0 m4] at hi
  rw [(md_ok h h0).1, (md_ok h h0).2, (rnd_ok hi).1, (rnd_ok hi).2, RZ_rnd a b c m h0 m0 m4]
  exact ⟨rfl, rfl⟩
theorem md_out {a b c m : Int} (h : mdOk a b c m = true) (h0 : c ≠ 0) (hi : ¬ ((RZ a b c m).natAbs : Int) ≤ 1125899906842624) : mdV a b c m = 0 ∧ mdE a b c m = 4 := by
  have hm : modB m = true := by unfold mdOk at h; simp only [Bool.and_eq_true] at h; exact h.2
  obtain ⟨m0, m4⟩ := modB_true.1 hm
  rw [RZ_abs a b c m h0 m0 m4] at hi
  rw [(md_ok h h0).1, (md_ok h h0).2, (rnd_big (by omega)).1, (rnd_big (by omega)).2]
  exact ⟨rfl, rfl⟩
theorem mdOk_true {a b c m : Int} (h : mdOk a b c m = true) : wthB a 1125899906842624 = true ∧ wthB b 1125899906842624 = true ∧ wthB c 1125899906842624 = true ∧ modB m = true := by
  unfold mdOk at h; simp only [Bool.and_eq_true] at h; exact ⟨h.1.1.1, h.1.1.2, h.1.2, h.2⟩
theorem mdOk_false {a b c m : Int} (h : mdOk a b c m = false) : wthB a 1125899906842624 = false ∨ wthB b 1125899906842624 = false ∨ wthB c 1125899906842624 = false ∨ modB m = false := by
  unfold mdOk at h
  generalize wthB a 1125899906842624 = A at *
  generalize wthB b 1125899906842624 = B at *
  generalize wthB c 1125899906842624 = C at *
  generalize modB m = M at *
  cases A <;> cases B <;> cases C <;> cases M <;> simp_all

theorem rounded_s {N : Nat} (X Y m Z : Int) (s t u : Bool) (hs : s = decide (X < 0)) (ht : t = decide (Y < 0)) (hZ : (if 0 < Y then rz X Y m else rz (-X) (-Y) m) = Z) (hu : u = decide (Z < 0)) (hY : Y ≠ 0) (m0 : 0 ≤ m) (m4 : m ≤ 4) (p q : Option Addr) (c d : Nat) (l k : List Int) (w : World) (A : BigR N w p l X) (B : BigR N w q k Y) (hN : N ≤ 70000) :
    Calls Tryd.prog 64 #[.agg #[.bool s, .slice p l.length c], .agg #[.bool t, .slice q k.length d], .int .i64 m] w (BigS (N + 6) Z u w) := by
  subst hs ht
  have := Rounded_any p q c d l k X Y m w A B hY m0 m4 hN
  rw [hZ] at this
  exact this.mono fun _ _ h => h.s hu
theorem within_s {N : Nat} (x most : Int) (s : Bool) (hs : s = decide (x < 0)) (p : Option Addr) (c : Nat) (l : List Int) (h0 : 0 ≤ most) (hm : most ≤ 4611686018427387904) (w : World) (A : BigR N w p l x) (hN : N ≤ 90000) :
    Calls Tryd.prog 63 #[.agg #[.bool s, .slice p l.length c], .int .i64 most] w fun e w' => e = .returned (.tuple #[.int .i64 (wiV x most), .bool (wiB x most)]) ∧ Below w.heap.size w w' := by
  subst hs
  exact Within_any p c l x most h0 hm w A hN

end Go.Proofs.YtblaakjldpcjlaaDoor
