/- Round, Neg, lowest, Make and the four operations of package num: what each call comes to. -/
import Derived.Test.YtbnbbekfackaiaaDoorB2
import Derived.Deep.RegionWith
import Derived.Deep.RegionHeld3
namespace Go.Proofs.YtbnbbekfackaiaaDoor
open Go.RowKit
set_option linter.unusedVariables false
set_option linter.unusedSimpArgs false

theorem Round_ok (n d m : Int) (hv : vldB n d = true) (hm : modB m = true) (w : World) :
    Calls Tryd.prog 24 #[.agg #[.int .i64 n, .int .i64 d], .int .i64 m] w fun e w' => e = .returned (.tuple #[.int .i64 (rndV (decide (n < 0)) n.natAbs d m), .int .i64 (rndE (decide (n < 0)) n.natAbs d m)]) ∧ Below w.heap.size w w' := by
  obtain ⟨b1, b2, b3, b4, b5⟩ := vldB_true.1 hv
  have HV := Lib.hid hv; clear hv
  have HM := Lib.hid hm; clear hm
  clear b5
  go_enter Tryd.func24, Tryd.ntmps24
  go_wp2_with fail
  refine (Valid_any _ _ (by omega) (by omega) _).mono ?_
  rintro e w1 ⟨rfl, hb1⟩
  rw [HV.out]
  have c1 : w1.cell? ⟨w.heap.size, 0, none⟩ = some (.int .i64 n) := by rw [hb1.cell (by simp)]; simp [go_sem]
  have c2 : w1.cell? ⟨w.heap.size, 1, none⟩ = some (.int .i64 d) := by rw [hb1.cell (by simp)]; simp [go_sem]
  go_wp2_with fail
  refine (isMode_any _ _).mono ?_
  rintro e w' ⟨rfl, rfl⟩
  rw [HM.out]
  go_wp2_with fail
  go_quiet (first
    | (go_at_call 52; exact Calls.quiet_of_same (flip (size_any _ (by omega) (by omega) _)))
    | (go_at_call 66; exact Calls.quiet_of (rounded_any _ _ _ _ _ (by omega) (by omega) (by omega) (by omega) (by omega) (by omega) (by omega) _)))
  go_wp2
  go_ret2
  refine ⟨?_, below_drewN (((Below.refl _ _).alloc (Nat.le_refl _) _).trans (hb1.mono (by simp))) _⟩
  have e : (d.natAbs : Int) = d := by omega
  rw [e]; simp
theorem Round_bad (n d m : Int) (hn1 : -9223372036854775808 ≤ n) (hn2 : n ≤ 9223372036854775807) (h : vldB n d = false ∨ modB m = false) (w : World) :
    Calls Tryd.prog 24 #[.agg #[.int .i64 n, .int .i64 d], .int .i64 m] w fun e w' => e = .returned (.tuple #[.int .i64 0, .int .i64 2]) ∧ Below w.heap.size w w' := by
  by_cases hv : vldB n d = true
  · have hm : modB m = false := by rcases h with h | h; (rw [hv] at h; cases h); exact h
    have HV := Lib.hid hv; clear hv
    have HM := Lib.hid hm; clear hm h
    go_enter Tryd.func24, Tryd.ntmps24
    go_wp2_with fail
    refine (Valid_any _ _ (by omega) (by omega) _).mono ?_
    rintro e w1 ⟨rfl, hb1⟩
    rw [HV.out]
    go_wp2_with fail
    refine (isMode_any _ _).mono ?_
    rintro e w' ⟨rfl, rfl⟩
    rw [HM.out]
    go_wp2_with fail
    go_ret2
    exact ⟨rfl, ((Below.refl _ _).alloc (Nat.le_refl _) _).trans (hb1.mono (by simp))⟩
  · have hv' : vldB n d = false := by simpa using hv
    have HV := Lib.hid hv'; clear hv hv' h
    go_enter Tryd.func24, Tryd.ntmps24
    go_wp2_with fail
    refine (Valid_any _ _ (by omega) (by omega) _).mono ?_
    rintro e w1 ⟨rfl, hb1⟩
    rw [HV.out]
    go_wp2_with fail
    go_ret2
    exact ⟨rfl, ((Below.refl _ _).alloc (Nat.le_refl _) _).trans (hb1.mono (by simp))⟩

theorem Neg_ok (n d : Int) (hv : vldB n d = true) (w : World) :
    Calls Tryd.prog 20 #[.agg #[.int .i64 n, .int .i64 d]] w fun e w' => e = .returned (.tuple #[.agg #[.int .i64 (-n), .int .i64 d], .int .i64 0]) ∧ Below w.heap.size w w' := by
  obtain ⟨b1, b2, b3, b4, b5⟩ := vldB_true.1 hv
  have HV := Lib.hid hv; clear hv
  clear b5
  go_enter Tryd.func20, Tryd.ntmps20
  go_wp2_with fail
  refine (Valid_any _ _ (by omega) (by omega) _).mono ?_
  rintro e w1 ⟨rfl, hb1⟩
  rw [HV.out]
  obtain ⟨hc, hf⟩ := bcell hb1
  have hz : w.heap.size + 1 < w1.heap.size := by have := hb1.size; simp at this; omega
  go_wp2_with fail
  refine bodyPost_ret (v := .tuple #[.agg #[.int .i64 (-n), .int .i64 d], .int .i64 0]) (by simp [results, Tryd.results20, go_sem, hc, hz]) rfl ⟨rfl, ?_⟩
  exact ((((((Below.refl _ _).alloc (Nat.le_refl _) _).alloc (by simp) _).trans (hb1.mono (by simp; omega))).setCell (by simp) _).setCell (by simp) _)
theorem Neg_bad (n d : Int) (hn1 : -9223372036854775808 ≤ n) (hn2 : n ≤ 9223372036854775807) (hv : vldB n d = false) (w : World) :
    Calls Tryd.prog 20 #[.agg #[.int .i64 n, .int .i64 d]] w fun e w' => e = .returned (.tuple #[.agg #[.int .i64 0, .int .i64 0], .int .i64 2]) ∧ Below w.heap.size w w' := by
  have HV := Lib.hid hv; clear hv
  go_enter Tryd.func20, Tryd.ntmps20
  go_wp2_with fail
  refine (Valid_any _ _ (by omega) (by omega) _).mono ?_
  rintro e w1 ⟨rfl, hb1⟩
  rw [HV.out]
  obtain ⟨hc, hf⟩ := bcell hb1
  have hz : w.heap.size + 1 < w1.heap.size := by have := hb1.size; simp at this; omega
  go_wp2_with fail
  refine bodyPost_ret (v := .tuple #[.agg #[.int .i64 0, .int .i64 0], .int .i64 2]) (by simp [results, Tryd.results20, go_sem, hc, hz]) rfl ⟨rfl, ?_⟩
  first
    | exact ((((((Below.refl _ _).alloc (Nat.le_refl _) _).alloc (by simp) _).trans (hb1.mono (by simp; omega))).setCell (by simp) _).setCell (by simp) _)
    | exact ((((Below.refl _ _).alloc (Nat.le_refl _) _).alloc (by simp) _).trans (hb1.mono (by simp; omega)))

/-- lowest: what it comes to. -/
def lowV (neg : Bool) (n d : Int) : Int := if n / Int.gcd n d ≤ 1099511627776 ∧ d / Int.gcd n d ≤ 1048576 then (bif neg then -(n / Int.gcd n d) else n / Int.gcd n d) else 0
def lowD (n d : Int) : Int := if n / Int.gcd n d ≤ 1099511627776 ∧ d / Int.gcd n d ≤ 1048576 then d / Int.gcd n d else 0
def lowE (n d : Int) : Int := if n / Int.gcd n d ≤ 1099511627776 ∧ d / Int.gcd n d ≤ 1048576 then 0 else 4

theorem lowest_any (neg : Bool) (n d : Int) (h1 : 0 ≤ n) (h2 : n ≤ 18446744073709551615) (h3 : 1 ≤ d) (h4 : d ≤ 18446744073709551615) (w : World) :
    Calls Tryd.prog 51 #[.bool neg, .int .u64 n, .int .u64 d] w fun e w' => e = .returned (.tuple #[.agg #[.int .i64 (lowV neg n d), .int .i64 (lowD n d)], .int .i64 (lowE n d)]) ∧ Below w.heap.size w w' := by
  have g0 : (1 : Int) ≤ (Int.gcd n d : Int) := by
    have : 0 < Int.gcd n d := Int.gcd_pos_of_ne_zero_right _ (by omega)
    omega
  have g1 : (Int.gcd n d : Int) ≤ d := Int.le_of_dvd (by omega) (Int.gcd_dvd_right _ _)
  have q0 : 0 ≤ n / Int.gcd n d := Int.ediv_nonneg h1 (by omega)
  have q1 : 1 ≤ d / Int.gcd n d := by rw [Int.le_ediv_iff_mul_le (by omega)]; omega
  have q2 : n / Int.gcd n d ≤ n := Int.ediv_le_self _ h1
  have q3 : d / Int.gcd n d ≤ d := Int.ediv_le_self _ (by omega)
  by_cases h5 : n / Int.gcd n d ≤ 1099511627776
  · by_cases h6 : d / Int.gcd n d ≤ 1048576
    · have e1 : lowV neg n d = (bif neg then -(n / Int.gcd n d) else n / Int.gcd n d) := if_pos ⟨h5, h6⟩
      have e2 : lowD n d = d / Int.gcd n d := if_pos ⟨h5, h6⟩
      have e3 : lowE n d = 0 := if_pos ⟨h5, h6⟩
      rw [e1, e2, e3]
      clear e1 e2 e3
      go_enter Tryd.func51, Tryd.ntmps51
      go_wp2_with fail
      refine (gcd_any _ _ (by omega) (by omega) (by omega) (by omega) _).mono ?_
      rintro e w1 ⟨rfl, n1, rfl⟩
      go_wp2_with fail
      go_quiet (fail)
      go_wp2_with fail
      refine (signed_any _ _ (by omega) (by omega) _).mono ?_
      rintro e w1 ⟨rfl, rfl⟩
      go_wp2_with fail
      refine bodyPost_ret (v := .tuple #[.agg #[.int .i64 (bif neg then -(n / Int.gcd n d) else n / Int.gcd n d), .int .i64 (d / Int.gcd n d)], .int .i64 0]) (by simp [results, Tryd.results51, go_sem]) rfl ⟨rfl, by repeat' (first | exact Below.refl _ _ | (with_reducible assumption) | refine below_drewN ?_ _ | refine Below.setCell ?_ ?_ _ | refine Below.alloc ?_ ?_ _ | (simp; done) | (simp; omega) | omega)⟩
    · have e1 : lowV neg n d = 0 := if_neg (by omega)
      have e2 : lowD n d = 0 := if_neg (by omega)
      have e3 : lowE n d = 4 := if_neg (by omega)
      rw [e1, e2, e3]
      clear e1 e2 e3
      go_enter Tryd.func51, Tryd.ntmps51
      go_wp2_with fail
      refine (gcd_any _ _ (by omega) (by omega) (by omega) (by omega) _).mono ?_
      rintro e w1 ⟨rfl, n1, rfl⟩
      go_wp2_with fail
      go_quiet (fail)
      go_wp2_with fail
      refine bodyPost_ret (v := .tuple #[.agg #[.int .i64 0, .int .i64 0], .int .i64 4]) (by simp [results, Tryd.results51, go_sem]) rfl ⟨rfl, by repeat' (first | exact Below.refl _ _ | (with_reducible assumption) | refine below_drewN ?_ _ | refine Below.setCell ?_ ?_ _ | refine Below.alloc ?_ ?_ _ | (simp; done) | (simp; omega) | omega)⟩
  · have e1 : lowV neg n d = 0 := if_neg (by omega)
    have e2 : lowD n d = 0 := if_neg (by omega)
    have e3 : lowE n d = 4 := if_neg (by omega)
    rw [e1, e2, e3]
    clear e1 e2 e3
    go_enter Tryd.func51, Tryd.ntmps51
    go_wp2_with fail
    refine (gcd_any _ _ (by omega) (by omega) (by omega) (by omega) _).mono ?_
    rintro e w1 ⟨rfl, n1, rfl⟩
    go_wp2_with fail
    go_quiet (fail)
    go_wp2_with fail
    refine bodyPost_ret (v := .tuple #[.agg #[.int .i64 0, .int .i64 0], .int .i64 4]) (by simp [results, Tryd.results51, go_sem]) rfl ⟨rfl, by repeat' (first | exact Below.refl _ _ | (with_reducible assumption) | refine below_drewN ?_ _ | refine Below.setCell ?_ ?_ _ | refine Below.alloc ?_ ?_ _ | (simp; done) | (simp; omega) | omega)⟩
end Go.Proofs.YtbnbbekfackaiaaDoor
