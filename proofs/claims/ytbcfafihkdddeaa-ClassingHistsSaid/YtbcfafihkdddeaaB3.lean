/- Round, Neg, lowest, Make and the four operations of package num: what each call comes to. -/
import Derived.Test.YtbcfafihkdddeaaB2
import Derived.Deep.RegionWith
import Derived.Deep.RegionHeld3
namespace Go.Proofs.Ytbcfafihkdddeaa
open Go.RowKit
set_option linter.unusedVariables false
set_option linter.unusedSimpArgs false

/-- lowest: what it comes to. -/
def lowV (neg : Bool) (n d : Int) : Int := if n / Int.gcd n d ≤ 1099511627776 ∧ d / Int.gcd n d ≤ 1048576 then (bif neg then -(n / Int.gcd n d) else n / Int.gcd n d) else 0
def lowD (n d : Int) : Int := if n / Int.gcd n d ≤ 1099511627776 ∧ d / Int.gcd n d ≤ 1048576 then d / Int.gcd n d else 0
def lowE (n d : Int) : Int := if n / Int.gcd n d ≤ 1099511627776 ∧ d / Int.gcd n d ≤ 1048576 then 0 else 4

theorem lowest_any (neg : Bool) (n d : Int) (h1 : 0 ≤ n) (h2 : n ≤ 18446744073709551615) (h3 : 1 ≤ d) (h4 : d ≤ 18446744073709551615) (w : World) :
    Calls Try.prog 120 #[.bool neg, .int .u64 n, .int .u64 d] w fun e w' => e = .returned (.tuple #[.agg #[.int .i64 (lowV neg n d), .int .i64 (lowD n d)], .int .i64 (lowE n d)]) ∧ Below w.heap.size w w' := by
  have g0 : (1 : Int) ≤ (Int.gcd n d : Int) := by
    have : 0 < Int.gcd n d := Int.gcd_pos_of_ne_zero_right _ (by omega)
    omega
  have g1 : (Int.gcd n d : Int) ≤ d := Int.le_of_dvd (by omega) (Int.gcd_dvd_right _ _)
  have q0 : 0 ≤ n / Int.gcd n d := Int.ediv_nonneg h1 (by omega)
  have q1 : 1 ≤ d / Int.gcd n d := by rw [Int.le_ediv_iff_mul_le (by omega)]; omega
  have q2 : n / Int.gcd n d ≤ n := Int.ediv_le_self _ h1
  have q3 : d / Int.gcd n d ≤ d := Int.ediv_le_self _ (by omega)
  by_cases h5 : n / Int.gcd n d ≤ 1099511627776
  · by_cases h6 : d / Int.gcd n d ≤ 1048576
    · have e1 : lowV neg n d = (bif neg then -(n / Int.gcd n d) else n / Int.gcd n d) := if_pos ⟨h5, h6⟩
      have e2 : lowD n d = d / Int.gcd n d := if_pos ⟨h5, h6⟩
      have e3 : lowE n d = 0 := if_pos ⟨h5, h6⟩
      rw [e1, e2, e3]
      clear e1 e2 e3
      go_enter Try.func120, Try.ntmps120
      go_wp2_with fail
      refine (gcd_any _ _ (by omega) (by omega) (by omega) (by omega) _).mono ?_
      rintro e w1 ⟨rfl, n1, rfl⟩
      go_wp2_with fail
      go_quiet (fail)
      go_wp2_with fail
      refine (signed_any _ _ (by omega) (by omega) _).mono ?_
      rintro e w1 ⟨rfl, rfl⟩
      go_wp2_with fail
      refine bodyPost_ret (v := .tuple #[.agg #[.int .i64 (bif neg then -(n / Int.gcd n d) else n / Int.gcd n d), .int .i64 (d / Int.gcd n d)], .int .i64 0]) (by simp [results, Try.results120, go_sem]) rfl ⟨rfl, by repeat' (first | exact Below.refl _ _ | (with_reducible assumption) | refine below_drewN ?_ _ | refine Below.setCell ?_ ?_ _ | refine Below.alloc ?_ ?_ _ | (simp; done) | (simp; omega) | omega)⟩
    · have e1 : lowV neg n d = 0 := if_neg (by omega)
      have e2 : lowD n d = 0 := if_neg (by omega)
      have e3 : lowE n d = 4 := if_neg (by omega)
      rw [e1, e2, e3]
      clear e1 e2 e3
      go_enter Try.func120, Try.ntmps120
      go_wp2_with fail
      refine (gcd_any _ _ (by omega) (by omega) (by omega) (by omega) _).mono ?_
      rintro e w1 ⟨rfl, n1, rfl⟩
      go_wp2_with fail
      go_quiet (fail)
      go_wp2_with fail
      refine bodyPost_ret (v := .tuple #[.agg #[.int .i64 0, .int .i64 0], .int .i64 4]) (by simp [results, Try.results120, go_sem]) rfl ⟨rfl, by repeat' (first | exact Below.refl _ _ | (with_reducible assumption) | refine below_drewN ?_ _ | refine Below.setCell ?_ ?_ _ | refine Below.alloc ?_ ?_ _ | (simp; done) | (simp; omega) | omega)⟩
  · have e1 : lowV neg n d = 0 := if_neg (by omega)
    have e2 : lowD n d = 0 := if_neg (by omega)
    have e3 : lowE n d = 4 := if_neg (by omega)
    rw [e1, e2, e3]
    clear e1 e2 e3
    go_enter Try.func120, Try.ntmps120
    go_wp2_with fail
    refine (gcd_any _ _ (by omega) (by omega) (by omega) (by omega) _).mono ?_
    rintro e w1 ⟨rfl, n1, rfl⟩
    go_wp2_with fail
    go_quiet (fail)
    go_wp2_with fail
    refine bodyPost_ret (v := .tuple #[.agg #[.int .i64 0, .int .i64 0], .int .i64 4]) (by simp [results, Try.results120, go_sem]) rfl ⟨rfl, by repeat' (first | exact Below.refl _ _ | (with_reducible assumption) | refine below_drewN ?_ _ | refine Below.setCell ?_ ?_ _ | refine Below.alloc ?_ ?_ _ | (simp; done) | (simp; omega) | omega)⟩
end Go.Proofs.Ytbcfafihkdddeaa
