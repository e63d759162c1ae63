/- Rounding of any product of two 64-bit numbers. -/
import Derived.Test.YtbcfafihkdddeaaB8
namespace Go.Proofs.Ytbcfafihkdddeaa
open Go.RowKit
set_option linter.unusedVariables false
set_option linter.unusedSimpArgs false

theorem rounded_all (neg : Bool) (a b c m : Int) (ha : 0 ≤ a) (hb : 0 ≤ b) (ha' : a ≤ 9223372036854775808) (hb' : b ≤ 9223372036854775808) (hc : 1 ≤ c) (hc' : c ≤ 18446744073709551615) (w : World) :
    Calls Try.prog 109 #[.bool neg, .int .u64 a, .int .u64 b, .int .u64 c, .int .i64 m] w fun e w' => e = .returned (.tuple #[.int .i64 (rndV neg (a * b) c m), .int .i64 (rndE neg (a * b) c m)]) ∧ ∃ n, w' = w.drewN n := by
  have hp : 0 ≤ a * b := Int.mul_nonneg ha hb
  have hw : a * b ≤ 9223372036854775808 * 9223372036854775808 := Int.mul_le_mul ha' hb' hb (by omega)
  by_cases hh : c ≤ a * b / 18446744073709551616
  · have hq : 18446744073709551616 ≤ a * b / c := by
      rw [Int.le_ediv_iff_mul_le (by omega)]; omega
    have hn : 1125899906842624 < rndQ neg (a * b) c m := by have := rnd_ge neg (a * b) c m; omega
    have HN := Lib.hid hn; clear hn hq
    go_enter Try.func109, Try.ntmps109
    go_wp2_with (go_at_call 149; refine (mul64_any _ _ (by omega) (by omega) (by omega) (by omega) _).mono ?_; rintro e w' ⟨rfl, rfl⟩)
    go_ret2
    exact ⟨ret_ii (rnd_big HN.out).1.symm (rnd_big HN.out).2.symm, 0, rfl⟩
  · have e1 : (a * b / 18446744073709551616) * 18446744073709551616 + a * b % 18446744073709551616 = a * b := by omega
    have E1 := Lib.hid e1; clear e1
    have h0 : 0 ≤ a * b / 18446744073709551616 := by omega
    have hq0 : 0 ≤ a * b / c := Int.ediv_nonneg hp (by omega)
    have hr0 : 0 ≤ a * b % c := Int.emod_nonneg _ (by omega)
    have hr1 : a * b % c < c := Int.emod_lt_of_pos _ (by omega)
    have hq1 : a * b / c < 18446744073709551616 := by rw [Int.ediv_lt_iff_lt_mul (by omega)]; omega
    by_cases hm : a * b / c ≤ 1125899906842624
    · cases hu : upB neg (a * b / c) (a * b % c) c m
      · have HU := Lib.hid hu; clear hu
        go_enter Try.func109, Try.ntmps109
        go_wp2_with fail
        refine (mul64_any _ _ (by omega) (by omega) (by omega) (by omega) _).mono ?_
        rintro e w' ⟨rfl, rfl⟩
        go_wp2_with fail
        refine (div64_all _ _ _ (by omega) (by omega) (by omega) (by omega) (by omega) _).mono ?_
        rintro e w' ⟨rfl, nn, rfl⟩
        rw [E1.out]
        go_wp2_with fail
        refine (isUp_any _ _ _ _ _ (by omega) (by omega) (by omega) (by omega) (by omega) _).mono ?_
        rintro e w' ⟨rfl, rfl⟩
        rw [HU.out]
        go_wp2_with fail
        refine (signed_any _ _ (by omega) (by omega) _).mono ?_
        rintro e w' ⟨rfl, rfl⟩
        go_wp2_with fail
        go_ret2
        have k := rnd_down HU.out
        have k2 := rnd_ok (neg := neg) (p := a * b) (c := c) (m := m) (by rw [k]; exact hm)
        rw [k] at k2
        exact ⟨ret_ii k2.1.symm k2.2.symm, _, rfl⟩
      · have HU := Lib.hid hu; clear hu
        by_cases hm2 : a * b / c = 1125899906842624
        · have hm4 : 1125899906842624 ≤ a * b / c := by omega
          clear hm2
          go_enter Try.func109, Try.ntmps109
          go_wp2_with fail
          refine (mul64_any _ _ (by omega) (by omega) (by omega) (by omega) _).mono ?_
          rintro e w' ⟨rfl, rfl⟩
          go_wp2_with fail
          refine (div64_all _ _ _ (by omega) (by omega) (by omega) (by omega) (by omega) _).mono ?_
          rintro e w' ⟨rfl, nn, rfl⟩
          rw [E1.out]
          go_wp2_with fail
          refine (isUp_any _ _ _ _ _ (by omega) (by omega) (by omega) (by omega) (by omega) _).mono ?_
          rintro e w' ⟨rfl, rfl⟩
          rw [HU.out]
          go_wp2_with fail
          go_ret2
          have k := rnd_up HU.out
          have k2 := rnd_big (neg := neg) (p := a * b) (c := c) (m := m) (by rw [k]; omega)
          exact ⟨ret_ii k2.1.symm k2.2.symm, _, rfl⟩
        · have hm3 : a * b / c < 1125899906842624 := by omega
          clear hm2
          go_enter Try.func109, Try.ntmps109
          go_wp2_with fail
          refine (mul64_any _ _ (by omega) (by omega) (by omega) (by omega) _).mono ?_
          rintro e w' ⟨rfl, rfl⟩
          go_wp2_with fail
          refine (div64_all _ _ _ (by omega) (by omega) (by omega) (by omega) (by omega) _).mono ?_
          rintro e w' ⟨rfl, nn, rfl⟩
          rw [E1.out]
          go_wp2_with fail
          refine (isUp_any _ _ _ _ _ (by omega) (by omega) (by omega) (by omega) (by omega) _).mono ?_
          rintro e w' ⟨rfl, rfl⟩
          rw [HU.out]
          go_wp2_with fail
          refine (signed_any _ _ (by omega) (by omega) _).mono ?_
          rintro e w' ⟨rfl, rfl⟩
          go_wp2_with fail
          go_ret2
          have k := rnd_up HU.out
          have k2 := rnd_ok (neg := neg) (p := a * b) (c := c) (m := m) (by rw [k]; omega)
          rw [k] at k2
          exact ⟨ret_ii k2.1.symm k2.2.symm, _, rfl⟩
    · have hm4 : 1125899906842624 < a * b / c := by omega
      clear hm
      go_enter Try.func109, Try.ntmps109
      go_wp2_with fail
      refine (mul64_any _ _ (by omega) (by omega) (by omega) (by omega) _).mono ?_
      rintro e w' ⟨rfl, rfl⟩
      go_wp2_with fail
      refine (div64_all _ _ _ (by omega) (by omega) (by omega) (by omega) (by omega) _).mono ?_
      rintro e w' ⟨rfl, nn, rfl⟩
      rw [E1.out]
      go_wp2_with fail
      go_ret2
      have k2 := rnd_big (neg := neg) (p := a * b) (c := c) (m := m) (by have := rnd_ge neg (a * b) c m; omega)
      exact ⟨ret_ii k2.1.symm k2.2.symm, _, rfl⟩
end Go.Proofs.Ytbcfafihkdddeaa
