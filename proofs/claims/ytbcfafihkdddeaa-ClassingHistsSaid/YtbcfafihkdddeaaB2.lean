/- Products and quotients of 128 bits, rounding: what each call comes to. -/
import Derived.Test.YtbcfafihkdddeaaB1
namespace Go.Proofs.Ytbcfafihkdddeaa
open Go.RowKit
set_option linter.unusedVariables false
set_option linter.unusedSimpArgs false

theorem ret_ii {k l : IntKind} {a b c d : Int} (h : a = b) (h' : c = d) : Ending.returned (.tuple #[.int k a, .int l c]) = .returned (.tuple #[.int k b, .int l d]) := by rw [h, h']

/-- Mul64: the contract off the shelf, over Int. -/
theorem mul64_any (x y : Int) (hx : 0 ≤ x) (hy : 0 ≤ y) (hx' : x ≤ 18446744073709551615) (hy' : y ≤ 18446744073709551615) (w : World) :
    Calls Try.prog 149 #[.int .u64 x, .int .u64 y] w fun e w' => e = .returned (.tuple #[.int .u64 (x * y / 18446744073709551616), .int .u64 (x * y % 18446744073709551616)]) ∧ w = w' := by
  obtain ⟨x, rfl⟩ := Int.eq_ofNat_of_zero_le hx
  obtain ⟨y, rfl⟩ := Int.eq_ofNat_of_zero_le hy
  refine (Try.bits_Mul64 x y (by omega) (by omega) w).mono fun e w' ⟨h, e'⟩ => ⟨?_, e'.symm⟩
  rw [h]
  simp only [Int.natCast_mul, Int.natCast_ediv, Int.natCast_emod]
  rfl

theorem div64_lo (lo y : Int) (h0 : 0 ≤ lo) (h1 : lo ≤ 18446744073709551615) (hy : 1 ≤ y) (hy' : y ≤ 18446744073709551615) (w : World) :
    Calls Try.prog 150 #[.int .u64 0, .int .u64 lo, .int .u64 y] w fun e w' => e = .returned (.tuple #[.int .u64 (lo / y), .int .u64 (lo % y)]) ∧ ∃ n, w' = w.drewN n := by
  have e0 : (y == 0) = false := by simp; omega
  go_enter Try.func150, Try.ntmps150
  go_wp2_with fail
  go_quiet (fail)
  go_wp2
  go_ret2
  exact ⟨rfl, _, rfl⟩

theorem div64_any (hi lo y : Int) (hh : hi = 0) (h' : hi < y) (h0 : 0 ≤ lo) (h1 : lo ≤ 18446744073709551615) (hy' : y ≤ 18446744073709551615) (w : World) :
    Calls Try.prog 150 #[.int .u64 hi, .int .u64 lo, .int .u64 y] w fun e w' => e = .returned (.tuple #[.int .u64 ((hi * 18446744073709551616 + lo) / y), .int .u64 ((hi * 18446744073709551616 + lo) % y)]) ∧ ∃ n, w' = w.drewN n := by
  subst hh
  refine (div64_lo lo y h0 h1 (by omega) hy' w).mono fun e w' ⟨a, b⟩ => ⟨?_, b⟩
  rw [a]; simp

/-- isUp, as a Bool. -/
def upB (neg : Bool) (q r c m : Int) : Bool :=
  if m = 0 then neg && decide (0 < r) else if m = 1 then !neg && decide (0 < r) else if m = 2 then false
  else if m = 3 then decide (c < 2 * r) || (decide (2 * r = c) && !neg) else decide (c < 2 * r) || (decide (2 * r = c) && decide (q % 2 = 1))

theorem cmpu_lt (a b : Int) (h : a < b) (w : World) :
    Calls Try.prog 169 #[.int .u64 a, .int .u64 b] w fun e w' => e = .returned (.int .i64 (-1)) ∧ w = w' := by
  go_enter Try.func169, Try.ntmps169
  go_wp2
  go_ret
  exact ⟨rfl, rfl⟩
theorem cmpu_gt (a b : Int) (h : b < a) (w : World) :
    Calls Try.prog 169 #[.int .u64 a, .int .u64 b] w fun e w' => e = .returned (.int .i64 1) ∧ w = w' := by
  go_enter Try.func169, Try.ntmps169
  go_wp2
  go_ret
  exact ⟨rfl, rfl⟩
theorem cmpu_eq (a b : Int) (h : a ≤ b) (h' : b ≤ a) (w : World) :
    Calls Try.prog 169 #[.int .u64 a, .int .u64 b] w fun e w' => e = .returned (.int .i64 0) ∧ w = w' := by
  go_enter Try.func169, Try.ntmps169
  go_wp2
  go_ret
  exact ⟨rfl, rfl⟩

theorem isUp_any (neg : Bool) (q r c m : Int) (h0 : 0 ≤ q) (hq : q ≤ 18446744073709551615) (hr : 0 ≤ r) (hc : r < c) (hc' : c ≤ 18446744073709551615) (w : World) :
    Calls Try.prog 151 #[.bool neg, .int .u64 q, .int .u64 r, .int .u64 c, .int .i64 m] w fun e w' => e = .returned (.bool (upB neg q r c m)) ∧ w = w' := by
  rcases (by omega : m = 0 ∨ m = 1 ∨ m = 2 ∨ m = 3 ∨ (m < 0 ∨ 3 < m)) with m0 | m0 | m0 | m0 | m0
  · subst m0
    rcases (by omega : r < c - r ∨ c - r < r ∨ (r ≤ c - r ∧ c - r ≤ r)) with t | t | ⟨t, t'⟩ <;> cases neg
    all_goals go_enter Try.func151, Try.ntmps151
    all_goals go_wp2_with (go_at_call 169; first | (refine (cmpu_lt _ _ (by omega) _).mono ?_; rintro e w' ⟨rfl, rfl⟩) | (refine (cmpu_gt _ _ (by omega) _).mono ?_; rintro e w' ⟨rfl, rfl⟩) | (refine (cmpu_eq _ _ (by omega) (by omega) _).mono ?_; rintro e w' ⟨rfl, rfl⟩))
    all_goals go_ret
    all_goals exact ⟨ret_b (by simp [upB]), rfl⟩
  · subst m0
    rcases (by omega : r < c - r ∨ c - r < r ∨ (r ≤ c - r ∧ c - r ≤ r)) with t | t | ⟨t, t'⟩ <;> cases neg
    all_goals go_enter Try.func151, Try.ntmps151
    all_goals go_wp2_with (go_at_call 169; first | (refine (cmpu_lt _ _ (by omega) _).mono ?_; rintro e w' ⟨rfl, rfl⟩) | (refine (cmpu_gt _ _ (by omega) _).mono ?_; rintro e w' ⟨rfl, rfl⟩) | (refine (cmpu_eq _ _ (by omega) (by omega) _).mono ?_; rintro e w' ⟨rfl, rfl⟩))
    all_goals go_ret
    all_goals exact ⟨ret_b (by simp [upB]), rfl⟩
  · subst m0
    rcases (by omega : r < c - r ∨ c - r < r ∨ (r ≤ c - r ∧ c - r ≤ r)) with t | t | ⟨t, t'⟩
    all_goals go_enter Try.func151, Try.ntmps151
    all_goals go_wp2_with (go_at_call 169; first | (refine (cmpu_lt _ _ (by omega) _).mono ?_; rintro e w' ⟨rfl, rfl⟩) | (refine (cmpu_gt _ _ (by omega) _).mono ?_; rintro e w' ⟨rfl, rfl⟩) | (refine (cmpu_eq _ _ (by omega) (by omega) _).mono ?_; rintro e w' ⟨rfl, rfl⟩))
    all_goals go_ret
    all_goals exact ⟨ret_b (by simp [upB]), rfl⟩
  · subst m0
    rcases (by omega : r < c - r ∨ c - r < r ∨ (r ≤ c - r ∧ c - r ≤ r)) with t | t | ⟨t, t'⟩ <;> cases neg
    all_goals go_enter Try.func151, Try.ntmps151
    all_goals go_wp2_with (go_at_call 169; first | (refine (cmpu_lt _ _ (by omega) _).mono ?_; rintro e w' ⟨rfl, rfl⟩) | (refine (cmpu_gt _ _ (by omega) _).mono ?_; rintro e w' ⟨rfl, rfl⟩) | (refine (cmpu_eq _ _ (by omega) (by omega) _).mono ?_; rintro e w' ⟨rfl, rfl⟩))
    all_goals go_ret
    all_goals exact ⟨ret_b (by simp [upB]; try omega), rfl⟩
  · rcases (by omega : r < c - r ∨ c - r < r ∨ (r ≤ c - r ∧ c - r ≤ r)) with t | t | ⟨t, t'⟩ <;> rcases m0 with m0 | m0
    all_goals have k0 : ¬ m = 0 := by omega
    all_goals have k1 : ¬ m = 1 := by omega
    all_goals have k2 : ¬ m = 2 := by omega
    all_goals have k3 : ¬ m = 3 := by omega
    all_goals have K0 := Lib.hid k0; clear k0
    all_goals have K1 := Lib.hid k1; clear k1
    all_goals have K2 := Lib.hid k2; clear k2
    all_goals have K3 := Lib.hid k3; clear k3
    all_goals go_enter Try.func151, Try.ntmps151
    all_goals go_wp2_with (go_at_call 169; first | (refine (cmpu_lt _ _ (by omega) _).mono ?_; rintro e w' ⟨rfl, rfl⟩) | (refine (cmpu_gt _ _ (by omega) _).mono ?_; rintro e w' ⟨rfl, rfl⟩) | (refine (cmpu_eq _ _ (by omega) (by omega) _).mono ?_; rintro e w' ⟨rfl, rfl⟩))
    all_goals go_ret
    all_goals exact ⟨ret_b (by first | (simp [upB, K0.out, K1.out, K2.out, K3.out]; done) | (rw [Bool.eq_iff_iff]; simp [upB, K0.out, K1.out, K2.out, K3.out]; omega)), rfl⟩

/-- What rounding comes to: the whole number, without its sign. -/
def rndQ (neg : Bool) (p c m : Int) : Int := p / c + (bif upB neg (p / c) (p % c) c m then 1 else 0)
def rndV (neg : Bool) (p c m : Int) : Int := if rndQ neg p c m ≤ 1125899906842624 then (bif neg then -rndQ neg p c m else rndQ neg p c m) else 0
def rndE (neg : Bool) (p c m : Int) : Int := if rndQ neg p c m ≤ 1125899906842624 then 0 else 4

theorem rnd_big {neg : Bool} {p c m : Int} (h : 1125899906842624 < rndQ neg p c m) : rndV neg p c m = 0 ∧ rndE neg p c m = 4 := by
  unfold rndV rndE; rw [if_neg (by omega), if_neg (by omega)]; exact ⟨rfl, rfl⟩
theorem rnd_ok {neg : Bool} {p c m : Int} (h : rndQ neg p c m ≤ 1125899906842624) : rndV neg p c m = (bif neg then -rndQ neg p c m else rndQ neg p c m) ∧ rndE neg p c m = 0 := by
  unfold rndV rndE; rw [if_pos h, if_pos h]; exact ⟨rfl, rfl⟩
theorem rnd_up {neg : Bool} {p c m : Int} (h : upB neg (p / c) (p % c) c m = true) : rndQ neg p c m = p / c + 1 := by unfold rndQ; rw [h]; rfl
theorem rnd_down {neg : Bool} {p c m : Int} (h : upB neg (p / c) (p % c) c m = false) : rndQ neg p c m = p / c := by unfold rndQ; rw [h]; exact Int.add_zero _
theorem rnd_ge (neg : Bool) (p c m : Int) : p / c ≤ rndQ neg p c m := by
  cases h : upB neg (p / c) (p % c) c m
  · rw [rnd_down h]; omega
  · rw [rnd_up h]; omega

theorem rounded_any (neg : Bool) (a b c m : Int) (ha : 0 ≤ a) (hb : 0 ≤ b) (ha' : a ≤ 9223372036854775808) (hb' : b ≤ 9223372036854775808) (hw : a * b ≤ 18446744073709551615) (hc : 1 ≤ c) (hc' : c ≤ 18446744073709551615) (w : World) :
    Calls Try.prog 109 #[.bool neg, .int .u64 a, .int .u64 b, .int .u64 c, .int .i64 m] w fun e w' => e = .returned (.tuple #[.int .i64 (rndV neg (a * b) c m), .int .i64 (rndE neg (a * b) c m)]) ∧ ∃ n, w' = w.drewN n := by
  have hp : 0 ≤ a * b := Int.mul_nonneg ha hb
  by_cases hh : c ≤ a * b / 18446744073709551616
  · have hq : 18446744073709551616 ≤ a * b / c := by
      rw [Int.le_ediv_iff_mul_le (by omega)]; omega
    have hn : 1125899906842624 < rndQ neg (a * b) c m := by have := rnd_ge neg (a * b) c m; omega
    have HN := Lib.hid hn; clear hn hq
    go_enter Try.func109, Try.ntmps109
    go_wp2_with (go_at_call 149; refine (mul64_any _ _ (by omega) (by omega) (by omega) (by omega) _).mono ?_; rintro e w' ⟨rfl, rfl⟩)
    go_ret2
    exact ⟨ret_ii (rnd_big HN.out).1.symm (rnd_big HN.out).2.symm, 0, rfl⟩
  · have e1 : (a * b / 18446744073709551616) * 18446744073709551616 + a * b % 18446744073709551616 = a * b := by omega
    have E1 := Lib.hid e1; clear e1
    have h0 : 0 ≤ a * b / 18446744073709551616 := by omega
    have hq0 : 0 ≤ a * b / c := Int.ediv_nonneg hp (by omega)
    have hr0 : 0 ≤ a * b % c := Int.emod_nonneg _ (by omega)
    have hr1 : a * b % c < c := Int.emod_lt_of_pos _ (by omega)
    have hq1 : a * b / c < 18446744073709551616 := by rw [Int.ediv_lt_iff_lt_mul (by omega)]; omega
    by_cases hm : a * b / c ≤ 1125899906842624
    · cases hu : upB neg (a * b / c) (a * b % c) c m
      · have HU := Lib.hid hu; clear hu
        go_enter Try.func109, Try.ntmps109
        go_wp2_with fail
        refine (mul64_any _ _ (by omega) (by omega) (by omega) (by omega) _).mono ?_
        rintro e w' ⟨rfl, rfl⟩
        go_wp2_with fail
        refine (div64_any _ _ _ (by omega) (by omega) (by omega) (by omega) (by omega) _).mono ?_
        rintro e w' ⟨rfl, nn, rfl⟩
        rw [E1.out]
        go_wp2_with fail
        refine (isUp_any _ _ _ _ _ (by omega) (by omega) (by omega) (by omega) (by omega) _).mono ?_
        rintro e w' ⟨rfl, rfl⟩
        rw [HU.out]
        go_wp2_with fail
        refine (signed_any _ _ (by omega) (by omega) _).mono ?_
        rintro e w' ⟨rfl, rfl⟩
        go_wp2_with fail
        go_ret2
        have k := rnd_down HU.out
        have k2 := rnd_ok (neg := neg) (p := a * b) (c := c) (m := m) (by rw [k]; exact hm)
        rw [k] at k2
        exact ⟨ret_ii k2.1.symm k2.2.symm, _, rfl⟩
      · have HU := Lib.hid hu; clear hu
        by_cases hm2 : a * b / c = 1125899906842624
        · have hm4 : 1125899906842624 ≤ a * b / c := by omega
          clear hm2
          go_enter Try.func109, Try.ntmps109
          go_wp2_with fail
          refine (mul64_any _ _ (by omega) (by omega) (by omega) (by omega) _).mono ?_
          rintro e w' ⟨rfl, rfl⟩
          go_wp2_with fail
          refine (div64_any _ _ _ (by omega) (by omega) (by omega) (by omega) (by omega) _).mono ?_
          rintro e w' ⟨rfl, nn, rfl⟩
          rw [E1.out]
          go_wp2_with fail
          refine (isUp_any _ _ _ _ _ (by omega) (by omega) (by omega) (by omega) (by omega) _).mono ?_
          rintro e w' ⟨rfl, rfl⟩
          rw [HU.out]
          go_wp2_with fail
          go_ret2
          have k := rnd_up HU.out
          have k2 := rnd_big (neg := neg) (p := a * b) (c := c) (m := m) (by rw [k]; omega)
          exact ⟨ret_ii k2.1.symm k2.2.symm, _, rfl⟩
        · have hm3 : a * b / c < 1125899906842624 := by omega
          clear hm2
          go_enter Try.func109, Try.ntmps109
          go_wp2_with fail
          refine (mul64_any _ _ (by omega) (by omega) (by omega) (by omega) _).mono ?_
          rintro e w' ⟨rfl, rfl⟩
          go_wp2_with fail
          refine (div64_any _ _ _ (by omega) (by omega) (by omega) (by omega) (by omega) _).mono ?_
          rintro e w' ⟨rfl, nn, rfl⟩
          rw [E1.out]
          go_wp2_with fail
          refine (isUp_any _ _ _ _ _ (by omega) (by omega) (by omega) (by omega) (by omega) _).mono ?_
          rintro e w' ⟨rfl, rfl⟩
          rw [HU.out]
          go_wp2_with fail
          refine (signed_any _ _ (by omega) (by omega) _).mono ?_
          rintro e w' ⟨rfl, rfl⟩
          go_wp2_with fail
          go_ret2
          have k := rnd_up HU.out
          have k2 := rnd_ok (neg := neg) (p := a * b) (c := c) (m := m) (by rw [k]; omega)
          rw [k] at k2
          exact ⟨ret_ii k2.1.symm k2.2.symm, _, rfl⟩
    · have hm4 : 1125899906842624 < a * b / c := by omega
      clear hm
      go_enter Try.func109, Try.ntmps109
      go_wp2_with fail
      refine (mul64_any _ _ (by omega) (by omega) (by omega) (by omega) _).mono ?_
      rintro e w' ⟨rfl, rfl⟩
      go_wp2_with fail
      refine (div64_any _ _ _ (by omega) (by omega) (by omega) (by omega) (by omega) _).mono ?_
      rintro e w' ⟨rfl, nn, rfl⟩
      rw [E1.out]
      go_wp2_with fail
      go_ret2
      have k2 := rnd_big (neg := neg) (p := a * b) (c := c) (m := m) (by have := rnd_ge neg (a * b) c m; omega)
      exact ⟨ret_ii k2.1.symm k2.2.symm, _, rfl⟩
end Go.Proofs.Ytbcfafihkdddeaa
