/- Fractions of package num (merged). -/
import Derived.Test.YtkhdpmicejmabaaB0
import Derived.Test.YtkhdpmicejmabaaShelfB
import Derived.Deep.RegionWith
import Derived.Deep.RegionHeld3
/- The small functions of package num: gcd, size, within, signed, isMode, Valid: what each call comes to. -/
namespace Go.Proofs.Ytkhdpmicejmabaa
open Go.RowKit
set_option linter.unusedVariables false
set_option linter.unusedSimpArgs false

theorem gcd_step (x y : Int) (hx : 0 ≤ x) (hy : 0 < y) : Int.gcd y (x % y) = Int.gcd x y := by
  obtain ⟨x, rfl⟩ := Int.eq_ofNat_of_zero_le hx
  obtain ⟨y, rfl⟩ := Int.eq_ofNat_of_zero_le (Int.le_of_lt hy)
  have e : ((x : Int) % (y : Int)) = ((x % y : Nat) : Int) := by omega
  rw [e]
  simp only [Int.gcd, Int.natAbs_natCast]
  rw [Nat.gcd_comm y, ← Nat.gcd_rec y x, Nat.gcd_comm]

/-- gcd: the loop of Euclid. -/
theorem gcd_any (a b : Int) (ha : 0 ≤ a) (hb : 0 ≤ b) (ha' : a ≤ 18446744073709551615) (hb' : b ≤ 18446744073709551615) (w : World) :
    Calls Try.prog 82 #[.int .u64 a, .int .u64 b] w fun e w' => e = .returned (.int .u64 (Int.gcd a b)) ∧ ∃ n, w' = w.drewN n := by
  go_enter Try.func82, Try.ntmps82
  go_wp2
  go_loopw [0, 1] (fun v0 v1 wr => ∃ x y : Int, 0 ≤ x ∧ 0 ≤ y ∧ x ≤ 18446744073709551615 ∧ y ≤ 18446744073709551615 ∧ v0 = .int .u64 x ∧ v1 = .int .u64 y ∧ Hid (Int.gcd x y = Int.gcd a b) ∧ ∃ n, wr = w.drewN n) (fun _ v1 _ => (intOf v1).toNat)
  case atStart => exact ⟨a, b, ha, hb, ha', hb', rfl, rfl, rfl, 0, rfl⟩
  case round =>
    obtain ⟨x, y, hx, hy, hx', hy', rfl, rfl, hg, n, rfl⟩ := hrel
    by_cases h : 0 < y
    · have h1 : 0 ≤ x % y := Int.emod_nonneg _ (by omega)
      have h2 : x % y < y := Int.emod_lt_of_pos _ h
      go_wp2
      go_quiet (fail)
      go_wp2
      go_roundw
      case rel => exact ⟨y, x % y, by omega, by omega, by omega, by omega, rfl, rfl, (gcd_step x y hx h).trans hg.out, _, World.drewN_drewN _ _ _⟩
      case measure => simp [intOf]; omega
    · have hy0 : y = 0 := by omega
      have H : Hid (y = 0) := hy0
      clear hy0
      go_wp2
      go_ret
      have e := hg.out
      rw [H.out] at e
      have e2 : ((Int.gcd a b : Nat) : Int) = x := by rw [← e]; simp only [Int.gcd, Int.natAbs_zero, Nat.gcd_zero_right]; omega
      exact ⟨ret_i e2.symm, n, rfl⟩

/-- size: the absolute value, as a uint64. -/
theorem size_any (n : Int) (h1 : -9223372036854775808 ≤ n) (h2 : n ≤ 9223372036854775807) (w : World) :
    Calls Try.prog 45 #[.int .i64 n] w fun e w' => e = .returned (.int .u64 (n.natAbs : Int)) ∧ w = w' := by
  by_cases h : n < 0
  · have e1 : IntKind.u64.wrap n = n + 18446744073709551616 := PlainAid.u64_neg h (by omega)
    go_enter Try.func45, Try.ntmps45
    go_wp2
    go_ret
    exact ⟨ret_i (by rw [IntKind.wrap_u64]; omega), rfl⟩
  · go_enter Try.func45, Try.ntmps45
    go_wp2
    go_ret
    exact ⟨ret_i (by omega), rfl⟩

/-- within, as a Bool. -/
def wthB (n m : Int) : Bool := decide (-m ≤ n) && decide (n ≤ m)
theorem wthB_true {n m : Int} : wthB n m = true ↔ -m ≤ n ∧ n ≤ m := by simp [wthB]
theorem within_any (n m : Int) (h1 : 0 ≤ m) (h2 : m ≤ 9223372036854775807) (w : World) :
    Calls Try.prog 42 #[.int .i64 n, .int .i64 m] w fun e w' => e = .returned (.bool (wthB n m)) ∧ w = w' := by
  go_enter Try.func42, Try.ntmps42
  go_wp2
  all_goals go_ret
  all_goals exact ⟨ret_b (by rw [Bool.eq_iff_iff, wthB_true]; simp; try omega), rfl⟩

/-- signed: the number with its sign. -/
theorem signed_any (b : Bool) (n : Int) (h1 : 0 ≤ n) (h2 : n ≤ 9223372036854775807) (w : World) :
    Calls Try.prog 64 #[.bool b, .int .u64 n] w fun e w' => e = .returned (.int .i64 (bif b then -n else n)) ∧ w = w' := by
  cases b
  all_goals go_enter Try.func64, Try.ntmps64
  all_goals go_wp2
  all_goals go_ret
  all_goals exact ⟨ret_i rfl, rfl⟩

/-- isMode, as a Bool. -/
def modB (m : Int) : Bool := decide (0 ≤ m) && decide (m ≤ 4)
theorem modB_true {m : Int} : modB m = true ↔ 0 ≤ m ∧ m ≤ 4 := by simp [modB]
theorem isMode_any (m : Int) (w : World) :
    Calls Try.prog 43 #[.int .i64 m] w fun e w' => e = .returned (.bool (modB m)) ∧ w = w' := by
  go_enter Try.func43, Try.ntmps43
  go_wp2
  all_goals go_ret
  all_goals exact ⟨ret_b (by rw [Bool.eq_iff_iff, modB_true]; simp; try omega), rfl⟩

/-- Valid, as a Bool. -/
def vldB (n d : Int) : Bool := decide (1 ≤ d) && decide (d ≤ 1048576) && decide (-1099511627776 ≤ n) && decide (n ≤ 1099511627776) && decide (Int.gcd n d = 1)
theorem vldB_true {n d : Int} : vldB n d = true ↔ 1 ≤ d ∧ d ≤ 1048576 ∧ -1099511627776 ≤ n ∧ n ≤ 1099511627776 ∧ Int.gcd n d = 1 := by simp [vldB, and_assoc]

end Go.Proofs.Ytkhdpmicejmabaa

/- Products and quotients of 128 bits, rounding: what each call comes to. -/
namespace Go.Proofs.Ytkhdpmicejmabaa
open Go.RowKit
set_option linter.unusedVariables false
set_option linter.unusedSimpArgs false

theorem ret_ii {k l : IntKind} {a b c d : Int} (h : a = b) (h' : c = d) : Ending.returned (.tuple #[.int k a, .int l c]) = .returned (.tuple #[.int k b, .int l d]) := by rw [h, h']

/-- Mul64: the contract off the shelf, over Int. -/
theorem mul64_any (x y : Int) (hx : 0 ≤ x) (hy : 0 ≤ y) (hx' : x ≤ 18446744073709551615) (hy' : y ≤ 18446744073709551615) (w : World) :
    Calls Try.prog 61 #[.int .u64 x, .int .u64 y] w fun e w' => e = .returned (.tuple #[.int .u64 (x * y / 18446744073709551616), .int .u64 (x * y % 18446744073709551616)]) ∧ w = w' := by
  obtain ⟨x, rfl⟩ := Int.eq_ofNat_of_zero_le hx
  obtain ⟨y, rfl⟩ := Int.eq_ofNat_of_zero_le hy
  refine (Try.bits_Mul64 x y (by omega) (by omega) w).mono fun e w' ⟨h, e'⟩ => ⟨?_, e'.symm⟩
  rw [h]
  simp only [Int.natCast_mul, Int.natCast_ediv, Int.natCast_emod]
  rfl

theorem div64_lo (lo y : Int) (h0 : 0 ≤ lo) (h1 : lo ≤ 18446744073709551615) (hy : 1 ≤ y) (hy' : y ≤ 18446744073709551615) (w : World) :
    Calls Try.prog 62 #[.int .u64 0, .int .u64 lo, .int .u64 y] w fun e w' => e = .returned (.tuple #[.int .u64 (lo / y), .int .u64 (lo % y)]) ∧ ∃ n, w' = w.drewN n := by
  have e0 : (y == 0) = false := by simp; omega
  go_enter Try.func62, Try.ntmps62
  go_wp2_with fail
  go_quiet (fail)
  go_wp2
  go_ret2
  exact ⟨rfl, _, rfl⟩

theorem div64_any (hi lo y : Int) (hh : hi = 0) (h' : hi < y) (h0 : 0 ≤ lo) (h1 : lo ≤ 18446744073709551615) (hy' : y ≤ 18446744073709551615) (w : World) :
    Calls Try.prog 62 #[.int .u64 hi, .int .u64 lo, .int .u64 y] w fun e w' => e = .returned (.tuple #[.int .u64 ((hi * 18446744073709551616 + lo) / y), .int .u64 ((hi * 18446744073709551616 + lo) % y)]) ∧ ∃ n, w' = w.drewN n := by
  subst hh
  refine (div64_lo lo y h0 h1 (by omega) hy' w).mono fun e w' ⟨a, b⟩ => ⟨?_, b⟩
  rw [a]; simp

/-- isUp, as a Bool. -/
def upB (neg : Bool) (q r c m : Int) : Bool :=
  if m = 0 then neg && decide (0 < r) else if m = 1 then !neg && decide (0 < r) else if m = 2 then false
  else if m = 3 then decide (c < 2 * r) || (decide (2 * r = c) && !neg) else decide (c < 2 * r) || (decide (2 * r = c) && decide (q % 2 = 1))

theorem cmpu_lt (a b : Int) (h : a < b) (w : World) :
    Calls Try.prog 84 #[.int .u64 a, .int .u64 b] w fun e w' => e = .returned (.int .i64 (-1)) ∧ w = w' := by
  go_enter Try.func84, Try.ntmps84
  go_wp2
  go_ret
  exact ⟨rfl, rfl⟩
theorem cmpu_gt (a b : Int) (h : b < a) (w : World) :
    Calls Try.prog 84 #[.int .u64 a, .int .u64 b] w fun e w' => e = .returned (.int .i64 1) ∧ w = w' := by
  go_enter Try.func84, Try.ntmps84
  go_wp2
  go_ret
  exact ⟨rfl, rfl⟩
theorem cmpu_eq (a b : Int) (h : a ≤ b) (h' : b ≤ a) (w : World) :
    Calls Try.prog 84 #[.int .u64 a, .int .u64 b] w fun e w' => e = .returned (.int .i64 0) ∧ w = w' := by
  go_enter Try.func84, Try.ntmps84
  go_wp2
  go_ret
  exact ⟨rfl, rfl⟩

theorem isUp_any (neg : Bool) (q r c m : Int) (h0 : 0 ≤ q) (hq : q ≤ 18446744073709551615) (hr : 0 ≤ r) (hc : r < c) (hc' : c ≤ 18446744073709551615) (w : World) :
    Calls Try.prog 63 #[.bool neg, .int .u64 q, .int .u64 r, .int .u64 c, .int .i64 m] w fun e w' => e = .returned (.bool (upB neg q r c m)) ∧ w = w' := by
  rcases (by omega : m = 0 ∨ m = 1 ∨ m = 2 ∨ m = 3 ∨ (m < 0 ∨ 3 < m)) with m0 | m0 | m0 | m0 | m0
  · subst m0
    rcases (by omega : r < c - r ∨ c - r < r ∨ (r ≤ c - r ∧ c - r ≤ r)) with t | t | ⟨t, t'⟩ <;> cases neg
    all_goals go_enter Try.func63, Try.ntmps63
    all_goals go_wp2_with (go_at_call 84; first | (refine (cmpu_lt _ _ (by omega) _).mono ?_; rintro e w' ⟨rfl, rfl⟩) | (refine (cmpu_gt _ _ (by omega) _).mono ?_; rintro e w' ⟨rfl, rfl⟩) | (refine (cmpu_eq _ _ (by omega) (by omega) _).mono ?_; rintro e w' ⟨rfl, rfl⟩))
    all_goals go_ret
    all_goals exact ⟨ret_b (by simp [upB]), rfl⟩
  · subst m0
    rcases (by omega : r < c - r ∨ c - r < r ∨ (r ≤ c - r ∧ c - r ≤ r)) with t | t | ⟨t, t'⟩ <;> cases neg
    all_goals go_enter Try.func63, Try.ntmps63
    all_goals go_wp2_with (go_at_call 84; first | (refine (cmpu_lt _ _ (by omega) _).mono ?_; rintro e w' ⟨rfl, rfl⟩) | (refine (cmpu_gt _ _ (by omega) _).mono ?_; rintro e w' ⟨rfl, rfl⟩) | (refine (cmpu_eq _ _ (by omega) (by omega) _).mono ?_; rintro e w' ⟨rfl, rfl⟩))
    all_goals go_ret
    all_goals exact ⟨ret_b (by simp [upB]), rfl⟩
  · subst m0
    rcases (by omega : r < c - r ∨ c - r < r ∨ (r ≤ c - r ∧ c - r ≤ r)) with t | t | ⟨t, t'⟩
    all_goals go_enter Try.func63, Try.ntmps63
    all_goals go_wp2_with (go_at_call 84; first | (refine (cmpu_lt _ _ (by omega) _).mono ?_; rintro e w' ⟨rfl, rfl⟩) | (refine (cmpu_gt _ _ (by omega) _).mono ?_; rintro e w' ⟨rfl, rfl⟩) | (refine (cmpu_eq _ _ (by omega) (by omega) _).mono ?_; rintro e w' ⟨rfl, rfl⟩))
    all_goals go_ret
    all_goals exact ⟨ret_b (by simp [upB]), rfl⟩
  · subst m0
    rcases (by omega : r < c - r ∨ c - r < r ∨ (r ≤ c - r ∧ c - r ≤ r)) with t | t | ⟨t, t'⟩ <;> cases neg
    all_goals go_enter Try.func63, Try.ntmps63
    all_goals go_wp2_with (go_at_call 84; first | (refine (cmpu_lt _ _ (by omega) _).mono ?_; rintro e w' ⟨rfl, rfl⟩) | (refine (cmpu_gt _ _ (by omega) _).mono ?_; rintro e w' ⟨rfl, rfl⟩) | (refine (cmpu_eq _ _ (by omega) (by omega) _).mono ?_; rintro e w' ⟨rfl, rfl⟩))
    all_goals go_ret
    all_goals exact ⟨ret_b (by simp [upB]; try omega), rfl⟩
  · rcases (by omega : r < c - r ∨ c - r < r ∨ (r ≤ c - r ∧ c - r ≤ r)) with t | t | ⟨t, t'⟩ <;> rcases m0 with m0 | m0
    all_goals have k0 : ¬ m = 0 := by omega
    all_goals have k1 : ¬ m = 1 := by omega
    all_goals have k2 : ¬ m = 2 := by omega
    all_goals have k3 : ¬ m = 3 := by omega
    all_goals have K0 := Lib.hid k0; clear k0
    all_goals have K1 := Lib.hid k1; clear k1
    all_goals have K2 := Lib.hid k2; clear k2
    all_goals have K3 := Lib.hid k3; clear k3
    all_goals go_enter Try.func63, Try.ntmps63
    all_goals go_wp2_with (go_at_call 84; first | (refine (cmpu_lt _ _ (by omega) _).mono ?_; rintro e w' ⟨rfl, rfl⟩) | (refine (cmpu_gt _ _ (by omega) _).mono ?_; rintro e w' ⟨rfl, rfl⟩) | (refine (cmpu_eq _ _ (by omega) (by omega) _).mono ?_; rintro e w' ⟨rfl, rfl⟩))
    all_goals go_ret
    all_goals exact ⟨ret_b (by first | (simp [upB, K0.out, K1.out, K2.out, K3.out]; done) | (rw [Bool.eq_iff_iff]; simp [upB, K0.out, K1.out, K2.out, K3.out]; omega)), rfl⟩

/-- What rounding comes to: the whole number, without its sign. -/
def rndQ (neg : Bool) (p c m : Int) : Int := p / c + (bif upB neg (p / c) (p % c) c m then 1 else 0)
def rndV (neg : Bool) (p c m : Int) : Int := if rndQ neg p c m ≤ 1125899906842624 then (bif neg then -rndQ neg p c m else rndQ neg p c m) else 0
def rndE (neg : Bool) (p c m : Int) : Int := if rndQ neg p c m ≤ 1125899906842624 then 0 else 4

theorem rnd_big {neg : Bool} {p c m : Int} (h : 1125899906842624 < rndQ neg p c m) : rndV neg p c m = 0 ∧ rndE neg p c m = 4 := by
  unfold rndV rndE; rw [if_neg (by omega), if_neg (by omega)]; exact ⟨rfl, rfl⟩
theorem rnd_ok {neg : Bool} {p c m : Int} (h : rndQ neg p c m ≤ 1125899906842624) : rndV neg p c m = (bif neg then -rndQ neg p c m else rndQ neg p c m) ∧ rndE neg p c m = 0 := by
  unfold rndV rndE; rw [if_pos h, if_pos h]; exact ⟨rfl, rfl⟩
theorem rnd_up {neg : Bool} {p c m : Int} (h : upB neg (p / c) (p % c) c m = true) : rndQ neg p c m = p / c + 1 := by unfold rndQ; rw [h]; rfl
theorem rnd_down {neg : Bool} {p c m : Int} (h : upB neg (p / c) (p % c) c m = false) : rndQ neg p c m = p / c := by unfold rndQ; rw [h]; exact Int.add_zero _
theorem rnd_ge (neg : Bool) (p c m : Int) : p / c ≤ rndQ neg p c m := by
  cases h : upB neg (p / c) (p % c) c m
  · rw [rnd_down h]; omega
  · rw [rnd_up h]; omega

theorem rounded_any (neg : Bool) (a b c m : Int) (ha : 0 ≤ a) (hb : 0 ≤ b) (ha' : a ≤ 9223372036854775808) (hb' : b ≤ 9223372036854775808) (hw : a * b ≤ 18446744073709551615) (hc : 1 ≤ c) (hc' : c ≤ 18446744073709551615) (w : World) :
    Calls Try.prog 44 #[.bool neg, .int .u64 a, .int .u64 b, .int .u64 c, .int .i64 m] w fun e w' => e = .returned (.tuple #[.int .i64 (rndV neg (a * b) c m), .int .i64 (rndE neg (a * b) c m)]) ∧ ∃ n, w' = w.drewN n := by
  have hp : 0 ≤ a * b := Int.mul_nonneg ha hb
  by_cases hh : c ≤ a * b / 18446744073709551616
  · have hq : 18446744073709551616 ≤ a * b / c := by
      rw [Int.le_ediv_iff_mul_le (by omega)]; omega
    have hn : 1125899906842624 < rndQ neg (a * b) c m := by have := rnd_ge neg (a * b) c m; omega
    have HN := Lib.hid hn; clear hn hq
    go_enter Try.func44, Try.ntmps44
    go_wp2_with (go_at_call 61; refine (mul64_any _ _ (by omega) (by omega) (by omega) (by omega) _).mono ?_; rintro e w' ⟨rfl, rfl⟩)
    go_ret2
    exact ⟨ret_ii (rnd_big HN.out).1.symm (rnd_big HN.out).2.symm, 0, rfl⟩
  · have e1 : (a * b / 18446744073709551616) * 18446744073709551616 + a * b % 18446744073709551616 = a * b := by omega
    have E1 := Lib.hid e1; clear e1
    have h0 : 0 ≤ a * b / 18446744073709551616 := by omega
    have hq0 : 0 ≤ a * b / c := Int.ediv_nonneg hp (by omega)
    have hr0 : 0 ≤ a * b % c := Int.emod_nonneg _ (by omega)
    have hr1 : a * b % c < c := Int.emod_lt_of_pos _ (by omega)
    have hq1 : a * b / c < 18446744073709551616 := by rw [Int.ediv_lt_iff_lt_mul (by omega)]; omega
    by_cases hm : a * b / c ≤ 1125899906842624
    · cases hu : upB neg (a * b / c) (a * b % c) c m
      · have HU := Lib.hid hu; clear hu
        go_enter Try.func44, Try.ntmps44
        go_wp2_with fail
        refine (mul64_any _ _ (by omega) (by omega) (by omega) (by omega) _).mono ?_
        rintro e w' ⟨rfl, rfl⟩
        go_wp2_with fail
        refine (div64_any _ _ _ (by omega) (by omega) (by omega) (by omega) (by omega) _).mono ?_
        rintro e w' ⟨rfl, nn, rfl⟩
        rw [E1.out]
        go_wp2_with fail
        refine (isUp_any _ _ _ _ _ (by omega) (by omega) (by omega) (by omega) (by omega) _).mono ?_
        rintro e w' ⟨rfl, rfl⟩
        rw [HU.out]
        go_wp2_with fail
        refine (signed_any _ _ (by omega) (by omega) _).mono ?_
        rintro e w' ⟨rfl, rfl⟩
        go_wp2_with fail
        go_ret2
        have k := rnd_down HU.out
        have k2 := rnd_ok (neg := neg) (p := a * b) (c := c) (m := m) (by rw [k]; exact hm)
        rw [k] at k2
        exact ⟨ret_ii k2.1.symm k2.2.symm, _, rfl⟩
      · have HU := Lib.hid hu; clear hu
        by_cases hm2 : a * b / c = 1125899906842624
        · have hm4 : 1125899906842624 ≤ a * b / c := by omega
          clear hm2
          go_enter Try.func44, Try.ntmps44
          go_wp2_with fail
          refine (mul64_any _ _ (by omega) (by omega) (by omega) (by omega) _).mono ?_
          rintro e w' ⟨rfl, rfl⟩
          go_wp2_with fail
          refine (div64_any _ _ _ (by omega) (by omega) (by omega) (by omega) (by omega) _).mono ?_
          rintro e w' ⟨rfl, nn, rfl⟩
          rw [E1.out]
          go_wp2_with fail
          refine (isUp_any _ _ _ _ _ (by omega) (by omega) (by omega) (by omega) (by omega) _).mono ?_
          rintro e w' ⟨rfl, rfl⟩
          rw [HU.out]
          go_wp2_with fail
          go_ret2
          have k := rnd_up HU.out
          have k2 := rnd_big (neg := neg) (p := a * b) (c := c) (m := m) (by rw [k]; omega)
          exact ⟨ret_ii k2.1.symm k2.2.symm, _, rfl⟩
        · have hm3 : a * b / c < 1125899906842624 := by omega
          clear hm2
          go_enter Try.func44, Try.ntmps44
          go_wp2_with fail
          refine (mul64_any _ _ (by omega) (by omega) (by omega) (by omega) _).mono ?_
          rintro e w' ⟨rfl, rfl⟩
          go_wp2_with fail
          refine (div64_any _ _ _ (by omega) (by omega) (by omega) (by omega) (by omega) _).mono ?_
          rintro e w' ⟨rfl, nn, rfl⟩
          rw [E1.out]
          go_wp2_with fail
          refine (isUp_any _ _ _ _ _ (by omega) (by omega) (by omega) (by omega) (by omega) _).mono ?_
          rintro e w' ⟨rfl, rfl⟩
          rw [HU.out]
          go_wp2_with fail
          refine (signed_any _ _ (by omega) (by omega) _).mono ?_
          rintro e w' ⟨rfl, rfl⟩
          go_wp2_with fail
          go_ret2
          have k := rnd_up HU.out
          have k2 := rnd_ok (neg := neg) (p := a * b) (c := c) (m := m) (by rw [k]; omega)
          rw [k] at k2
          exact ⟨ret_ii k2.1.symm k2.2.symm, _, rfl⟩
    · have hm4 : 1125899906842624 < a * b / c := by omega
      clear hm
      go_enter Try.func44, Try.ntmps44
      go_wp2_with fail
      refine (mul64_any _ _ (by omega) (by omega) (by omega) (by omega) _).mono ?_
      rintro e w' ⟨rfl, rfl⟩
      go_wp2_with fail
      refine (div64_any _ _ _ (by omega) (by omega) (by omega) (by omega) (by omega) _).mono ?_
      rintro e w' ⟨rfl, nn, rfl⟩
      rw [E1.out]
      go_wp2_with fail
      go_ret2
      have k2 := rnd_big (neg := neg) (p := a * b) (c := c) (m := m) (by have := rnd_ge neg (a * b) c m; omega)
      exact ⟨ret_ii k2.1.symm k2.2.symm, _, rfl⟩
end Go.Proofs.Ytkhdpmicejmabaa

/- Round, Neg, lowest, Make and the four operations of package num: what each call comes to. -/
namespace Go.Proofs.Ytkhdpmicejmabaa
open Go.RowKit
set_option linter.unusedVariables false
set_option linter.unusedSimpArgs false

/-- lowest: what it comes to. -/
def lowV (neg : Bool) (n d : Int) : Int := if n / Int.gcd n d ≤ 1099511627776 ∧ d / Int.gcd n d ≤ 1048576 then (bif neg then -(n / Int.gcd n d) else n / Int.gcd n d) else 0
def lowD (n d : Int) : Int := if n / Int.gcd n d ≤ 1099511627776 ∧ d / Int.gcd n d ≤ 1048576 then d / Int.gcd n d else 0
def lowE (n d : Int) : Int := if n / Int.gcd n d ≤ 1099511627776 ∧ d / Int.gcd n d ≤ 1048576 then 0 else 4

theorem lowest_any (neg : Bool) (n d : Int) (h1 : 0 ≤ n) (h2 : n ≤ 18446744073709551615) (h3 : 1 ≤ d) (h4 : d ≤ 18446744073709551615) (w : World) :
    Calls Try.prog 60 #[.bool neg, .int .u64 n, .int .u64 d] w fun e w' => e = .returned (.tuple #[.agg #[.int .i64 (lowV neg n d), .int .i64 (lowD n d)], .int .i64 (lowE n d)]) ∧ Below w.heap.size w w' := by
  have g0 : (1 : Int) ≤ (Int.gcd n d : Int) := by
    have : 0 < Int.gcd n d := Int.gcd_pos_of_ne_zero_right _ (by omega)
    omega
  have g1 : (Int.gcd n d : Int) ≤ d := Int.le_of_dvd (by omega) (Int.gcd_dvd_right _ _)
  have q0 : 0 ≤ n / Int.gcd n d := Int.ediv_nonneg h1 (by omega)
  have q1 : 1 ≤ d / Int.gcd n d := by rw [Int.le_ediv_iff_mul_le (by omega)]; omega
  have q2 : n / Int.gcd n d ≤ n := Int.ediv_le_self _ h1
  have q3 : d / Int.gcd n d ≤ d := Int.ediv_le_self _ (by omega)
  by_cases h5 : n / Int.gcd n d ≤ 1099511627776
  · by_cases h6 : d / Int.gcd n d ≤ 1048576
    · have e1 : lowV neg n d = (bif neg then -(n / Int.gcd n d) else n / Int.gcd n d) := if_pos ⟨h5, h6⟩
      have e2 : lowD n d = d / Int.gcd n d := if_pos ⟨h5, h6⟩
      have e3 : lowE n d = 0 := if_pos ⟨h5, h6⟩
      rw [e1, e2, e3]
      clear e1 e2 e3
      go_enter Try.func60, Try.ntmps60
      go_wp2_with fail
      refine (gcd_any _ _ (by omega) (by omega) (by omega) (by omega) _).mono ?_
      rintro e w1 ⟨rfl, n1, rfl⟩
      go_wp2_with fail
      go_quiet (fail)
      go_wp2_with fail
      refine (signed_any _ _ (by omega) (by omega) _).mono ?_
      rintro e w1 ⟨rfl, rfl⟩
      go_wp2_with fail
      refine bodyPost_ret (v := .tuple #[.agg #[.int .i64 (bif neg then -(n / Int.gcd n d) else n / Int.gcd n d), .int .i64 (d / Int.gcd n d)], .int .i64 0]) (by simp [results, Try.results60, go_sem]) rfl ⟨rfl, by repeat' (first | exact Below.refl _ _ | (with_reducible assumption) | refine below_drewN ?_ _ | refine Below.setCell ?_ ?_ _ | refine Below.alloc ?_ ?_ _ | (simp; done) | (simp; omega) | omega)⟩
    · have e1 : lowV neg n d = 0 := if_neg (by omega)
      have e2 : lowD n d = 0 := if_neg (by omega)
      have e3 : lowE n d = 4 := if_neg (by omega)
      rw [e1, e2, e3]
      clear e1 e2 e3
      go_enter Try.func60, Try.ntmps60
      go_wp2_with fail
      refine (gcd_any _ _ (by omega) (by omega) (by omega) (by omega) _).mono ?_
      rintro e w1 ⟨rfl, n1, rfl⟩
      go_wp2_with fail
      go_quiet (fail)
      go_wp2_with fail
      refine bodyPost_ret (v := .tuple #[.agg #[.int .i64 0, .int .i64 0], .int .i64 4]) (by simp [results, Try.results60, go_sem]) rfl ⟨rfl, by repeat' (first | exact Below.refl _ _ | (with_reducible assumption) | refine below_drewN ?_ _ | refine Below.setCell ?_ ?_ _ | refine Below.alloc ?_ ?_ _ | (simp; done) | (simp; omega) | omega)⟩
  · have e1 : lowV neg n d = 0 := if_neg (by omega)
    have e2 : lowD n d = 0 := if_neg (by omega)
    have e3 : lowE n d = 4 := if_neg (by omega)
    rw [e1, e2, e3]
    clear e1 e2 e3
    go_enter Try.func60, Try.ntmps60
    go_wp2_with fail
    refine (gcd_any _ _ (by omega) (by omega) (by omega) (by omega) _).mono ?_
    rintro e w1 ⟨rfl, n1, rfl⟩
    go_wp2_with fail
    go_quiet (fail)
    go_wp2_with fail
    refine bodyPost_ret (v := .tuple #[.agg #[.int .i64 0, .int .i64 0], .int .i64 4]) (by simp [results, Try.results60, go_sem]) rfl ⟨rfl, by repeat' (first | exact Below.refl _ _ | (with_reducible assumption) | refine below_drewN ?_ _ | refine Below.setCell ?_ ?_ _ | refine Below.alloc ?_ ?_ _ | (simp; done) | (simp; omega) | omega)⟩
end Go.Proofs.Ytkhdpmicejmabaa

/- Plain facts on fractions in lowest terms: no Go in sight. -/
namespace Go.Proofs.Ytkhdpmicejmabaa
open Go.RowKit
set_option linter.unusedVariables false
set_option linter.unusedSimpArgs false

/-- V/D is n/d in lowest terms within the limits (E = 0), or there is none (E = 4). -/
def IsFrac (n d V D E : Int) : Prop :=
  (E = 0 ∧ vldB V D = true ∧ V * d = n * D) ∨ (E = 4 ∧ V = 0 ∧ D = 0 ∧ ∀ x y, vldB x y = true → x * d ≠ n * y)

theorem dvd_cop {k m n : Int} (h : Int.gcd k n = 1) (hd : k ∣ m * n) : k ∣ m :=
  Int.natAbs_dvd_natAbs.1 (Nat.Coprime.dvd_of_dvd_mul_right (k := k.natAbs) (n := n.natAbs) h (by rw [← Int.natAbs_mul]; exact Int.natAbs_dvd_natAbs.2 hd))

theorem cop_unique {x y a b : Int} (hy : 0 < y) (hb : 0 < b) (h1 : Int.gcd x y = 1) (h2 : Int.gcd a b = 1) (h : x * b = a * y) : x = a ∧ y = b := by
  have d1 : y ∣ b := dvd_cop (n := x) (by rw [Int.gcd_comm]; exact h1) ⟨a, by rw [Int.mul_comm, h, Int.mul_comm]⟩
  have d2 : b ∣ y := dvd_cop (n := a) (by rw [Int.gcd_comm]; exact h2) ⟨x, by rw [Int.mul_comm, ← h, Int.mul_comm]⟩
  have e : y = b := Int.dvd_antisymm (by omega) (by omega) d1 d2
  subst e
  exact ⟨Int.eq_of_mul_eq_mul_right (by omega) h, rfl⟩

theorem frac_unique {n d V D E V' D' E' : Int} (hd : d ≠ 0) (h : IsFrac n d V D E) (h' : IsFrac n d V' D' E') : V = V' ∧ D = D' ∧ E = E' := by
  rcases h with ⟨h1, h2, h3⟩ | ⟨h1, h2, h3, h4⟩ <;> rcases h' with ⟨k1, k2, k3⟩ | ⟨k1, k2, k3, k4⟩
  · obtain ⟨a1, a2, a3, a4, a5⟩ := vldB_true.1 h2
    obtain ⟨b1, b2, b3, b4, b5⟩ := vldB_true.1 k2
    have e : V * D' = V' * D := by
      refine Int.eq_of_mul_eq_mul_right hd ?_
      calc V * D' * d = (V * d) * D' := by ac_rfl
        _ = n * D * D' := by rw [h3]
        _ = (n * D') * D := by ac_rfl
        _ = V' * d * D := by rw [k3]
        _ = V' * D * d := by ac_rfl
    obtain ⟨u, v⟩ := cop_unique (by omega) (by omega) a5 b5 e
    exact ⟨u, v, by omega⟩
  · exact absurd h3 (k4 _ _ h2)
  · exact absurd k3 (h4 _ _ k2)
  · exact ⟨by omega, by omega, by omega⟩

/-- The parts of a pair in lowest terms. -/
theorem low_parts (n d : Int) (hd : 1 ≤ d) : Int.gcd (n / Int.gcd n d) (d / Int.gcd n d) = 1 ∧ 1 ≤ d / Int.gcd n d ∧ (n / Int.gcd n d) * d = n * (d / Int.gcd n d) := by
  have g0 : 0 < Int.gcd n d := Int.gcd_pos_of_ne_zero_right _ (by omega)
  have e1 : (Int.gcd n d : Int) * (n / Int.gcd n d) = n := Int.mul_ediv_cancel' (Int.gcd_dvd_left _ _)
  have e2 : (Int.gcd n d : Int) * (d / Int.gcd n d) = d := Int.mul_ediv_cancel' (Int.gcd_dvd_right _ _)
  refine ⟨Int.gcd_ediv_gcd_ediv_gcd g0, ?_, ?_⟩
  · rw [Int.le_ediv_iff_mul_le (by omega)]
    have := Int.le_of_dvd (by omega) (Int.gcd_dvd_right n d); omega
  · calc (n / Int.gcd n d) * d = (n / Int.gcd n d) * ((Int.gcd n d : Int) * (d / Int.gcd n d)) := by rw [e2]
      _ = ((Int.gcd n d : Int) * (n / Int.gcd n d)) * (d / Int.gcd n d) := by ac_rfl
      _ = n * (d / Int.gcd n d) := by rw [e1]

/-- What 'lowest' computes is the fraction in lowest terms. -/
theorem low_frac (neg : Bool) (n d : Int) (hn : 0 ≤ n) (hd : 1 ≤ d) : IsFrac (bif neg then -n else n) d (lowV neg n d) (lowD n d) (lowE n d) := by
  obtain ⟨c1, c2, c3⟩ := low_parts n d hd
  have q0 : 0 ≤ n / Int.gcd n d := Int.ediv_nonneg hn (by omega)
  unfold lowV lowD lowE
  generalize n / Int.gcd n d = a at *
  generalize d / Int.gcd n d = b at *
  by_cases h : a ≤ 1099511627776 ∧ b ≤ 1048576
  · rw [if_pos h, if_pos h, if_pos h]
    left
    cases neg
    · exact ⟨rfl, vldB_true.2 ⟨by omega, by omega, by simp; omega, by simp; omega, c1⟩, c3⟩
    · refine ⟨rfl, vldB_true.2 ⟨by omega, by omega, by simp; omega, by simp; omega, by simpa using c1⟩, ?_⟩
      simp only [cond_true, Int.neg_mul]; rw [c3]
  · rw [if_neg h, if_neg h, if_neg h]
    right
    refine ⟨rfl, rfl, rfl, fun x y hv e => ?_⟩
    obtain ⟨b1, b2, b3, b4, b5⟩ := vldB_true.1 hv
    cases neg
    · simp only [cond_false] at e
      have e' : x * b = a * y := by
        refine Int.eq_of_mul_eq_mul_right (a := d) (by omega) ?_
        calc x * b * d = (x * d) * b := by ac_rfl
          _ = n * b * y := by rw [e]; ac_rfl
          _ = a * y * d := by rw [← c3]; ac_rfl
      obtain ⟨u, v⟩ := cop_unique (by omega) (by omega) b5 c1 e'
      omega
    · simp only [cond_true] at e
      have e' : x * b = -a * y := by
        refine Int.eq_of_mul_eq_mul_right (a := d) (by omega) ?_
        calc x * b * d = (x * d) * b := by ac_rfl
          _ = -(n * b) * y := by rw [e, Int.neg_mul, Int.neg_mul, Int.neg_mul]; congr 1; ac_rfl
          _ = -a * y * d := by rw [← c3, Int.neg_mul, Int.neg_mul, Int.neg_mul]; congr 1; ac_rfl
      obtain ⟨u, v⟩ := cop_unique (by omega) (by omega) b5 (by simpa using c1) e'
      omega

theorem frac_neg {n d V D E : Int} (h : IsFrac (-n) (-d) V D E) : IsFrac n d V D E := by
  rcases h with ⟨h1, h2, h3⟩ | ⟨h1, h2, h3, h4⟩
  · refine Or.inl ⟨h1, h2, ?_⟩
    rw [Int.mul_neg, Int.neg_mul] at h3; omega
  · refine Or.inr ⟨h1, h2, h3, fun x y hv e => h4 x y hv ?_⟩
    rw [Int.mul_neg, Int.neg_mul, e]

theorem frac_size {n d V D E : Int} (hd : d ≠ 0) (h : IsFrac (bif (decide (n < 0) != decide (d < 0)) then -(n.natAbs : Int) else n.natAbs) d.natAbs V D E) : IsFrac n d V D E := by
  by_cases h1 : n < 0 <;> by_cases h2 : d < 0
  · refine frac_neg ?_
    simp only [h1, h2, decide_true, bne_self_eq_false, cond_false] at h
    rwa [show ((n.natAbs : Int)) = -n from by omega, show ((d.natAbs : Int)) = -d from by omega] at h
  · simp only [h1, h2, decide_true, decide_false, Bool.bne_false, cond_true] at h
    rwa [show -((n.natAbs : Int)) = n from by omega, show ((d.natAbs : Int)) = d from by omega] at h
  · refine frac_neg ?_
    simp only [h1, h2, decide_true, decide_false, Bool.false_bne, cond_true] at h
    rwa [show ((n.natAbs : Int)) = n from by omega, show ((d.natAbs : Int)) = -d from by omega] at h
  · simp only [h1, h2, decide_false, bne_self_eq_false, cond_false] at h
    rwa [show ((n.natAbs : Int)) = n from by omega, show ((d.natAbs : Int)) = d from by omega] at h
end Go.Proofs.Ytkhdpmicejmabaa

/- Make, Add, Sub, Mul, Div and Cmp of package num, by what their results are. -/
namespace Go.Proofs.Ytkhdpmicejmabaa
open Go.RowKit
set_option linter.unusedVariables false
set_option linter.unusedSimpArgs false

/-- A struct result's value. -/
def fracV (V D E : Int) : Value := .tuple #[.agg #[.int .i64 V, .int .i64 D], .int .i64 E]

/-- What a call of a fraction's function leaves: a result of which R holds; old memory untouched. -/
def Res (R : Int → Int → Int → Prop) (w : World) (e : Ending) (w' : World) : Prop := ∃ V D E, R V D E ∧ e = .returned (fracV V D E) ∧ Below w.heap.size w w'

theorem lowest_rel (neg : Bool) (n d : Int) (h1 : 0 ≤ n) (h2 : n ≤ 18446744073709551615) (h3 : 1 ≤ d) (h4 : d ≤ 18446744073709551615) (w : World) :
    Calls Try.prog 60 #[.bool neg, .int .u64 n, .int .u64 d] w (Res (IsFrac (bif neg then -n else n) d) w) :=
  (lowest_any neg n d h1 h2 h3 h4 w).mono fun _ _ ⟨a, b⟩ => ⟨_, _, _, low_frac neg n d h1 h3, a, b⟩

theorem Make_zero (n : Int) (w : World) :
    Calls Try.prog 41 #[.int .i64 n, .int .i64 0] w (Res (fun V D E => V = 0 ∧ D = 0 ∧ E = 5) w) := by
  go_enter Try.func41, Try.ntmps41
  go_wp2_with fail
  exact bodyPost_ret (v := fracV 0 0 5) (by simp [results, Try.results41, go_sem, fracV]) rfl ⟨0, 0, 5, ⟨rfl, rfl, rfl⟩, rfl, (Below.refl _ _).alloc (Nat.le_refl _) _⟩

theorem Make_any (n d : Int) (n1 : -9223372036854775808 ≤ n) (n2 : n ≤ 9223372036854775807) (d1 : -9223372036854775808 ≤ d) (d2 : d ≤ 9223372036854775807) (hd : d ≠ 0) (w : World) :
    Calls Try.prog 41 #[.int .i64 n, .int .i64 d] w (Res (IsFrac n d) w) := by
  have hd' : (d == 0) = false := by simpa using hd
  have HD := Lib.hid hd; clear hd
  have z : (1 : Int) ≤ d.natAbs := by have := HD.out; omega
  go_enter Try.func41, Try.ntmps41
  go_wp2_with fail
  refine (size_any _ n1 n2 _).mono ?_
  rintro e w' ⟨rfl, rfl⟩
  go_wp2_with fail
  refine (size_any _ d1 d2 _).mono ?_
  rintro e w' ⟨rfl, rfl⟩
  go_wp2_with fail
  refine (lowest_rel _ _ _ (by omega) (by omega) z (by omega) _).mono ?_
  rintro e w1 ⟨V, D, E, hF, rfl, hb⟩
  unfold fracV
  have HF := Lib.hid (frac_size HD.out hF); clear hF
  obtain ⟨hc, hf⟩ := bcell hb
  have hz : w.heap.size < w1.heap.size := by have := hb.size; simp at this; omega
  go_wp2_with fail
  refine bodyPost_ret (v := fracV V D E) (by simp [results, Try.results41, go_sem, fracV, hc, hz]) rfl ⟨V, D, E, HF.out, rfl, ?_⟩
  exact ((((Below.refl _ _).alloc (Nat.le_refl _) _).trans (hb.mono (by simp))).setCell (by simp) _).setCell (by simp) _
end Go.Proofs.Ytkhdpmicejmabaa
