/- The small functions of package num: gcd, size, within, signed, isMode, Valid: what each call comes to. -/
import Derived.Test.YtbcfafihkdddeaaB0
import Derived.Test.YtbcfafihkdddeaaShelf
namespace Go.Proofs.Ytbcfafihkdddeaa
open Go.RowKit
set_option linter.unusedVariables false
set_option linter.unusedSimpArgs false

theorem gcd_step (x y : Int) (hx : 0 ≤ x) (hy : 0 < y) : Int.gcd y (x % y) = Int.gcd x y := by
  obtain ⟨x, rfl⟩ := Int.eq_ofNat_of_zero_le hx
  obtain ⟨y, rfl⟩ := Int.eq_ofNat_of_zero_le (Int.le_of_lt hy)
  have e : ((x : Int) % (y : Int)) = ((x % y : Nat) : Int) := by omega
  rw [e]
  simp only [Int.gcd, Int.natAbs_natCast]
  rw [Nat.gcd_comm y, ← Nat.gcd_rec y x, Nat.gcd_comm]

/-- gcd: the loop of Euclid. -/
theorem gcd_any (a b : Int) (ha : 0 ≤ a) (hb : 0 ≤ b) (ha' : a ≤ 18446744073709551615) (hb' : b ≤ 18446744073709551615) (w : World) :
    Calls Try.prog 119 #[.int .u64 a, .int .u64 b] w fun e w' => e = .returned (.int .u64 (Int.gcd a b)) ∧ ∃ n, w' = w.drewN n := by
  go_enter Try.func119, Try.ntmps119
  go_wp2
  go_loopw [0, 1] (fun v0 v1 wr => ∃ x y : Int, 0 ≤ x ∧ 0 ≤ y ∧ x ≤ 18446744073709551615 ∧ y ≤ 18446744073709551615 ∧ v0 = .int .u64 x ∧ v1 = .int .u64 y ∧ Hid (Int.gcd x y = Int.gcd a b) ∧ ∃ n, wr = w.drewN n) (fun _ v1 _ => (intOf v1).toNat)
  case atStart => exact ⟨a, b, ha, hb, ha', hb', rfl, rfl, rfl, 0, rfl⟩
  case round =>
    obtain ⟨x, y, hx, hy, hx', hy', rfl, rfl, hg, n, rfl⟩ := hrel
    by_cases h : 0 < y
    · have h1 : 0 ≤ x % y := Int.emod_nonneg _ (by omega)
      have h2 : x % y < y := Int.emod_lt_of_pos _ h
      go_wp2
      go_quiet (fail)
      go_wp2
      go_roundw
      case rel => exact ⟨y, x % y, by omega, by omega, by omega, by omega, rfl, rfl, (gcd_step x y hx h).trans hg.out, _, World.drewN_drewN _ _ _⟩
      case measure => simp [intOf]; omega
    · have hy0 : y = 0 := by omega
      have H : Hid (y = 0) := hy0
      clear hy0
      go_wp2
      go_ret
      have e := hg.out
      rw [H.out] at e
      have e2 : ((Int.gcd a b : Nat) : Int) = x := by rw [← e]; simp only [Int.gcd, Int.natAbs_zero, Nat.gcd_zero_right]; omega
      exact ⟨ret_i e2.symm, n, rfl⟩

/-- size: the absolute value, as a uint64. -/
theorem size_any (n : Int) (h1 : -9223372036854775808 ≤ n) (h2 : n ≤ 9223372036854775807) (w : World) :
    Calls Try.prog 110 #[.int .i64 n] w fun e w' => e = .returned (.int .u64 (n.natAbs : Int)) ∧ w = w' := by
  by_cases h : n < 0
  · have e1 : IntKind.u64.wrap n = n + 18446744073709551616 := PlainAid.u64_neg h (by omega)
    go_enter Try.func110, Try.ntmps110
    go_wp2
    go_ret
    exact ⟨ret_i (by rw [IntKind.wrap_u64]; omega), rfl⟩
  · go_enter Try.func110, Try.ntmps110
    go_wp2
    go_ret
    exact ⟨ret_i (by omega), rfl⟩

/-- within, as a Bool. -/
def wthB (n m : Int) : Bool := decide (-m ≤ n) && decide (n ≤ m)
theorem wthB_true {n m : Int} : wthB n m = true ↔ -m ≤ n ∧ n ≤ m := by simp [wthB]
theorem within_any (n m : Int) (h1 : 0 ≤ m) (h2 : m ≤ 9223372036854775807) (w : World) :
    Calls Try.prog 107 #[.int .i64 n, .int .i64 m] w fun e w' => e = .returned (.bool (wthB n m)) ∧ w = w' := by
  go_enter Try.func107, Try.ntmps107
  go_wp2
  all_goals go_ret
  all_goals exact ⟨ret_b (by rw [Bool.eq_iff_iff, wthB_true]; simp; try omega), rfl⟩

/-- signed: the number with its sign. -/
theorem signed_any (b : Bool) (n : Int) (h1 : 0 ≤ n) (h2 : n ≤ 9223372036854775807) (w : World) :
    Calls Try.prog 152 #[.bool b, .int .u64 n] w fun e w' => e = .returned (.int .i64 (bif b then -n else n)) ∧ w = w' := by
  cases b
  all_goals go_enter Try.func152, Try.ntmps152
  all_goals go_wp2
  all_goals go_ret
  all_goals exact ⟨ret_i rfl, rfl⟩

/-- isMode, as a Bool. -/
def modB (m : Int) : Bool := decide (0 ≤ m) && decide (m ≤ 4)
theorem modB_true {m : Int} : modB m = true ↔ 0 ≤ m ∧ m ≤ 4 := by simp [modB]
theorem isMode_any (m : Int) (w : World) :
    Calls Try.prog 108 #[.int .i64 m] w fun e w' => e = .returned (.bool (modB m)) ∧ w = w' := by
  go_enter Try.func108, Try.ntmps108
  go_wp2
  all_goals go_ret
  all_goals exact ⟨ret_b (by rw [Bool.eq_iff_iff, modB_true]; simp; try omega), rfl⟩

/-- Valid, as a Bool. -/
def vldB (n d : Int) : Bool := decide (1 ≤ d) && decide (d ≤ 1048576) && decide (-1099511627776 ≤ n) && decide (n ≤ 1099511627776) && decide (Int.gcd n d = 1)
theorem vldB_true {n d : Int} : vldB n d = true ↔ 1 ≤ d ∧ d ≤ 1048576 ∧ -1099511627776 ≤ n ∧ n ≤ 1099511627776 ∧ Int.gcd n d = 1 := by simp [vldB, and_assoc]

theorem Valid_any (n d : Int) (hn1 : -9223372036854775808 ≤ n) (hn2 : n ≤ 9223372036854775807) (w : World) :
    Calls Try.prog 67 #[.agg #[.int .i64 n, .int .i64 d]] w fun e w' => e = .returned (.bool (vldB n d)) ∧ Below w.heap.size w w' := by
  by_cases h1 : d < 1
  · go_enter Try.func67, Try.ntmps67
    go_wp2
    go_ret
    exact ⟨ret_b (by symm; rw [Bool.eq_false_iff]; rw [Ne, vldB_true]; omega), by go_grown⟩
  by_cases h2 : 1048576 < d
  · go_enter Try.func67, Try.ntmps67
    go_wp2
    go_ret
    exact ⟨ret_b (by symm; rw [Bool.eq_false_iff]; rw [Ne, vldB_true]; omega), by go_grown⟩
  by_cases h3 : wthB n 1099511627776 = true
  · go_enter Try.func67, Try.ntmps67
    go_wp2_with (first
      | (go_at_call 107; refine (within_any _ _ (by omega) (by omega) _).mono ?_; rintro e w' ⟨rfl, rfl⟩))
    have hn := wthB_true.1 h3
    clear h3
    go_quiet (first
      | (go_at_call 110; exact Calls.quiet_of_same (flip (size_any _ (by omega) (by omega) _)))
      | (go_at_call 119; exact Calls.quiet_of (gcd_any _ _ (by omega) (by omega) (by omega) (by omega) _)))
    go_wp2
    go_ret
    refine ⟨ret_b ?_, by refine below_drewN ?_ _; go_grown⟩
    rw [Bool.eq_iff_iff, vldB_true]
    simp [Int.gcd]
    omega
  · have h3' : wthB n 1099511627776 = false := by simpa using h3
    have H3 := Lib.hid h3
    clear h3
    go_enter Try.func67, Try.ntmps67
    go_wp2_with (first
      | (go_at_call 107; refine (within_any _ _ (by omega) (by omega) _).mono ?_; rintro e w' ⟨rfl, rfl⟩))
    go_ret
    exact ⟨ret_b (by symm; rw [Bool.eq_false_iff]; rw [Ne, vldB_true]; have := H3.out; rw [wthB_true] at this; omega), by go_grown⟩
end Go.Proofs.Ytbcfafihkdddeaa
