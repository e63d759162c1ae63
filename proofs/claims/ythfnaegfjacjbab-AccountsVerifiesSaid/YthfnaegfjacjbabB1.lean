/- The small functions of package num: gcd, size, within, signed, isMode, Valid: what each call comes to. -/
import Derived.Test.YthfnaegfjacjbabB0
import Derived.Test.YthfnaegfjacjbabShelf
namespace Go.Proofs.Ythfnaegfjacjbab
open Go.RowKit
set_option linter.unusedVariables false
set_option linter.unusedSimpArgs false

theorem gcd_step (x y : Int) (hx : 0 ≤ x) (hy : 0 < y) : Int.gcd y (x % y) = Int.gcd x y := by
  obtain ⟨x, rfl⟩ := Int.eq_ofNat_of_zero_le hx
  obtain ⟨y, rfl⟩ := Int.eq_ofNat_of_zero_le (Int.le_of_lt hy)
  have e : ((x : Int) % (y : Int)) = ((x % y : Nat) : Int) := by omega
  rw [e]
  simp only [Int.gcd, Int.natAbs_natCast]
  rw [Nat.gcd_comm y, ← Nat.gcd_rec y x, Nat.gcd_comm]

/-- size: the absolute value, as a uint64. -/
theorem size_any (n : Int) (h1 : -9223372036854775808 ≤ n) (h2 : n ≤ 9223372036854775807) (w : World) :
    Calls Try.prog 85 #[.int .i64 n] w fun e w' => e = .returned (.int .u64 (n.natAbs : Int)) ∧ w = w' := by
  by_cases h : n < 0
  · have e1 : IntKind.u64.wrap n = n + 18446744073709551616 := PlainAid.u64_neg h (by omega)
    go_enter Try.func85, Try.ntmps85
    go_wp2
    go_ret
    exact ⟨ret_i (by rw [IntKind.wrap_u64]; omega), rfl⟩
  · go_enter Try.func85, Try.ntmps85
    go_wp2
    go_ret
    exact ⟨ret_i (by omega), rfl⟩

/-- within, as a Bool. -/
def wthB (n m : Int) : Bool := decide (-m ≤ n) && decide (n ≤ m)
theorem wthB_true {n m : Int} : wthB n m = true ↔ -m ≤ n ∧ n ≤ m := by simp [wthB]
theorem within_any (n m : Int) (h1 : 0 ≤ m) (h2 : m ≤ 9223372036854775807) (w : World) :
    Calls Try.prog 82 #[.int .i64 n, .int .i64 m] w fun e w' => e = .returned (.bool (wthB n m)) ∧ w = w' := by
  go_enter Try.func82, Try.ntmps82
  go_wp2
  all_goals go_ret
  all_goals exact ⟨ret_b (by rw [Bool.eq_iff_iff, wthB_true]; simp; try omega), rfl⟩

/-- signed: the number with its sign. -/
theorem signed_any (b : Bool) (n : Int) (h1 : 0 ≤ n) (h2 : n ≤ 9223372036854775807) (w : World) :
    Calls Try.prog 115 #[.bool b, .int .u64 n] w fun e w' => e = .returned (.int .i64 (bif b then -n else n)) ∧ w = w' := by
  cases b
  all_goals go_enter Try.func115, Try.ntmps115
  all_goals go_wp2
  all_goals go_ret
  all_goals exact ⟨ret_i rfl, rfl⟩

/-- isMode, as a Bool. -/
def modB (m : Int) : Bool := decide (0 ≤ m) && decide (m ≤ 4)
theorem modB_true {m : Int} : modB m = true ↔ 0 ≤ m ∧ m ≤ 4 := by simp [modB]
theorem isMode_any (m : Int) (w : World) :
    Calls Try.prog 83 #[.int .i64 m] w fun e w' => e = .returned (.bool (modB m)) ∧ w = w' := by
  go_enter Try.func83, Try.ntmps83
  go_wp2
  all_goals go_ret
  all_goals exact ⟨ret_b (by rw [Bool.eq_iff_iff, modB_true]; simp; try omega), rfl⟩

/-- Valid, as a Bool. -/
def vldB (n d : Int) : Bool := decide (1 ≤ d) && decide (d ≤ 1048576) && decide (-1099511627776 ≤ n) && decide (n ≤ 1099511627776) && decide (Int.gcd n d = 1)
theorem vldB_true {n d : Int} : vldB n d = true ↔ 1 ≤ d ∧ d ≤ 1048576 ∧ -1099511627776 ≤ n ∧ n ≤ 1099511627776 ∧ Int.gcd n d = 1 := by simp [vldB, and_assoc]

end Go.Proofs.Ythfnaegfjacjbab
