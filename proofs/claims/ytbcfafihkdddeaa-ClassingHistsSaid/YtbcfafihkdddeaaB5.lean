/- Add, Sub, Mul, Div and Cmp of package num, by what their results are. -/
import Derived.Test.YtbcfafihkdddeaaB4
namespace Go.Proofs.Ytbcfafihkdddeaa
open Go.RowKit
set_option linter.unusedVariables false
set_option linter.unusedSimpArgs false

theorem mul_le_abs {x y X Y : Int} (h1 : -X ≤ x) (h2 : x ≤ X) (h3 : 0 ≤ y) (h4 : y ≤ Y) (hX : 0 ≤ X) : -(X * Y) ≤ x * y ∧ x * y ≤ X * Y := by
  have a : x * y ≤ X * y := Int.mul_le_mul_of_nonneg_right h2 h3
  have b : X * y ≤ X * Y := Int.mul_le_mul_of_nonneg_left h4 hX
  have c : -X * y ≤ x * y := Int.mul_le_mul_of_nonneg_right h1 h3
  rw [Int.neg_mul] at c
  omega
theorem fr_mul {n d : Int} (h1 : -1099511627776 ≤ n) (h2 : n ≤ 1099511627776) (h3 : 1 ≤ d) (h4 : d ≤ 1048576) : -1152921504606846976 ≤ n * d ∧ n * d ≤ 1152921504606846976 := by
  have := mul_le_abs (X := 1099511627776) (Y := 1048576) h1 h2 (by omega) h4 (by omega); omega
theorem den_mul {n d : Int} (h1 : 1 ≤ n) (h2 : n ≤ 1048576) (h3 : 1 ≤ d) (h4 : d ≤ 1048576) : 1 ≤ n * d ∧ n * d ≤ 1099511627776 := by
  have := mul_le_abs (X := 1048576) (Y := 1048576) (x := n) (y := d) (by omega) h2 (by omega) h4 (by omega)
  have : 0 < n * d := Int.mul_pos (by omega) (by omega)
  omega

end Go.Proofs.Ytbcfafihkdddeaa
