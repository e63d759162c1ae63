/- Subsamples: which are valid, and their wool, on both sides; on its own. -/
import Derived.Test.YtmdhmpfagekonaaB0

namespace Go.Proofs.Ytmdhmpfagekonaa
open Go.RowKit
set_option linter.unusedVariables false
set_option linter.unusedSimpArgs false

def sub (r d a g v : Int) : Value := .agg #[.int .i64 r, .int .i64 d, .int .i64 a, .int .i64 g, .int .i64 v]
def subB (r d a g v : Int) : Bool := decide (1 ≤ r) && decide (r ≤ 10000) && decide (0 ≤ d) && decide (d ≤ r) && decide (0 ≤ a) && decide (a ≤ d) && decide (0 ≤ g) && decide (g ≤ d - a) && decide (0 ≤ v) && decide (v ≤ d - a - g)
theorem subB_true {r d a g v : Int} : subB r d a g v = true ↔ 1 ≤ r ∧ r ≤ 10000 ∧ 0 ≤ d ∧ d ≤ r ∧ 0 ≤ a ∧ a ≤ d ∧ 0 ≤ g ∧ g ≤ d - a ∧ 0 ≤ v ∧ v ≤ d - a - g := by simp [subB, and_assoc]

end Go.Proofs.Ytmdhmpfagekonaa
