/- Subsamples: which are valid, and their wool, on both sides; on its own. -/
import Derived.Test.YtkhdpmicejmabaaB0

namespace Go.Proofs.Ytkhdpmicejmabaa
open Go.RowKit
set_option linter.unusedVariables false
set_option linter.unusedSimpArgs false

def sub (r d a g v : Int) : Value := .agg #[.int .i64 r, .int .i64 d, .int .i64 a, .int .i64 g, .int .i64 v]
def subB (r d a g v : Int) : Bool := decide (1 ≤ r) && decide (r ≤ 10000) && decide (0 ≤ d) && decide (d ≤ r) && decide (0 ≤ a) && decide (a ≤ d) && decide (0 ≤ g) && decide (g ≤ d - a) && decide (0 ≤ v) && decide (v ≤ d - a - g)
theorem subB_true {r d a g v : Int} : subB r d a g v = true ↔ 1 ≤ r ∧ r ≤ 10000 ∧ 0 ≤ d ∧ d ≤ r ∧ 0 ≤ a ∧ a ≤ d ∧ 0 ≤ g ∧ g ≤ d - a ∧ 0 ≤ v ∧ v ≤ d - a - g := by simp [subB, and_assoc]

set_option maxRecDepth 100000 in
set_option maxHeartbeats 2000000 in
theorem isSub_any (r d a g v : Int) (w : World) :
    Calls Try.prog 20 #[.agg #[.int .i64 r, .int .i64 d, .int .i64 a, .int .i64 g, .int .i64 v]] w fun e w' => e = .returned (.bool (subB r d a g v)) ∧ Below w.heap.size w w' := by
  have ix0 : ∀ W : World, (Instr.index 82 (.agg #[.int .i64 a, .int .i64 g, .int .i64 v]) (.int .i64 0)).run Try.prog W = .ok (.int .i64 a) W := fun W => rfl
  have ix1 : ∀ W : World, (Instr.index 82 (.agg #[.int .i64 a, .int .i64 g, .int .i64 v]) (.int .i64 1)).run Try.prog W = .ok (.int .i64 g) W := fun W => rfl
  have ix2 : ∀ W : World, (Instr.index 82 (.agg #[.int .i64 a, .int .i64 g, .int .i64 v]) (.int .i64 2)).run Try.prog W = .ok (.int .i64 v) W := fun W => rfl
  go_enter Try.func20, Try.ntmps20
  go_wp2
  all_goals first
    | (go_ret; first
      | (have e : subB r d a g v = true := (by rw [subB_true]; omega); rw [e]; exact ⟨rfl, by go_grown⟩)
      | (have e : subB r d a g v = false := (by rw [Bool.eq_false_iff]; intro k; rw [subB_true] at k; omega); rw [e]; exact ⟨rfl, by go_grown⟩))
    | refine wp_loop_rounds 4 ?_
  rw [rounds_succ]
  go_wp2
  all_goals try (go_ret; first
      | (have e : subB r d a g v = true := (by rw [subB_true]; omega); rw [e]; exact ⟨rfl, by go_grown⟩)
      | (have e : subB r d a g v = false := (by rw [Bool.eq_false_iff]; intro k; rw [subB_true] at k; omega); rw [e]; exact ⟨rfl, by go_grown⟩))
  rw [rounds_succ]
  go_wp2
  all_goals try (go_ret; first
      | (have e : subB r d a g v = true := (by rw [subB_true]; omega); rw [e]; exact ⟨rfl, by go_grown⟩)
      | (have e : subB r d a g v = false := (by rw [Bool.eq_false_iff]; intro k; rw [subB_true] at k; omega); rw [e]; exact ⟨rfl, by go_grown⟩))
  rw [rounds_succ]
  go_wp2
  all_goals try (go_ret; first
      | (have e : subB r d a g v = true := (by rw [subB_true]; omega); rw [e]; exact ⟨rfl, by go_grown⟩)
      | (have e : subB r d a g v = false := (by rw [Bool.eq_false_iff]; intro k; rw [subB_true] at k; omega); rw [e]; exact ⟨rfl, by go_grown⟩))
  rw [rounds_succ]
  go_wp2
  all_goals try (go_ret; first
      | (have e : subB r d a g v = true := (by rw [subB_true]; omega); rw [e]; exact ⟨rfl, by go_grown⟩)
      | (have e : subB r d a g v = false := (by rw [Bool.eq_false_iff]; intro k; rw [subB_true] at k; omega); rw [e]; exact ⟨rfl, by go_grown⟩))
set_option maxRecDepth 100000 in
set_option maxHeartbeats 2000000 in
theorem rValidSub_any (r d a g v : Int) (w : World) :
    Calls Try.prog 22 #[.agg #[.int .i64 r, .int .i64 d, .int .i64 a, .int .i64 g, .int .i64 v]] w fun e w' => e = .returned (.bool (subB r d a g v)) ∧ Below w.heap.size w w' := by
  go_enter Try.func22, Try.ntmps22
  go_wp2
  all_goals (go_ret; first
      | (have e : subB r d a g v = true := (by rw [subB_true]; omega); rw [e]; exact ⟨rfl, by go_grown⟩)
      | (have e : subB r d a g v = false := (by rw [Bool.eq_false_iff]; intro k; rw [subB_true] at k; omega); rw [e]; exact ⟨rfl, by go_grown⟩)
      | (have e : subB r d a g v = decide (v ≤ d - a - g) := (by rw [Bool.eq_iff_iff, subB_true]; simp only [decide_eq_true_eq]; omega); rw [e]; exact ⟨rfl, by go_grown⟩))

set_option maxRecDepth 100000 in
set_option maxHeartbeats 1000000 in
theorem wool_any (r d a g v : Int) (h : subB r d a g v = true) (w : World) :
    Calls Try.prog 26 #[.agg #[.int .i64 r, .int .i64 d, .int .i64 a, .int .i64 g, .int .i64 v]] w fun e w' => e = .returned (.int .i64 (d - a - g - v)) ∧ Below w.heap.size w w' := by
  rw [subB_true] at h
  have e1 : IntKind.i64.wrap (d - a) = d - a := by rw [IntKind.wrap_i64]; omega
  have e2 : IntKind.i64.wrap (d - a - g) = d - a - g := by rw [IntKind.wrap_i64]; omega
  have e3 : IntKind.i64.wrap (d - a - g - v) = d - a - g - v := by rw [IntKind.wrap_i64]; omega
  clear h
  go_enter Try.func26, Try.ntmps26
  go_wp2
  go_ret
  exact ⟨rfl, by go_grown⟩
set_option maxRecDepth 100000 in
set_option maxHeartbeats 1000000 in
theorem rwool_any (r d a g v : Int) (h : subB r d a g v = true) (w : World) :
    Calls Try.prog 27 #[.agg #[.int .i64 r, .int .i64 d, .int .i64 a, .int .i64 g, .int .i64 v]] w fun e w' => e = .returned (.int .i64 (d - a - g - v)) ∧ Below w.heap.size w w' := by
  rw [subB_true] at h
  have e1 : IntKind.i64.wrap (d - a) = d - a := by rw [IntKind.wrap_i64]; omega
  have e2 : IntKind.i64.wrap (d - a - g) = d - a - g := by rw [IntKind.wrap_i64]; omega
  have e3 : IntKind.i64.wrap (d - a - g - v) = d - a - g - v := by rw [IntKind.wrap_i64]; omega
  clear h
  go_enter Try.func27, Try.ntmps27
  go_wp2
  go_ret
  exact ⟨rfl, by go_grown⟩
end Go.Proofs.Ytkhdpmicejmabaa
