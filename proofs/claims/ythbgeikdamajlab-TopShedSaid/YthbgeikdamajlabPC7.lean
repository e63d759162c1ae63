/- Press: Johnson's rule as a comparison. -/
import Derived.Test.YthbgeikdamajlabPC2
import Derived.Test.YthbgeikdamajlabST7
namespace Go.Proofs.Ythbgeikdamajlab
open Go.RowKit Go.Proofs.Ythbgeikdamajlab.Prs Go.Proofs.Ythbgeikdamajlab.Stb
set_option linter.unusedVariables false
set_option linter.unusedSimpArgs false

def cmpV (a b : Int) : Int := if a < b then -1 else if b < a then 1 else 0
theorem isNaN_any (a : Int) (w : World) : Calls Try.prog 49 #[.int .i64 a] w fun e w' => e = .returned (.bool false) ∧ w = w' := by
  have h : (a == a) = true := by simp
  go_enter Try.func49, Try.ntmps49
  go_wp2
  all_goals go_ret
  all_goals exact ⟨ret_b (by simp), rfl⟩
theorem cmpI_any (a b : Int) (w : World) : Calls Try.prog 27 #[.int .i64 a, .int .i64 b] w fun e w' => e = .returned (.int .i64 (cmpV a b)) ∧ w = w' := by
  unfold cmpV
  by_cases h1 : a < b
  · have d1 : decide (a < b) = true := decide_eq_true h1
    rw [if_pos h1]
    go_enter Try.func27, Try.ntmps27
    go_wp2_with fail
    refine (isNaN_any a _).mono ?_
    rintro e w1 ⟨rfl, rfl⟩
    go_wp2_with fail
    refine (isNaN_any b _).mono ?_
    rintro e w1 ⟨rfl, rfl⟩
    go_wp2_with fail
    go_ret
    exact ⟨rfl, rfl⟩
  · have d1 : decide (a < b) = false := decide_eq_false h1
    rw [if_neg h1]
    by_cases h2 : b < a
    · have d2 : decide (b < a) = true := decide_eq_true h2
      rw [if_pos h2]
      go_enter Try.func27, Try.ntmps27
      go_wp2_with fail
      refine (isNaN_any a _).mono ?_
      rintro e w1 ⟨rfl, rfl⟩
      go_wp2_with fail
      refine (isNaN_any b _).mono ?_
      rintro e w1 ⟨rfl, rfl⟩
      go_wp2_with fail
      go_ret
      exact ⟨rfl, rfl⟩
    · have d2 : decide (b < a) = false := decide_eq_false h2
      rw [if_neg h2]
      go_enter Try.func27, Try.ntmps27
      go_wp2_with fail
      refine (isNaN_any a _).mono ?_
      rintro e w1 ⟨rfl, rfl⟩
      go_wp2_with fail
      refine (isNaN_any b _).mono ?_
      rintro e w1 ⟨rfl, rfl⟩
      go_wp2_with fail
      go_ret
      exact ⟨rfl, rfl⟩
/-- What byJohnson answers. -/
def jc (pa sa pb sb : Int) : Int := if pa ≤ sa then (if pb ≤ sb then cmpV pa pb else -1) else (if pb ≤ sb then 1 else cmpV sb sa)

set_option maxRecDepth 100000 in
set_option maxHeartbeats 4000000 in
theorem byJohnson_any (pa sa pb sb : Int) (w : World) :
    Calls Try.prog 44 #[.agg #[.int .i64 pa, .int .i64 sa], .agg #[.int .i64 pb, .int .i64 sb]] w fun e w' => e = .returned (.int .i64 (jc pa sa pb sb)) ∧ Below w.heap.size w w' := by
  have CA := Lib.hid (fun W => cmpI_any pa pb W)
  have CB := Lib.hid (fun W => cmpI_any sb sa W)
  unfold jc
  generalize cmpV pa pb = x at *
  generalize cmpV sb sa = y at *
  have BB := Lib.hid (show Below w.heap.size w ((w.alloc (Obj.cells #[Value.int .i64 pa, Value.int .i64 sa] 46)).alloc (Obj.cells #[Value.int .i64 pb, Value.int .i64 sb] 46)) from ((Below.refl _ w).alloc (Nat.le_refl _) _).alloc ((Below.refl _ w).alloc (Nat.le_refl _) _).size _)
  have CE := Lib.hid (show let W := (w.alloc (Obj.cells #[Value.int .i64 pa, Value.int .i64 sa] 46)).alloc (Obj.cells #[Value.int .i64 pb, Value.int .i64 sb] 46)
    (W.cell? ⟨w.heap.size, 0, none⟩ = some (.int .i64 pa) ∧ W.cell? ⟨w.heap.size, 1, none⟩ = some (.int .i64 sa)) ∧ W.cell? ⟨w.heap.size + 1, 0, none⟩ = some (.int .i64 pb) ∧ W.cell? ⟨w.heap.size + 1, 1, none⟩ = some (.int .i64 sb) from by
    refine ⟨⟨?_, ?_⟩, ?_, ?_⟩ <;> simp [go_sem])
  by_cases h1 : pa ≤ sa
  · have d1 : decide (pa ≤ sa) = true := decide_eq_true h1
    rw [if_pos h1]
    by_cases h2 : pb ≤ sb
    · have d2 : decide (pb ≤ sb) = true := decide_eq_true h2
      rw [if_pos h2]
      go_enter Try.func44, Try.ntmps44
      go_wp2_with fail
      generalize (w.alloc (Obj.cells #[Value.int .i64 pa, Value.int .i64 sa] 46)).alloc (Obj.cells #[Value.int .i64 pb, Value.int .i64 sb] 46) = w1 at CE BB ⊢
      obtain ⟨⟨a0, a1⟩, b0, b1⟩ := CE.out
      go_quiet (fail)
      have a0 : (w1.drewN nq).cell? ⟨w.heap.size, 0, none⟩ = some (.int .i64 pa) := a0
      have a1 : (w1.drewN nq).cell? ⟨w.heap.size, 1, none⟩ = some (.int .i64 sa) := a1
      have b0 : (w1.drewN nq).cell? ⟨w.heap.size + 1, 0, none⟩ = some (.int .i64 pb) := b0
      have b1 : (w1.drewN nq).cell? ⟨w.heap.size + 1, 1, none⟩ = some (.int .i64 sb) := b1
      have BB := Lib.hid (show Below w.heap.size w (w1.drewN nq) from ⟨BB.out.os, BB.out.tape, BB.out.output, BB.out.size, BB.out.block⟩)
      generalize w1.drewN nq = w2 at *
      go_wp2_with fail
      refine (CA.out _).mono ?_
      rintro e w3 ⟨rfl, rfl⟩
      go_wp2_with fail
      go_ret
      exact ⟨rfl, BB.out⟩
    · have d2 : decide (pb ≤ sb) = false := decide_eq_false h2
      rw [if_neg h2]
      go_enter Try.func44, Try.ntmps44
      go_wp2_with fail
      generalize (w.alloc (Obj.cells #[Value.int .i64 pa, Value.int .i64 sa] 46)).alloc (Obj.cells #[Value.int .i64 pb, Value.int .i64 sb] 46) = w1 at CE BB ⊢
      obtain ⟨⟨a0, a1⟩, b0, b1⟩ := CE.out
      go_quiet (fail)
      have a0 : (w1.drewN nq).cell? ⟨w.heap.size, 0, none⟩ = some (.int .i64 pa) := a0
      have a1 : (w1.drewN nq).cell? ⟨w.heap.size, 1, none⟩ = some (.int .i64 sa) := a1
      have b0 : (w1.drewN nq).cell? ⟨w.heap.size + 1, 0, none⟩ = some (.int .i64 pb) := b0
      have b1 : (w1.drewN nq).cell? ⟨w.heap.size + 1, 1, none⟩ = some (.int .i64 sb) := b1
      have BB := Lib.hid (show Below w.heap.size w (w1.drewN nq) from ⟨BB.out.os, BB.out.tape, BB.out.output, BB.out.size, BB.out.block⟩)
      generalize w1.drewN nq = w2 at *
      go_wp2_with fail
      go_ret
      exact ⟨rfl, BB.out⟩
  · have d1 : decide (pa ≤ sa) = false := decide_eq_false h1
    rw [if_neg h1]
    by_cases h2 : pb ≤ sb
    · have d2 : decide (pb ≤ sb) = true := decide_eq_true h2
      rw [if_pos h2]
      go_enter Try.func44, Try.ntmps44
      go_wp2_with fail
      generalize (w.alloc (Obj.cells #[Value.int .i64 pa, Value.int .i64 sa] 46)).alloc (Obj.cells #[Value.int .i64 pb, Value.int .i64 sb] 46) = w1 at CE BB ⊢
      obtain ⟨⟨a0, a1⟩, b0, b1⟩ := CE.out
      go_quiet (fail)
      have a0 : (w1.drewN nq).cell? ⟨w.heap.size, 0, none⟩ = some (.int .i64 pa) := a0
      have a1 : (w1.drewN nq).cell? ⟨w.heap.size, 1, none⟩ = some (.int .i64 sa) := a1
      have b0 : (w1.drewN nq).cell? ⟨w.heap.size + 1, 0, none⟩ = some (.int .i64 pb) := b0
      have b1 : (w1.drewN nq).cell? ⟨w.heap.size + 1, 1, none⟩ = some (.int .i64 sb) := b1
      have BB := Lib.hid (show Below w.heap.size w (w1.drewN nq) from ⟨BB.out.os, BB.out.tape, BB.out.output, BB.out.size, BB.out.block⟩)
      generalize w1.drewN nq = w2 at *
      go_wp2_with fail
      go_ret
      exact ⟨rfl, BB.out⟩
    · have d2 : decide (pb ≤ sb) = false := decide_eq_false h2
      rw [if_neg h2]
      go_enter Try.func44, Try.ntmps44
      go_wp2_with fail
      generalize (w.alloc (Obj.cells #[Value.int .i64 pa, Value.int .i64 sa] 46)).alloc (Obj.cells #[Value.int .i64 pb, Value.int .i64 sb] 46) = w1 at CE BB ⊢
      obtain ⟨⟨a0, a1⟩, b0, b1⟩ := CE.out
      go_quiet (fail)
      have a0 : (w1.drewN nq).cell? ⟨w.heap.size, 0, none⟩ = some (.int .i64 pa) := a0
      have a1 : (w1.drewN nq).cell? ⟨w.heap.size, 1, none⟩ = some (.int .i64 sa) := a1
      have b0 : (w1.drewN nq).cell? ⟨w.heap.size + 1, 0, none⟩ = some (.int .i64 pb) := b0
      have b1 : (w1.drewN nq).cell? ⟨w.heap.size + 1, 1, none⟩ = some (.int .i64 sb) := b1
      have BB := Lib.hid (show Below w.heap.size w (w1.drewN nq) from ⟨BB.out.os, BB.out.tape, BB.out.output, BB.out.size, BB.out.block⟩)
      generalize w1.drewN nq = w2 at *
      go_wp2_with fail
      refine (CB.out _).mono ?_
      rintro e w3 ⟨rfl, rfl⟩
      go_wp2_with fail
      go_ret
      exact ⟨rfl, BB.out⟩
end Go.Proofs.Ythbgeikdamajlab
