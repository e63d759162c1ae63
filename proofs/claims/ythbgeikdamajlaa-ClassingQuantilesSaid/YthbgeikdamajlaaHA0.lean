/- Classing: arrays of 64 numbers by value. -/
import Derived.Test.YthbgeikdamajlaaB0
import Derived.Laws.Rows
import Derived.Laws.Tables
import Derived.Lib.Hide
namespace Go.Proofs.Ythbgeikdamajlaa
open Go.RowKit
set_option linter.unusedVariables false
set_option linter.unusedSimpArgs false

/-- The cells of a histogram; its value. -/
def hC (H : Nat → Int) : Array Value := ((List.range 64).map fun k => Value.int .i64 (H k)).toArray
abbrev hV (H : Nat → Int) : Value := .agg (hC H)
theorem hC_size (H : Nat → Int) : (hC H).size = 64 := by simp [hC]
theorem hC_at (H : Nat → Int) {k : Nat} (hk : k < 64) : (hC H)[k]? = some (.int .i64 (H k)) := by simp [hC, hk]
theorem hC_one (H : Nat → Int) : (hC H).all (·.oneCell') = true := by
  rw [Array.all_eq_true_iff_forall_mem]
  intro v hv
  simp [hC] at hv
  obtain ⟨k, _, rfl⟩ := hv
  rfl
theorem hC_ext {H G : Nat → Int} (h : ∀ k, k < 64 → H k = G k) : hC H = hC G := by
  unfold hC
  rw [List.map_congr_left fun k hk => by rw [h k (List.mem_range.1 hk)]]
theorem histSize : (Try.prog.info? 23).map (·.size) = some 64 := by kernel_rfl
theorem histSize' (H : Nat → Int) : (Try.prog.info? 23).map (·.size) = some (hC H).size := by rw [hC_size]; exact histSize
theorem intSize : (Try.prog.info? 3).map (·.size) = some 1 := by kernel_rfl
theorem size_int (w : World) : (sizeOf 3).run Try.prog w = .ok 1 w := by
  cases hq : Try.prog.info? 3 with
  | none => have := intSize; simp [hq] at this
  | some i =>
    have hs : i.size = 1 := by have := intSize; simpa [hq] using this
    simp [sizeOf, typeInfo, hq, hs]
theorem agg_int (w : World) : (isAgg 3).run Try.prog w = .ok false w := by
  unfold isAgg
  rw [Sem.run_bind, run_underlying Try.underlying3 w]
  rfl
theorem part_hist (H : Nat → Int) {k : Nat} (hk : k < 64) (w : World) : (part 3 (hC H) k).run Try.prog w = .ok (.int .i64 (H k)) w := by
  simp [part, Sem.run_bind, agg_int, hC_at H hk]
/-- A number of a histogram. -/
theorem index_hist (H : Nat → Int) {k : Nat} (hk : k < 64) (w : World) : (Instr.index 23 (hV H) (.int .i64 (k : Int))).run Try.prog w = .ok (.int .i64 (H k)) w := by
  have h1 : (0 : Int) ≤ (k : Int) ∧ (k : Int) < ((64 : Nat) : Int) := by omega
  unfold Instr.index
  simp only [asIntOf, Sem.run_bind, Sem.run_pure, Result.andThen_ok, run_underlying Try.underlying23, if_pos h1, size_int, Int.toNat_natCast, Nat.mul_one]
  exact part_hist H hk w
/-- A histogram in a block of its own. -/
def HB (W : World) (g : Nat) (H : Nat → Int) : Prop := W.heap[g]? = some (.cells (hC H) 23 (0, 0))
theorem HB.keep {W W' : World} {g : Nat} {H : Nat → Int} (h : HB W g H) (e : W'.heap[g]? = W.heap[g]?) : HB W' g H := e.trans h
theorem HB.lt {W : World} {g : Nat} {H : Nat → Int} (h : HB W g H) : g < W.heap.size := (Array.getElem?_eq_some_iff.1 h).1
theorem HB.cell {W : World} {g : Nat} {H : Nat → Int} (h : HB W g H) {k : Nat} (hk : k < 64) : W.cell? ⟨g, k, none⟩ = some (.int .i64 (H k)) := by
  unfold HB at h
  simp [World.cell?, h, hC_at H hk]
theorem HB.frozen {W : World} {g : Nat} {H : Nat → Int} (h : HB W g H) (k : Nat) : W.frozen? ⟨g, k, none⟩ = false := by
  unfold HB at h
  simp [World.frozen?, h]
theorem HB.set {W : World} {g : Nat} {H : Nat → Int} (h : HB W g H) (k : Nat) (x : Int) : HB (W.setCell ⟨g, k, none⟩ (.int .i64 x)) g (fun j => if j = k then x else H j) := by
  have e := heap_setCell_same W g k _ _ (.int .i64 x) h
  unfold HB
  rw [e]
  congr 2
  unfold hC
  apply Array.ext'
  simp only [Array.toList_setIfInBounds]
  apply List.ext_getElem
  · simp
  · intro i h1 h2
    simp only [List.getElem_set, List.getElem_map, List.getElem_range]
    by_cases c : k = i
    · subst c; simp
    · rw [if_neg c, if_neg (fun e => c e.symm)]
theorem HB.row {W : World} {g : Nat} {H : Nat → Int} (h : HB W g H) (G : Nat → Int) : HB (W.setRow g (hC G)) g G := setRow_heap W g (hC H) (hC G) 23 (0, 0) h
/-- A histogram is the same as itself. -/
theorem eq_loop (H : Nat → Int) (w : World) : ∀ l : List Nat, (∀ i ∈ l, i < 64) → Sem.run Try.prog
          (forIn l ((none, ()) : Option Bool × Unit) fun i __s => do
            let __do_lift ← part 3 (hC H) i
            let __do_lift_1 ← part 3 (hC H) i
            let __do_lift ← Op.equalIn 9999 3 __do_lift __do_lift_1
            if (!__do_lift) = true then pure (ForInStep.done (some false, ())) else pure (ForInStep.yield (none, ())))
          w = .ok (none, ()) w
  | [], _ => by simp
  | i :: l, h => by
    have e : (Op.equalIn 9999 3 (.int .i64 (H i)) (.int .i64 (H i))).run Try.prog w = .ok true w := by
      rw [show (9999 : Nat) = 9998 + 1 from rfl]
      unfold Op.equalIn
      simp only [Sem.run_bind, run_underlying Try.underlying3, Result.andThen_ok]
      simp
    rw [List.forIn_cons]
    simp only [Sem.run_bind, part_hist H (h i (by simp)), Result.andThen_ok, e]
    simp only [Bool.not_true, Bool.false_eq_true, if_false, Sem.run_pure, Result.andThen_ok]
    exact eq_loop H w l (fun j hj => h j (by simp [hj]))
theorem eq_hist (H : Nat → Int) (w : World) : (Op.equal 23 (hV H) (hV H)).run Try.prog w = .ok true w := by
  unfold Op.equal Op.maxDepth
  rw [show (10000 : Nat) = 9999 + 1 from rfl]
  unfold Op.equalIn
  simp only [Sem.run_bind, run_underlying Try.underlying23, Result.andThen_ok, size_int, Nat.mul_one]
  rw [Std.Legacy.Range.forIn_eq_forIn_range']
  rw [eq_loop H w _ (fun i hi => by simp [List.mem_range'] at hi; omega)]
  simp
end Go.Proofs.Ythbgeikdamajlaa
