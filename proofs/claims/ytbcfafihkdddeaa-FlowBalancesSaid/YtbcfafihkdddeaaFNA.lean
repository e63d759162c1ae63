/- Flow: newNetwork, add. -/
import Derived.Test.YtbcfafihkdddeaaFN9
namespace Go.Proofs.Ytbcfafihkdddeaa
open Go.RowKit
set_option linter.unusedVariables false
set_option linter.unusedSimpArgs false

theorem rowInfo : (Try.prog.info? 40).map (fun i => (i.zero, i.size, i.bytes)) = some (some (.slice none 0 0), 1, 24) := by kernel_rfl
theorem edgeInfo : (Try.prog.info? 143).map (fun i => (i.zero, i.size, i.bytes)) = some (some (.agg #[.int .i64 0, .int .i64 0, .int .i64 0, .int .i64 0]), 4, 32) := by kernel_rfl
theorem three (w : World) (o1 o2 o3 : Obj) : (((w.alloc o1).alloc o2).alloc o3).heap[w.heap.size]? = some o1 ∧ (((w.alloc o1).alloc o2).alloc o3).heap[w.heap.size + 1]? = some o2 ∧ (((w.alloc o1).alloc o2).alloc o3).heap[w.heap.size + 1 + 1]? = some o3 ∧ Below w.heap.size w (((w.alloc o1).alloc o2).alloc o3) := by
  refine ⟨?_, ?_, ?_, (((Below.refl _ w).alloc (Nat.le_refl _) _).alloc (by simp) _).alloc (by simp; omega) _⟩
  · rw [Below.heap_alloc _ _ _ (by simp; omega), Below.heap_alloc _ _ _ (by simp), heap_alloc_new]
  · rw [Below.heap_alloc _ _ _ (by simp)]
    have := heap_alloc_new (w.alloc o1) o2
    simpa using this
  · have := heap_alloc_new ((w.alloc o1).alloc o2) o3
    simpa using this
theorem madeRows (n : Nat) : madeCells (Value.slice none 0 0).cells n = lvC n (fun _ => .slice none 0 0) := by
  unfold lvC
  apply Array.ext'
  rw [show (Value.slice none 0 0).cells = #[.slice none 0 0] from rfl, toList_madeCells_one]
  apply List.ext_getElem <;> simp
theorem madeInts (n : Nat) : madeCells (Value.int .i64 0).cells n = ((List.range n).map fun k => Value.int .i64 ((fun _ => 0) k)).toArray := by
  apply Array.ext'
  have := made_ints n
  rw [Nat.mul_one] at this
  rw [this]
theorem NW.new {w W : World} {b rl rp n : Nat} (x0 : W.heap[b]? = some (.cells #[.slice none 0 0, .slice (some ⟨rl, 0, none⟩) n n, .slice (some ⟨rp, 0, none⟩) n n] 137 (0, 0))) (xl : W.heap[rl]? = some (.cells (madeCells (Value.slice none 0 0).cells n) 40 (0, 0))) (xp : W.heap[rp]? = some (.cells (madeCells (Value.int .i64 0).cells n) 3 (0, 0))) (st : Below w.heap.size w W) (ne : b ≠ rl ∧ b ≠ rp ∧ rl ≠ rp) (lo : w.heap.size ≤ b ∧ w.heap.size ≤ rl ∧ w.heap.size ≤ rp) :
    ∃ b' rl' rp', Ending.returned (.pointer (some ⟨b, 0, none⟩)) = .returned (.pointer (some ⟨b', 0, none⟩)) ∧ NW w.heap.size b' rl' rp' n 0 (.slice none 0 0) [] (fun _ => .slice none 0 0) (fun _ => 0) W ∧ Below w.heap.size w W := by
  refine ⟨b, rl, rp, rfl, ⟨x0, World.ownsRow_nil _ _ _ _, by rw [xl, madeRows], by unfold IR; rw [xp, madeInts], fun i _ => ⟨0, [], World.ownsRow_nil _ _ _ _, Nat.le_refl _⟩, fun i j _ _ _ k e => (by cases e), ⟨fun e => (by cases e), fun e => (by cases e), fun e => (by cases e)⟩, fun i _ => ⟨fun e => (by cases e), fun e => (by cases e), fun e => (by cases e)⟩, fun i _ k e => (by cases e), ne.1, ne.2.1, ne.2.2, lo.1, lo.2.1, lo.2.2⟩, st⟩

set_option maxRecDepth 100000 in
set_option maxHeartbeats 16000000 in
theorem newNetwork_any (n : Nat) (hn : n ≤ 1000) (w : World) :
    Calls Try.prog 144 #[.int .i64 (n : Int)] w fun e w' => ∃ b rl rp, e = .returned (.pointer (some ⟨b, 0, none⟩)) ∧ NW w.heap.size b rl rp n 0 (.slice none 0 0) [] (fun _ => .slice none 0 0) (fun _ => 0) w' ∧ Below w.heap.size w w' := by
  obtain ⟨i0, hi, hz0, hz1, hz2⟩ := info_parts intInfo
  obtain ⟨j0, hj, hy0, hy1, hy2⟩ := info_parts rowInfo
  have MK1 : ∀ W : World, (Instr.makeSlice 40 (.int .i64 (n : Int)) (.int .i64 (n : Int))).run Try.prog W = .ok (.slice (some ⟨W.heap.size, 0, none⟩) n n) (W.alloc (.cells (madeCells (Value.int .i64 0).cells n) 3)) := fun W => by
    have := run_make (P := Try.prog) W 40 3 i0 (.int .i64 0) Try.underlying40 hi hz0 .i64 .i64 n n (by omega) (Int.le_refl _) (by rw [hz2]; omega) (by omega)
    rw [hz1] at this
    simpa using this
  have MK2 : ∀ W : World, (Instr.makeSlice 116 (.int .i64 (n : Int)) (.int .i64 (n : Int))).run Try.prog W = .ok (.slice (some ⟨W.heap.size, 0, none⟩) n n) (W.alloc (.cells (madeCells (Value.slice none 0 0).cells n) 40)) := fun W => by
    have := run_make (P := Try.prog) W 116 40 j0 (.slice none 0 0) Try.underlying116 hj hy0 .i64 .i64 n n (by omega) (Int.le_refl _) (by rw [hy2]; omega) (by omega)
    rw [hy1] at this
    simpa using this
  clear hi hz0 hz1 hz2 hj hy0 hy1 hy2
  go_enter Try.func144, Try.ntmps144
  go_upto_region 1 with fail
  go_region_held3 (fun _ => True) (trivial) (fail)
  all_goals
    go_wp2_with fail
    go_ret
    refine' NW.new ?x0 ?xl ?xp ?st ?ne ?lo
    case x0 => first | exact (three _ _ _ _).1 | exact (three _ _ _ _).2.1 | exact (three _ _ _ _).2.2.1
    case xl => first | exact (three _ _ _ _).1 | exact (three _ _ _ _).2.1 | exact (three _ _ _ _).2.2.1
    case xp => first | exact (three _ _ _ _).1 | exact (three _ _ _ _).2.1 | exact (three _ _ _ _).2.2.1
    case st => first | exact (three _ _ _ _).2.2.2 | exact (three _ _ _ _).2.2.2.drew | exact below_drewN (three _ _ _ _).2.2.2 _
    case ne => omega
    case lo => omega
end Go.Proofs.Ytbcfafihkdddeaa
