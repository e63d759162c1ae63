/- Apportion at the law's own example: the walk. -/
import Derived.Test.YtacliakmhkebbaaDoorA2
namespace Go.Proofs.YtacliakmhkebbaaDoor
open Go.RowKit
set_option linter.unusedVariables false
set_option linter.unusedSimpArgs false

theorem cell_kept {w w' : World} {k o : Nat} (h : w'.heap[k]? = w.heap[k]?) : w'.cell? ⟨k, o, none⟩ = w.cell? ⟨k, o, none⟩ := World.cell?_of_block (w := w) (a := ⟨k, o, none⟩) h
theorem frozen_kept {w w' : World} {k o : Nat} (h : w'.heap[k]? = w.heap[k]?) : w'.frozen? ⟨k, o, none⟩ = w.frozen? ⟨k, o, none⟩ := World.frozen?_of_block (w := w) (a := ⟨k, o, none⟩) h
theorem A3.sorted {b : Nat} {w0 w w' : World} {p0 p1 p2 r0 r1 r2 o0 o1 o2 x y z : Int} (s : A3 b w0 w p0 p1 p2 r0 r1 r2 o0 o1 o2)
    (t : S3 (w0.heap.size + 1 + 1) (w0.heap.size + 1) (w0.heap.size + 1 + 1 + 1) 3 w w' x y z) : A3 b w0 w' p0 p1 p2 r0 r1 r2 x y z := by
  have hb := s.lt
  have kb := t.bl b (by omega)
  have k0 := t.bl w0.heap.size (by omega)
  have k1 := t.bl (w0.heap.size + 1) (by omega)
  have k2 := t.bl (w0.heap.size + 1 + 1) (by omega)
  exact ⟨(cell_kept kb).trans s.c0, (cell_kept kb).trans s.c1, (cell_kept kb).trans s.c2, (cell_kept k2).trans s.bx, (cell_kept k0).trans s.P0, (cell_kept k0).trans s.P1, (cell_kept k0).trans s.P2,
    (cell_kept k1).trans s.R0, (cell_kept k1).trans s.R1, (cell_kept k1).trans s.R2, t.b0, t.b1, t.b2, (frozen_kept k0).trans s.fP0, (frozen_kept k0).trans s.fP1, (frozen_kept k0).trans s.fP2,
    (frozen_kept k1).trans s.fR0, (frozen_kept k1).trans s.fR1, (frozen_kept k1).trans s.fR2, t.f0, t.f1, t.f2, t.sz.trans s.sz, hb, fun k hk => (t.bl k (by omega)).trans (s.bl k hk), t.os.trans s.os, t.tp.trans s.tp, t.ou.trans s.ou⟩

set_option maxRecDepth 100000 in
set_option maxHeartbeats 1000000 in
theorem apportion3 (b cap : Nat) (w : World) (c0 : w.cell? ⟨b, 0, none⟩ = some (.int .i64 3)) (c1 : w.cell? ⟨b, 1, none⟩ = some (.int .i64 3)) (c2 : w.cell? ⟨b, 2, none⟩ = some (.int .i64 1)) :
    Calls Tryd.prog 10 #[.int .i64 10, .slice (some ⟨b, 0, none⟩) 3 cap] w fun e w' => ∃ g cp, e = .returned (.tuple #[.slice (some ⟨g, 0, none⟩) 3 cp, .int .i64 0]) ∧
      w'.cell? ⟨g, 0, none⟩ = some (.int .i64 4) ∧ w'.cell? ⟨g, 1, none⟩ = some (.int .i64 4) ∧ w'.cell? ⟨g, 2, none⟩ = some (.int .i64 2) ∧ Below w.heap.size w w' := by
  have hmk : ∀ w, (Instr.makeSlice 22 (.int .i64 3) (.int .i64 3)).run Tryd.prog w = .ok (.slice (some ⟨w.heap.size, 0, none⟩) 3 3) (w.alloc (.cells #[.int .i64 0, .int .i64 0, .int .i64 0] 3)) := fun _ => by kernel_rfl
  have hmu : ∀ w, (Instr.makeSlice 58 (.int .i64 3) (.int .i64 3)).run Tryd.prog w = .ok (.slice (some ⟨w.heap.size, 0, none⟩) 3 3) (w.alloc (.cells #[.int .u64 0, .int .u64 0, .int .u64 0] 59)) := fun _ => by kernel_rfl
  have lb : b < w.heap.size := World.block_lt_of_cell? w _ c0
  have lb1 : b < w.heap.size + 1 := by omega
  have lb2 : b < w.heap.size + 1 + 1 := by omega
  have lb3 : b < w.heap.size + 1 + 1 + 1 := by omega
  go_enter Tryd.func10, Tryd.ntmps10
  go_wp2_with fail
  refine (sumOf3 b cap w c0 c1 c2).mono ?_
  rintro e w1 ⟨rfl, rfl⟩
  go_wp2_with fail
  have s0 : A3 b w ((((w.alloc (Obj.cells #[Value.int IntKind.i64 0, Value.int IntKind.i64 0, Value.int IntKind.i64 0] 3)).alloc (Obj.cells #[Value.int IntKind.u64 0, Value.int IntKind.u64 0, Value.int IntKind.u64 0] 59)).alloc (Obj.cells #[Value.slice (some ⟨w.heap.size + 1, 0, none⟩) 3 3] 58)).alloc (Obj.cells #[Value.int IntKind.i64 0, Value.int IntKind.i64 0, Value.int IntKind.i64 0] 3)) 0 0 0 0 0 0 0 0 0 := by
    refine ⟨?_, ?_, ?_, ?_, ?_, ?_, ?_, ?_, ?_, ?_, ?_, ?_, ?_, ?_, ?_, ?_, ?_, ?_, ?_, ?_, ?_, ?_, ?_, lb, fun k hk => ?_, rfl, rfl, rfl⟩
    all_goals first | (rw [Below.heap_alloc _ _ _ (by simp; omega), Below.heap_alloc _ _ _ (by simp; omega), Below.heap_alloc _ _ _ (by simp; omega), Below.heap_alloc _ _ _ hk]; done) | (simp [go_sem, c0, c1, c2, lb, lb1, lb2, lb3]; done)
  clear c0 c1 c2 lb lb1 lb2 lb3 hmk hmu
  generalize ((((w.alloc (Obj.cells #[Value.int IntKind.i64 0, Value.int IntKind.i64 0, Value.int IntKind.i64 0] 3)).alloc (Obj.cells #[Value.int IntKind.u64 0, Value.int IntKind.u64 0, Value.int IntKind.u64 0] 59)).alloc (Obj.cells #[Value.slice (some ⟨w.heap.size + 1, 0, none⟩) 3 3] 58)).alloc (Obj.cells #[Value.int IntKind.i64 0, Value.int IntKind.i64 0, Value.int IntKind.i64 0] 3)) = w1 at s0 ⊢
  obtain ⟨c0, c1, c2, bx, P0, P1, P2, R0, R1, R2, O0, O1, O2, fP0, fP1, fP2, fR0, fR1, fR2, fO0, fO1, fO2, sz, lt, -, -, -, -⟩ := id s0
  refine wp_loop_rounds 4 ?_
  rw [rounds_succ]
  go_wp2_with fail
  go_region_held3 (fun w' => w'.cell? ⟨w.heap.size + 1 + 1, 0, none⟩ = some (.slice (some ⟨w.heap.size + 1, 0, none⟩) 3 3))
    (first | exact bx | (simp [go_sem, bx]; done))
    (first | (go_at_call 33; refine (share_lo 10 3 7 (by decide) (by decide) (by decide) (by decide) (by decide) (by decide) (by decide) _).mono ?_; rintro e w2 ⟨rfl, n1, rfl⟩))
  replace s0 := ((s0.drewN (1 + n1)).setP0 4).setR0 2
  clear c0 c1 c2 bx P0 P1 P2 R0 R1 R2 O0 O1 O2 fP0 fP1 fP2 fR0 fR1 fR2 fO0 fO1 fO2 sz lt
  generalize (((w1.drewN (1 + n1)).setCell ⟨w.heap.size, 0, none⟩ (.int .i64 4)).setCell ⟨w.heap.size + 1, 0, none⟩ (.int .u64 2)) = v0 at s0 ⊢
  obtain ⟨c0, c1, c2, bx, P0, P1, P2, R0, R1, R2, O0, O1, O2, fP0, fP1, fP2, fR0, fR1, fR2, fO0, fO1, fO2, sz, lt, -, -, -, -⟩ := id s0
  go_wp2_with fail
  replace s0 := s0.setO0 0
  clear c0 c1 c2 bx P0 P1 P2 R0 R1 R2 O0 O1 O2 fP0 fP1 fP2 fR0 fR1 fR2 fO0 fO1 fO2 sz lt
  generalize (v0.setCell ⟨w.heap.size + 1 + 1 + 1, 0, none⟩ (.int .i64 0)) = u0 at s0 ⊢
  obtain ⟨c0, c1, c2, bx, P0, P1, P2, R0, R1, R2, O0, O1, O2, fP0, fP1, fP2, fR0, fR1, fR2, fO0, fO1, fO2, sz, lt, -, -, -, -⟩ := id s0
  rw [rounds_succ]
  go_wp2_with fail
  go_region_held3 (fun w' => w'.cell? ⟨w.heap.size + 1 + 1, 0, none⟩ = some (.slice (some ⟨w.heap.size + 1, 0, none⟩) 3 3))
    (first | exact bx | (simp [go_sem, bx]; done))
    (first | (go_at_call 33; refine (share_lo 10 3 7 (by decide) (by decide) (by decide) (by decide) (by decide) (by decide) (by decide) _).mono ?_; rintro e w2 ⟨rfl, n1, rfl⟩))
  replace s0 := ((s0.drewN (1 + n1)).setP1 4).setR1 2
  clear c0 c1 c2 bx P0 P1 P2 R0 R1 R2 O0 O1 O2 fP0 fP1 fP2 fR0 fR1 fR2 fO0 fO1 fO2 sz lt
  generalize (((u0.drewN (1 + n1)).setCell ⟨w.heap.size, 1, none⟩ (.int .i64 4)).setCell ⟨w.heap.size + 1, 1, none⟩ (.int .u64 2)) = v1 at s0 ⊢
  obtain ⟨c0, c1, c2, bx, P0, P1, P2, R0, R1, R2, O0, O1, O2, fP0, fP1, fP2, fR0, fR1, fR2, fO0, fO1, fO2, sz, lt, -, -, -, -⟩ := id s0
  go_wp2_with fail
  replace s0 := s0.setO1 1
  clear c0 c1 c2 bx P0 P1 P2 R0 R1 R2 O0 O1 O2 fP0 fP1 fP2 fR0 fR1 fR2 fO0 fO1 fO2 sz lt
  generalize (v1.setCell ⟨w.heap.size + 1 + 1 + 1, 1, none⟩ (.int .i64 1)) = u1 at s0 ⊢
  obtain ⟨c0, c1, c2, bx, P0, P1, P2, R0, R1, R2, O0, O1, O2, fP0, fP1, fP2, fR0, fR1, fR2, fO0, fO1, fO2, sz, lt, -, -, -, -⟩ := id s0
  rw [rounds_succ]
  go_wp2_with fail
  go_region_held3 (fun w' => w'.cell? ⟨w.heap.size + 1 + 1, 0, none⟩ = some (.slice (some ⟨w.heap.size + 1, 0, none⟩) 3 3))
    (first | exact bx | (simp [go_sem, bx]; done))
    (first | (go_at_call 33; refine (share_lo 10 1 7 (by decide) (by decide) (by decide) (by decide) (by decide) (by decide) (by decide) _).mono ?_; rintro e w2 ⟨rfl, n1, rfl⟩))
  replace s0 := ((s0.drewN (1 + n1)).setP2 1).setR2 3
  clear c0 c1 c2 bx P0 P1 P2 R0 R1 R2 O0 O1 O2 fP0 fP1 fP2 fR0 fR1 fR2 fO0 fO1 fO2 sz lt
  generalize (((u1.drewN (1 + n1)).setCell ⟨w.heap.size, 2, none⟩ (.int .i64 1)).setCell ⟨w.heap.size + 1, 2, none⟩ (.int .u64 3)) = v2 at s0 ⊢
  obtain ⟨c0, c1, c2, bx, P0, P1, P2, R0, R1, R2, O0, O1, O2, fP0, fP1, fP2, fR0, fR1, fR2, fO0, fO1, fO2, sz, lt, -, -, -, -⟩ := id s0
  go_wp2_with fail
  replace s0 := s0.setO2 2
  clear c0 c1 c2 bx P0 P1 P2 R0 R1 R2 O0 O1 O2 fP0 fP1 fP2 fR0 fR1 fR2 fO0 fO1 fO2 sz lt
  generalize (v2.setCell ⟨w.heap.size + 1 + 1 + 1, 2, none⟩ (.int .i64 2)) = u2 at s0 ⊢
  obtain ⟨c0, c1, c2, bx, P0, P1, P2, R0, R1, R2, O0, O1, O2, fP0, fP1, fP2, fR0, fR1, fR2, fO0, fO1, fO2, sz, lt, -, -, -, -⟩ := id s0
  rw [rounds_succ]
  go_wp2_with fail
  refine (sort3 (w.heap.size + 1 + 1) (w.heap.size + 1) (w.heap.size + 1 + 1 + 1) 3 3 u2 u2 (by omega) (by omega) ⟨bx, R0, R1, R2, O0, O1, O2, fO0, fO1, fO2, rfl, fun _ _ => rfl, rfl, rfl, rfl⟩).mono ?_
  rintro e w3 ⟨rfl, s1⟩
  replace s0 := s0.sorted s1
  clear s1
  clear c0 c1 c2 bx P0 P1 P2 R0 R1 R2 O0 O1 O2 fP0 fP1 fP2 fR0 fR1 fR2 fO0 fO1 fO2 sz lt
  obtain ⟨c0, c1, c2, bx, P0, P1, P2, R0, R1, R2, O0, O1, O2, fP0, fP1, fP2, fR0, fR1, fR2, fO0, fO1, fO2, sz, lt, -, -, -, -⟩ := id s0
  go_wp2_with fail
  refine wp_loop_rounds 2 ?_
  rw [rounds_succ]
  go_wp2_with fail
  replace s0 := s0.setP2 2
  clear c0 c1 c2 bx P0 P1 P2 R0 R1 R2 O0 O1 O2 fP0 fP1 fP2 fR0 fR1 fR2 fO0 fO1 fO2 sz lt
  generalize (w3.setCell ⟨w.heap.size, 2, none⟩ (.int .i64 2)) = w4 at s0 ⊢
  obtain ⟨c0, c1, c2, bx, P0, P1, P2, R0, R1, R2, O0, O1, O2, fP0, fP1, fP2, fR0, fR1, fR2, fO0, fO1, fO2, sz, lt, -, -, -, -⟩ := id s0
  rw [rounds_succ]
  go_wp2_with fail
  go_ret2
  exact ⟨w.heap.size, 3, rfl, P0, P1, P2, s0.os, s0.tp, s0.ou, by omega, s0.bl⟩
end Go.Proofs.YtacliakmhkebbaaDoor
