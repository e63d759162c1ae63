/- Several texts in one: C2 A3 C3 E1. -/
import Derived.Test.YtacliakmhkebbaaDoorWH12
import Derived.Test.YtacliakmhkebbaaDoorWH4
import Derived.Deep.RegionLaw

/- Best at the law's own example. -/
namespace Go.Proofs.YtacliakmhkebbaaDoor
open Go.RowKit
set_option linter.unusedVariables false
set_option linter.unusedSimpArgs false

/-- Best's three variables: the result, 'before', 'last'. -/
structure BS (w0 w : World) (xn xd bn bd ln ld : Int) : Prop where
  x0 : w.cell? ⟨w0.heap.size, 0, none⟩ = some (.int .i64 xn)
  x1 : w.cell? ⟨w0.heap.size, 1, none⟩ = some (.int .i64 xd)
  b0 : w.cell? ⟨w0.heap.size + 1, 0, none⟩ = some (.int .i64 bn)
  b1 : w.cell? ⟨w0.heap.size + 1, 1, none⟩ = some (.int .i64 bd)
  l0 : w.cell? ⟨w0.heap.size + 1 + 1, 0, none⟩ = some (.int .i64 ln)
  l1 : w.cell? ⟨w0.heap.size + 1 + 1, 1, none⟩ = some (.int .i64 ld)
  fx0 : w.frozen? ⟨w0.heap.size, 0, none⟩ = false
  fx1 : w.frozen? ⟨w0.heap.size, 1, none⟩ = false
  fb0 : w.frozen? ⟨w0.heap.size + 1, 0, none⟩ = false
  fb1 : w.frozen? ⟨w0.heap.size + 1, 1, none⟩ = false
  fl0 : w.frozen? ⟨w0.heap.size + 1 + 1, 0, none⟩ = false
  fl1 : w.frozen? ⟨w0.heap.size + 1 + 1, 1, none⟩ = false
  sz : w0.heap.size + 1 + 1 < w.heap.size
  bl : Below w0.heap.size w0 w
theorem BS.drew {w0 w : World} {xn xd bn bd ln ld : Int} (s : BS w0 w xn xd bn bd ln ld) : BS w0 w.drew xn xd bn bd ln ld :=
  ⟨s.x0, s.x1, s.b0, s.b1, s.l0, s.l1, s.fx0, s.fx1, s.fb0, s.fb1, s.fl0, s.fl1, s.sz, s.bl.drew⟩
theorem BS.drewN {w0 w : World} {xn xd bn bd ln ld : Int} (s : BS w0 w xn xd bn bd ln ld) (n : Nat) : BS w0 (w.drewN n) xn xd bn bd ln ld :=
  ⟨s.x0, s.x1, s.b0, s.b1, s.l0, s.l1, s.fx0, s.fx1, s.fb0, s.fb1, s.fl0, s.fl1, s.sz, below_drewN s.bl n⟩
theorem BS.below {w0 w w' : World} {xn xd bn bd ln ld : Int} (s : BS w0 w xn xd bn bd ln ld) (h : Below w.heap.size w w') : BS w0 w' xn xd bn bd ln ld := by
  have z := s.sz
  have z1 : w0.heap.size + 1 < w.heap.size := by omega
  have z0 : w0.heap.size < w.heap.size := by omega
  exact ⟨(h.cell z0).trans s.x0, (h.cell z0).trans s.x1, (h.cell z1).trans s.b0, (h.cell z1).trans s.b1, (h.cell z).trans s.l0, (h.cell z).trans s.l1,
    (h.frozen z0).trans s.fx0, (h.frozen z0).trans s.fx1, (h.frozen z1).trans s.fb0, (h.frozen z1).trans s.fb1, (h.frozen z).trans s.fl0, (h.frozen z).trans s.fl1, Nat.lt_of_lt_of_le z h.size, s.bl.trans (h.mono s.bl.size)⟩
theorem BS.setx0 {w0 w : World} {xn xd bn bd ln ld : Int} (s : BS w0 w xn xd bn bd ln ld) (v : Int) : BS w0 (w.setCell ⟨w0.heap.size, 0, none⟩ (.int .i64 v)) v xd bn bd ln ld := by
  obtain ⟨x0, x1, b0, b1, l0, l1, fx0, fx1, fb0, fb1, fl0, fl1, sz, bl⟩ := s
  refine ⟨?_, ?_, ?_, ?_, ?_, ?_, ?_, ?_, ?_, ?_, ?_, ?_, ?_, bl.setCell (by simp; try omega) _⟩
  all_goals (simp [go_sem, x0, x1, b0, b1, l0, l1, fx0, fx1, fb0, fb1, fl0, fl1, sz]; done)
theorem BS.setx1 {w0 w : World} {xn xd bn bd ln ld : Int} (s : BS w0 w xn xd bn bd ln ld) (v : Int) : BS w0 (w.setCell ⟨w0.heap.size, 1, none⟩ (.int .i64 v)) xn v bn bd ln ld := by
  obtain ⟨x0, x1, b0, b1, l0, l1, fx0, fx1, fb0, fb1, fl0, fl1, sz, bl⟩ := s
  refine ⟨?_, ?_, ?_, ?_, ?_, ?_, ?_, ?_, ?_, ?_, ?_, ?_, ?_, bl.setCell (by simp; try omega) _⟩
  all_goals (simp [go_sem, x0, x1, b0, b1, l0, l1, fx0, fx1, fb0, fb1, fl0, fl1, sz]; done)
theorem BS.setb0 {w0 w : World} {xn xd bn bd ln ld : Int} (s : BS w0 w xn xd bn bd ln ld) (v : Int) : BS w0 (w.setCell ⟨w0.heap.size + 1, 0, none⟩ (.int .i64 v)) xn xd v bd ln ld := by
  obtain ⟨x0, x1, b0, b1, l0, l1, fx0, fx1, fb0, fb1, fl0, fl1, sz, bl⟩ := s
  refine ⟨?_, ?_, ?_, ?_, ?_, ?_, ?_, ?_, ?_, ?_, ?_, ?_, ?_, bl.setCell (by simp; try omega) _⟩
  all_goals (simp [go_sem, x0, x1, b0, b1, l0, l1, fx0, fx1, fb0, fb1, fl0, fl1, sz]; done)
theorem BS.setb1 {w0 w : World} {xn xd bn bd ln ld : Int} (s : BS w0 w xn xd bn bd ln ld) (v : Int) : BS w0 (w.setCell ⟨w0.heap.size + 1, 1, none⟩ (.int .i64 v)) xn xd bn v ln ld := by
  obtain ⟨x0, x1, b0, b1, l0, l1, fx0, fx1, fb0, fb1, fl0, fl1, sz, bl⟩ := s
  refine ⟨?_, ?_, ?_, ?_, ?_, ?_, ?_, ?_, ?_, ?_, ?_, ?_, ?_, bl.setCell (by simp; try omega) _⟩
  all_goals (simp [go_sem, x0, x1, b0, b1, l0, l1, fx0, fx1, fb0, fb1, fl0, fl1, sz]; done)
theorem BS.setl0 {w0 w : World} {xn xd bn bd ln ld : Int} (s : BS w0 w xn xd bn bd ln ld) (v : Int) : BS w0 (w.setCell ⟨w0.heap.size + 1 + 1, 0, none⟩ (.int .i64 v)) xn xd bn bd v ld := by
  obtain ⟨x0, x1, b0, b1, l0, l1, fx0, fx1, fb0, fb1, fl0, fl1, sz, bl⟩ := s
  refine ⟨?_, ?_, ?_, ?_, ?_, ?_, ?_, ?_, ?_, ?_, ?_, ?_, ?_, bl.setCell (by simp; try omega) _⟩
  all_goals (simp [go_sem, x0, x1, b0, b1, l0, l1, fx0, fx1, fb0, fb1, fl0, fl1, sz]; done)
theorem BS.setl1 {w0 w : World} {xn xd bn bd ln ld : Int} (s : BS w0 w xn xd bn bd ln ld) (v : Int) : BS w0 (w.setCell ⟨w0.heap.size + 1 + 1, 1, none⟩ (.int .i64 v)) xn xd bn bd ln v := by
  obtain ⟨x0, x1, b0, b1, l0, l1, fx0, fx1, fb0, fb1, fl0, fl1, sz, bl⟩ := s
  refine ⟨?_, ?_, ?_, ?_, ?_, ?_, ?_, ?_, ?_, ?_, ?_, ?_, ?_, bl.setCell (by simp; try omega) _⟩
  all_goals (simp [go_sem, x0, x1, b0, b1, l0, l1, fx0, fx1, fb0, fb1, fl0, fl1, sz]; done)
end Go.Proofs.YtacliakmhkebbaaDoor

/- Apportion at the law's own example: the walk. -/
namespace Go.Proofs.YtacliakmhkebbaaDoor
open Go.RowKit
set_option linter.unusedVariables false
set_option linter.unusedSimpArgs false

theorem cell_kept {w w' : World} {k o : Nat} (h : w'.heap[k]? = w.heap[k]?) : w'.cell? ⟨k, o, none⟩ = w.cell? ⟨k, o, none⟩ := World.cell?_of_block (w := w) (a := ⟨k, o, none⟩) h
theorem frozen_kept {w w' : World} {k o : Nat} (h : w'.heap[k]? = w.heap[k]?) : w'.frozen? ⟨k, o, none⟩ = w.frozen? ⟨k, o, none⟩ := World.frozen?_of_block (w := w) (a := ⟨k, o, none⟩) h
theorem A3.sorted {b : Nat} {w0 w w' : World} {p0 p1 p2 r0 r1 r2 o0 o1 o2 x y z : Int} (s : A3 b w0 w p0 p1 p2 r0 r1 r2 o0 o1 o2)
    (t : S3 (w0.heap.size + 1 + 1) (w0.heap.size + 1) (w0.heap.size + 1 + 1 + 1) 3 w w' x y z) : A3 b w0 w' p0 p1 p2 r0 r1 r2 x y z := by
  have hb := s.lt
  have kb := t.bl b (by omega)
  have k0 := t.bl w0.heap.size (by omega)
  have k1 := t.bl (w0.heap.size + 1) (by omega)
  have k2 := t.bl (w0.heap.size + 1 + 1) (by omega)
  exact ⟨(cell_kept kb).trans s.c0, (cell_kept kb).trans s.c1, (cell_kept kb).trans s.c2, (cell_kept k2).trans s.bx, (cell_kept k0).trans s.P0, (cell_kept k0).trans s.P1, (cell_kept k0).trans s.P2,
    (cell_kept k1).trans s.R0, (cell_kept k1).trans s.R1, (cell_kept k1).trans s.R2, t.b0, t.b1, t.b2, (frozen_kept k0).trans s.fP0, (frozen_kept k0).trans s.fP1, (frozen_kept k0).trans s.fP2,
    (frozen_kept k1).trans s.fR0, (frozen_kept k1).trans s.fR1, (frozen_kept k1).trans s.fR2, t.f0, t.f1, t.f2, t.sz.trans s.sz, hb, fun k hk => (t.bl k (by omega)).trans (s.bl k hk), t.os.trans s.os, t.tp.trans s.tp, t.ou.trans s.ou⟩

set_option maxRecDepth 100000 in
set_option maxHeartbeats 1000000 in
theorem apportion3 (b cap : Nat) (w : World) (c0 : w.cell? ⟨b, 0, none⟩ = some (.int .i64 3)) (c1 : w.cell? ⟨b, 1, none⟩ = some (.int .i64 3)) (c2 : w.cell? ⟨b, 2, none⟩ = some (.int .i64 1)) :
    Calls Tryd.prog 10 #[.int .i64 10, .slice (some ⟨b, 0, none⟩) 3 cap] w fun e w' => ∃ g cp, e = .returned (.tuple #[.slice (some ⟨g, 0, none⟩) 3 cp, .int .i64 0]) ∧
      w'.cell? ⟨g, 0, none⟩ = some (.int .i64 4) ∧ w'.cell? ⟨g, 1, none⟩ = some (.int .i64 4) ∧ w'.cell? ⟨g, 2, none⟩ = some (.int .i64 2) ∧ Below w.heap.size w w' := by
  have hmk : ∀ w, (Instr.makeSlice 22 (.int .i64 3) (.int .i64 3)).run Tryd.prog w = .ok (.slice (some ⟨w.heap.size, 0, none⟩) 3 3) (w.alloc (.cells #[.int .i64 0, .int .i64 0, .int .i64 0] 3)) := fun _ => by kernel_rfl
  have hmu : ∀ w, (Instr.makeSlice 58 (.int .i64 3) (.int .i64 3)).run Tryd.prog w = .ok (.slice (some ⟨w.heap.size, 0, none⟩) 3 3) (w.alloc (.cells #[.int .u64 0, .int .u64 0, .int .u64 0] 59)) := fun _ => by kernel_rfl
  have lb : b < w.heap.size := World.block_lt_of_cell? w _ c0
  have lb1 : b < w.heap.size + 1 := by omega
  have lb2 : b < w.heap.size + 1 + 1 := by omega
  have lb3 : b < w.heap.size + 1 + 1 + 1 := by omega
  go_enter Tryd.func10, Tryd.ntmps10
  go_wp2_with fail
  refine (sumOf3 b cap w c0 c1 c2).mono ?_
  rintro e w1 ⟨rfl, rfl⟩
  go_wp2_with fail
  have s0 : A3 b w ((((w.alloc (Obj.cells #[Value.int IntKind.i64 0, Value.int IntKind.i64 0, Value.int IntKind.i64 0] 3)).alloc (Obj.cells #[Value.int IntKind.u64 0, Value.int IntKind.u64 0, Value.int IntKind.u64 0] 59)).alloc (Obj.cells #[Value.slice (some ⟨w.heap.size + 1, 0, none⟩) 3 3] 58)).alloc (Obj.cells #[Value.int IntKind.i64 0, Value.int IntKind.i64 0, Value.int IntKind.i64 0] 3)) 0 0 0 0 0 0 0 0 0 := by
    refine ⟨?_, ?_, ?_, ?_, ?_, ?_, ?_, ?_, ?_, ?_, ?_, ?_, ?_, ?_, ?_, ?_, ?_, ?_, ?_, ?_, ?_, ?_, ?_, lb, fun k hk => ?_, rfl, rfl, rfl⟩
    all_goals first | (rw [Below.heap_alloc _ _ _ (by simp; omega), Below.heap_alloc _ _ _ (by simp; omega), Below.heap_alloc _ _ _ (by simp; omega), Below.heap_alloc _ _ _ hk]; done) | (simp [go_sem, c0, c1, c2, lb, lb1, lb2, lb3]; done)
  clear c0 c1 c2 lb lb1 lb2 lb3 hmk hmu
  generalize ((((w.alloc (Obj.cells #[Value.int IntKind.i64 0, Value.int IntKind.i64 0, Value.int IntKind.i64 0] 3)).alloc (Obj.cells #[Value.int IntKind.u64 0, Value.int IntKind.u64 0, Value.int IntKind.u64 0] 59)).alloc (Obj.cells #[Value.slice (some ⟨w.heap.size + 1, 0, none⟩) 3 3] 58)).alloc (Obj.cells #[Value.int IntKind.i64 0, Value.int IntKind.i64 0, Value.int IntKind.i64 0] 3)) = w1 at s0 ⊢
  obtain ⟨c0, c1, c2, bx, P0, P1, P2, R0, R1, R2, O0, O1, O2, fP0, fP1, fP2, fR0, fR1, fR2, fO0, fO1, fO2, sz, lt, -, -, -, -⟩ := id s0
  refine wp_loop_rounds 4 ?_
  rw [rounds_succ]
  go_wp2_with fail
  go_region_held3 (fun w' => w'.cell? ⟨w.heap.size + 1 + 1, 0, none⟩ = some (.slice (some ⟨w.heap.size + 1, 0, none⟩) 3 3))
    (first | exact bx | (simp [go_sem, bx]; done))
    (first | (go_at_call 33; refine (share_lo 10 3 7 (by decide) (by decide) (by decide) (by decide) (by decide) (by decide) (by decide) _).mono ?_; rintro e w2 ⟨rfl, n1, rfl⟩))
  replace s0 := ((s0.drewN (1 + n1)).setP0 4).setR0 2
  clear c0 c1 c2 bx P0 P1 P2 R0 R1 R2 O0 O1 O2 fP0 fP1 fP2 fR0 fR1 fR2 fO0 fO1 fO2 sz lt
  generalize (((w1.drewN (1 + n1)).setCell ⟨w.heap.size, 0, none⟩ (.int .i64 4)).setCell ⟨w.heap.size + 1, 0, none⟩ (.int .u64 2)) = v0 at s0 ⊢
  obtain ⟨c0, c1, c2, bx, P0, P1, P2, R0, R1, R2, O0, O1, O2, fP0, fP1, fP2, fR0, fR1, fR2, fO0, fO1, fO2, sz, lt, -, -, -, -⟩ := id s0
  go_wp2_with fail
  replace s0 := s0.setO0 0
  clear c0 c1 c2 bx P0 P1 P2 R0 R1 R2 O0 O1 O2 fP0 fP1 fP2 fR0 fR1 fR2 fO0 fO1 fO2 sz lt
  generalize (v0.setCell ⟨w.heap.size + 1 + 1 + 1, 0, none⟩ (.int .i64 0)) = u0 at s0 ⊢
  obtain ⟨c0, c1, c2, bx, P0, P1, P2, R0, R1, R2, O0, O1, O2, fP0, fP1, fP2, fR0, fR1, fR2, fO0, fO1, fO2, sz, lt, -, -, -, -⟩ := id s0
  rw [rounds_succ]
  go_wp2_with fail
  go_region_held3 (fun w' => w'.cell? ⟨w.heap.size + 1 + 1, 0, none⟩ = some (.slice (some ⟨w.heap.size + 1, 0, none⟩) 3 3))
    (first | exact bx | (simp [go_sem, bx]; done))
    (first | (go_at_call 33; refine (share_lo 10 3 7 (by decide) (by decide) (by decide) (by decide) (by decide) (by decide) (by decide) _).mono ?_; rintro e w2 ⟨rfl, n1, rfl⟩))
  replace s0 := ((s0.drewN (1 + n1)).setP1 4).setR1 2
  clear c0 c1 c2 bx P0 P1 P2 R0 R1 R2 O0 O1 O2 fP0 fP1 fP2 fR0 fR1 fR2 fO0 fO1 fO2 sz lt
  generalize (((u0.drewN (1 + n1)).setCell ⟨w.heap.size, 1, none⟩ (.int .i64 4)).setCell ⟨w.heap.size + 1, 1, none⟩ (.int .u64 2)) = v1 at s0 ⊢
  obtain ⟨c0, c1, c2, bx, P0, P1, P2, R0, R1, R2, O0, O1, O2, fP0, fP1, fP2, fR0, fR1, fR2, fO0, fO1, fO2, sz, lt, -, -, -, -⟩ := id s0
  go_wp2_with fail
  replace s0 := s0.setO1 1
  clear c0 c1 c2 bx P0 P1 P2 R0 R1 R2 O0 O1 O2 fP0 fP1 fP2 fR0 fR1 fR2 fO0 fO1 fO2 sz lt
  generalize (v1.setCell ⟨w.heap.size + 1 + 1 + 1, 1, none⟩ (.int .i64 1)) = u1 at s0 ⊢
  obtain ⟨c0, c1, c2, bx, P0, P1, P2, R0, R1, R2, O0, O1, O2, fP0, fP1, fP2, fR0, fR1, fR2, fO0, fO1, fO2, sz, lt, -, -, -, -⟩ := id s0
  rw [rounds_succ]
  go_wp2_with fail
  go_region_held3 (fun w' => w'.cell? ⟨w.heap.size + 1 + 1, 0, none⟩ = some (.slice (some ⟨w.heap.size + 1, 0, none⟩) 3 3))
    (first | exact bx | (simp [go_sem, bx]; done))
    (first | (go_at_call 33; refine (share_lo 10 1 7 (by decide) (by decide) (by decide) (by decide) (by decide) (by decide) (by decide) _).mono ?_; rintro e w2 ⟨rfl, n1, rfl⟩))
  replace s0 := ((s0.drewN (1 + n1)).setP2 1).setR2 3
  clear c0 c1 c2 bx P0 P1 P2 R0 R1 R2 O0 O1 O2 fP0 fP1 fP2 fR0 fR1 fR2 fO0 fO1 fO2 sz lt
  generalize (((u1.drewN (1 + n1)).setCell ⟨w.heap.size, 2, none⟩ (.int .i64 1)).setCell ⟨w.heap.size + 1, 2, none⟩ (.int .u64 3)) = v2 at s0 ⊢
  obtain ⟨c0, c1, c2, bx, P0, P1, P2, R0, R1, R2, O0, O1, O2, fP0, fP1, fP2, fR0, fR1, fR2, fO0, fO1, fO2, sz, lt, -, -, -, -⟩ := id s0
  go_wp2_with fail
  replace s0 := s0.setO2 2
  clear c0 c1 c2 bx P0 P1 P2 R0 R1 R2 O0 O1 O2 fP0 fP1 fP2 fR0 fR1 fR2 fO0 fO1 fO2 sz lt
  generalize (v2.setCell ⟨w.heap.size + 1 + 1 + 1, 2, none⟩ (.int .i64 2)) = u2 at s0 ⊢
  obtain ⟨c0, c1, c2, bx, P0, P1, P2, R0, R1, R2, O0, O1, O2, fP0, fP1, fP2, fR0, fR1, fR2, fO0, fO1, fO2, sz, lt, -, -, -, -⟩ := id s0
  rw [rounds_succ]
  go_wp2_with fail
  refine (sort3 (w.heap.size + 1 + 1) (w.heap.size + 1) (w.heap.size + 1 + 1 + 1) 3 3 u2 u2 (by omega) (by omega) ⟨bx, R0, R1, R2, O0, O1, O2, fO0, fO1, fO2, rfl, fun _ _ => rfl, rfl, rfl, rfl⟩).mono ?_
  rintro e w3 ⟨rfl, s1⟩
  replace s0 := s0.sorted s1
  clear s1
  clear c0 c1 c2 bx P0 P1 P2 R0 R1 R2 O0 O1 O2 fP0 fP1 fP2 fR0 fR1 fR2 fO0 fO1 fO2 sz lt
  obtain ⟨c0, c1, c2, bx, P0, P1, P2, R0, R1, R2, O0, O1, O2, fP0, fP1, fP2, fR0, fR1, fR2, fO0, fO1, fO2, sz, lt, -, -, -, -⟩ := id s0
  go_wp2_with fail
  refine wp_loop_rounds 2 ?_
  rw [rounds_succ]
  go_wp2_with fail
  replace s0 := s0.setP2 2
  clear c0 c1 c2 bx P0 P1 P2 R0 R1 R2 O0 O1 O2 fP0 fP1 fP2 fR0 fR1 fR2 fO0 fO1 fO2 sz lt
  generalize (w3.setCell ⟨w.heap.size, 2, none⟩ (.int .i64 2)) = w4 at s0 ⊢
  obtain ⟨c0, c1, c2, bx, P0, P1, P2, R0, R1, R2, O0, O1, O2, fP0, fP1, fP2, fR0, fR1, fR2, fO0, fO1, fO2, sz, lt, -, -, -, -⟩ := id s0
  rw [rounds_succ]
  go_wp2_with fail
  go_ret2
  exact ⟨w.heap.size, 3, rfl, P0, P1, P2, s0.os, s0.tp, s0.ou, by omega, s0.bl⟩
end Go.Proofs.YtacliakmhkebbaaDoor

/- Best at the law's own example: the walk. -/
namespace Go.Proofs.YtacliakmhkebbaaDoor
open Go.RowKit
set_option linter.unusedVariables false
set_option linter.unusedSimpArgs false

theorem BS.other {w0 w : World} {xn xd bn bd ln ld : Int} (s : BS w0 w xn xd bn bd ln ld) (a : Addr) (x : Value) (h0 : ¬ a.block = w0.heap.size) (h1 : ¬ a.block = w0.heap.size + 1) (h2 : ¬ a.block = w0.heap.size + 1 + 1) (hB : w0.heap.size ≤ a.block) : BS w0 (w.setCell a x) xn xd bn bd ln ld := by
  have k0 : (w.setCell a x).heap[w0.heap.size]? = w.heap[w0.heap.size]? := Below.heap_setCell _ _ _ _ (fun h => h0 h.symm)
  have k1 : (w.setCell a x).heap[w0.heap.size + 1]? = w.heap[w0.heap.size + 1]? := Below.heap_setCell _ _ _ _ (fun h => h1 h.symm)
  have k2 : (w.setCell a x).heap[w0.heap.size + 1 + 1]? = w.heap[w0.heap.size + 1 + 1]? := Below.heap_setCell _ _ _ _ (fun h => h2 h.symm)
  exact ⟨(cell_kept k0).trans s.x0, (cell_kept k0).trans s.x1, (cell_kept k1).trans s.b0, (cell_kept k1).trans s.b1, (cell_kept k2).trans s.l0, (cell_kept k2).trans s.l1,
    (frozen_kept k0).trans s.fx0, (frozen_kept k0).trans s.fx1, (frozen_kept k1).trans s.fb0, (frozen_kept k1).trans s.fb1, (frozen_kept k2).trans s.fl0, (frozen_kept k2).trans s.fl1, by simpa using s.sz, s.bl.setCell hB _⟩

def BestAt (w : World) (vt vb : Value) (wr : World) : Prop := (vt = .int .i64 355 ∧ vb = .int .i64 113 ∧ BS w wr 0 0 0 1 1 0) ∨ (vt = .int .i64 113 ∧ vb = .int .i64 16 ∧ BS w wr 0 0 1 0 3 1) ∨ (vt = .int .i64 16 ∧ vb = .int .i64 1 ∧ BS w wr 0 0 3 1 22 7)

set_option maxRecDepth 100000 in
set_option maxHeartbeats 4000000 in
theorem best3 (w : World) :
    Calls Tryd.prog 31 #[.int .i64 355, .int .i64 113, .int .i64 10] w fun e w' => e = .returned (fracV 22 7 0) ∧ Below w.heap.size w w' := by
  go_enter Tryd.func31, Tryd.ntmps31
  go_wp2_with fail
  refine (within_any _ _ (by decide) (by decide) _).mono ?_
  rintro e w' ⟨rfl, rfl⟩
  rw [show wthB 355 1099511627776 = true from by decide]
  go_wp2_with fail
  have s0 : BS w (((w.alloc (Obj.cells #[Value.int IntKind.i64 0, Value.int IntKind.i64 0] 44)).alloc (Obj.cells #[Value.int IntKind.i64 0, Value.int IntKind.i64 1] 44)).alloc (Obj.cells #[Value.int IntKind.i64 1, Value.int IntKind.i64 0] 44)) 0 0 0 1 1 0 := by
    refine ⟨?_, ?_, ?_, ?_, ?_, ?_, ?_, ?_, ?_, ?_, ?_, ?_, ?_, ((((Below.refl _ _).alloc (Nat.le_refl _) _).alloc (by simp) _).alloc (by simp; omega) _)⟩
    all_goals (simp [go_sem]; done)
  have S0 := Lib.hid s0; clear s0
  generalize ((w.alloc (Obj.cells #[Value.int IntKind.i64 0, Value.int IntKind.i64 0] 44)).alloc (Obj.cells #[Value.int IntKind.i64 0, Value.int IntKind.i64 1] 44)).alloc (Obj.cells #[Value.int IntKind.i64 1, Value.int IntKind.i64 0] 44) = w1 at S0 ⊢
  go_loopw [10, 11] (fun vt vb wr => BestAt w vt vb wr) (fun _ vb _ => (intOf vb).toNat)
  case atStart => exact Or.inl ⟨rfl, rfl, S0.out⟩
  case round =>
    clear S0
    rcases hrel with ⟨rfl, rfl, s0⟩ | ⟨rfl, rfl, s0⟩ | ⟨rfl, rfl, s0⟩
    · obtain ⟨x0, x1, b0, b1, l0, l1, fx0, fx1, fb0, fb1, fl0, fl1, sz, -⟩ := id s0
      go_wp2_with fail
      refine (floor_any 355 113 (by decide) (by decide) (by decide) (by decide) _).mono ?_
      rintro e w' ⟨rfl, rfl⟩
      rw [show (355 : Int) / 113 = 3 from by decide]
      go_wp2_with fail
      go_region_law (first | (go_simp; go_at_call 60; refine (along_any 0 1 1 0 3 (by decide) (by decide) (by decide) (by decide) (by decide) (by decide) (by decide) (by decide) _).mono ?_; rintro e w2 ⟨rfl, hq⟩; (first | replace s0 := s0.below hq | replace s0 := s0.drew.below hq | replace s0 := (s0.drewN _).below hq); clear x0 x1 b0 b1 l0 l1 fx0 fx1 fb0 fb1 fl0 fl1 sz; obtain ⟨x0, x1, b0, b1, l0, l1, fx0, fx1, fb0, fb1, fl0, fl1, sz, -⟩ := id s0))
      all_goals
        replace s0 := (((s0.setb0 1).setb1 0).setl0 3).setl1 1
        clear x0 x1 b0 b1 l0 l1 fx0 fx1 fb0 fb1 fl0 fl1 sz
        have S0 := Lib.hid s0; clear s0
        go_wp2_with fail
        go_roundw
        case rel => exact Or.inr (Or.inl ⟨rfl, rfl, S0.out⟩)
        case measure => simp [intOf]
    · obtain ⟨x0, x1, b0, b1, l0, l1, fx0, fx1, fb0, fb1, fl0, fl1, sz, -⟩ := id s0
      go_wp2_with fail
      refine (floor_any 113 16 (by decide) (by decide) (by decide) (by decide) _).mono ?_
      rintro e w' ⟨rfl, rfl⟩
      rw [show (113 : Int) / 16 = 7 from by decide]
      go_wp2_with fail
      go_region_law (first | (go_simp; go_at_call 60; refine (along_any 1 0 3 1 7 (by decide) (by decide) (by decide) (by decide) (by decide) (by decide) (by decide) (by decide) _).mono ?_; rintro e w2 ⟨rfl, hq⟩; (first | replace s0 := s0.below hq | replace s0 := s0.drew.below hq | replace s0 := (s0.drewN _).below hq); clear x0 x1 b0 b1 l0 l1 fx0 fx1 fb0 fb1 fl0 fl1 sz; obtain ⟨x0, x1, b0, b1, l0, l1, fx0, fx1, fb0, fb1, fl0, fl1, sz, -⟩ := id s0))
      all_goals
        replace s0 := (((s0.setb0 3).setb1 1).setl0 22).setl1 7
        clear x0 x1 b0 b1 l0 l1 fx0 fx1 fb0 fb1 fl0 fl1 sz
        have S0 := Lib.hid s0; clear s0
        go_wp2_with fail
        go_roundw
        case rel => exact Or.inr (Or.inr ⟨rfl, rfl, S0.out⟩)
        case measure => simp [intOf]
    · obtain ⟨x0, x1, b0, b1, l0, l1, fx0, fx1, fb0, fb1, fl0, fl1, sz, -⟩ := id s0
      go_wp2_with fail
      refine (floor_any 16 1 (by decide) (by decide) (by decide) (by decide) _).mono ?_
      rintro e w' ⟨rfl, rfl⟩
      rw [show (16 : Int) / 1 = 16 from by decide]
      go_wp2_with fail
      have z1 : w.heap.size + 1 < wr.heap.size := by omega
      have z0 : w.heap.size < wr.heap.size := by omega
      have hB0 : w.heap.size ≤ wr.heap.size := by omega
      have q0 : ¬ w.heap.size = wr.heap.size := by omega
      have q1 : ¬ w.heap.size + 1 = wr.heap.size := by omega
      have q2 : ¬ w.heap.size + 1 + 1 = wr.heap.size := by omega
      have p0 : ¬ wr.heap.size = w.heap.size := by omega
      have p1 : ¬ wr.heap.size = w.heap.size + 1 := by omega
      have p2 : ¬ wr.heap.size = w.heap.size + 1 + 1 := by omega
      go_region_held3 (fun w' => w'.cell? ⟨w.heap.size + 1, 0, none⟩ = some (.int .i64 3) ∧ w'.cell? ⟨w.heap.size + 1, 1, none⟩ = some (.int .i64 1) ∧ w'.cell? ⟨w.heap.size + 1 + 1, 0, none⟩ = some (.int .i64 22) ∧ w'.cell? ⟨w.heap.size + 1 + 1, 1, none⟩ = some (.int .i64 7))
        (first | exact ⟨b0, b1, l0, l1⟩ | (refine ⟨?_, ?_, ?_, ?_⟩ <;> simp [go_sem, b0, b1, l0, l1, sz, z1, z0, q1, q2, p1, p2]; done) | go_keep)
        (first | (go_at_call 60; rw [show IntKind.i64.wrap ((IntKind.i64.wrap 9).tdiv 7) = 1 from by decide]; refine (along_any 3 1 22 7 1 (by decide) (by decide) (by decide) (by decide) (by decide) (by decide) (by decide) (by decide) _).mono ?_; rintro e w2 ⟨rfl, hq⟩; (first | replace s0 := s0.drew.below hq | (replace s0 := ((s0.below ((Below.refl _ _).alloc (Nat.le_refl _) _)).drew).below hq; have a1 := hq.cell (p := ⟨wr.heap.size, 0, none⟩) (by simp); have a2 := hq.cell (p := ⟨wr.heap.size, 1, none⟩) (by simp); have a3 := hq.frozen (p := ⟨wr.heap.size, 0, none⟩) (by simp); have a4 := hq.frozen (p := ⟨wr.heap.size, 1, none⟩) (by simp); have a5 := hq.size; simp [go_sem] at a1 a2 a3 a4 a5)); clear x0 x1 b0 b1 l0 l1 fx0 fx1 fb0 fb1 fl0 fl1 sz; obtain ⟨x0, x1, b0, b1, l0, l1, fx0, fx1, fb0, fb1, fl0, fl1, sz, -⟩ := id s0; replace z1 : w.heap.size + 1 < w2.heap.size := (by omega); replace z0 : w.heap.size < w2.heap.size := (by omega)))
      · have o0 : (w2.alloc (Obj.cells #[Value.int IntKind.i64 25, Value.int IntKind.i64 8] 44)).cell? ⟨w2.heap.size, 0, none⟩ = some (.int .i64 25) := by simp [go_sem]
        have o1 : (w2.alloc (Obj.cells #[Value.int IntKind.i64 25, Value.int IntKind.i64 8] 44)).cell? ⟨w2.heap.size, 1, none⟩ = some (.int .i64 8) := by simp [go_sem]
        replace s0 := s0.below ((Below.refl _ _).alloc (Nat.le_refl _) (Obj.cells #[Value.int IntKind.i64 25, Value.int IntKind.i64 8] 44))
        generalize w2.alloc (Obj.cells #[Value.int IntKind.i64 25, Value.int IntKind.i64 8] 44) = v at s0 o0 o1 ⊢
        clear z1 z0
        clear x0 x1 b0 b1 l0 l1 fx0 fx1 fb0 fb1 fl0 fl1 sz
        obtain ⟨x0, x1, b0, b1, l0, l1, fx0, fx1, fb0, fb1, fl0, fl1, sz, -⟩ := id s0
        go_wp2_with fail
        refine (nearer_any 355 113 22 7 25 8 (by decide) (by decide) (by decide) (by decide) (by decide) (by decide) (by decide) (by decide) (by decide) (by decide) (by decide) (by decide) _).mono ?_
        rintro e w3 ⟨rfl, hr⟩
        rw [if_neg (by decide)]
        replace s0 := s0.below hr
        clear x0 x1 b0 b1 l0 l1 fx0 fx1 fb0 fb1 fl0 fl1 sz
        obtain ⟨x0, x1, b0, b1, l0, l1, fx0, fx1, fb0, fb1, fl0, fl1, sz, -⟩ := id s0
        have z0 : w.heap.size < w3.heap.size := by omega
        go_wp2_with fail
        exact bodyPost_ret (v := fracV 22 7 0) (by simp [results, Tryd.results31, go_sem, fracV, x0, x1, z0]) rfl ⟨rfl, ((s0.setx0 22).setx1 7).bl⟩
      · have o0 : ((w2.setCell ⟨wr.heap.size, 0, none⟩ (Value.int IntKind.i64 25)).setCell ⟨wr.heap.size, 1, none⟩ (Value.int IntKind.i64 8)).cell? ⟨wr.heap.size, 0, none⟩ = some (.int .i64 25) := by simp [go_sem, a1, a2]
        have o1 : ((w2.setCell ⟨wr.heap.size, 0, none⟩ (Value.int IntKind.i64 25)).setCell ⟨wr.heap.size, 1, none⟩ (Value.int IntKind.i64 8)).cell? ⟨wr.heap.size, 1, none⟩ = some (.int .i64 8) := by simp [go_sem, a1, a2]
        have hB := hB0
        replace s0 := (s0.other ⟨wr.heap.size, 0, none⟩ (Value.int IntKind.i64 25) p0 p1 p2 hB).other ⟨wr.heap.size, 1, none⟩ (Value.int IntKind.i64 8) p0 p1 p2 hB
        generalize (w2.setCell ⟨wr.heap.size, 0, none⟩ (Value.int IntKind.i64 25)).setCell ⟨wr.heap.size, 1, none⟩ (Value.int IntKind.i64 8) = v at s0 o0 o1 ⊢
        clear z1 z0
        clear x0 x1 b0 b1 l0 l1 fx0 fx1 fb0 fb1 fl0 fl1 sz
        obtain ⟨x0, x1, b0, b1, l0, l1, fx0, fx1, fb0, fb1, fl0, fl1, sz, -⟩ := id s0
        go_wp2_with fail
        refine (nearer_any 355 113 22 7 25 8 (by decide) (by decide) (by decide) (by decide) (by decide) (by decide) (by decide) (by decide) (by decide) (by decide) (by decide) (by decide) _).mono ?_
        rintro e w3 ⟨rfl, hr⟩
        rw [if_neg (by decide)]
        replace s0 := s0.below hr
        clear x0 x1 b0 b1 l0 l1 fx0 fx1 fb0 fb1 fl0 fl1 sz
        obtain ⟨x0, x1, b0, b1, l0, l1, fx0, fx1, fb0, fb1, fl0, fl1, sz, -⟩ := id s0
        have z0 : w.heap.size < w3.heap.size := by omega
        go_wp2_with fail
        exact bodyPost_ret (v := fracV 22 7 0) (by simp [results, Tryd.results31, go_sem, fracV, x0, x1, z0]) rfl ⟨rfl, ((s0.setx0 22).setx1 7).bl⟩
end Go.Proofs.YtacliakmhkebbaaDoor

/- The closed example that every statement of the layer asks: it answers true, whatever the memory. -/
namespace Go.Proofs.YtacliakmhkebbaaDoor
open Go.RowKit
set_option linter.unusedVariables false
set_option linter.unusedSimpArgs false

set_option maxRecDepth 100000 in
set_option maxHeartbeats 1000000 in
theorem alive_any (w : World) :
    Calls Tryd.prog 8 #[] w fun e w' => e = .returned (.bool true) ∧ Below w.heap.size w w' := by
  go_enter Tryd.func8, Tryd.ntmps8
  go_wp2_with fail
  refine (apportion3 _ _ _ (by simp [go_sem]) (by simp [go_sem]) (by simp [go_sem])).mono ?_
  rintro e w1 ⟨g, cp, rfl, g0, g1, g2, hb1⟩
  have hb := ((Below.refl w.heap.size w).alloc (Nat.le_refl _) _).trans (hb1.mono (by simp))
  clear hb1
  have lg : g < w1.heap.size := World.block_lt_of_cell? w1 _ g0
  go_wp2_with fail
  refine (best3 _).mono ?_
  rintro e w2 ⟨rfl, hb2⟩
  unfold fracV
  replace g0 := (hb2.cell (p := ⟨g, 0, none⟩) lg).trans g0
  replace g1 := (hb2.cell (p := ⟨g, 1, none⟩) lg).trans g1
  replace g2 := (hb2.cell (p := ⟨g, 2, none⟩) lg).trans g2
  replace lg : g < w2.heap.size := Nat.lt_of_lt_of_le lg hb2.size
  replace hb := hb.trans (hb2.mono hb.size)
  clear hb2
  go_wp2_with fail
  refine (decimal3 _).mono ?_
  rintro e w3 ⟨rfl, hb3⟩
  have q0 : w3.cell? ⟨w2.heap.size, 0, none⟩ = some (.int .i64 22) := (hb3.cell (p := ⟨w2.heap.size, 0, none⟩) (by simp)).trans (by simp [go_sem])
  have q1 : w3.cell? ⟨w2.heap.size, 1, none⟩ = some (.int .i64 7) := (hb3.cell (p := ⟨w2.heap.size, 1, none⟩) (by simp)).trans (by simp [go_sem])
  replace hb3 : Below w2.heap.size w2 w3 := ((Below.refl _ w2).alloc (Nat.le_refl _) _).trans (hb3.mono (by simp))
  replace g0 := (hb3.cell (p := ⟨g, 0, none⟩) lg).trans g0
  replace g1 := (hb3.cell (p := ⟨g, 1, none⟩) lg).trans g1
  replace g2 := (hb3.cell (p := ⟨g, 2, none⟩) lg).trans g2
  replace hb := hb.trans (hb3.mono hb.size)
  have lg3 : g < w3.heap.size := Nat.lt_of_lt_of_le lg hb3.size
  have lf3 : w2.heap.size < w3.heap.size := World.block_lt_of_cell? w3 _ q0
  clear hb3 lg
  generalize w2.heap.size = F at q0 q1 lf3 ⊢
  go_wp2_with fail
  refine (same3 g w3.heap.size _ _ 4 4 2 _ (by simp [go_sem, g0, lg3]) (by simp [go_sem, g1, lg3]) (by simp [go_sem, g2, lg3]) (by simp [go_sem]) (by simp [go_sem]) (by simp [go_sem])).mono ?_
  rintro e w4 ⟨rfl, n4, rfl⟩
  go_wp2_with fail
  refine (Valid_any 22 7 (by decide) (by decide) _).mono ?_
  rintro e w5 ⟨rfl, hb5⟩
  rw [show vldB 22 7 = true from by kernel_rfl]
  go_wp2_with fail
  go_ret
  refine ⟨rfl, ?_⟩
  have hb4 := below_drewN (hb.alloc hb.size (Obj.cells #[Value.int IntKind.i64 4, Value.int IntKind.i64 4, Value.int IntKind.i64 2] 3)) n4
  exact hb4.trans (hb5.mono hb4.size)
end Go.Proofs.YtacliakmhkebbaaDoor
