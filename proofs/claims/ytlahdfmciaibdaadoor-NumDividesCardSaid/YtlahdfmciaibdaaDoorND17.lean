/- Several texts in one: A3 C3 E1 ADB. -/
import Derived.Test.YtlahdfmciaibdaaDoorND4
import Derived.Test.YtlahdfmciaibdaaDoorND16
import Derived.Deep.RegionLaw

/- Apportion at the law's own example: the walk. -/
namespace Go.Proofs.YtlahdfmciaibdaaDoor
open Go.RowKit
set_option linter.unusedVariables false
set_option linter.unusedSimpArgs false

theorem cell_kept {w w' : World} {k o : Nat} (h : w'.heap[k]? = w.heap[k]?) : w'.cell? ⟨k, o, none⟩ = w.cell? ⟨k, o, none⟩ := World.cell?_of_block (w := w) (a := ⟨k, o, none⟩) h
theorem frozen_kept {w w' : World} {k o : Nat} (h : w'.heap[k]? = w.heap[k]?) : w'.frozen? ⟨k, o, none⟩ = w.frozen? ⟨k, o, none⟩ := World.frozen?_of_block (w := w) (a := ⟨k, o, none⟩) h
theorem A3.sorted {b : Nat} {w0 w w' : World} {p0 p1 p2 r0 r1 r2 o0 o1 o2 x y z : Int} (s : A3 b w0 w p0 p1 p2 r0 r1 r2 o0 o1 o2)
    (t : S3 (w0.heap.size + 1 + 1) (w0.heap.size + 1) (w0.heap.size + 1 + 1 + 1) 3 w w' x y z) : A3 b w0 w' p0 p1 p2 r0 r1 r2 x y z := by
  have hb := s.lt
  have kb := t.bl b (by omega)
  have k0 := t.bl w0.heap.size (by omega)
  have k1 := t.bl (w0.heap.size + 1) (by omega)
  have k2 := t.bl (w0.heap.size + 1 + 1) (by omega)
  exact ⟨(cell_kept kb).trans s.c0, (cell_kept kb).trans s.c1, (cell_kept kb).trans s.c2, (cell_kept k2).trans s.bx, (cell_kept k0).trans s.P0, (cell_kept k0).trans s.P1, (cell_kept k0).trans s.P2,
    (cell_kept k1).trans s.R0, (cell_kept k1).trans s.R1, (cell_kept k1).trans s.R2, t.b0, t.b1, t.b2, (frozen_kept k0).trans s.fP0, (frozen_kept k0).trans s.fP1, (frozen_kept k0).trans s.fP2,
    (frozen_kept k1).trans s.fR0, (frozen_kept k1).trans s.fR1, (frozen_kept k1).trans s.fR2, t.f0, t.f1, t.f2, t.sz.trans s.sz, hb, fun k hk => (t.bl k (by omega)).trans (s.bl k hk), t.os.trans s.os, t.tp.trans s.tp, t.ou.trans s.ou⟩

set_option maxRecDepth 100000 in
set_option maxHeartbeats 1000000 in
theorem apportion3 (b cap : Nat) (w : World) (c0 : w.cell? ⟨b, 0, none⟩ = some (.int .i64 3)) (c1 : w.cell? ⟨b, 1, none⟩ = some (.int .i64 3)) (c2 : w.cell? ⟨b, 2, none⟩ = some (.int .i64 1)) :
    Calls Tryd.prog 8 #[.int .i64 10, .slice (some ⟨b, 0, none⟩) 3 cap] w fun e w' => ∃ g cp, e = .returned (.tuple #[.slice (some ⟨g, 0, none⟩) 3 cp, .int .i64 0]) ∧
      w'.cell? ⟨g, 0, none⟩ = some (.int .i64 4) ∧ w'.cell? ⟨g, 1, none⟩ = some (.int .i64 4) ∧ w'.cell? ⟨g, 2, none⟩ = some (.int .i64 2) ∧ Below w.heap.size w w' := by
  have hmk : ∀ w, (Instr.makeSlice 22 (.int .i64 3) (.int .i64 3)).run Tryd.prog w = .ok (.slice (some ⟨w.heap.size, 0, none⟩) 3 3) (w.alloc (.cells #[.int .i64 0, .int .i64 0, .int .i64 0] 3)) := fun _ => by kernel_rfl
  have hmu : ∀ w, (Instr.makeSlice 47 (.int .i64 3) (.int .i64 3)).run Tryd.prog w = .ok (.slice (some ⟨w.heap.size, 0, none⟩) 3 3) (w.alloc (.cells #[.int .u64 0, .int .u64 0, .int .u64 0] 48)) := fun _ => by kernel_rfl
  have lb : b < w.heap.size := World.block_lt_of_cell? w _ c0
  have lb1 : b < w.heap.size + 1 := by omega
  have lb2 : b < w.heap.size + 1 + 1 := by omega
  have lb3 : b < w.heap.size + 1 + 1 + 1 := by omega
  go_enter Tryd.func8, Tryd.ntmps8
  go_wp2_with fail
  refine (sumOf3 b cap w c0 c1 c2).mono ?_
  rintro e w1 ⟨rfl, rfl⟩
  go_wp2_with fail
  have s0 : A3 b w ((((w.alloc (Obj.cells #[Value.int IntKind.i64 0, Value.int IntKind.i64 0, Value.int IntKind.i64 0] 3)).alloc (Obj.cells #[Value.int IntKind.u64 0, Value.int IntKind.u64 0, Value.int IntKind.u64 0] 48)).alloc (Obj.cells #[Value.slice (some ⟨w.heap.size + 1, 0, none⟩) 3 3] 47)).alloc (Obj.cells #[Value.int IntKind.i64 0, Value.int IntKind.i64 0, Value.int IntKind.i64 0] 3)) 0 0 0 0 0 0 0 0 0 := by
    refine ⟨?_, ?_, ?_, ?_, ?_, ?_, ?_, ?_, ?_, ?_, ?_, ?_, ?_, ?_, ?_, ?_, ?_, ?_, ?_, ?_, ?_, ?_, ?_, lb, fun k hk => ?_, rfl, rfl, rfl⟩
    all_goals first | (rw [Below.heap_alloc _ _ _ (by simp; omega), Below.heap_alloc _ _ _ (by simp; omega), Below.heap_alloc _ _ _ (by simp; omega), Below.heap_alloc _ _ _ hk]; done) | (simp [go_sem, c0, c1, c2, lb, lb1, lb2, lb3]; done)
  clear c0 c1 c2 lb lb1 lb2 lb3 hmk hmu
  generalize ((((w.alloc (Obj.cells #[Value.int IntKind.i64 0, Value.int IntKind.i64 0, Value.int IntKind.i64 0] 3)).alloc (Obj.cells #[Value.int IntKind.u64 0, Value.int IntKind.u64 0, Value.int IntKind.u64 0] 48)).alloc (Obj.cells #[Value.slice (some ⟨w.heap.size + 1, 0, none⟩) 3 3] 47)).alloc (Obj.cells #[Value.int IntKind.i64 0, Value.int IntKind.i64 0, Value.int IntKind.i64 0] 3)) = w1 at s0 ⊢
  obtain ⟨c0, c1, c2, bx, P0, P1, P2, R0, R1, R2, O0, O1, O2, fP0, fP1, fP2, fR0, fR1, fR2, fO0, fO1, fO2, sz, lt, -, -, -, -⟩ := id s0
  refine wp_loop_rounds 4 ?_
  rw [rounds_succ]
  go_wp2_with fail
  go_region_held3 (fun w' => w'.cell? ⟨w.heap.size + 1 + 1, 0, none⟩ = some (.slice (some ⟨w.heap.size + 1, 0, none⟩) 3 3))
    (first | exact bx | (simp [go_sem, bx]; done))
    (first | (go_at_call 24; refine (share_lo 10 3 7 (by decide) (by decide) (by decide) (by decide) (by decide) (by decide) (by decide) _).mono ?_; rintro e w2 ⟨rfl, n1, rfl⟩))
  replace s0 := ((s0.drewN (1 + n1)).setP0 4).setR0 2
  clear c0 c1 c2 bx P0 P1 P2 R0 R1 R2 O0 O1 O2 fP0 fP1 fP2 fR0 fR1 fR2 fO0 fO1 fO2 sz lt
  generalize (((w1.drewN (1 + n1)).setCell ⟨w.heap.size, 0, none⟩ (.int .i64 4)).setCell ⟨w.heap.size + 1, 0, none⟩ (.int .u64 2)) = v0 at s0 ⊢
  obtain ⟨c0, c1, c2, bx, P0, P1, P2, R0, R1, R2, O0, O1, O2, fP0, fP1, fP2, fR0, fR1, fR2, fO0, fO1, fO2, sz, lt, -, -, -, -⟩ := id s0
  go_wp2_with fail
  replace s0 := s0.setO0 0
  clear c0 c1 c2 bx P0 P1 P2 R0 R1 R2 O0 O1 O2 fP0 fP1 fP2 fR0 fR1 fR2 fO0 fO1 fO2 sz lt
  generalize (v0.setCell ⟨w.heap.size + 1 + 1 + 1, 0, none⟩ (.int .i64 0)) = u0 at s0 ⊢
  obtain ⟨c0, c1, c2, bx, P0, P1, P2, R0, R1, R2, O0, O1, O2, fP0, fP1, fP2, fR0, fR1, fR2, fO0, fO1, fO2, sz, lt, -, -, -, -⟩ := id s0
  rw [rounds_succ]
  go_wp2_with fail
  go_region_held3 (fun w' => w'.cell? ⟨w.heap.size + 1 + 1, 0, none⟩ = some (.slice (some ⟨w.heap.size + 1, 0, none⟩) 3 3))
    (first | exact bx | (simp [go_sem, bx]; done))
    (first | (go_at_call 24; refine (share_lo 10 3 7 (by decide) (by decide) (by decide) (by decide) (by decide) (by decide) (by decide) _).mono ?_; rintro e w2 ⟨rfl, n1, rfl⟩))
  replace s0 := ((s0.drewN (1 + n1)).setP1 4).setR1 2
  clear c0 c1 c2 bx P0 P1 P2 R0 R1 R2 O0 O1 O2 fP0 fP1 fP2 fR0 fR1 fR2 fO0 fO1 fO2 sz lt
  generalize (((u0.drewN (1 + n1)).setCell ⟨w.heap.size, 1, none⟩ (.int .i64 4)).setCell ⟨w.heap.size + 1, 1, none⟩ (.int .u64 2)) = v1 at s0 ⊢
  obtain ⟨c0, c1, c2, bx, P0, P1, P2, R0, R1, R2, O0, O1, O2, fP0, fP1, fP2, fR0, fR1, fR2, fO0, fO1, fO2, sz, lt, -, -, -, -⟩ := id s0
  go_wp2_with fail
  replace s0 := s0.setO1 1
  clear c0 c1 c2 bx P0 P1 P2 R0 R1 R2 O0 O1 O2 fP0 fP1 fP2 fR0 fR1 fR2 fO0 fO1 fO2 sz lt
  generalize (v1.setCell ⟨w.heap.size + 1 + 1 + 1, 1, none⟩ (.int .i64 1)) = u1 at s0 ⊢
  obtain ⟨c0, c1, c2, bx, P0, P1, P2, R0, R1, R2, O0, O1, O2, fP0, fP1, fP2, fR0, fR1, fR2, fO0, fO1, fO2, sz, lt, -, -, -, -⟩ := id s0
  rw [rounds_succ]
  go_wp2_with fail
  go_region_held3 (fun w' => w'.cell? ⟨w.heap.size + 1 + 1, 0, none⟩ = some (.slice (some ⟨w.heap.size + 1, 0, none⟩) 3 3))
    (first | exact bx | (simp [go_sem, bx]; done))
    (first | (go_at_call 24; refine (share_lo 10 1 7 (by decide) (by decide) (by decide) (by decide) (by decide) (by decide) (by decide) _).mono ?_; rintro e w2 ⟨rfl, n1, rfl⟩))
  replace s0 := ((s0.drewN (1 + n1)).setP2 1).setR2 3
  clear c0 c1 c2 bx P0 P1 P2 R0 R1 R2 O0 O1 O2 fP0 fP1 fP2 fR0 fR1 fR2 fO0 fO1 fO2 sz lt
  generalize (((u1.drewN (1 + n1)).setCell ⟨w.heap.size, 2, none⟩ (.int .i64 1)).setCell ⟨w.heap.size + 1, 2, none⟩ (.int .u64 3)) = v2 at s0 ⊢
  obtain ⟨c0, c1, c2, bx, P0, P1, P2, R0, R1, R2, O0, O1, O2, fP0, fP1, fP2, fR0, fR1, fR2, fO0, fO1, fO2, sz, lt, -, -, -, -⟩ := id s0
  go_wp2_with fail
  replace s0 := s0.setO2 2
  clear c0 c1 c2 bx P0 P1 P2 R0 R1 R2 O0 O1 O2 fP0 fP1 fP2 fR0 fR1 fR2 fO0 fO1 fO2 sz lt
  generalize (v2.setCell ⟨w.heap.size + 1 + 1 + 1, 2, none⟩ (.int .i64 2)) = u2 at s0 ⊢
  obtain ⟨c0, c1, c2, bx, P0, P1, P2, R0, R1, R2, O0, O1, O2, fP0, fP1, fP2, fR0, fR1, fR2, fO0, fO1, fO2, sz, lt, -, -, -, -⟩ := id s0
  rw [rounds_succ]
  go_wp2_with fail
  refine (sort3 (w.heap.size + 1 + 1) (w.heap.size + 1) (w.heap.size + 1 + 1 + 1) 3 3 u2 u2 (by omega) (by omega) ⟨bx, R0, R1, R2, O0, O1, O2, fO0, fO1, fO2, rfl, fun _ _ => rfl, rfl, rfl, rfl⟩).mono ?_
  rintro e w3 ⟨rfl, s1⟩
  replace s0 := s0.sorted s1
  clear s1
  clear c0 c1 c2 bx P0 P1 P2 R0 R1 R2 O0 O1 O2 fP0 fP1 fP2 fR0 fR1 fR2 fO0 fO1 fO2 sz lt
  obtain ⟨c0, c1, c2, bx, P0, P1, P2, R0, R1, R2, O0, O1, O2, fP0, fP1, fP2, fR0, fR1, fR2, fO0, fO1, fO2, sz, lt, -, -, -, -⟩ := id s0
  go_wp2_with fail
  refine wp_loop_rounds 2 ?_
  rw [rounds_succ]
  go_wp2_with fail
  replace s0 := s0.setP2 2
  clear c0 c1 c2 bx P0 P1 P2 R0 R1 R2 O0 O1 O2 fP0 fP1 fP2 fR0 fR1 fR2 fO0 fO1 fO2 sz lt
  generalize (w3.setCell ⟨w.heap.size, 2, none⟩ (.int .i64 2)) = w4 at s0 ⊢
  obtain ⟨c0, c1, c2, bx, P0, P1, P2, R0, R1, R2, O0, O1, O2, fP0, fP1, fP2, fR0, fR1, fR2, fO0, fO1, fO2, sz, lt, -, -, -, -⟩ := id s0
  rw [rounds_succ]
  go_wp2_with fail
  go_ret2
  exact ⟨w.heap.size, 3, rfl, P0, P1, P2, s0.os, s0.tp, s0.ou, by omega, s0.bl⟩
end Go.Proofs.YtlahdfmciaibdaaDoor

/- Best at the law's own example: the walk. -/
namespace Go.Proofs.YtlahdfmciaibdaaDoor
open Go.RowKit
set_option linter.unusedVariables false
set_option linter.unusedSimpArgs false

theorem BS.other {w0 w : World} {xn xd bn bd ln ld : Int} (s : BS w0 w xn xd bn bd ln ld) (a : Addr) (x : Value) (h0 : ¬ a.block = w0.heap.size) (h1 : ¬ a.block = w0.heap.size + 1) (h2 : ¬ a.block = w0.heap.size + 1 + 1) (hB : w0.heap.size ≤ a.block) : BS w0 (w.setCell a x) xn xd bn bd ln ld := by
  have k0 : (w.setCell a x).heap[w0.heap.size]? = w.heap[w0.heap.size]? := Below.heap_setCell _ _ _ _ (fun h => h0 h.symm)
  have k1 : (w.setCell a x).heap[w0.heap.size + 1]? = w.heap[w0.heap.size + 1]? := Below.heap_setCell _ _ _ _ (fun h => h1 h.symm)
  have k2 : (w.setCell a x).heap[w0.heap.size + 1 + 1]? = w.heap[w0.heap.size + 1 + 1]? := Below.heap_setCell _ _ _ _ (fun h => h2 h.symm)
  exact ⟨(cell_kept k0).trans s.x0, (cell_kept k0).trans s.x1, (cell_kept k1).trans s.b0, (cell_kept k1).trans s.b1, (cell_kept k2).trans s.l0, (cell_kept k2).trans s.l1,
    (frozen_kept k0).trans s.fx0, (frozen_kept k0).trans s.fx1, (frozen_kept k1).trans s.fb0, (frozen_kept k1).trans s.fb1, (frozen_kept k2).trans s.fl0, (frozen_kept k2).trans s.fl1, by simpa using s.sz, s.bl.setCell hB _⟩

def BestAt (w : World) (vt vb : Value) (wr : World) : Prop := (vt = .int .i64 355 ∧ vb = .int .i64 113 ∧ BS w wr 0 0 0 1 1 0) ∨ (vt = .int .i64 113 ∧ vb = .int .i64 16 ∧ BS w wr 0 0 1 0 3 1) ∨ (vt = .int .i64 16 ∧ vb = .int .i64 1 ∧ BS w wr 0 0 3 1 22 7)

set_option maxRecDepth 100000 in
set_option maxHeartbeats 4000000 in
theorem best3 (w : World) :
    Calls Tryd.prog 22 #[.int .i64 355, .int .i64 113, .int .i64 10] w fun e w' => e = .returned (fracV 22 7 0) ∧ Below w.heap.size w w' := by
  go_enter Tryd.func22, Tryd.ntmps22
  go_wp2_with fail
  refine (within_any _ _ (by decide) (by decide) _).mono ?_
  rintro e w' ⟨rfl, rfl⟩
  rw [show wthB 355 1099511627776 = true from by decide]
  go_wp2_with fail
  have s0 : BS w (((w.alloc (Obj.cells #[Value.int IntKind.i64 0, Value.int IntKind.i64 0] 33)).alloc (Obj.cells #[Value.int IntKind.i64 0, Value.int IntKind.i64 1] 33)).alloc (Obj.cells #[Value.int IntKind.i64 1, Value.int IntKind.i64 0] 33)) 0 0 0 1 1 0 := by
    refine ⟨?_, ?_, ?_, ?_, ?_, ?_, ?_, ?_, ?_, ?_, ?_, ?_, ?_, ((((Below.refl _ _).alloc (Nat.le_refl _) _).alloc (by simp) _).alloc (by simp; omega) _)⟩
    all_goals (simp [go_sem]; done)
  have S0 := Lib.hid s0; clear s0
  generalize ((w.alloc (Obj.cells #[Value.int IntKind.i64 0, Value.int IntKind.i64 0] 33)).alloc (Obj.cells #[Value.int IntKind.i64 0, Value.int IntKind.i64 1] 33)).alloc (Obj.cells #[Value.int IntKind.i64 1, Value.int IntKind.i64 0] 33) = w1 at S0 ⊢
  go_loopw [10, 11] (fun vt vb wr => BestAt w vt vb wr) (fun _ vb _ => (intOf vb).toNat)
  case atStart => exact Or.inl ⟨rfl, rfl, S0.out⟩
  case round =>
    clear S0
    rcases hrel with ⟨rfl, rfl, s0⟩ | ⟨rfl, rfl, s0⟩ | ⟨rfl, rfl, s0⟩
    · obtain ⟨x0, x1, b0, b1, l0, l1, fx0, fx1, fb0, fb1, fl0, fl1, sz, -⟩ := id s0
      go_wp2_with fail
      refine (floor_any 355 113 (by decide) (by decide) (by decide) (by decide) _).mono ?_
      rintro e w' ⟨rfl, rfl⟩
      rw [show (355 : Int) / 113 = 3 from by decide]
      go_wp2_with fail
      go_region_law (first | (go_simp; go_at_call 45; refine (along_any 0 1 1 0 3 (by decide) (by decide) (by decide) (by decide) (by decide) (by decide) (by decide) (by decide) _).mono ?_; rintro e w2 ⟨rfl, hq⟩; (first | replace s0 := s0.below hq | replace s0 := s0.drew.below hq | replace s0 := (s0.drewN _).below hq); clear x0 x1 b0 b1 l0 l1 fx0 fx1 fb0 fb1 fl0 fl1 sz; obtain ⟨x0, x1, b0, b1, l0, l1, fx0, fx1, fb0, fb1, fl0, fl1, sz, -⟩ := id s0))
      all_goals
        replace s0 := (((s0.setb0 1).setb1 0).setl0 3).setl1 1
        clear x0 x1 b0 b1 l0 l1 fx0 fx1 fb0 fb1 fl0 fl1 sz
        have S0 := Lib.hid s0; clear s0
        go_wp2_with fail
        go_roundw
        case rel => exact Or.inr (Or.inl ⟨rfl, rfl, S0.out⟩)
        case measure => simp [intOf]
    · obtain ⟨x0, x1, b0, b1, l0, l1, fx0, fx1, fb0, fb1, fl0, fl1, sz, -⟩ := id s0
      go_wp2_with fail
      refine (floor_any 113 16 (by decide) (by decide) (by decide) (by decide) _).mono ?_
      rintro e w' ⟨rfl, rfl⟩
      rw [show (113 : Int) / 16 = 7 from by decide]
      go_wp2_with fail
      go_region_law (first | (go_simp; go_at_call 45; refine (along_any 1 0 3 1 7 (by decide) (by decide) (by decide) (by decide) (by decide) (by decide) (by decide) (by decide) _).mono ?_; rintro e w2 ⟨rfl, hq⟩; (first | replace s0 := s0.below hq | replace s0 := s0.drew.below hq | replace s0 := (s0.drewN _).below hq); clear x0 x1 b0 b1 l0 l1 fx0 fx1 fb0 fb1 fl0 fl1 sz; obtain ⟨x0, x1, b0, b1, l0, l1, fx0, fx1, fb0, fb1, fl0, fl1, sz, -⟩ := id s0))
      all_goals
        replace s0 := (((s0.setb0 3).setb1 1).setl0 22).setl1 7
        clear x0 x1 b0 b1 l0 l1 fx0 fx1 fb0 fb1 fl0 fl1 sz
        have S0 := Lib.hid s0; clear s0
        go_wp2_with fail
        go_roundw
        case rel => exact Or.inr (Or.inr ⟨rfl, rfl, S0.out⟩)
        case measure => simp [intOf]
    · obtain ⟨x0, x1, b0, b1, l0, l1, fx0, fx1, fb0, fb1, fl0, fl1, sz, -⟩ := id s0
      go_wp2_with fail
      refine (floor_any 16 1 (by decide) (by decide) (by decide) (by decide) _).mono ?_
      rintro e w' ⟨rfl, rfl⟩
      rw [show (16 : Int) / 1 = 16 from by decide]
      go_wp2_with fail
      have z1 : w.heap.size + 1 < wr.heap.size := by omega
      have z0 : w.heap.size < wr.heap.size := by omega
      have hB0 : w.heap.size ≤ wr.heap.size := by omega
      have q0 : ¬ w.heap.size = wr.heap.size := by omega
      have q1 : ¬ w.heap.size + 1 = wr.heap.size := by omega
      have q2 : ¬ w.heap.size + 1 + 1 = wr.heap.size := by omega
      have p0 : ¬ wr.heap.size = w.heap.size := by omega
      have p1 : ¬ wr.heap.size = w.heap.size + 1 := by omega
      have p2 : ¬ wr.heap.size = w.heap.size + 1 + 1 := by omega
      go_region_held3 (fun w' => w'.cell? ⟨w.heap.size + 1, 0, none⟩ = some (.int .i64 3) ∧ w'.cell? ⟨w.heap.size + 1, 1, none⟩ = some (.int .i64 1) ∧ w'.cell? ⟨w.heap.size + 1 + 1, 0, none⟩ = some (.int .i64 22) ∧ w'.cell? ⟨w.heap.size + 1 + 1, 1, none⟩ = some (.int .i64 7))
        (first | exact ⟨b0, b1, l0, l1⟩ | (refine ⟨?_, ?_, ?_, ?_⟩ <;> simp [go_sem, b0, b1, l0, l1, sz, z1, z0, q1, q2, p1, p2]; done) | go_keep)
        (first | (go_at_call 45; rw [show IntKind.i64.wrap ((IntKind.i64.wrap 9).tdiv 7) = 1 from by decide]; refine (along_any 3 1 22 7 1 (by decide) (by decide) (by decide) (by decide) (by decide) (by decide) (by decide) (by decide) _).mono ?_; rintro e w2 ⟨rfl, hq⟩; (first | replace s0 := s0.drew.below hq | (replace s0 := ((s0.below ((Below.refl _ _).alloc (Nat.le_refl _) _)).drew).below hq; have a1 := hq.cell (p := ⟨wr.heap.size, 0, none⟩) (by simp); have a2 := hq.cell (p := ⟨wr.heap.size, 1, none⟩) (by simp); have a3 := hq.frozen (p := ⟨wr.heap.size, 0, none⟩) (by simp); have a4 := hq.frozen (p := ⟨wr.heap.size, 1, none⟩) (by simp); have a5 := hq.size; simp [go_sem] at a1 a2 a3 a4 a5)); clear x0 x1 b0 b1 l0 l1 fx0 fx1 fb0 fb1 fl0 fl1 sz; obtain ⟨x0, x1, b0, b1, l0, l1, fx0, fx1, fb0, fb1, fl0, fl1, sz, -⟩ := id s0; replace z1 : w.heap.size + 1 < w2.heap.size := (by omega); replace z0 : w.heap.size < w2.heap.size := (by omega)))
      · have o0 : (w2.alloc (Obj.cells #[Value.int IntKind.i64 25, Value.int IntKind.i64 8] 33)).cell? ⟨w2.heap.size, 0, none⟩ = some (.int .i64 25) := by simp [go_sem]
        have o1 : (w2.alloc (Obj.cells #[Value.int IntKind.i64 25, Value.int IntKind.i64 8] 33)).cell? ⟨w2.heap.size, 1, none⟩ = some (.int .i64 8) := by simp [go_sem]
        replace s0 := s0.below ((Below.refl _ _).alloc (Nat.le_refl _) (Obj.cells #[Value.int IntKind.i64 25, Value.int IntKind.i64 8] 33))
        generalize w2.alloc (Obj.cells #[Value.int IntKind.i64 25, Value.int IntKind.i64 8] 33) = v at s0 o0 o1 ⊢
        clear z1 z0
        clear x0 x1 b0 b1 l0 l1 fx0 fx1 fb0 fb1 fl0 fl1 sz
        obtain ⟨x0, x1, b0, b1, l0, l1, fx0, fx1, fb0, fb1, fl0, fl1, sz, -⟩ := id s0
        go_wp2_with fail
        refine (nearer_any 355 113 22 7 25 8 (by decide) (by decide) (by decide) (by decide) (by decide) (by decide) (by decide) (by decide) (by decide) (by decide) (by decide) (by decide) _).mono ?_
        rintro e w3 ⟨rfl, hr⟩
        rw [if_neg (by decide)]
        replace s0 := s0.below hr
        clear x0 x1 b0 b1 l0 l1 fx0 fx1 fb0 fb1 fl0 fl1 sz
        obtain ⟨x0, x1, b0, b1, l0, l1, fx0, fx1, fb0, fb1, fl0, fl1, sz, -⟩ := id s0
        have z0 : w.heap.size < w3.heap.size := by omega
        go_wp2_with fail
        exact bodyPost_ret (v := fracV 22 7 0) (by simp [results, Tryd.results22, go_sem, fracV, x0, x1, z0]) rfl ⟨rfl, ((s0.setx0 22).setx1 7).bl⟩
      · have o0 : ((w2.setCell ⟨wr.heap.size, 0, none⟩ (Value.int IntKind.i64 25)).setCell ⟨wr.heap.size, 1, none⟩ (Value.int IntKind.i64 8)).cell? ⟨wr.heap.size, 0, none⟩ = some (.int .i64 25) := by simp [go_sem, a1, a2]
        have o1 : ((w2.setCell ⟨wr.heap.size, 0, none⟩ (Value.int IntKind.i64 25)).setCell ⟨wr.heap.size, 1, none⟩ (Value.int IntKind.i64 8)).cell? ⟨wr.heap.size, 1, none⟩ = some (.int .i64 8) := by simp [go_sem, a1, a2]
        have hB := hB0
        replace s0 := (s0.other ⟨wr.heap.size, 0, none⟩ (Value.int IntKind.i64 25) p0 p1 p2 hB).other ⟨wr.heap.size, 1, none⟩ (Value.int IntKind.i64 8) p0 p1 p2 hB
        generalize (w2.setCell ⟨wr.heap.size, 0, none⟩ (Value.int IntKind.i64 25)).setCell ⟨wr.heap.size, 1, none⟩ (Value.int IntKind.i64 8) = v at s0 o0 o1 ⊢
        clear z1 z0
        clear x0 x1 b0 b1 l0 l1 fx0 fx1 fb0 fb1 fl0 fl1 sz
        obtain ⟨x0, x1, b0, b1, l0, l1, fx0, fx1, fb0, fb1, fl0, fl1, sz, -⟩ := id s0
        go_wp2_with fail
        refine (nearer_any 355 113 22 7 25 8 (by decide) (by decide) (by decide) (by decide) (by decide) (by decide) (by decide) (by decide) (by decide) (by decide) (by decide) (by decide) _).mono ?_
        rintro e w3 ⟨rfl, hr⟩
        rw [if_neg (by decide)]
        replace s0 := s0.below hr
        clear x0 x1 b0 b1 l0 l1 fx0 fx1 fb0 fb1 fl0 fl1 sz
        obtain ⟨x0, x1, b0, b1, l0, l1, fx0, fx1, fb0, fb1, fl0, fl1, sz, -⟩ := id s0
        have z0 : w.heap.size < w3.heap.size := by omega
        go_wp2_with fail
        exact bodyPost_ret (v := fracV 22 7 0) (by simp [results, Tryd.results22, go_sem, fracV, x0, x1, z0]) rfl ⟨rfl, ((s0.setx0 22).setx1 7).bl⟩
end Go.Proofs.YtlahdfmciaibdaaDoor

/- The closed example that every statement of the layer asks: it answers true, whatever the memory. -/
namespace Go.Proofs.YtlahdfmciaibdaaDoor
open Go.RowKit
set_option linter.unusedVariables false
set_option linter.unusedSimpArgs false

set_option maxRecDepth 100000 in
set_option maxHeartbeats 1000000 in
theorem alive_any (w : World) :
    Calls Tryd.prog 6 #[] w fun e w' => e = .returned (.bool true) ∧ Below w.heap.size w w' := by
  go_enter Tryd.func6, Tryd.ntmps6
  go_wp2_with fail
  refine (apportion3 _ _ _ (by simp [go_sem]) (by simp [go_sem]) (by simp [go_sem])).mono ?_
  rintro e w1 ⟨g, cp, rfl, g0, g1, g2, hb1⟩
  have hb := ((Below.refl w.heap.size w).alloc (Nat.le_refl _) _).trans (hb1.mono (by simp))
  clear hb1
  have lg : g < w1.heap.size := World.block_lt_of_cell? w1 _ g0
  go_wp2_with fail
  refine (best3 _).mono ?_
  rintro e w2 ⟨rfl, hb2⟩
  unfold fracV
  replace g0 := (hb2.cell (p := ⟨g, 0, none⟩) lg).trans g0
  replace g1 := (hb2.cell (p := ⟨g, 1, none⟩) lg).trans g1
  replace g2 := (hb2.cell (p := ⟨g, 2, none⟩) lg).trans g2
  replace lg : g < w2.heap.size := Nat.lt_of_lt_of_le lg hb2.size
  replace hb := hb.trans (hb2.mono hb.size)
  clear hb2
  go_wp2_with fail
  refine (decimal3 _).mono ?_
  rintro e w3 ⟨rfl, hb3⟩
  have q0 : w3.cell? ⟨w2.heap.size, 0, none⟩ = some (.int .i64 22) := (hb3.cell (p := ⟨w2.heap.size, 0, none⟩) (by simp)).trans (by simp [go_sem])
  have q1 : w3.cell? ⟨w2.heap.size, 1, none⟩ = some (.int .i64 7) := (hb3.cell (p := ⟨w2.heap.size, 1, none⟩) (by simp)).trans (by simp [go_sem])
  replace hb3 : Below w2.heap.size w2 w3 := ((Below.refl _ w2).alloc (Nat.le_refl _) _).trans (hb3.mono (by simp))
  replace g0 := (hb3.cell (p := ⟨g, 0, none⟩) lg).trans g0
  replace g1 := (hb3.cell (p := ⟨g, 1, none⟩) lg).trans g1
  replace g2 := (hb3.cell (p := ⟨g, 2, none⟩) lg).trans g2
  replace hb := hb.trans (hb3.mono hb.size)
  have lg3 : g < w3.heap.size := Nat.lt_of_lt_of_le lg hb3.size
  have lf3 : w2.heap.size < w3.heap.size := World.block_lt_of_cell? w3 _ q0
  clear hb3 lg
  generalize w2.heap.size = F at q0 q1 lf3 ⊢
  go_wp2_with fail
  refine (same3 g w3.heap.size _ _ 4 4 2 _ (by simp [go_sem, g0, lg3]) (by simp [go_sem, g1, lg3]) (by simp [go_sem, g2, lg3]) (by simp [go_sem]) (by simp [go_sem]) (by simp [go_sem])).mono ?_
  rintro e w4 ⟨rfl, n4, rfl⟩
  go_wp2_with fail
  refine (Valid_any 22 7 (by decide) (by decide) _).mono ?_
  rintro e w5 ⟨rfl, hb5⟩
  rw [show vldB 22 7 = true from by kernel_rfl]
  go_wp2_with fail
  go_ret
  refine ⟨rfl, ?_⟩
  have hb4 := below_drewN (hb.alloc hb.size (Obj.cells #[Value.int IntKind.i64 4, Value.int IntKind.i64 4, Value.int IntKind.i64 2] 3)) n4
  exact hb4.trans (hb5.mono hb4.size)
end Go.Proofs.YtlahdfmciaibdaaDoor

/- The law NumDivides: its walk. -/
namespace Go.Proofs.YtlahdfmciaibdaaDoor
open Go.RowKit
set_option linter.unusedVariables false
set_option linter.unusedSimpArgs false

theorem few_dv (p : Option Addr) (n c : Nat) (w : World) :
    Calls Tryd.prog 5 #[.slice p n c] w fun e w' => e = .returned (.bool (decide (n ≤ 300))) ∧ w = w' := by
  go_enter Tryd.func5, Tryd.ntmps5
  go_wp2
  all_goals go_ret
  all_goals exact ⟨ret_b (by rw [Bool.eq_iff_iff]; simp; try omega), rfl⟩
end Go.Proofs.YtlahdfmciaibdaaDoor
namespace Go.Proofs.YtlahdfmciaibdaaDoor.numDivides
open Go.RowKit Go.Proofs.YtlahdfmciaibdaaDoor.Prs Go.Proofs.YtlahdfmciaibdaaDoor.Stb
set_option linter.unusedVariables false
set_option linter.unusedSimpArgs false

set_option maxRecDepth 100000 in
set_option maxHeartbeats 8000000 in
theorem walkD (T : Int) (q : Option Addr) (c : Nat) (l : List Int) (t1 : -9223372036854775808 ≤ T) (t2 : T ≤ 9223372036854775807) (w : World) (r : RowA w q l) :
    Calls Tryd.prog 3 #[.int .i64 T, .slice q l.length c] w fun e w' => e = .returned (.bool true) ∧ Below w.heap.size w w' := by
  have R := Lib.hid r
  have CP := Lib.hid (fun W h (ln : l.length ≤ 300) => copied_any q c l W h ln)
  have AP := Lib.hid (fun p d W h (ln : l.length ≤ 300) => (Apportion_any T p d l W h (by omega)).mono fun e w' hh => apR_dv hh)
  have DP := Lib.hid (fun p d W h (ln : l.length ≤ 300) => (Divide_any T p d l W h (by omega)).mono fun e w' hh => divR_dv hh)
  have RA := Lib.hid (fun W h (ln : l.length ≤ 300) (w1 w2 : World) (q1 : Option Addr) (P1 : List Int) (E1 : Int) (h1 : DvS (GA T l) T l w1 q1 P1 E1 w2) => rApportion_dv T q c l W h (by omega) h1)
  have RD := Lib.hid (fun W h (ln : l.length ≤ 300) => (rDivide_any T q c l W h (by omega)).mono fun e w' hh => divR_dv hh)
  have KP := Lib.hid (fun b W h s (ln : l.length ≤ 300) => kept_any b q c l W h s (by omega))
  unfold DvE at AP DP RA RD
  obtain ⟨x, hx⟩ : ∃ x, x = l.length := ⟨_, rfl⟩
  rw [← hx] at CP AP DP RA RD KP ⊢
  have HX := Lib.hid hx
  clear hx r
  have KB : Hid (Below w.heap.size w w) := Below.refl _ _
  go_enter Tryd.func3, Tryd.ntmps3
  go_wp2_with fail
  refine (few_dv q x c _).mono ?_
  rintro e w0 ⟨rfl, rfl⟩
  by_cases hf : x ≤ 300
  · rw [show decide (x ≤ 300) = true by simpa using hf]
    go_wp2_with fail
    refine (CP.out _ R.out hf).mono ?_
    rintro e w1 ⟨bw, rfl, C1, hb1, B1⟩
    replace C1 := Lib.hid C1
    replace KB := Lib.hid B1
    have HB := Lib.hid hb1
    clear CP hb1 B1
    go_wp2_with fail
    refine (AP.out _ _ _ C1.out.rowA hf).mono ?_
    rintro e w2 ⟨qa, Pa, Ea, rfl, QA⟩
    replace QA := Lib.hid QA
    have s1 := KB.out.size
    have s2 := QA.out.bel.size
    have KB2 := Lib.hid (KB.out.trans (QA.out.bel.mono s1))
    go_wp2_with fail
    refine (RA.out _ (R.out.below KB2.out) hf _ _ _ _ _ QA.out).mono ?_
    rintro e w3 ⟨qb, Pb, Eb, rfl, QB⟩
    obtain ⟨eP, eE⟩ := dv_det ea_det QA.out QB
    subst eP eE
    replace QB := Lib.hid QB
    have s3 := QB.out.bel.size
    have KB3 := Lib.hid (KB2.out.trans (QB.out.bel.mono (by omega)))
    have B13 := Lib.hid (QA.out.bel.trans (QB.out.bel.mono s2))
    clear RA
    go_wp2_with fail
    refine (DP.out _ _ _ (C1.out.below B13.out).rowA hf).mono ?_
    rintro e w4 ⟨qc, Pc, Ec, rfl, QC⟩
    replace QC := Lib.hid QC
    have s4 := QC.out.bel.size
    have KB4 := Lib.hid (KB3.out.trans (QC.out.bel.mono (by omega)))
    go_wp2_with fail
    refine (RD.out _ (R.out.below KB4.out) hf).mono ?_
    rintro e w5 ⟨qd, Pd, Ed, rfl, QD⟩
    obtain ⟨eP, eE⟩ := dv_det ed_det QC.out QD
    subst eP eE
    replace QD := Lib.hid QD
    have s5 := QD.out.bel.size
    have KB5 := Lib.hid (KB4.out.trans (QD.out.bel.mono (by omega)))
    have B45 := Lib.hid QD.out.bel
    have B35 := Lib.hid (QC.out.bel.trans (B45.out.mono s4))
    have B25 := Lib.hid (QB.out.bel.trans (B35.out.mono s3))
    have B15 := Lib.hid (QA.out.bel.trans (B25.out.mono s2))
    have PA := Lib.hid (QA.out.prt.keep (Below.frm B25.out) (fun k hk => by cases hk))
    have PB := Lib.hid (QB.out.prt.keep (Below.frm B35.out) (fun k hk => by cases hk))
    have PC := Lib.hid (QC.out.prt.keep (Below.frm B45.out) (fun k hk => by cases hk))
    have PD := Lib.hid QD.out.prt
    have CO := Lib.hid (C1.out.below B15.out)
    have bl : bw < w1.heap.size := C1.out.lt
    have la : Pa.length ≤ 300 := by have := QA.out.len; have := HX.out; omega
    have lc : Pc.length ≤ 300 := by have := QC.out.len; have := HX.out; omega
    have SE := Lib.hid (fun qe W h h' => same_eq qe qb Pa.length Pa.length Pa W h h' (by omega))
    have SF := Lib.hid (fun qf W h h' => same_eq qf qd Pc.length Pc.length Pc W h h' (by omega))
    have SA := Lib.hid (fun W h h' => same_eq qa qb Pa.length Pa.length Pa W h h' (by omega))
    have SC := Lib.hid (fun W h h' => same_eq qc qd Pc.length Pc.length Pc W h h' (by omega))
    have PPA := Lib.hid (fun W h hn => spoilt_any w1.heap.size qa Pa W h hn (by omega) PA.out.rng)
    have PPC := Lib.hid (fun W h hn => spoilt_any w3.heap.size qc Pc W h hn (by omega) PC.out.rng)
    obtain ⟨ga, hga⟩ : ∃ ga : Int, ga = ((Pa.length + 20 : Nat) : Int) := ⟨_, rfl⟩
    obtain ⟨gc, hgc⟩ : ∃ gc : Int, gc = ((Pc.length + 20 : Nat) : Int) := ⟨_, rfl⟩
    rw [← hga] at PPA
    rw [← hgc] at PPC
    obtain ⟨gs, hgs⟩ : ∃ gs, gs = ga + gc := ⟨_, rfl⟩
    have e1 : IntKind.i64.wrap (ga + gc) = gs := by rw [hgs]; exact IntWalk.i64_in _ (by omega)
    have g40 : 40 ≤ gs := by omega
    have g41 : ¬ gs < 40 := by omega
    have h3 : (Ea != Ea) = false := by simp
    have h4 : (Ec != Ec) = false := by simp
    clear hga hgc hgs QB QD KB KB2 KB3 KB4 B13 RD la lc
    go_wp2_with fail
    refine (SA.out _ PA.out.row PB.out.row).mono ?_
    rintro e wq ⟨rfl, n1, rfl⟩
    go_wp2_with fail
    refine (SC.out _ (by first | exact PC.out.row | exact PC.out.row.drewN _ | exact (PC.out.row.drewN _).drewN _ | exact ((PC.out.row.drewN _).drewN _).drewN _) (by first | exact PD.out.row | exact PD.out.row.drewN _ | exact (PD.out.row.drewN _).drewN _ | exact ((PD.out.row.drewN _).drewN _).drewN _)).mono ?_
    rintro e wq ⟨rfl, n2, rfl⟩
    go_wp2_with fail
    refine (KP.out bw _ (by first | exact CO.out.below (below_drewN (Below.refl _ _) _) | exact CO.out.below (below_drewN (below_drewN (Below.refl _ _) _) _)) (by first | exact (R.out.below KB5.out) | exact (R.out.below KB5.out).drewN _ | exact ((R.out.below KB5.out).drewN _).drewN _ | exact (((R.out.below KB5.out).drewN _).drewN _).drewN _) hf).mono ?_
    rintro e wq ⟨rfl, n3, rfl⟩
    clear KP
    go_wp2_with fail
    refine (PPA.out _ (by exact PA.out.own) (by show w1.heap.size ≤ w5.heap.size; omega)).mono ?_
    rintro e w6 ⟨rfl, F6, B6⟩
    replace F6 : Hid (Frm w5 w6 _) := F6
    have s6 : w5.heap.size ≤ w6.heap.size := F6.out.1
    have KB6 := Lib.hid (show Below w.heap.size w w6 from KB5.out.trans ((show Below w1.heap.size w5 w6 from by first | exact B6 | exact (below_drewN (Below.refl _ _) _).trans B6 | exact (below_drewN (below_drewN (Below.refl _ _) _) _).trans B6 | exact (below_drewN (below_drewN (below_drewN (Below.refl _ _) _) _) _).trans B6).mono s1))
    have PB6 := Lib.hid (PB.out.keep F6.out (fun k hk => .inl (PA.out.blk k hk).2))
    have PC6 := Lib.hid (PC.out.keep F6.out (fun k hk => .inl (by have := (PA.out.blk k hk).2; omega)))
    have PD6 := Lib.hid (PD.out.keep F6.out (fun k hk => .inl (by have := (PA.out.blk k hk).2; omega)))
    have CO6 := Lib.hid (CO.out.frm F6.out (fun k hk => by have := (PA.out.blk k hk).1; omega))
    clear PPA PA F6 B6 PB PC PD CO
    go_wp2_with fail
    refine (PPC.out _ PC6.out.own (by omega)).mono ?_
    rintro e w7 ⟨rfl, F7, B7⟩
    replace F7 : Hid (Frm w6 w7 _) := F7
    have s7 : w6.heap.size ≤ w7.heap.size := F7.out.1
    have KB7 := Lib.hid (KB6.out.trans (B7.mono (by omega)))
    have PB7 := Lib.hid (PB6.out.keep F7.out (fun k hk => .inr (PC6.out.blk k hk).1))
    have PD7 := Lib.hid (PD6.out.keep F7.out (fun k hk => .inl (PC6.out.blk k hk).2))
    have CO7 := Lib.hid (CO6.out.frm F7.out (fun k hk => by have := (PC6.out.blk k hk).1; omega))
    clear PPC F7 B7 PB6 PC6 PD6 CO6 KB6
    go_wp2_with fail
    refine (AP.out _ _ _ CO7.out.rowA hf).mono ?_
    rintro e w8 ⟨qe, Pe, Ee, rfl, QE⟩
    obtain ⟨eP, eE⟩ := dv_det ea_det QA.out QE
    subst eP eE
    replace QE := Lib.hid QE
    have s8 := QE.out.bel.size
    clear AP QA
    go_wp2_with fail
    refine (DP.out _ _ _ (CO7.out.below QE.out.bel).rowA hf).mono ?_
    rintro e w9 ⟨qf, Pf, Ef, rfl, QF⟩
    obtain ⟨eP, eE⟩ := dv_det ed_det QC.out QF
    subst eP eE
    replace QF := Lib.hid QF
    have B79 := Lib.hid (QE.out.bel.trans (QF.out.bel.mono s8))
    have KB := Lib.hid (KB7.out.trans (B79.out.mono KB7.out.size))
    have PB9 := Lib.hid (PB7.out.keep (Below.frm B79.out) (fun k hk => by cases hk)).row
    have PD9 := Lib.hid (PD7.out.keep (Below.frm B79.out) (fun k hk => by cases hk)).row
    have PE9 := Lib.hid (QE.out.prt.keep (Below.frm QF.out.bel) (fun k hk => by cases hk)).row
    have PF9 := Lib.hid QF.out.prt.row
    clear DP QC QE QF
    go_wp2_with fail
    refine (SE.out qe _ PE9.out PB9.out).mono ?_
    rintro e wq ⟨rfl, n4, rfl⟩
    go_wp2_with fail
    refine (SF.out qf _ (by first | exact PF9.out | exact PF9.out.drewN _ | exact (PF9.out.drewN _).drewN _ | exact ((PF9.out.drewN _).drewN _).drewN _) (by first | exact PD9.out | exact PD9.out.drewN _ | exact (PD9.out.drewN _).drewN _ | exact ((PD9.out.drewN _).drewN _).drewN _)).mono ?_
    rintro e wq ⟨rfl, n5, rfl⟩
    replace KB := Lib.hid (below_drewN KB.out (n4 + n5))
    go_wp2_with fail
    refine (alive_any _).mono ?_
    rintro e wq ⟨rfl, hq⟩
    have B9 := Lib.hid (KB.out.trans ((show Below _ _ wq from by first | exact hq | exact ((Below.refl _ _).drew).trans hq | exact (below_drewN (Below.refl _ _) _).trans hq).mono KB.out.size))
    clear hq
    go_wp2_with fail
    go_ret
    exact ⟨rfl, by first | exact B9.out | exact B9.out.drew | exact below_drewN B9.out _⟩
  · rw [show decide (x ≤ 300) = false by simpa using hf]
    go_wp2_with fail
    refine (alive_any _).mono ?_
    rintro e wq ⟨rfl, hq⟩
    have B9 := Lib.hid (KB.out.trans ((show Below _ _ wq from by first | exact hq | exact ((Below.refl _ _).drew).trans hq | exact (below_drewN (Below.refl _ _) _).trans hq).mono KB.out.size))
    clear hq
    go_wp2_with fail
    go_ret
    exact ⟨rfl, by first | exact B9.out | exact B9.out.drew | exact below_drewN B9.out _⟩
end Go.Proofs.YtlahdfmciaibdaaDoor.numDivides
