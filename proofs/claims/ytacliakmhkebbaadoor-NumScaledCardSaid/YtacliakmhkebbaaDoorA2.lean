/- Apportion at the law's own example. -/
import Derived.Test.YtacliakmhkebbaaDoorA1
namespace Go.Proofs.YtacliakmhkebbaaDoor
open Go.RowKit
set_option linter.unusedVariables false
set_option linter.unusedSimpArgs false

theorem isAmount_any (n : Int) (w : World) :
    Calls Tryd.prog 52 #[.int .i64 n] w fun e w' => e = .returned (.bool (decide (0 ≤ n) && decide (n ≤ 1125899906842624))) ∧ w = w' := by
  go_enter Tryd.func52, Tryd.ntmps52
  go_wp2
  all_goals go_ret
  all_goals exact ⟨ret_b (by rw [Bool.eq_iff_iff]; simp; try omega), rfl⟩
theorem isWeight_any (n : Int) (w : World) :
    Calls Tryd.prog 53 #[.int .i64 n] w fun e w' => e = .returned (.bool (decide (0 ≤ n) && decide (n ≤ 1073741824))) ∧ w = w' := by
  go_enter Tryd.func53, Tryd.ntmps53
  go_wp2
  all_goals go_ret
  all_goals exact ⟨ret_b (by rw [Bool.eq_iff_iff]; simp; try omega), rfl⟩

theorem sumOf3 (b cap : Nat) (w : World) (c0 : w.cell? ⟨b, 0, none⟩ = some (.int .i64 3)) (c1 : w.cell? ⟨b, 1, none⟩ = some (.int .i64 3)) (c2 : w.cell? ⟨b, 2, none⟩ = some (.int .i64 1)) :
    Calls Tryd.prog 32 #[.int .i64 10, .slice (some ⟨b, 0, none⟩) 3 cap] w fun e w' => e = .returned (.tuple #[.int .i64 7, .int .i64 0]) ∧ w = w' := by
  go_enter Tryd.func32, Tryd.ntmps32
  go_wp2_with (first
    | (go_at_call 52; refine (isAmount_any _ _).mono ?_; rintro e w' ⟨rfl, rfl⟩)
    | (go_at_call 53; refine (isWeight_any _ _).mono ?_; rintro e w' ⟨rfl, rfl⟩))
  refine wp_loop_rounds 4 ?_
  rw [rounds_succ]
  go_wp2_with (first
    | (go_at_call 53; refine (isWeight_any _ _).mono ?_; rintro e w' ⟨rfl, rfl⟩))
  rw [rounds_succ]
  go_wp2_with (first
    | (go_at_call 53; refine (isWeight_any _ _).mono ?_; rintro e w' ⟨rfl, rfl⟩))
  rw [rounds_succ]
  go_wp2_with (first
    | (go_at_call 53; refine (isWeight_any _ _).mono ?_; rintro e w' ⟨rfl, rfl⟩))
  rw [rounds_succ]
  go_wp2_with (first
    | (go_at_call 53; refine (isWeight_any _ _).mono ?_; rintro e w' ⟨rfl, rfl⟩))
  go_ret2
  exact ⟨rfl, rfl⟩

/-- share, where the product fits a word. -/
theorem share_lo (t m s : Int) (h1 : 0 ≤ t) (h2 : 0 ≤ m) (h3 : 1 ≤ s) (h4 : s ≤ 1125899906842624) (h5 : t ≤ 1125899906842624) (h6 : m ≤ 1125899906842624) (hp : t * m ≤ 9223372036854775807) (w : World) :
    Calls Tryd.prog 33 #[.int .i64 t, .int .i64 m, .int .i64 s] w fun e w' => e = .returned (.tuple #[.int .i64 (t * m / s), .int .u64 (t * m % s)]) ∧ ∃ n, w' = w.drewN n := by
  have p0 : 0 ≤ t * m := Int.mul_nonneg h1 h2
  have e1 : (t.natAbs : Int) = t := by omega
  have e2 : (m.natAbs : Int) = m := by omega
  have e3 : (s.natAbs : Int) = s := by omega
  have z1 : t * m / 18446744073709551616 = 0 := by omega
  have z2 : t * m % 18446744073709551616 = t * m := by omega
  have q0 : 0 ≤ t * m / s := Int.ediv_nonneg p0 (by omega)
  have q1 : t * m / s ≤ t * m := Int.ediv_le_self _ p0
  have q2 : t * m / s ≤ 9223372036854775807 := by omega
  have E1 := Lib.hid e1; have E2 := Lib.hid e2; have E3 := Lib.hid e3; have Z1 := Lib.hid z1; have Z2 := Lib.hid z2
  clear e1 e2 e3 z1 z2
  go_enter Tryd.func33, Tryd.ntmps33
  go_wp2_with fail
  refine (size_any _ (by omega) (by omega) _).mono ?_
  rintro e w1 ⟨rfl, rfl⟩
  rw [E1.out]
  go_wp2_with fail
  refine (size_any _ (by omega) (by omega) _).mono ?_
  rintro e w1 ⟨rfl, rfl⟩
  rw [E2.out]
  go_wp2_with fail
  refine (mul64_any _ _ (by omega) (by omega) (by omega) (by omega) _).mono ?_
  rintro e w1 ⟨rfl, rfl⟩
  rw [Z1.out, Z2.out]
  go_wp2_with fail
  refine (size_any _ (by omega) (by omega) _).mono ?_
  rintro e w1 ⟨rfl, rfl⟩
  rw [E3.out]
  go_wp2_with fail
  refine (div64_lo _ _ p0 (by omega) (by omega) (by omega) _).mono ?_
  rintro e w1 ⟨rfl, n1, rfl⟩
  go_wp2_with fail
  go_ret2
  exact ⟨rfl, _, rfl⟩

/-- Apportion's memory at the example: the parts, the remainders with their box, the order. -/
structure A3 (b : Nat) (w0 w : World) (p0 p1 p2 r0 r1 r2 o0 o1 o2 : Int) : Prop where
  c0 : w.cell? ⟨b, 0, none⟩ = some (.int .i64 3)
  c1 : w.cell? ⟨b, 1, none⟩ = some (.int .i64 3)
  c2 : w.cell? ⟨b, 2, none⟩ = some (.int .i64 1)
  bx : w.cell? ⟨w0.heap.size + 1 + 1, 0, none⟩ = some (.slice (some ⟨w0.heap.size + 1, 0, none⟩) 3 3)
  P0 : w.cell? ⟨w0.heap.size, 0, none⟩ = some (.int .i64 p0)
  P1 : w.cell? ⟨w0.heap.size, 1, none⟩ = some (.int .i64 p1)
  P2 : w.cell? ⟨w0.heap.size, 2, none⟩ = some (.int .i64 p2)
  R0 : w.cell? ⟨w0.heap.size + 1, 0, none⟩ = some (.int .u64 r0)
  R1 : w.cell? ⟨w0.heap.size + 1, 1, none⟩ = some (.int .u64 r1)
  R2 : w.cell? ⟨w0.heap.size + 1, 2, none⟩ = some (.int .u64 r2)
  O0 : w.cell? ⟨w0.heap.size + 1 + 1 + 1, 0, none⟩ = some (.int .i64 o0)
  O1 : w.cell? ⟨w0.heap.size + 1 + 1 + 1, 1, none⟩ = some (.int .i64 o1)
  O2 : w.cell? ⟨w0.heap.size + 1 + 1 + 1, 2, none⟩ = some (.int .i64 o2)
  fP0 : w.frozen? ⟨w0.heap.size, 0, none⟩ = false
  fP1 : w.frozen? ⟨w0.heap.size, 1, none⟩ = false
  fP2 : w.frozen? ⟨w0.heap.size, 2, none⟩ = false
  fR0 : w.frozen? ⟨w0.heap.size + 1, 0, none⟩ = false
  fR1 : w.frozen? ⟨w0.heap.size + 1, 1, none⟩ = false
  fR2 : w.frozen? ⟨w0.heap.size + 1, 2, none⟩ = false
  fO0 : w.frozen? ⟨w0.heap.size + 1 + 1 + 1, 0, none⟩ = false
  fO1 : w.frozen? ⟨w0.heap.size + 1 + 1 + 1, 1, none⟩ = false
  fO2 : w.frozen? ⟨w0.heap.size + 1 + 1 + 1, 2, none⟩ = false
  sz : w.heap.size = w0.heap.size + 1 + 1 + 1 + 1
  lt : b < w0.heap.size
  bl : ∀ k, k < w0.heap.size → w.heap[k]? = w0.heap[k]?
  os : w.os = w0.os
  tp : w.tape = w0.tape
  ou : w.output = w0.output
theorem A3.drewN {b : Nat} {w0 w : World} {p0 p1 p2 r0 r1 r2 o0 o1 o2 : Int} (s : A3 b w0 w p0 p1 p2 r0 r1 r2 o0 o1 o2) (n : Nat) : A3 b w0 (w.drewN n) p0 p1 p2 r0 r1 r2 o0 o1 o2 :=
  ⟨s.c0, s.c1, s.c2, s.bx, s.P0, s.P1, s.P2, s.R0, s.R1, s.R2, s.O0, s.O1, s.O2, s.fP0, s.fP1, s.fP2, s.fR0, s.fR1, s.fR2, s.fO0, s.fO1, s.fO2, s.sz, s.lt, s.bl, s.os, s.tp, s.ou⟩
theorem A3.drew {b : Nat} {w0 w : World} {p0 p1 p2 r0 r1 r2 o0 o1 o2 : Int} (s : A3 b w0 w p0 p1 p2 r0 r1 r2 o0 o1 o2) : A3 b w0 w.drew p0 p1 p2 r0 r1 r2 o0 o1 o2 :=
  ⟨s.c0, s.c1, s.c2, s.bx, s.P0, s.P1, s.P2, s.R0, s.R1, s.R2, s.O0, s.O1, s.O2, s.fP0, s.fP1, s.fP2, s.fR0, s.fR1, s.fR2, s.fO0, s.fO1, s.fO2, s.sz, s.lt, s.bl, s.os, s.tp, s.ou⟩
theorem A3.setP0 {b : Nat} {w0 w : World} {p0 p1 p2 r0 r1 r2 o0 o1 o2 : Int} (s : A3 b w0 w p0 p1 p2 r0 r1 r2 o0 o1 o2) (v : Int) : A3 b w0 (w.setCell ⟨w0.heap.size, 0, none⟩ (.int .i64 v)) v p1 p2 r0 r1 r2 o0 o1 o2 := by
  obtain ⟨c0, c1, c2, bx, P0, P1, P2, R0, R1, R2, O0, O1, O2, fP0, fP1, fP2, fR0, fR1, fR2, fO0, fO1, fO2, sz, lt, bl, os, tp, ou⟩ := s
  have n0 : b ≠ w0.heap.size := by omega
  refine ⟨?_, ?_, ?_, ?_, ?_, ?_, ?_, ?_, ?_, ?_, ?_, ?_, ?_, ?_, ?_, ?_, ?_, ?_, ?_, ?_, ?_, ?_, ?_, lt, fun k hk => ?_, os, tp, ou⟩
  all_goals first | (rw [Below.heap_setCell _ _ _ _ (show k ≠ _ by show k ≠ w0.heap.size; omega)]; exact bl k hk) | (simp [go_sem, n0, c0, c1, c2, bx, P0, P1, P2, R0, R1, R2, O0, O1, O2, fP0, fP1, fP2, fR0, fR1, fR2, fO0, fO1, fO2, sz]; done)
theorem A3.setP1 {b : Nat} {w0 w : World} {p0 p1 p2 r0 r1 r2 o0 o1 o2 : Int} (s : A3 b w0 w p0 p1 p2 r0 r1 r2 o0 o1 o2) (v : Int) : A3 b w0 (w.setCell ⟨w0.heap.size, 1, none⟩ (.int .i64 v)) p0 v p2 r0 r1 r2 o0 o1 o2 := by
  obtain ⟨c0, c1, c2, bx, P0, P1, P2, R0, R1, R2, O0, O1, O2, fP0, fP1, fP2, fR0, fR1, fR2, fO0, fO1, fO2, sz, lt, bl, os, tp, ou⟩ := s
  have n0 : b ≠ w0.heap.size := by omega
  refine ⟨?_, ?_, ?_, ?_, ?_, ?_, ?_, ?_, ?_, ?_, ?_, ?_, ?_, ?_, ?_, ?_, ?_, ?_, ?_, ?_, ?_, ?_, ?_, lt, fun k hk => ?_, os, tp, ou⟩
  all_goals first | (rw [Below.heap_setCell _ _ _ _ (show k ≠ _ by show k ≠ w0.heap.size; omega)]; exact bl k hk) | (simp [go_sem, n0, c0, c1, c2, bx, P0, P1, P2, R0, R1, R2, O0, O1, O2, fP0, fP1, fP2, fR0, fR1, fR2, fO0, fO1, fO2, sz]; done)
theorem A3.setP2 {b : Nat} {w0 w : World} {p0 p1 p2 r0 r1 r2 o0 o1 o2 : Int} (s : A3 b w0 w p0 p1 p2 r0 r1 r2 o0 o1 o2) (v : Int) : A3 b w0 (w.setCell ⟨w0.heap.size, 2, none⟩ (.int .i64 v)) p0 p1 v r0 r1 r2 o0 o1 o2 := by
  obtain ⟨c0, c1, c2, bx, P0, P1, P2, R0, R1, R2, O0, O1, O2, fP0, fP1, fP2, fR0, fR1, fR2, fO0, fO1, fO2, sz, lt, bl, os, tp, ou⟩ := s
  have n0 : b ≠ w0.heap.size := by omega
  refine ⟨?_, ?_, ?_, ?_, ?_, ?_, ?_, ?_, ?_, ?_, ?_, ?_, ?_, ?_, ?_, ?_, ?_, ?_, ?_, ?_, ?_, ?_, ?_, lt, fun k hk => ?_, os, tp, ou⟩
  all_goals first | (rw [Below.heap_setCell _ _ _ _ (show k ≠ _ by show k ≠ w0.heap.size; omega)]; exact bl k hk) | (simp [go_sem, n0, c0, c1, c2, bx, P0, P1, P2, R0, R1, R2, O0, O1, O2, fP0, fP1, fP2, fR0, fR1, fR2, fO0, fO1, fO2, sz]; done)
theorem A3.setR0 {b : Nat} {w0 w : World} {p0 p1 p2 r0 r1 r2 o0 o1 o2 : Int} (s : A3 b w0 w p0 p1 p2 r0 r1 r2 o0 o1 o2) (v : Int) : A3 b w0 (w.setCell ⟨w0.heap.size + 1, 0, none⟩ (.int .u64 v)) p0 p1 p2 v r1 r2 o0 o1 o2 := by
  obtain ⟨c0, c1, c2, bx, P0, P1, P2, R0, R1, R2, O0, O1, O2, fP0, fP1, fP2, fR0, fR1, fR2, fO0, fO1, fO2, sz, lt, bl, os, tp, ou⟩ := s
  have n0 : b ≠ w0.heap.size + 1 := by omega
  refine ⟨?_, ?_, ?_, ?_, ?_, ?_, ?_, ?_, ?_, ?_, ?_, ?_, ?_, ?_, ?_, ?_, ?_, ?_, ?_, ?_, ?_, ?_, ?_, lt, fun k hk => ?_, os, tp, ou⟩
  all_goals first | (rw [Below.heap_setCell _ _ _ _ (show k ≠ _ by show k ≠ w0.heap.size + 1; omega)]; exact bl k hk) | (simp [go_sem, n0, c0, c1, c2, bx, P0, P1, P2, R0, R1, R2, O0, O1, O2, fP0, fP1, fP2, fR0, fR1, fR2, fO0, fO1, fO2, sz]; done)
theorem A3.setR1 {b : Nat} {w0 w : World} {p0 p1 p2 r0 r1 r2 o0 o1 o2 : Int} (s : A3 b w0 w p0 p1 p2 r0 r1 r2 o0 o1 o2) (v : Int) : A3 b w0 (w.setCell ⟨w0.heap.size + 1, 1, none⟩ (.int .u64 v)) p0 p1 p2 r0 v r2 o0 o1 o2 := by
  obtain ⟨c0, c1, c2, bx, P0, P1, P2, R0, R1, R2, O0, O1, O2, fP0, fP1, fP2, fR0, fR1, fR2, fO0, fO1, fO2, sz, lt, bl, os, tp, ou⟩ := s
  have n0 : b ≠ w0.heap.size + 1 := by omega
  refine ⟨?_, ?_, ?_, ?_, ?_, ?_, ?_, ?_, ?_, ?_, ?_, ?_, ?_, ?_, ?_, ?_, ?_, ?_, ?_, ?_, ?_, ?_, ?_, lt, fun k hk => ?_, os, tp, ou⟩
  all_goals first | (rw [Below.heap_setCell _ _ _ _ (show k ≠ _ by show k ≠ w0.heap.size + 1; omega)]; exact bl k hk) | (simp [go_sem, n0, c0, c1, c2, bx, P0, P1, P2, R0, R1, R2, O0, O1, O2, fP0, fP1, fP2, fR0, fR1, fR2, fO0, fO1, fO2, sz]; done)
theorem A3.setR2 {b : Nat} {w0 w : World} {p0 p1 p2 r0 r1 r2 o0 o1 o2 : Int} (s : A3 b w0 w p0 p1 p2 r0 r1 r2 o0 o1 o2) (v : Int) : A3 b w0 (w.setCell ⟨w0.heap.size + 1, 2, none⟩ (.int .u64 v)) p0 p1 p2 r0 r1 v o0 o1 o2 := by
  obtain ⟨c0, c1, c2, bx, P0, P1, P2, R0, R1, R2, O0, O1, O2, fP0, fP1, fP2, fR0, fR1, fR2, fO0, fO1, fO2, sz, lt, bl, os, tp, ou⟩ := s
  have n0 : b ≠ w0.heap.size + 1 := by omega
  refine ⟨?_, ?_, ?_, ?_, ?_, ?_, ?_, ?_, ?_, ?_, ?_, ?_, ?_, ?_, ?_, ?_, ?_, ?_, ?_, ?_, ?_, ?_, ?_, lt, fun k hk => ?_, os, tp, ou⟩
  all_goals first | (rw [Below.heap_setCell _ _ _ _ (show k ≠ _ by show k ≠ w0.heap.size + 1; omega)]; exact bl k hk) | (simp [go_sem, n0, c0, c1, c2, bx, P0, P1, P2, R0, R1, R2, O0, O1, O2, fP0, fP1, fP2, fR0, fR1, fR2, fO0, fO1, fO2, sz]; done)
theorem A3.setO0 {b : Nat} {w0 w : World} {p0 p1 p2 r0 r1 r2 o0 o1 o2 : Int} (s : A3 b w0 w p0 p1 p2 r0 r1 r2 o0 o1 o2) (v : Int) : A3 b w0 (w.setCell ⟨w0.heap.size + 1 + 1 + 1, 0, none⟩ (.int .i64 v)) p0 p1 p2 r0 r1 r2 v o1 o2 := by
  obtain ⟨c0, c1, c2, bx, P0, P1, P2, R0, R1, R2, O0, O1, O2, fP0, fP1, fP2, fR0, fR1, fR2, fO0, fO1, fO2, sz, lt, bl, os, tp, ou⟩ := s
  have n0 : b ≠ w0.heap.size + 1 + 1 + 1 := by omega
  refine ⟨?_, ?_, ?_, ?_, ?_, ?_, ?_, ?_, ?_, ?_, ?_, ?_, ?_, ?_, ?_, ?_, ?_, ?_, ?_, ?_, ?_, ?_, ?_, lt, fun k hk => ?_, os, tp, ou⟩
  all_goals first | (rw [Below.heap_setCell _ _ _ _ (show k ≠ _ by show k ≠ w0.heap.size + 1 + 1 + 1; omega)]; exact bl k hk) | (simp [go_sem, n0, c0, c1, c2, bx, P0, P1, P2, R0, R1, R2, O0, O1, O2, fP0, fP1, fP2, fR0, fR1, fR2, fO0, fO1, fO2, sz]; done)
theorem A3.setO1 {b : Nat} {w0 w : World} {p0 p1 p2 r0 r1 r2 o0 o1 o2 : Int} (s : A3 b w0 w p0 p1 p2 r0 r1 r2 o0 o1 o2) (v : Int) : A3 b w0 (w.setCell ⟨w0.heap.size + 1 + 1 + 1, 1, none⟩ (.int .i64 v)) p0 p1 p2 r0 r1 r2 o0 v o2 := by
  obtain ⟨c0, c1, c2, bx, P0, P1, P2, R0, R1, R2, O0, O1, O2, fP0, fP1, fP2, fR0, fR1, fR2, fO0, fO1, fO2, sz, lt, bl, os, tp, ou⟩ := s
  have n0 : b ≠ w0.heap.size + 1 + 1 + 1 := by omega
  refine ⟨?_, ?_, ?_, ?_, ?_, ?_, ?_, ?_, ?_, ?_, ?_, ?_, ?_, ?_, ?_, ?_, ?_, ?_, ?_, ?_, ?_, ?_, ?_, lt, fun k hk => ?_, os, tp, ou⟩
  all_goals first | (rw [Below.heap_setCell _ _ _ _ (show k ≠ _ by show k ≠ w0.heap.size + 1 + 1 + 1; omega)]; exact bl k hk) | (simp [go_sem, n0, c0, c1, c2, bx, P0, P1, P2, R0, R1, R2, O0, O1, O2, fP0, fP1, fP2, fR0, fR1, fR2, fO0, fO1, fO2, sz]; done)
theorem A3.setO2 {b : Nat} {w0 w : World} {p0 p1 p2 r0 r1 r2 o0 o1 o2 : Int} (s : A3 b w0 w p0 p1 p2 r0 r1 r2 o0 o1 o2) (v : Int) : A3 b w0 (w.setCell ⟨w0.heap.size + 1 + 1 + 1, 2, none⟩ (.int .i64 v)) p0 p1 p2 r0 r1 r2 o0 o1 v := by
  obtain ⟨c0, c1, c2, bx, P0, P1, P2, R0, R1, R2, O0, O1, O2, fP0, fP1, fP2, fR0, fR1, fR2, fO0, fO1, fO2, sz, lt, bl, os, tp, ou⟩ := s
  have n0 : b ≠ w0.heap.size + 1 + 1 + 1 := by omega
  refine ⟨?_, ?_, ?_, ?_, ?_, ?_, ?_, ?_, ?_, ?_, ?_, ?_, ?_, ?_, ?_, ?_, ?_, ?_, ?_, ?_, ?_, ?_, ?_, lt, fun k hk => ?_, os, tp, ou⟩
  all_goals first | (rw [Below.heap_setCell _ _ _ _ (show k ≠ _ by show k ≠ w0.heap.size + 1 + 1 + 1; omega)]; exact bl k hk) | (simp [go_sem, n0, c0, c1, c2, bx, P0, P1, P2, R0, R1, R2, O0, O1, O2, fP0, fP1, fP2, fR0, fR1, fR2, fO0, fO1, fO2, sz]; done)
end Go.Proofs.YtacliakmhkebbaaDoor
