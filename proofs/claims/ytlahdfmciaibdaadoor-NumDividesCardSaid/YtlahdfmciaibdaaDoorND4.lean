/- Several texts in one: B7 A1 A2 M3 M4. -/
import Derived.Test.YtlahdfmciaibdaaDoorND3
import Derived.Laws.Bits64b
import Derived.Laws.BitsLemmas
import Derived.Lib.BitFns
import Derived.Lib.ItoaNum

/- Div and Cmp of package num, and what is refused. -/
namespace Go.Proofs.YtlahdfmciaibdaaDoor
open Go.RowKit
set_option linter.unusedVariables false
set_option linter.unusedSimpArgs false

end Go.Proofs.YtlahdfmciaibdaaDoor

/- The comparison that Apportion hands to the sort, and the sort of three places at the law's own example. -/
namespace Go.Proofs.YtlahdfmciaibdaaDoor
open Go.RowKit
set_option linter.unusedVariables false
set_option linter.unusedSimpArgs false

def cmpV (a b : Int) : Int := if a < b then -1 else if b < a then 1 else 0

theorem cmpu_any (a b : Int) (w : World) :
    Calls Tryd.prog 27 #[.int .u64 a, .int .u64 b] w fun e w' => e = .returned (.int .i64 (cmpV a b)) ∧ w = w' := by
  unfold cmpV
  rcases (by omega : a < b ∨ b < a ∨ (a ≤ b ∧ b ≤ a)) with h | h | ⟨h, h'⟩
  · rw [if_pos h]; exact cmpu_lt a b h w
  · rw [if_neg (by omega), if_pos h]; exact cmpu_gt a b h w
  · rw [if_neg (by omega), if_neg (by omega)]; exact cmpu_eq a b h h' w

theorem less_any (X R : Nat) (n cap : Nat) (i j ri rj : Int) (w : World) (hi0 : 0 ≤ i) (hj0 : 0 ≤ j) (hi1 : i < (n : Int)) (hj1 : j < (n : Int)) (hn : n ≤ 1000)
    (hX : w.cell? ⟨X, 0, none⟩ = some (.slice (some ⟨R, 0, none⟩) n cap)) (hI : w.cell? ⟨R, i.toNat, none⟩ = some (.int .u64 ri)) (hJ : w.cell? ⟨R, j.toNat, none⟩ = some (.int .u64 rj)) :
    Calls Tryd.prog 26 #[.int .i64 i, .int .i64 j, .pointer (some ⟨X, 0, none⟩)] w fun e w' => e = .returned (.int .i64 (cmpV rj ri)) ∧ ∃ q, w' = w.drewN q := by
  obtain ⟨i, rfl⟩ := Int.eq_ofNat_of_zero_le hi0
  obtain ⟨j, rfl⟩ := Int.eq_ofNat_of_zero_le hj0
  rw [Int.toNat_natCast] at hI hJ
  go_enter Tryd.func26, Tryd.ntmps26
  go_wp2_with fail
  go_quiet ((go_at_call 27; exact Calls.quiet_of_same (flip (cmpu_any _ _ _))))
  go_wp2_with fail
  go_ret
  exact ⟨rfl, _, rfl⟩

/-- What the sort's steps keep: the comparison's box and remainders; the three places; the heap's size; what else there is. -/
structure S3 (X R B cap : Nat) (w0 w : World) (a b c : Int) : Prop where
  hX : w.cell? ⟨X, 0, none⟩ = some (.slice (some ⟨R, 0, none⟩) 3 cap)
  r0 : w.cell? ⟨R, 0, none⟩ = some (.int .u64 2)
  r1 : w.cell? ⟨R, 1, none⟩ = some (.int .u64 2)
  r2 : w.cell? ⟨R, 2, none⟩ = some (.int .u64 3)
  b0 : w.cell? ⟨B, 0, none⟩ = some (.int .i64 a)
  b1 : w.cell? ⟨B, 1, none⟩ = some (.int .i64 b)
  b2 : w.cell? ⟨B, 2, none⟩ = some (.int .i64 c)
  f0 : w.frozen? ⟨B, 0, none⟩ = false
  f1 : w.frozen? ⟨B, 1, none⟩ = false
  f2 : w.frozen? ⟨B, 2, none⟩ = false
  sz : w.heap.size = w0.heap.size
  bl : ∀ k, k ≠ B → w.heap[k]? = w0.heap[k]?
  os : w.os = w0.os
  tp : w.tape = w0.tape
  ou : w.output = w0.output
theorem S3.drewN {X R B cap : Nat} {w0 w : World} {a b c : Int} (s : S3 X R B cap w0 w a b c) (n : Nat) : S3 X R B cap w0 (w.drewN n) a b c :=
  ⟨s.hX, s.r0, s.r1, s.r2, s.b0, s.b1, s.b2, s.f0, s.f1, s.f2, s.sz, s.bl, s.os, s.tp, s.ou⟩

theorem S3.drew {X R B cap : Nat} {w0 w : World} {a b c : Int} (s : S3 X R B cap w0 w a b c) : S3 X R B cap w0 w.drew a b c :=
  ⟨s.hX, s.r0, s.r1, s.r2, s.b0, s.b1, s.b2, s.f0, s.f1, s.f2, s.sz, s.bl, s.os, s.tp, s.ou⟩
theorem S3.set0 {X R B cap : Nat} {w0 w : World} {a b c : Int} (hXR : X ≠ B) (hRB : R ≠ B) (s : S3 X R B cap w0 w a b c) (v : Int) : S3 X R B cap w0 (w.setCell ⟨B, 0, none⟩ (.int .i64 v)) v b c := by
  obtain ⟨hX, r0, r1, r2, b0, b1, b2, f0, f1, f2, sz, bl, os, tp, ou⟩ := s
  refine ⟨?_, ?_, ?_, ?_, ?_, ?_, ?_, ?_, ?_, ?_, ?_, fun k hk => ?_, os, tp, ou⟩
  all_goals first | (rw [Below.heap_setCell _ _ _ _ hk]; exact bl k hk) | simp [go_sem, hXR, hRB, hX, r0, r1, r2, b0, b1, b2, f0, f1, f2, sz]
theorem S3.set1 {X R B cap : Nat} {w0 w : World} {a b c : Int} (hXR : X ≠ B) (hRB : R ≠ B) (s : S3 X R B cap w0 w a b c) (v : Int) : S3 X R B cap w0 (w.setCell ⟨B, 1, none⟩ (.int .i64 v)) a v c := by
  obtain ⟨hX, r0, r1, r2, b0, b1, b2, f0, f1, f2, sz, bl, os, tp, ou⟩ := s
  refine ⟨?_, ?_, ?_, ?_, ?_, ?_, ?_, ?_, ?_, ?_, ?_, fun k hk => ?_, os, tp, ou⟩
  all_goals first | (rw [Below.heap_setCell _ _ _ _ hk]; exact bl k hk) | simp [go_sem, hXR, hRB, hX, r0, r1, r2, b0, b1, b2, f0, f1, f2, sz]
theorem S3.set2 {X R B cap : Nat} {w0 w : World} {a b c : Int} (hXR : X ≠ B) (hRB : R ≠ B) (s : S3 X R B cap w0 w a b c) (v : Int) : S3 X R B cap w0 (w.setCell ⟨B, 2, none⟩ (.int .i64 v)) a b v := by
  obtain ⟨hX, r0, r1, r2, b0, b1, b2, f0, f1, f2, sz, bl, os, tp, ou⟩ := s
  refine ⟨?_, ?_, ?_, ?_, ?_, ?_, ?_, ?_, ?_, ?_, ?_, fun k hk => ?_, os, tp, ou⟩
  all_goals first | (rw [Below.heap_setCell _ _ _ _ hk]; exact bl k hk) | simp [go_sem, hXR, hRB, hX, r0, r1, r2, b0, b1, b2, f0, f1, f2, sz]

/-- The insertion sort at the law's own example. -/
theorem ins3 (X R B cap capB : Nat) (w0 w : World) (hXR : X ≠ B) (hRB : R ≠ B) (s0 : S3 X R B cap w0 w 0 1 2) :
    Calls Tryd.prog 89 #[.slice (some ⟨B, 0, none⟩) 3 capB, .int .i64 0, .int .i64 3, .func (.func 26) #[] #[.pointer (some ⟨X, 0, none⟩)]] w
      fun e w' => e = .returned (.tuple #[]) ∧ S3 X R B cap w0 w' 2 0 1 := by
  have g1 : cmpV 2 2 = 0 := by decide
  have g2 : cmpV 2 3 = -1 := by decide
  go_enter Tryd.func89, Tryd.ntmps89
  obtain ⟨hX, r0, r1, r2, b0, b1, b2, f0, f1, f2, sz, -, -, -, -⟩ := id s0
  go_wp2_with fail
  refine wp_loop_rounds 3 ?_
  rw [rounds_succ]
  go_wp2_with fail
  refine wp_loop_rounds 1 ?_
  rw [rounds_succ]
  go_wp2_with fail
  go_quiet ((go_at_call 26; exact Calls.quiet_of (less_any X R 3 cap 1 0 2 2 _ (by decide) (by decide) (by decide) (by decide) (by decide) hX r1 r0)))
  replace s0 := s0.drewN nq
  clear hX r0 r1 r2 b0 b1 b2 f0 f1 f2 sz
  generalize w.drewN nq = w1 at s0 ⊢
  obtain ⟨hX, r0, r1, r2, b0, b1, b2, f0, f1, f2, sz, -, -, -, -⟩ := id s0
  go_wp2_with fail
  rw [rounds_succ]
  go_wp2_with fail
  refine wp_loop_rounds 3 ?_
  rw [rounds_succ]
  go_wp2_with fail
  go_quiet ((go_at_call 26; exact Calls.quiet_of (less_any X R 3 cap 2 1 3 2 _ (by decide) (by decide) (by decide) (by decide) (by decide) hX r2 r1)))
  replace s0 := s0.drewN nq
  clear hX r0 r1 r2 b0 b1 b2 f0 f1 f2 sz
  generalize w1.drewN nq = w2 at s0 ⊢
  obtain ⟨hX, r0, r1, r2, b0, b1, b2, f0, f1, f2, sz, -, -, -, -⟩ := id s0
  go_wp2_with fail
  go_region
  replace s0 := ((s0.set2 hXR hRB 1).set1 hXR hRB 2).drew
  clear hX r0 r1 r2 b0 b1 b2 f0 f1 f2 sz
  generalize ((w2.setCell ⟨B, 2, none⟩ (.int .i64 1)).setCell ⟨B, 1, none⟩ (.int .i64 2)).drew = w3 at s0 ⊢
  obtain ⟨hX, r0, r1, r2, b0, b1, b2, f0, f1, f2, sz, -, -, -, -⟩ := id s0
  go_wp2_with fail
  rw [rounds_succ]
  go_wp2_with fail
  go_quiet ((go_at_call 26; exact Calls.quiet_of (less_any X R 3 cap 2 0 3 2 _ (by decide) (by decide) (by decide) (by decide) (by decide) hX r2 r0)))
  replace s0 := s0.drewN nq
  clear hX r0 r1 r2 b0 b1 b2 f0 f1 f2 sz
  generalize w3.drewN nq = w4 at s0 ⊢
  obtain ⟨hX, r0, r1, r2, b0, b1, b2, f0, f1, f2, sz, -, -, -, -⟩ := id s0
  go_wp2_with fail
  go_region
  replace s0 := ((s0.set1 hXR hRB 0).set0 hXR hRB 2).drew
  clear hX r0 r1 r2 b0 b1 b2 f0 f1 f2 sz
  generalize ((w4.setCell ⟨B, 1, none⟩ (.int .i64 0)).setCell ⟨B, 0, none⟩ (.int .i64 2)).drew = w5 at s0 ⊢
  obtain ⟨hX, r0, r1, r2, b0, b1, b2, f0, f1, f2, sz, -, -, -, -⟩ := id s0
  go_wp2_with fail
  rw [rounds_succ]
  go_wp2_with fail
  go_quiet (fail)
  go_wp2_with fail
  rw [rounds_succ]
  go_wp2_with fail
  go_end0
  exact ⟨rfl, s0.drewN _⟩

/-- stableCmpFunc, SortStableFunc at three places. -/
theorem stable3 (X R B cap capB : Nat) (w0 w : World) (hXR : X ≠ B) (hRB : R ≠ B) (s0 : S3 X R B cap w0 w 0 1 2) :
    Calls Tryd.prog 62 #[.slice (some ⟨B, 0, none⟩) 3 capB, .int .i64 3, .func (.func 26) #[] #[.pointer (some ⟨X, 0, none⟩)]] w
      fun e w' => e = .returned (.tuple #[]) ∧ S3 X R B cap w0 w' 2 0 1 := by
  have S := Lib.hid s0; clear s0
  go_enter Tryd.func62, Tryd.ntmps62
  go_wp2_with fail
  refine wp_loop_rounds 1 ?_
  rw [rounds_succ]
  go_wp2_with fail
  refine (ins3 X R B cap capB w0 _ hXR hRB S.out).mono ?_
  rintro e w1 ⟨rfl, s1⟩
  have S1 := Lib.hid s1; clear s1 S
  go_wp2_with fail
  refine wp_loop_rounds 1 ?_
  rw [rounds_succ]
  go_wp2_with fail
  go_end0
  exact ⟨rfl, S1.out⟩

theorem sort3 (X R B cap capB : Nat) (w0 w : World) (hXR : X ≠ B) (hRB : R ≠ B) (s0 : S3 X R B cap w0 w 0 1 2) :
    Calls Tryd.prog 25 #[.slice (some ⟨B, 0, none⟩) 3 capB, .func (.func 26) #[] #[.pointer (some ⟨X, 0, none⟩)]] w
      fun e w' => e = .returned (.tuple #[]) ∧ S3 X R B cap w0 w' 2 0 1 := by
  have S := Lib.hid s0; clear s0
  go_enter Tryd.func25, Tryd.ntmps25
  go_wp2_with fail
  refine (stable3 X R B cap capB w0 _ hXR hRB S.out).mono ?_
  rintro e w1 ⟨rfl, s1⟩
  have S1 := Lib.hid s1; clear s1 S
  go_wp2_with fail
  go_end0
  exact ⟨rfl, S1.out⟩
end Go.Proofs.YtlahdfmciaibdaaDoor

/- Apportion at the law's own example. -/
namespace Go.Proofs.YtlahdfmciaibdaaDoor
open Go.RowKit
set_option linter.unusedVariables false
set_option linter.unusedSimpArgs false

theorem isAmount_any (n : Int) (w : World) :
    Calls Tryd.prog 58 #[.int .i64 n] w fun e w' => e = .returned (.bool (decide (0 ≤ n) && decide (n ≤ 1125899906842624))) ∧ w = w' := by
  go_enter Tryd.func58, Tryd.ntmps58
  go_wp2
  all_goals go_ret
  all_goals exact ⟨ret_b (by rw [Bool.eq_iff_iff]; simp; try omega), rfl⟩
theorem isWeight_any (n : Int) (w : World) :
    Calls Tryd.prog 59 #[.int .i64 n] w fun e w' => e = .returned (.bool (decide (0 ≤ n) && decide (n ≤ 1073741824))) ∧ w = w' := by
  go_enter Tryd.func59, Tryd.ntmps59
  go_wp2
  all_goals go_ret
  all_goals exact ⟨ret_b (by rw [Bool.eq_iff_iff]; simp; try omega), rfl⟩

theorem sumOf3 (b cap : Nat) (w : World) (c0 : w.cell? ⟨b, 0, none⟩ = some (.int .i64 3)) (c1 : w.cell? ⟨b, 1, none⟩ = some (.int .i64 3)) (c2 : w.cell? ⟨b, 2, none⟩ = some (.int .i64 1)) :
    Calls Tryd.prog 23 #[.int .i64 10, .slice (some ⟨b, 0, none⟩) 3 cap] w fun e w' => e = .returned (.tuple #[.int .i64 7, .int .i64 0]) ∧ w = w' := by
  go_enter Tryd.func23, Tryd.ntmps23
  go_wp2_with (first
    | (go_at_call 58; refine (isAmount_any _ _).mono ?_; rintro e w' ⟨rfl, rfl⟩)
    | (go_at_call 59; refine (isWeight_any _ _).mono ?_; rintro e w' ⟨rfl, rfl⟩))
  refine wp_loop_rounds 4 ?_
  rw [rounds_succ]
  go_wp2_with (first
    | (go_at_call 59; refine (isWeight_any _ _).mono ?_; rintro e w' ⟨rfl, rfl⟩))
  rw [rounds_succ]
  go_wp2_with (first
    | (go_at_call 59; refine (isWeight_any _ _).mono ?_; rintro e w' ⟨rfl, rfl⟩))
  rw [rounds_succ]
  go_wp2_with (first
    | (go_at_call 59; refine (isWeight_any _ _).mono ?_; rintro e w' ⟨rfl, rfl⟩))
  rw [rounds_succ]
  go_wp2_with (first
    | (go_at_call 59; refine (isWeight_any _ _).mono ?_; rintro e w' ⟨rfl, rfl⟩))
  go_ret2
  exact ⟨rfl, rfl⟩

/-- share, where the product fits a word. -/
theorem share_lo (t m s : Int) (h1 : 0 ≤ t) (h2 : 0 ≤ m) (h3 : 1 ≤ s) (h4 : s ≤ 1125899906842624) (h5 : t ≤ 1125899906842624) (h6 : m ≤ 1125899906842624) (hp : t * m ≤ 9223372036854775807) (w : World) :
    Calls Tryd.prog 24 #[.int .i64 t, .int .i64 m, .int .i64 s] w fun e w' => e = .returned (.tuple #[.int .i64 (t * m / s), .int .u64 (t * m % s)]) ∧ ∃ n, w' = w.drewN n := by
  have p0 : 0 ≤ t * m := Int.mul_nonneg h1 h2
  have e1 : (t.natAbs : Int) = t := by omega
  have e2 : (m.natAbs : Int) = m := by omega
  have e3 : (s.natAbs : Int) = s := by omega
  have z1 : t * m / 18446744073709551616 = 0 := by omega
  have z2 : t * m % 18446744073709551616 = t * m := by omega
  have q0 : 0 ≤ t * m / s := Int.ediv_nonneg p0 (by omega)
  have q1 : t * m / s ≤ t * m := Int.ediv_le_self _ p0
  have q2 : t * m / s ≤ 9223372036854775807 := by omega
  have E1 := Lib.hid e1; have E2 := Lib.hid e2; have E3 := Lib.hid e3; have Z1 := Lib.hid z1; have Z2 := Lib.hid z2
  clear e1 e2 e3 z1 z2
  go_enter Tryd.func24, Tryd.ntmps24
  go_wp2_with fail
  refine (size_any _ (by omega) (by omega) _).mono ?_
  rintro e w1 ⟨rfl, rfl⟩
  rw [E1.out]
  go_wp2_with fail
  refine (size_any _ (by omega) (by omega) _).mono ?_
  rintro e w1 ⟨rfl, rfl⟩
  rw [E2.out]
  go_wp2_with fail
  refine (mul64_any _ _ (by omega) (by omega) (by omega) (by omega) _).mono ?_
  rintro e w1 ⟨rfl, rfl⟩
  rw [Z1.out, Z2.out]
  go_wp2_with fail
  refine (size_any _ (by omega) (by omega) _).mono ?_
  rintro e w1 ⟨rfl, rfl⟩
  rw [E3.out]
  go_wp2_with fail
  refine (div64_lo _ _ p0 (by omega) (by omega) (by omega) _).mono ?_
  rintro e w1 ⟨rfl, n1, rfl⟩
  go_wp2_with fail
  go_ret2
  exact ⟨rfl, _, rfl⟩

/-- Apportion's memory at the example: the parts, the remainders with their box, the order. -/
structure A3 (b : Nat) (w0 w : World) (p0 p1 p2 r0 r1 r2 o0 o1 o2 : Int) : Prop where
  c0 : w.cell? ⟨b, 0, none⟩ = some (.int .i64 3)
  c1 : w.cell? ⟨b, 1, none⟩ = some (.int .i64 3)
  c2 : w.cell? ⟨b, 2, none⟩ = some (.int .i64 1)
  bx : w.cell? ⟨w0.heap.size + 1 + 1, 0, none⟩ = some (.slice (some ⟨w0.heap.size + 1, 0, none⟩) 3 3)
  P0 : w.cell? ⟨w0.heap.size, 0, none⟩ = some (.int .i64 p0)
  P1 : w.cell? ⟨w0.heap.size, 1, none⟩ = some (.int .i64 p1)
  P2 : w.cell? ⟨w0.heap.size, 2, none⟩ = some (.int .i64 p2)
  R0 : w.cell? ⟨w0.heap.size + 1, 0, none⟩ = some (.int .u64 r0)
  R1 : w.cell? ⟨w0.heap.size + 1, 1, none⟩ = some (.int .u64 r1)
  R2 : w.cell? ⟨w0.heap.size + 1, 2, none⟩ = some (.int .u64 r2)
  O0 : w.cell? ⟨w0.heap.size + 1 + 1 + 1, 0, none⟩ = some (.int .i64 o0)
  O1 : w.cell? ⟨w0.heap.size + 1 + 1 + 1, 1, none⟩ = some (.int .i64 o1)
  O2 : w.cell? ⟨w0.heap.size + 1 + 1 + 1, 2, none⟩ = some (.int .i64 o2)
  fP0 : w.frozen? ⟨w0.heap.size, 0, none⟩ = false
  fP1 : w.frozen? ⟨w0.heap.size, 1, none⟩ = false
  fP2 : w.frozen? ⟨w0.heap.size, 2, none⟩ = false
  fR0 : w.frozen? ⟨w0.heap.size + 1, 0, none⟩ = false
  fR1 : w.frozen? ⟨w0.heap.size + 1, 1, none⟩ = false
  fR2 : w.frozen? ⟨w0.heap.size + 1, 2, none⟩ = false
  fO0 : w.frozen? ⟨w0.heap.size + 1 + 1 + 1, 0, none⟩ = false
  fO1 : w.frozen? ⟨w0.heap.size + 1 + 1 + 1, 1, none⟩ = false
  fO2 : w.frozen? ⟨w0.heap.size + 1 + 1 + 1, 2, none⟩ = false
  sz : w.heap.size = w0.heap.size + 1 + 1 + 1 + 1
  lt : b < w0.heap.size
  bl : ∀ k, k < w0.heap.size → w.heap[k]? = w0.heap[k]?
  os : w.os = w0.os
  tp : w.tape = w0.tape
  ou : w.output = w0.output
theorem A3.drewN {b : Nat} {w0 w : World} {p0 p1 p2 r0 r1 r2 o0 o1 o2 : Int} (s : A3 b w0 w p0 p1 p2 r0 r1 r2 o0 o1 o2) (n : Nat) : A3 b w0 (w.drewN n) p0 p1 p2 r0 r1 r2 o0 o1 o2 :=
  ⟨s.c0, s.c1, s.c2, s.bx, s.P0, s.P1, s.P2, s.R0, s.R1, s.R2, s.O0, s.O1, s.O2, s.fP0, s.fP1, s.fP2, s.fR0, s.fR1, s.fR2, s.fO0, s.fO1, s.fO2, s.sz, s.lt, s.bl, s.os, s.tp, s.ou⟩
theorem A3.drew {b : Nat} {w0 w : World} {p0 p1 p2 r0 r1 r2 o0 o1 o2 : Int} (s : A3 b w0 w p0 p1 p2 r0 r1 r2 o0 o1 o2) : A3 b w0 w.drew p0 p1 p2 r0 r1 r2 o0 o1 o2 :=
  ⟨s.c0, s.c1, s.c2, s.bx, s.P0, s.P1, s.P2, s.R0, s.R1, s.R2, s.O0, s.O1, s.O2, s.fP0, s.fP1, s.fP2, s.fR0, s.fR1, s.fR2, s.fO0, s.fO1, s.fO2, s.sz, s.lt, s.bl, s.os, s.tp, s.ou⟩
theorem A3.setP0 {b : Nat} {w0 w : World} {p0 p1 p2 r0 r1 r2 o0 o1 o2 : Int} (s : A3 b w0 w p0 p1 p2 r0 r1 r2 o0 o1 o2) (v : Int) : A3 b w0 (w.setCell ⟨w0.heap.size, 0, none⟩ (.int .i64 v)) v p1 p2 r0 r1 r2 o0 o1 o2 := by
  obtain ⟨c0, c1, c2, bx, P0, P1, P2, R0, R1, R2, O0, O1, O2, fP0, fP1, fP2, fR0, fR1, fR2, fO0, fO1, fO2, sz, lt, bl, os, tp, ou⟩ := s
  have n0 : b ≠ w0.heap.size := by omega
  refine ⟨?_, ?_, ?_, ?_, ?_, ?_, ?_, ?_, ?_, ?_, ?_, ?_, ?_, ?_, ?_, ?_, ?_, ?_, ?_, ?_, ?_, ?_, ?_, lt, fun k hk => ?_, os, tp, ou⟩
  all_goals first | (rw [Below.heap_setCell _ _ _ _ (show k ≠ _ by show k ≠ w0.heap.size; omega)]; exact bl k hk) | (simp [go_sem, n0, c0, c1, c2, bx, P0, P1, P2, R0, R1, R2, O0, O1, O2, fP0, fP1, fP2, fR0, fR1, fR2, fO0, fO1, fO2, sz]; done)
theorem A3.setP1 {b : Nat} {w0 w : World} {p0 p1 p2 r0 r1 r2 o0 o1 o2 : Int} (s : A3 b w0 w p0 p1 p2 r0 r1 r2 o0 o1 o2) (v : Int) : A3 b w0 (w.setCell ⟨w0.heap.size, 1, none⟩ (.int .i64 v)) p0 v p2 r0 r1 r2 o0 o1 o2 := by
  obtain ⟨c0, c1, c2, bx, P0, P1, P2, R0, R1, R2, O0, O1, O2, fP0, fP1, fP2, fR0, fR1, fR2, fO0, fO1, fO2, sz, lt, bl, os, tp, ou⟩ := s
  have n0 : b ≠ w0.heap.size := by omega
  refine ⟨?_, ?_, ?_, ?_, ?_, ?_, ?_, ?_, ?_, ?_, ?_, ?_, ?_, ?_, ?_, ?_, ?_, ?_, ?_, ?_, ?_, ?_, ?_, lt, fun k hk => ?_, os, tp, ou⟩
  all_goals first | (rw [Below.heap_setCell _ _ _ _ (show k ≠ _ by show k ≠ w0.heap.size; omega)]; exact bl k hk) | (simp [go_sem, n0, c0, c1, c2, bx, P0, P1, P2, R0, R1, R2, O0, O1, O2, fP0, fP1, fP2, fR0, fR1, fR2, fO0, fO1, fO2, sz]; done)
theorem A3.setP2 {b : Nat} {w0 w : World} {p0 p1 p2 r0 r1 r2 o0 o1 o2 : Int} (s : A3 b w0 w p0 p1 p2 r0 r1 r2 o0 o1 o2) (v : Int) : A3 b w0 (w.setCell ⟨w0.heap.size, 2, none⟩ (.int .i64 v)) p0 p1 v r0 r1 r2 o0 o1 o2 := by
  obtain ⟨c0, c1, c2, bx, P0, P1, P2, R0, R1, R2, O0, O1, O2, fP0, fP1, fP2, fR0, fR1, fR2, fO0, fO1, fO2, sz, lt, bl, os, tp, ou⟩ := s
  have n0 : b ≠ w0.heap.size := by omega
  refine ⟨?_, ?_, ?_, ?_, ?_, ?_, ?_, ?_, ?_, ?_, ?_, ?_, ?_, ?_, ?_, ?_, ?_, ?_, ?_, ?_, ?_, ?_, ?_, lt, fun k hk => ?_, os, tp, ou⟩
  all_goals first | (rw [Below.heap_setCell _ _ _ _ (show k ≠ _ by show k ≠ w0.heap.size; omega)]; exact bl k hk) | (simp [go_sem, n0, c0, c1, c2, bx, P0, P1, P2, R0, R1, R2, O0, O1, O2, fP0, fP1, fP2, fR0, fR1, fR2, fO0, fO1, fO2, sz]; done)
theorem A3.setR0 {b : Nat} {w0 w : World} {p0 p1 p2 r0 r1 r2 o0 o1 o2 : Int} (s : A3 b w0 w p0 p1 p2 r0 r1 r2 o0 o1 o2) (v : Int) : A3 b w0 (w.setCell ⟨w0.heap.size + 1, 0, none⟩ (.int .u64 v)) p0 p1 p2 v r1 r2 o0 o1 o2 := by
  obtain ⟨c0, c1, c2, bx, P0, P1, P2, R0, R1, R2, O0, O1, O2, fP0, fP1, fP2, fR0, fR1, fR2, fO0, fO1, fO2, sz, lt, bl, os, tp, ou⟩ := s
  have n0 : b ≠ w0.heap.size + 1 := by omega
  refine ⟨?_, ?_, ?_, ?_, ?_, ?_, ?_, ?_, ?_, ?_, ?_, ?_, ?_, ?_, ?_, ?_, ?_, ?_, ?_, ?_, ?_, ?_, ?_, lt, fun k hk => ?_, os, tp, ou⟩
  all_goals first | (rw [Below.heap_setCell _ _ _ _ (show k ≠ _ by show k ≠ w0.heap.size + 1; omega)]; exact bl k hk) | (simp [go_sem, n0, c0, c1, c2, bx, P0, P1, P2, R0, R1, R2, O0, O1, O2, fP0, fP1, fP2, fR0, fR1, fR2, fO0, fO1, fO2, sz]; done)
theorem A3.setR1 {b : Nat} {w0 w : World} {p0 p1 p2 r0 r1 r2 o0 o1 o2 : Int} (s : A3 b w0 w p0 p1 p2 r0 r1 r2 o0 o1 o2) (v : Int) : A3 b w0 (w.setCell ⟨w0.heap.size + 1, 1, none⟩ (.int .u64 v)) p0 p1 p2 r0 v r2 o0 o1 o2 := by
  obtain ⟨c0, c1, c2, bx, P0, P1, P2, R0, R1, R2, O0, O1, O2, fP0, fP1, fP2, fR0, fR1, fR2, fO0, fO1, fO2, sz, lt, bl, os, tp, ou⟩ := s
  have n0 : b ≠ w0.heap.size + 1 := by omega
  refine ⟨?_, ?_, ?_, ?_, ?_, ?_, ?_, ?_, ?_, ?_, ?_, ?_, ?_, ?_, ?_, ?_, ?_, ?_, ?_, ?_, ?_, ?_, ?_, lt, fun k hk => ?_, os, tp, ou⟩
  all_goals first | (rw [Below.heap_setCell _ _ _ _ (show k ≠ _ by show k ≠ w0.heap.size + 1; omega)]; exact bl k hk) | (simp [go_sem, n0, c0, c1, c2, bx, P0, P1, P2, R0, R1, R2, O0, O1, O2, fP0, fP1, fP2, fR0, fR1, fR2, fO0, fO1, fO2, sz]; done)
theorem A3.setR2 {b : Nat} {w0 w : World} {p0 p1 p2 r0 r1 r2 o0 o1 o2 : Int} (s : A3 b w0 w p0 p1 p2 r0 r1 r2 o0 o1 o2) (v : Int) : A3 b w0 (w.setCell ⟨w0.heap.size + 1, 2, none⟩ (.int .u64 v)) p0 p1 p2 r0 r1 v o0 o1 o2 := by
  obtain ⟨c0, c1, c2, bx, P0, P1, P2, R0, R1, R2, O0, O1, O2, fP0, fP1, fP2, fR0, fR1, fR2, fO0, fO1, fO2, sz, lt, bl, os, tp, ou⟩ := s
  have n0 : b ≠ w0.heap.size + 1 := by omega
  refine ⟨?_, ?_, ?_, ?_, ?_, ?_, ?_, ?_, ?_, ?_, ?_, ?_, ?_, ?_, ?_, ?_, ?_, ?_, ?_, ?_, ?_, ?_, ?_, lt, fun k hk => ?_, os, tp, ou⟩
  all_goals first | (rw [Below.heap_setCell _ _ _ _ (show k ≠ _ by show k ≠ w0.heap.size + 1; omega)]; exact bl k hk) | (simp [go_sem, n0, c0, c1, c2, bx, P0, P1, P2, R0, R1, R2, O0, O1, O2, fP0, fP1, fP2, fR0, fR1, fR2, fO0, fO1, fO2, sz]; done)
theorem A3.setO0 {b : Nat} {w0 w : World} {p0 p1 p2 r0 r1 r2 o0 o1 o2 : Int} (s : A3 b w0 w p0 p1 p2 r0 r1 r2 o0 o1 o2) (v : Int) : A3 b w0 (w.setCell ⟨w0.heap.size + 1 + 1 + 1, 0, none⟩ (.int .i64 v)) p0 p1 p2 r0 r1 r2 v o1 o2 := by
  obtain ⟨c0, c1, c2, bx, P0, P1, P2, R0, R1, R2, O0, O1, O2, fP0, fP1, fP2, fR0, fR1, fR2, fO0, fO1, fO2, sz, lt, bl, os, tp, ou⟩ := s
  have n0 : b ≠ w0.heap.size + 1 + 1 + 1 := by omega
  refine ⟨?_, ?_, ?_, ?_, ?_, ?_, ?_, ?_, ?_, ?_, ?_, ?_, ?_, ?_, ?_, ?_, ?_, ?_, ?_, ?_, ?_, ?_, ?_, lt, fun k hk => ?_, os, tp, ou⟩
  all_goals first | (rw [Below.heap_setCell _ _ _ _ (show k ≠ _ by show k ≠ w0.heap.size + 1 + 1 + 1; omega)]; exact bl k hk) | (simp [go_sem, n0, c0, c1, c2, bx, P0, P1, P2, R0, R1, R2, O0, O1, O2, fP0, fP1, fP2, fR0, fR1, fR2, fO0, fO1, fO2, sz]; done)
theorem A3.setO1 {b : Nat} {w0 w : World} {p0 p1 p2 r0 r1 r2 o0 o1 o2 : Int} (s : A3 b w0 w p0 p1 p2 r0 r1 r2 o0 o1 o2) (v : Int) : A3 b w0 (w.setCell ⟨w0.heap.size + 1 + 1 + 1, 1, none⟩ (.int .i64 v)) p0 p1 p2 r0 r1 r2 o0 v o2 := by
  obtain ⟨c0, c1, c2, bx, P0, P1, P2, R0, R1, R2, O0, O1, O2, fP0, fP1, fP2, fR0, fR1, fR2, fO0, fO1, fO2, sz, lt, bl, os, tp, ou⟩ := s
  have n0 : b ≠ w0.heap.size + 1 + 1 + 1 := by omega
  refine ⟨?_, ?_, ?_, ?_, ?_, ?_, ?_, ?_, ?_, ?_, ?_, ?_, ?_, ?_, ?_, ?_, ?_, ?_, ?_, ?_, ?_, ?_, ?_, lt, fun k hk => ?_, os, tp, ou⟩
  all_goals first | (rw [Below.heap_setCell _ _ _ _ (show k ≠ _ by show k ≠ w0.heap.size + 1 + 1 + 1; omega)]; exact bl k hk) | (simp [go_sem, n0, c0, c1, c2, bx, P0, P1, P2, R0, R1, R2, O0, O1, O2, fP0, fP1, fP2, fR0, fR1, fR2, fO0, fO1, fO2, sz]; done)
theorem A3.setO2 {b : Nat} {w0 w : World} {p0 p1 p2 r0 r1 r2 o0 o1 o2 : Int} (s : A3 b w0 w p0 p1 p2 r0 r1 r2 o0 o1 o2) (v : Int) : A3 b w0 (w.setCell ⟨w0.heap.size + 1 + 1 + 1, 2, none⟩ (.int .i64 v)) p0 p1 p2 r0 r1 r2 o0 o1 v := by
  obtain ⟨c0, c1, c2, bx, P0, P1, P2, R0, R1, R2, O0, O1, O2, fP0, fP1, fP2, fR0, fR1, fR2, fO0, fO1, fO2, sz, lt, bl, os, tp, ou⟩ := s
  have n0 : b ≠ w0.heap.size + 1 + 1 + 1 := by omega
  refine ⟨?_, ?_, ?_, ?_, ?_, ?_, ?_, ?_, ?_, ?_, ?_, ?_, ?_, ?_, ?_, ?_, ?_, ?_, ?_, ?_, ?_, ?_, ?_, lt, fun k hk => ?_, os, tp, ou⟩
  all_goals first | (rw [Below.heap_setCell _ _ _ _ (show k ≠ _ by show k ≠ w0.heap.size + 1 + 1 + 1; omega)]; exact bl k hk) | (simp [go_sem, n0, c0, c1, c2, bx, P0, P1, P2, R0, R1, R2, O0, O1, O2, fP0, fP1, fP2, fR0, fR1, fR2, fO0, fO1, fO2, sz]; done)
end Go.Proofs.YtlahdfmciaibdaaDoor

/- Knuth's division of two digits to the base 2^32: plain facts. -/
namespace Go.Proofs.YtlahdfmciaibdaaDoor
open Go.RowKit
set_option linter.unusedVariables false
set_option linter.unusedSimpArgs false

/-- A divisor of two digits, its high one at least half the base; a numerator of three digits below the divisor times the base. -/
structure Dig (Y y1 y0 u c : Int) : Prop where
  hY : Y = y1 * 4294967296 + y0
  a1 : 2147483648 ≤ y1
  a2 : y1 < 4294967296
  b1 : 0 ≤ y0
  b2 : y0 < 4294967296
  u1 : 0 ≤ u
  u2 : u < Y
  c1 : 0 ≤ c
  c2 : c < 4294967296

theorem Dig.quo_nonneg {Y y1 y0 u c : Int} (h : Dig Y y1 y0 u c) : 0 ≤ (u * 4294967296 + c) / Y := Int.ediv_nonneg (by have := h.u1; have := h.c1; omega) (by have := h.u1; have := h.u2; omega)
theorem Dig.quo_lt {Y y1 y0 u c : Int} (h : Dig Y y1 y0 u c) : (u * 4294967296 + c) / Y < 4294967296 := by
  obtain ⟨hY, a1, a2, b1, b2, u1, u2, c1, c2⟩ := h
  rw [Int.ediv_lt_iff_lt_mul (by omega)]
  omega
/-- What is left when q times the divisor is taken away. -/
theorem Dig.left {Y y1 y0 u c : Int} (h : Dig Y y1 y0 u c) {q r : Int} (e : q * y1 + r = u) : u * 4294967296 + c - q * Y = r * 4294967296 + c - q * y0 := by
  have e1 : q * Y = q * y1 * 4294967296 + q * y0 := by rw [h.hY, Int.mul_add, Int.mul_assoc]
  omega
/-- The first guess is not too small, and too large by at most what the loop mends. -/
theorem Dig.guess {Y y1 y0 u c : Int} (h : Dig Y y1 y0 u c) : (u * 4294967296 + c) / Y ≤ u / y1 ∧ u / y1 ≤ 4294967297 ∧ (u / y1) * y1 + u % y1 = u ∧ 0 ≤ u % y1 ∧ u % y1 < 4294967296 ∧ 0 ≤ u / y1 := by
  have hq := h.quo_nonneg
  obtain ⟨hY, a1, a2, b1, b2, u1, u2, c1, c2⟩ := h
  refine ⟨?_, ?_, by rw [Int.mul_comm]; exact Int.mul_ediv_add_emod _ _, Int.emod_nonneg _ (by omega), by have := Int.emod_lt_of_pos u (show 0 < y1 by omega); omega, Int.ediv_nonneg u1 (by omega)⟩
  · rw [Int.le_ediv_iff_mul_le (by omega)]
    have k : (u * 4294967296 + c) / Y * Y ≤ u * 4294967296 + c := Int.ediv_mul_le _ (by omega)
    generalize (u * 4294967296 + c) / Y = q at *
    have e1 : q * Y = q * y1 * 4294967296 + q * y0 := by rw [hY, Int.mul_add, Int.mul_assoc]
    have e2 : 0 ≤ q * y0 := Int.mul_nonneg hq b1
    omega
  · have : u / y1 < 4294967298 := by rw [Int.ediv_lt_iff_lt_mul (by omega)]; omega
    omega
/-- The loop's test says that q is too large. -/
theorem Dig.over {Y y1 y0 u c : Int} (h : Dig Y y1 y0 u c) {q r : Int} (e : q * y1 + r = u) (t : 4294967296 ≤ q ∨ 4294967296 * r + c < q * y0) : (u * 4294967296 + c) / Y < q := by
  rcases t with t | t
  · have := h.quo_lt; omega
  · have l := h.left e
    rw [Int.ediv_lt_iff_lt_mul (by have := h.u1; have := h.u2; omega)]
    omega
/-- The two ways out: q is the quotient. -/
theorem Dig.done {Y y1 y0 u c : Int} (h : Dig Y y1 y0 u c) {q r : Int} (e : q * y1 + r = u) (hq : (u * 4294967296 + c) / Y ≤ q) (t : q * y0 ≤ 4294967296 * r + c ∨ (4294967296 ≤ r ∧ q ≤ 4294967296 ∧ 0 ≤ q)) : q = (u * 4294967296 + c) / Y := by
  have l := h.left e
  obtain ⟨hY, a1, a2, b1, b2, u1, u2, c1, c2⟩ := h
  have : q ≤ (u * 4294967296 + c) / Y := by
    rw [Int.le_ediv_iff_mul_le (by omega)]
    rcases t with t | ⟨t1, t2, t3⟩
    · omega
    · have k : q * y0 ≤ 4294967296 * 4294967295 := by
        have k1 : q * y0 ≤ 4294967296 * y0 := Int.mul_le_mul_of_nonneg_right t2 b1
        omega
      omega
  omega
theorem Dig.step {y1 u q r : Int} (e : q * y1 + r = u) : (q - 1) * y1 + (r + y1) = u := by
  have : (q - 1) * y1 = q * y1 - y1 := by rw [Int.sub_mul, Int.one_mul]
  omega
end Go.Proofs.YtlahdfmciaibdaaDoor

/- What math/bits.Div64 makes of its numbers before the two digits. -/
namespace Go.Proofs.YtlahdfmciaibdaaDoor
open Go.RowKit
set_option linter.unusedVariables false
set_option linter.unusedSimpArgs false

structure Nrm (hi lo y s P u c : Int) : Prop where
  s0 : 0 ≤ s
  s1 : s ≤ 63
  hP : (2 : Int) ^ s.toNat = P
  P1 : 1 ≤ P
  eY : IntKind.u64.wrap (y * 2 ^ s.toNat) = y * P
  Y1 : 9223372036854775808 ≤ y * P
  Y2 : y * P < 18446744073709551616
  eu : bits .or .u64 (IntKind.u64.wrap (hi * 2 ^ s.toNat)) (lo / 2 ^ (64 - s).toNat) = u
  ec : IntKind.u64.wrap (lo * 2 ^ s.toNat) = c
  u0 : 0 ≤ u
  u1 : u < y * P
  c0 : 0 ≤ c
  c1 : c < 18446744073709551616
  e : u * 18446744073709551616 + c = (hi * 18446744073709551616 + lo) * P

theorem nrm_nat (hi lo y : Nat) (hh : 1 ≤ hi) (h' : hi < y) (h1 : lo < 18446744073709551616) (hy : y < 18446744073709551616) :
    ∃ P u c : Nat, Nrm hi lo y (64 - (Lib.bitLen y : Int)) P u c := by
  have hb := Lib.bitLenAux_bounds 64 y (by omega) (by omega)
  have hb' : Lib.bitLen y ≤ 64 := Lib.bitLen_le y 64 (by omega) (by omega)
  have hb1 : 1 ≤ Lib.bitLen y ∧ 2 ^ (Lib.bitLen y - 1) ≤ y ∧ y < 2 ^ Lib.bitLen y := hb
  generalize Lib.bitLen y = l at hb1 hb'
  obtain ⟨l1, l2, l3⟩ := hb1
  have a1 : (64 - (l : Int)).toNat = 64 - l := by omega
  have a2 : (64 - (64 - (l : Int))).toNat = l := by omega
  have p1 : 2 ^ (64 - l) * 2 ^ l = 18446744073709551616 := by rw [← Nat.pow_add, show 64 - l + l = 64 by omega]
  have p2 : 2 ^ (64 - l) * 2 ^ (l - 1) = 9223372036854775808 := by rw [← Nat.pow_add, show 64 - l + (l - 1) = 63 by omega]
  have p0 : 1 ≤ 2 ^ (64 - l) := Nat.one_le_two_pow
  have p3 : 1 ≤ 2 ^ l := Nat.one_le_two_pow
  have pb : ∀ b, b < 2 ^ (64 - l) → 2 ^ (64 - l) * hi + b = 2 ^ (64 - l) * hi ||| b := fun b h => Nat.two_pow_add_eq_or_of_lt h hi
  have a3 : (2 : Int) ^ (64 - l) = ((2 ^ (64 - l) : Nat) : Int) := by push_cast; rfl
  have a4 : (2 : Int) ^ l = ((2 ^ l : Nat) : Int) := by push_cast; rfl
  generalize 2 ^ (l - 1) = H at *
  generalize 2 ^ (64 - l) = P at *
  generalize 2 ^ l = R at *
  have k1 : y * P < 18446744073709551616 := by rw [← p1, Nat.mul_comm]; exact (Nat.mul_lt_mul_left (by omega)).2 l3
  have k2 : 9223372036854775808 ≤ y * P := by rw [← p2, Nat.mul_comm]; exact Nat.mul_le_mul_right P l2
  have k3 : hi * P + P ≤ y * P := by rw [← Nat.succ_mul]; exact Nat.mul_le_mul_right P h'
  have k4 : lo / R < P := by rw [Nat.div_lt_iff_lt_mul (by omega), p1]; omega
  have k5 : lo / R * R + lo % R = lo := by rw [Nat.mul_comm]; exact Nat.div_add_mod lo R
  have k6 : lo % R < R := Nat.mod_lt _ (by omega)
  have k7 : lo % R * P < 18446744073709551616 := by rw [← p1, Nat.mul_comm]; exact (Nat.mul_lt_mul_left (by omega)).2 k6
  have k8 : lo * P = lo / R * 18446744073709551616 + lo % R * P := by
    have : (lo / R * R + lo % R) * P = lo / R * (P * R) + lo % R * P := by rw [Nat.add_mul, Nat.mul_assoc, Nat.mul_comm R P]
    rw [k5, p1] at this; exact this
  have k9 := pb _ k4
  have c1 := Int.natCast_mul y P
  have c2 := Int.natCast_mul (lo % R) P
  have c3 := Int.natCast_mul hi P
  have c4 := Int.natCast_mul lo P
  refine ⟨P, (hi * P + lo / R : Nat), (lo % R * P : Nat), by omega, by omega, by rw [a1, a3], by omega, ?_, by omega, by omega, ?_, ?_, by omega, ?_, by omega, by omega, ?_⟩
  · rw [a1, a3, IntKind.wrap_u64]
    omega
  · rw [a1, a2, a3, a4]
    have t : IntKind.u64.wrap ((hi : Int) * (P : Int)) = ((P * hi : Nat) : Int) := by
      rw [IntKind.wrap_u64]
      rw [Nat.mul_comm P hi]
      omega
    rw [t, show ((lo : Int) / (R : Int)) = ((lo / R : Nat) : Int) by push_cast; rfl, bits_or_u64_nat _ _ (by rw [Nat.mul_comm]; omega) (by omega), ← k9, Nat.mul_comm]
  · rw [a1, a3, IntKind.wrap_u64]
    omega
  · omega
  · have : (hi * P + lo / R) * 18446744073709551616 + lo % R * P = (hi * 18446744073709551616 + lo) * P := by
      rw [Nat.add_mul, Nat.add_mul, k8, Nat.mul_assoc, Nat.mul_comm P, ← Nat.mul_assoc]; omega
    have c5 := Int.natCast_mul (hi * 18446744073709551616 + lo) P
    have c6 : ((hi * 18446744073709551616 + lo : Nat) : Int) = (hi : Int) * 18446744073709551616 + (lo : Int) := by omega
    rw [c6] at c5
    omega

theorem nrm_any (hi lo y : Int) (hh : 1 ≤ hi) (h' : hi < y) (h0 : 0 ≤ lo) (h1 : lo ≤ 18446744073709551615) (hy : y ≤ 18446744073709551615) :
    ∃ P u c : Int, Nrm hi lo y (64 - (Lib.bitLen y.toNat : Int)) P u c := by
  obtain ⟨hi, rfl⟩ := Int.eq_ofNat_of_zero_le (show 0 ≤ hi by omega)
  obtain ⟨lo, rfl⟩ := Int.eq_ofNat_of_zero_le h0
  obtain ⟨y, rfl⟩ := Int.eq_ofNat_of_zero_le (show 0 ≤ y by omega)
  obtain ⟨P, u, c, h⟩ := nrm_nat hi lo y (by omega) (by omega) (by omega) (by omega)
  exact ⟨P, u, c, h⟩

theorem and_low (x : Int) (h0 : 0 ≤ x) (h1 : x < 18446744073709551616) : bits .and .u64 x 4294967295 = x % 4294967296 := by
  have h := bits_mask .u64 64 (by decide) (fun n a b => by rw [IntKind.wrap_u64]; omega) 32 (by decide) x h0 (by omega)
  simpa using h
/-- The two digits together. -/
theorem digits (N y P u c c1 c0 r1 q1 q0 r0 : Int) (hy : 1 ≤ y) (hP : 1 ≤ P) (e : u * 18446744073709551616 + c = N * P) (hc : c = c1 * 4294967296 + c0)
    (e1 : u * 4294967296 + c1 - q1 * (y * P) = r1) (e0 : r1 * 4294967296 + c0 - q0 * (y * P) = r0) (h0 : 0 ≤ r0) (h1 : r0 < y * P) :
    q1 * 4294967296 + q0 = N / y ∧ r0 / P = N % y := by
  have k : N * P = (q1 * 4294967296 + q0) * (y * P) + r0 := by
    rw [← e, Int.add_mul, Int.mul_assoc, Int.mul_comm 4294967296, ← Int.mul_assoc]; omega
  have k' : N * P = P * ((q1 * 4294967296 + q0) * y) + r0 := by rw [k, ← Int.mul_assoc, Int.mul_comm P]
  have d : r0 = (N - (q1 * 4294967296 + q0) * y) * P := by rw [Int.sub_mul, Int.mul_comm ((q1 * 4294967296 + q0) * y) P]; omega
  generalize hm : N - (q1 * 4294967296 + q0) * y = m at d
  have m0 : 0 ≤ m := by
    have : 0 ≤ m * P := by omega
    exact Int.nonneg_of_mul_nonneg_left this (by omega)
  have m1 : m < y := by
    have : m * P < y * P := by omega
    exact Int.lt_of_mul_lt_mul_right this (by omega)
  have q : N = m + y * (q1 * 4294967296 + q0) := by rw [Int.mul_comm y]; omega
  constructor
  · rw [q, Int.add_mul_ediv_left _ _ (by omega), Int.ediv_eq_zero_of_lt m0 m1]; omega
  · rw [d, Int.mul_ediv_cancel _ (by omega), q, Int.add_mul_emod_self_left, Int.emod_eq_of_lt m0 m1]
end Go.Proofs.YtlahdfmciaibdaaDoor
