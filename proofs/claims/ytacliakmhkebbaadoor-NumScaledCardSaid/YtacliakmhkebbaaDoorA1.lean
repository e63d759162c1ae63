/- The comparison that Apportion hands to the sort, and the sort of three places at the law's own example. -/
import Derived.Test.YtacliakmhkebbaaDoorB7
namespace Go.Proofs.YtacliakmhkebbaaDoor
open Go.RowKit
set_option linter.unusedVariables false
set_option linter.unusedSimpArgs false

def cmpV (a b : Int) : Int := if a < b then -1 else if b < a then 1 else 0

theorem cmpu_any (a b : Int) (w : World) :
    Calls Tryd.prog 36 #[.int .u64 a, .int .u64 b] w fun e w' => e = .returned (.int .i64 (cmpV a b)) ∧ w = w' := by
  unfold cmpV
  rcases (by omega : a < b ∨ b < a ∨ (a ≤ b ∧ b ≤ a)) with h | h | ⟨h, h'⟩
  · rw [if_pos h]; exact cmpu_lt a b h w
  · rw [if_neg (by omega), if_pos h]; exact cmpu_gt a b h w
  · rw [if_neg (by omega), if_neg (by omega)]; exact cmpu_eq a b h h' w

theorem less_any (X R : Nat) (n cap : Nat) (i j ri rj : Int) (w : World) (hi0 : 0 ≤ i) (hj0 : 0 ≤ j) (hi1 : i < (n : Int)) (hj1 : j < (n : Int)) (hn : n ≤ 1000)
    (hX : w.cell? ⟨X, 0, none⟩ = some (.slice (some ⟨R, 0, none⟩) n cap)) (hI : w.cell? ⟨R, i.toNat, none⟩ = some (.int .u64 ri)) (hJ : w.cell? ⟨R, j.toNat, none⟩ = some (.int .u64 rj)) :
    Calls Tryd.prog 35 #[.int .i64 i, .int .i64 j, .pointer (some ⟨X, 0, none⟩)] w fun e w' => e = .returned (.int .i64 (cmpV rj ri)) ∧ ∃ q, w' = w.drewN q := by
  obtain ⟨i, rfl⟩ := Int.eq_ofNat_of_zero_le hi0
  obtain ⟨j, rfl⟩ := Int.eq_ofNat_of_zero_le hj0
  rw [Int.toNat_natCast] at hI hJ
  go_enter Tryd.func35, Tryd.ntmps35
  go_wp2_with fail
  go_quiet ((go_at_call 36; exact Calls.quiet_of_same (flip (cmpu_any _ _ _))))
  go_wp2_with fail
  go_ret
  exact ⟨rfl, _, rfl⟩

/-- What the sort's steps keep: the comparison's box and remainders; the three places; the heap's size; what else there is. -/
structure S3 (X R B cap : Nat) (w0 w : World) (a b c : Int) : Prop where
  hX : w.cell? ⟨X, 0, none⟩ = some (.slice (some ⟨R, 0, none⟩) 3 cap)
  r0 : w.cell? ⟨R, 0, none⟩ = some (.int .u64 2)
  r1 : w.cell? ⟨R, 1, none⟩ = some (.int .u64 2)
  r2 : w.cell? ⟨R, 2, none⟩ = some (.int .u64 3)
  b0 : w.cell? ⟨B, 0, none⟩ = some (.int .i64 a)
  b1 : w.cell? ⟨B, 1, none⟩ = some (.int .i64 b)
  b2 : w.cell? ⟨B, 2, none⟩ = some (.int .i64 c)
  f0 : w.frozen? ⟨B, 0, none⟩ = false
  f1 : w.frozen? ⟨B, 1, none⟩ = false
  f2 : w.frozen? ⟨B, 2, none⟩ = false
  sz : w.heap.size = w0.heap.size
  bl : ∀ k, k ≠ B → w.heap[k]? = w0.heap[k]?
  os : w.os = w0.os
  tp : w.tape = w0.tape
  ou : w.output = w0.output
theorem S3.drewN {X R B cap : Nat} {w0 w : World} {a b c : Int} (s : S3 X R B cap w0 w a b c) (n : Nat) : S3 X R B cap w0 (w.drewN n) a b c :=
  ⟨s.hX, s.r0, s.r1, s.r2, s.b0, s.b1, s.b2, s.f0, s.f1, s.f2, s.sz, s.bl, s.os, s.tp, s.ou⟩

theorem S3.drew {X R B cap : Nat} {w0 w : World} {a b c : Int} (s : S3 X R B cap w0 w a b c) : S3 X R B cap w0 w.drew a b c :=
  ⟨s.hX, s.r0, s.r1, s.r2, s.b0, s.b1, s.b2, s.f0, s.f1, s.f2, s.sz, s.bl, s.os, s.tp, s.ou⟩
theorem S3.set0 {X R B cap : Nat} {w0 w : World} {a b c : Int} (hXR : X ≠ B) (hRB : R ≠ B) (s : S3 X R B cap w0 w a b c) (v : Int) : S3 X R B cap w0 (w.setCell ⟨B, 0, none⟩ (.int .i64 v)) v b c := by
  obtain ⟨hX, r0, r1, r2, b0, b1, b2, f0, f1, f2, sz, bl, os, tp, ou⟩ := s
  refine ⟨?_, ?_, ?_, ?_, ?_, ?_, ?_, ?_, ?_, ?_, ?_, fun k hk => ?_, os, tp, ou⟩
  all_goals first | (rw [Below.heap_setCell _ _ _ _ hk]; exact bl k hk) | simp [go_sem, hXR, hRB, hX, r0, r1, r2, b0, b1, b2, f0, f1, f2, sz]
theorem S3.set1 {X R B cap : Nat} {w0 w : World} {a b c : Int} (hXR : X ≠ B) (hRB : R ≠ B) (s : S3 X R B cap w0 w a b c) (v : Int) : S3 X R B cap w0 (w.setCell ⟨B, 1, none⟩ (.int .i64 v)) a v c := by
  obtain ⟨hX, r0, r1, r2, b0, b1, b2, f0, f1, f2, sz, bl, os, tp, ou⟩ := s
  refine ⟨?_, ?_, ?_, ?_, ?_, ?_, ?_, ?_, ?_, ?_, ?_, fun k hk => ?_, os, tp, ou⟩
  all_goals first | (rw [Below.heap_setCell _ _ _ _ hk]; exact bl k hk) | simp [go_sem, hXR, hRB, hX, r0, r1, r2, b0, b1, b2, f0, f1, f2, sz]
theorem S3.set2 {X R B cap : Nat} {w0 w : World} {a b c : Int} (hXR : X ≠ B) (hRB : R ≠ B) (s : S3 X R B cap w0 w a b c) (v : Int) : S3 X R B cap w0 (w.setCell ⟨B, 2, none⟩ (.int .i64 v)) a b v := by
  obtain ⟨hX, r0, r1, r2, b0, b1, b2, f0, f1, f2, sz, bl, os, tp, ou⟩ := s
  refine ⟨?_, ?_, ?_, ?_, ?_, ?_, ?_, ?_, ?_, ?_, ?_, fun k hk => ?_, os, tp, ou⟩
  all_goals first | (rw [Below.heap_setCell _ _ _ _ hk]; exact bl k hk) | simp [go_sem, hXR, hRB, hX, r0, r1, r2, b0, b1, b2, f0, f1, f2, sz]

/-- The insertion sort at the law's own example. -/
theorem ins3 (X R B cap capB : Nat) (w0 w : World) (hXR : X ≠ B) (hRB : R ≠ B) (s0 : S3 X R B cap w0 w 0 1 2) :
    Calls Tryd.prog 94 #[.slice (some ⟨B, 0, none⟩) 3 capB, .int .i64 0, .int .i64 3, .func (.func 35) #[] #[.pointer (some ⟨X, 0, none⟩)]] w
      fun e w' => e = .returned (.tuple #[]) ∧ S3 X R B cap w0 w' 2 0 1 := by
  have g1 : cmpV 2 2 = 0 := by decide
  have g2 : cmpV 2 3 = -1 := by decide
  go_enter Tryd.func94, Tryd.ntmps94
  obtain ⟨hX, r0, r1, r2, b0, b1, b2, f0, f1, f2, sz, -, -, -, -⟩ := id s0
  go_wp2_with fail
  refine wp_loop_rounds 3 ?_
  rw [rounds_succ]
  go_wp2_with fail
  refine wp_loop_rounds 1 ?_
  rw [rounds_succ]
  go_wp2_with fail
  go_quiet ((go_at_call 35; exact Calls.quiet_of (less_any X R 3 cap 1 0 2 2 _ (by decide) (by decide) (by decide) (by decide) (by decide) hX r1 r0)))
  replace s0 := s0.drewN nq
  clear hX r0 r1 r2 b0 b1 b2 f0 f1 f2 sz
  generalize w.drewN nq = w1 at s0 ⊢
  obtain ⟨hX, r0, r1, r2, b0, b1, b2, f0, f1, f2, sz, -, -, -, -⟩ := id s0
  go_wp2_with fail
  rw [rounds_succ]
  go_wp2_with fail
  refine wp_loop_rounds 3 ?_
  rw [rounds_succ]
  go_wp2_with fail
  go_quiet ((go_at_call 35; exact Calls.quiet_of (less_any X R 3 cap 2 1 3 2 _ (by decide) (by decide) (by decide) (by decide) (by decide) hX r2 r1)))
  replace s0 := s0.drewN nq
  clear hX r0 r1 r2 b0 b1 b2 f0 f1 f2 sz
  generalize w1.drewN nq = w2 at s0 ⊢
  obtain ⟨hX, r0, r1, r2, b0, b1, b2, f0, f1, f2, sz, -, -, -, -⟩ := id s0
  go_wp2_with fail
  go_region
  replace s0 := ((s0.set2 hXR hRB 1).set1 hXR hRB 2).drew
  clear hX r0 r1 r2 b0 b1 b2 f0 f1 f2 sz
  generalize ((w2.setCell ⟨B, 2, none⟩ (.int .i64 1)).setCell ⟨B, 1, none⟩ (.int .i64 2)).drew = w3 at s0 ⊢
  obtain ⟨hX, r0, r1, r2, b0, b1, b2, f0, f1, f2, sz, -, -, -, -⟩ := id s0
  go_wp2_with fail
  rw [rounds_succ]
  go_wp2_with fail
  go_quiet ((go_at_call 35; exact Calls.quiet_of (less_any X R 3 cap 2 0 3 2 _ (by decide) (by decide) (by decide) (by decide) (by decide) hX r2 r0)))
  replace s0 := s0.drewN nq
  clear hX r0 r1 r2 b0 b1 b2 f0 f1 f2 sz
  generalize w3.drewN nq = w4 at s0 ⊢
  obtain ⟨hX, r0, r1, r2, b0, b1, b2, f0, f1, f2, sz, -, -, -, -⟩ := id s0
  go_wp2_with fail
  go_region
  replace s0 := ((s0.set1 hXR hRB 0).set0 hXR hRB 2).drew
  clear hX r0 r1 r2 b0 b1 b2 f0 f1 f2 sz
  generalize ((w4.setCell ⟨B, 1, none⟩ (.int .i64 0)).setCell ⟨B, 0, none⟩ (.int .i64 2)).drew = w5 at s0 ⊢
  obtain ⟨hX, r0, r1, r2, b0, b1, b2, f0, f1, f2, sz, -, -, -, -⟩ := id s0
  go_wp2_with fail
  rw [rounds_succ]
  go_wp2_with fail
  go_quiet (fail)
  go_wp2_with fail
  rw [rounds_succ]
  go_wp2_with fail
  go_end0
  exact ⟨rfl, s0.drewN _⟩

/-- stableCmpFunc, SortStableFunc at three places. -/
theorem stable3 (X R B cap capB : Nat) (w0 w : World) (hXR : X ≠ B) (hRB : R ≠ B) (s0 : S3 X R B cap w0 w 0 1 2) :
    Calls Tryd.prog 75 #[.slice (some ⟨B, 0, none⟩) 3 capB, .int .i64 3, .func (.func 35) #[] #[.pointer (some ⟨X, 0, none⟩)]] w
      fun e w' => e = .returned (.tuple #[]) ∧ S3 X R B cap w0 w' 2 0 1 := by
  have S := Lib.hid s0; clear s0
  go_enter Tryd.func75, Tryd.ntmps75
  go_wp2_with fail
  refine wp_loop_rounds 1 ?_
  rw [rounds_succ]
  go_wp2_with fail
  refine (ins3 X R B cap capB w0 _ hXR hRB S.out).mono ?_
  rintro e w1 ⟨rfl, s1⟩
  have S1 := Lib.hid s1; clear s1 S
  go_wp2_with fail
  refine wp_loop_rounds 1 ?_
  rw [rounds_succ]
  go_wp2_with fail
  go_end0
  exact ⟨rfl, S1.out⟩

theorem sort3 (X R B cap capB : Nat) (w0 w : World) (hXR : X ≠ B) (hRB : R ≠ B) (s0 : S3 X R B cap w0 w 0 1 2) :
    Calls Tryd.prog 34 #[.slice (some ⟨B, 0, none⟩) 3 capB, .func (.func 35) #[] #[.pointer (some ⟨X, 0, none⟩)]] w
      fun e w' => e = .returned (.tuple #[]) ∧ S3 X R B cap w0 w' 2 0 1 := by
  have S := Lib.hid s0; clear s0
  go_enter Tryd.func34, Tryd.ntmps34
  go_wp2_with fail
  refine (stable3 X R B cap capB w0 _ hXR hRB S.out).mono ?_
  rintro e w1 ⟨rfl, s1⟩
  have S1 := Lib.hid s1; clear s1 S
  go_wp2_with fail
  go_end0
  exact ⟨rfl, S1.out⟩
end Go.Proofs.YtacliakmhkebbaaDoor
