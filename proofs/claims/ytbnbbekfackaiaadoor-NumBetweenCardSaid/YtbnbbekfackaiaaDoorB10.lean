/- Scale and MulDiv of package num: what each call comes to. -/
import Derived.Test.YtbnbbekfackaiaaDoorB3
import Derived.Test.YtbnbbekfackaiaaDoorB9
namespace Go.Proofs.YtbnbbekfackaiaaDoor
open Go.RowKit
set_option linter.unusedVariables false
set_option linter.unusedSimpArgs false

theorem MulDiv_ok (a b c m : Int) (ha : wthB a 1125899906842624 = true) (hb : wthB b 1125899906842624 = true) (hc : wthB c 1125899906842624 = true) (hm : modB m = true) (h0 : c ≠ 0) (w : World) :
    Calls Tryd.prog 28 #[.int .i64 a, .int .i64 b, .int .i64 c, .int .i64 m] w fun e w' => e = .returned (.tuple #[.int .i64 (rndV (!((!(decide (a < 0) == decide (b < 0))) == decide (c < 0))) (a.natAbs * b.natAbs) c.natAbs m), .int .i64 (rndE (!((!(decide (a < 0) == decide (b < 0))) == decide (c < 0))) (a.natAbs * b.natAbs) c.natAbs m)]) ∧ ∃ n, w' = w.drewN n := by
  obtain ⟨a1, a2⟩ := wthB_true.1 ha
  obtain ⟨b1, b2⟩ := wthB_true.1 hb
  obtain ⟨c1, c2⟩ := wthB_true.1 hc
  have c0 : (c == 0) = false := by simpa using h0
  have c3 : 1 ≤ (c.natAbs : Int) := by omega
  clear h0
  go_enter Tryd.func28, Tryd.ntmps28
  go_wp2_with (first
    | (go_at_call 54; refine (within_any _ _ (by omega) (by omega) _).mono ?_; rintro e w' ⟨rfl, rfl⟩)
    | (go_at_call 65; refine (isMode_any _ _).mono ?_; rintro e w' ⟨rfl, rfl⟩)
    | (go_at_call 52; refine (size_any _ (by omega) (by omega) _).mono ?_; rintro e w' ⟨rfl, rfl⟩)
    | (go_at_call 66; refine (rounded_all _ _ _ _ _ (by omega) (by omega) (by omega) (by omega) (by omega) (by omega) _).mono ?_; rintro e w' ⟨rfl, nn, rfl⟩))
  go_ret2
  exact ⟨rfl, _, rfl⟩
theorem MulDiv_zero (a b m : Int) (ha : wthB a 1125899906842624 = true) (hb : wthB b 1125899906842624 = true) (hm : modB m = true) (w : World) :
    Calls Tryd.prog 28 #[.int .i64 a, .int .i64 b, .int .i64 0, .int .i64 m] w fun e w' => e = .returned (.tuple #[.int .i64 0, .int .i64 5]) ∧ w = w' := by
  have hc : wthB 0 1125899906842624 = true := by decide
  go_enter Tryd.func28, Tryd.ntmps28
  go_wp2_with (first
    | (go_at_call 54; refine (within_any _ _ (by omega) (by omega) _).mono ?_; rintro e w' ⟨rfl, rfl⟩)
    | (go_at_call 65; refine (isMode_any _ _).mono ?_; rintro e w' ⟨rfl, rfl⟩))
  go_ret2
  exact ⟨rfl, rfl⟩
theorem MulDiv_bad (a b c m : Int) (h : wthB a 1125899906842624 = false ∨ wthB b 1125899906842624 = false ∨ wthB c 1125899906842624 = false ∨ modB m = false) (w : World) :
    Calls Tryd.prog 28 #[.int .i64 a, .int .i64 b, .int .i64 c, .int .i64 m] w fun e w' => e = .returned (.tuple #[.int .i64 0, .int .i64 2]) ∧ w = w' := by
  have k : wthB a 1125899906842624 = false ∨ (wthB a 1125899906842624 = true ∧ wthB b 1125899906842624 = false) ∨ (wthB a 1125899906842624 = true ∧ wthB b 1125899906842624 = true ∧ wthB c 1125899906842624 = false) ∨ (wthB a 1125899906842624 = true ∧ wthB b 1125899906842624 = true ∧ wthB c 1125899906842624 = true ∧ modB m = false) := by
    generalize wthB a 1125899906842624 = A at *
    generalize wthB b 1125899906842624 = B at *
    generalize wthB c 1125899906842624 = C at *
    generalize modB m = M at *
    cases A <;> cases B <;> cases C <;> cases M <;> simp_all
  clear h
  rcases k with k1 | ⟨k1, k2⟩ | ⟨k1, k2, k3⟩ | ⟨k1, k2, k3, k4⟩
  all_goals go_enter Tryd.func28, Tryd.ntmps28
  all_goals go_wp2_with (first
    | (go_at_call 54; refine (within_any _ _ (by omega) (by omega) _).mono ?_; rintro e w' ⟨rfl, rfl⟩)
    | (go_at_call 65; refine (isMode_any _ _).mono ?_; rintro e w' ⟨rfl, rfl⟩))
  all_goals go_ret2
  all_goals exact ⟨rfl, rfl⟩

theorem Scale_ok (k n d m : Int) (hk : wthB k 1125899906842624 = true) (hv : vldB n d = true) (hm : modB m = true) (w : World) :
    Calls Tryd.prog 26 #[.int .i64 k, .agg #[.int .i64 n, .int .i64 d], .int .i64 m] w fun e w' => e = .returned (.tuple #[.int .i64 (rndV (!(decide (k < 0) == decide (n < 0))) (k.natAbs * n.natAbs) d m), .int .i64 (rndE (!(decide (k < 0) == decide (n < 0))) (k.natAbs * n.natAbs) d m)]) ∧ Below w.heap.size w w' := by
  obtain ⟨b1, b2, b3, b4, b5⟩ := vldB_true.1 hv
  obtain ⟨k1, k2⟩ := wthB_true.1 hk
  have HV := Lib.hid hv; clear hv
  have HM := Lib.hid hm; clear hm
  clear b5
  go_enter Tryd.func26, Tryd.ntmps26
  go_wp2_with (go_at_call 54; refine (within_any _ _ (by omega) (by omega) _).mono ?_; rintro e w' ⟨rfl, rfl⟩)
  refine (Valid_any _ _ (by omega) (by omega) _).mono ?_
  rintro e w1 ⟨rfl, hb1⟩
  rw [HV.out]
  have c1 : w1.cell? ⟨w.heap.size, 0, none⟩ = some (.int .i64 n) := by rw [hb1.cell (by simp)]; simp [go_sem]
  have c2 : w1.cell? ⟨w.heap.size, 1, none⟩ = some (.int .i64 d) := by rw [hb1.cell (by simp)]; simp [go_sem]
  go_wp2_with fail
  refine (isMode_any _ _).mono ?_
  rintro e w' ⟨rfl, rfl⟩
  rw [HM.out]
  go_wp2_with fail
  go_quiet (first
    | (go_at_call 52; exact Calls.quiet_of_same (flip (size_any _ (by omega) (by omega) _)))
    | (go_at_call 66; exact Calls.quiet_of (rounded_all _ _ _ _ _ (by omega) (by omega) (by omega) (by omega) (by omega) (by omega) _)))
  go_wp2
  go_ret2
  refine ⟨?_, below_drewN (((Below.refl _ _).alloc (Nat.le_refl _) _).trans (hb1.mono (by simp))) _⟩
  have e : (d.natAbs : Int) = d := by omega
  rw [e]
  exact ret_ii rfl rfl
theorem Scale_bad (k n d m : Int) (hn1 : -9223372036854775808 ≤ n) (hn2 : n ≤ 9223372036854775807) (h : wthB k 1125899906842624 = false ∨ vldB n d = false ∨ modB m = false) (w : World) :
    Calls Tryd.prog 26 #[.int .i64 k, .agg #[.int .i64 n, .int .i64 d], .int .i64 m] w fun e w' => e = .returned (.tuple #[.int .i64 0, .int .i64 2]) ∧ Below w.heap.size w w' := by
  cases hk : wthB k 1125899906842624
  · clear h
    go_enter Tryd.func26, Tryd.ntmps26
    go_wp2_with (go_at_call 54; refine (within_any _ _ (by omega) (by omega) _).mono ?_; rintro e w' ⟨rfl, rfl⟩)
    go_ret2
    exact ⟨rfl, (Below.refl _ _).alloc (Nat.le_refl _) _⟩
  · rw [hk] at h
    cases hv : vldB n d
    · have HV := Lib.hid hv; clear hv h
      go_enter Tryd.func26, Tryd.ntmps26
      go_wp2_with (go_at_call 54; refine (within_any _ _ (by omega) (by omega) _).mono ?_; rintro e w' ⟨rfl, rfl⟩)
      refine (Valid_any _ _ (by omega) (by omega) _).mono ?_
      rintro e w1 ⟨rfl, hb1⟩
      rw [HV.out]
      go_wp2_with fail
      go_ret2
      exact ⟨rfl, ((Below.refl _ _).alloc (Nat.le_refl _) _).trans (hb1.mono (by simp))⟩
    · rw [hv] at h
      have hm : modB m = false := by rcases h with h | h | h; cases h; cases h; exact h
      have HV := Lib.hid hv; clear hv h
      have HM := Lib.hid hm; clear hm
      go_enter Tryd.func26, Tryd.ntmps26
      go_wp2_with (go_at_call 54; refine (within_any _ _ (by omega) (by omega) _).mono ?_; rintro e w' ⟨rfl, rfl⟩)
      refine (Valid_any _ _ (by omega) (by omega) _).mono ?_
      rintro e w1 ⟨rfl, hb1⟩
      rw [HV.out]
      go_wp2_with fail
      refine (isMode_any _ _).mono ?_
      rintro e w' ⟨rfl, rfl⟩
      rw [HM.out]
      go_wp2_with fail
      go_ret2
      exact ⟨rfl, ((Below.refl _ _).alloc (Nat.le_refl _) _).trans (hb1.mono (by simp))⟩
end Go.Proofs.YtbnbbekfackaiaaDoor
