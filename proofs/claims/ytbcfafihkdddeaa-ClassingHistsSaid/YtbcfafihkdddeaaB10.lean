/- Scale and MulDiv of package num: what each call comes to. -/
import Derived.Test.YtbcfafihkdddeaaB3
import Derived.Test.YtbcfafihkdddeaaB9
namespace Go.Proofs.Ytbcfafihkdddeaa
open Go.RowKit
set_option linter.unusedVariables false
set_option linter.unusedSimpArgs false

theorem MulDiv_ok (a b c m : Int) (ha : wthB a 1125899906842624 = true) (hb : wthB b 1125899906842624 = true) (hc : wthB c 1125899906842624 = true) (hm : modB m = true) (h0 : c ≠ 0) (w : World) :
    Calls Try.prog 58 #[.int .i64 a, .int .i64 b, .int .i64 c, .int .i64 m] w fun e w' => e = .returned (.tuple #[.int .i64 (rndV (!((!(decide (a < 0) == decide (b < 0))) == decide (c < 0))) (a.natAbs * b.natAbs) c.natAbs m), .int .i64 (rndE (!((!(decide (a < 0) == decide (b < 0))) == decide (c < 0))) (a.natAbs * b.natAbs) c.natAbs m)]) ∧ ∃ n, w' = w.drewN n := by
  obtain ⟨a1, a2⟩ := wthB_true.1 ha
  obtain ⟨b1, b2⟩ := wthB_true.1 hb
  obtain ⟨c1, c2⟩ := wthB_true.1 hc
  have c0 : (c == 0) = false := by simpa using h0
  have c3 : 1 ≤ (c.natAbs : Int) := by omega
  clear h0
  go_enter Try.func58, Try.ntmps58
  go_wp2_with (first
    | (go_at_call 107; refine (within_any _ _ (by omega) (by omega) _).mono ?_; rintro e w' ⟨rfl, rfl⟩)
    | (go_at_call 108; refine (isMode_any _ _).mono ?_; rintro e w' ⟨rfl, rfl⟩)
    | (go_at_call 110; refine (size_any _ (by omega) (by omega) _).mono ?_; rintro e w' ⟨rfl, rfl⟩)
    | (go_at_call 109; refine (rounded_all _ _ _ _ _ (by omega) (by omega) (by omega) (by omega) (by omega) (by omega) _).mono ?_; rintro e w' ⟨rfl, nn, rfl⟩))
  go_ret2
  exact ⟨rfl, _, rfl⟩
theorem MulDiv_zero (a b m : Int) (ha : wthB a 1125899906842624 = true) (hb : wthB b 1125899906842624 = true) (hm : modB m = true) (w : World) :
    Calls Try.prog 58 #[.int .i64 a, .int .i64 b, .int .i64 0, .int .i64 m] w fun e w' => e = .returned (.tuple #[.int .i64 0, .int .i64 5]) ∧ w = w' := by
  have hc : wthB 0 1125899906842624 = true := by decide
  go_enter Try.func58, Try.ntmps58
  go_wp2_with (first
    | (go_at_call 107; refine (within_any _ _ (by omega) (by omega) _).mono ?_; rintro e w' ⟨rfl, rfl⟩)
    | (go_at_call 108; refine (isMode_any _ _).mono ?_; rintro e w' ⟨rfl, rfl⟩))
  go_ret2
  exact ⟨rfl, rfl⟩
theorem MulDiv_bad (a b c m : Int) (h : wthB a 1125899906842624 = false ∨ wthB b 1125899906842624 = false ∨ wthB c 1125899906842624 = false ∨ modB m = false) (w : World) :
    Calls Try.prog 58 #[.int .i64 a, .int .i64 b, .int .i64 c, .int .i64 m] w fun e w' => e = .returned (.tuple #[.int .i64 0, .int .i64 2]) ∧ w = w' := by
  have k : wthB a 1125899906842624 = false ∨ (wthB a 1125899906842624 = true ∧ wthB b 1125899906842624 = false) ∨ (wthB a 1125899906842624 = true ∧ wthB b 1125899906842624 = true ∧ wthB c 1125899906842624 = false) ∨ (wthB a 1125899906842624 = true ∧ wthB b 1125899906842624 = true ∧ wthB c 1125899906842624 = true ∧ modB m = false) := by
    generalize wthB a 1125899906842624 = A at *
    generalize wthB b 1125899906842624 = B at *
    generalize wthB c 1125899906842624 = C at *
    generalize modB m = M at *
    cases A <;> cases B <;> cases C <;> cases M <;> simp_all
  clear h
  rcases k with k1 | ⟨k1, k2⟩ | ⟨k1, k2, k3⟩ | ⟨k1, k2, k3, k4⟩
  all_goals go_enter Try.func58, Try.ntmps58
  all_goals go_wp2_with (first
    | (go_at_call 107; refine (within_any _ _ (by omega) (by omega) _).mono ?_; rintro e w' ⟨rfl, rfl⟩)
    | (go_at_call 108; refine (isMode_any _ _).mono ?_; rintro e w' ⟨rfl, rfl⟩))
  all_goals go_ret2
  all_goals exact ⟨rfl, rfl⟩

end Go.Proofs.Ytbcfafihkdddeaa
