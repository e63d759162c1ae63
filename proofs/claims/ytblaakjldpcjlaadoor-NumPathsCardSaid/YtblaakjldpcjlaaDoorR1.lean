/- The reference's small functions: Mode, amount, Valid. -/
import Derived.Test.YtblaakjldpcjlaaDoorB10
namespace Go.Proofs.YtblaakjldpcjlaaDoor
open Go.RowKit
set_option linter.unusedVariables false
set_option linter.unusedSimpArgs false

theorem rMode_any (m : Int) (w : World) :
    Calls Tryd.prog 61 #[.int .i64 m] w fun e w' => e = .returned (.bool (modB m)) ∧ w = w' := by
  by_cases h : m < 0
  · go_enter Tryd.func61, Tryd.ntmps61
    go_wp2
    go_ret
    exact ⟨ret_b (by simp [modB]; omega), rfl⟩
  · go_enter Tryd.func61, Tryd.ntmps61
    go_wp2
    go_ret
    exact ⟨ret_b (by simp [modB]; omega), rfl⟩
theorem rValid_any (n d : Int) (hn1 : -9223372036854775808 ≤ n) (hn2 : n ≤ 9223372036854775807) (w : World) :
    Calls Tryd.prog 65 #[.agg #[.int .i64 n, .int .i64 d]] w fun e w' => e = .returned (.bool (vldB n d)) ∧ Below w.heap.size w w' := by
  by_cases h1 : d < 1
  · go_enter Tryd.func65, Tryd.ntmps65
    go_wp2
    go_ret
    exact ⟨ret_b (by symm; rw [Bool.eq_false_iff]; rw [Ne, vldB_true]; omega), by go_grown⟩
  by_cases h2 : 1048576 < d
  · go_enter Tryd.func65, Tryd.ntmps65
    go_wp2
    go_ret
    exact ⟨ret_b (by symm; rw [Bool.eq_false_iff]; rw [Ne, vldB_true]; omega), by go_grown⟩
  by_cases h3 : n < -1099511627776
  · go_enter Tryd.func65, Tryd.ntmps65
    go_wp2
    go_ret
    exact ⟨ret_b (by symm; rw [Bool.eq_false_iff]; rw [Ne, vldB_true]; omega), by go_grown⟩
  by_cases h4 : 1099511627776 < n
  · go_enter Tryd.func65, Tryd.ntmps65
    go_wp2
    go_ret
    exact ⟨ret_b (by symm; rw [Bool.eq_false_iff]; rw [Ne, vldB_true]; omega), by go_grown⟩
  by_cases h5 : n < 0
  · have G : Hid (Int.gcd (-n) d = Int.gcd n d) := by show Int.gcd (-n) d = Int.gcd n d; exact Int.neg_gcd
    go_enter Tryd.func65, Tryd.ntmps65
    go_wp2
    go_quiet (fail)
    go_wp2
    go_loopw [3, 4] (fun v0 v1 wr => ∃ x y : Int, 0 ≤ x ∧ 0 ≤ y ∧ x ≤ 1099511627776 ∧ y ≤ 1099511627776 ∧ v0 = .int .i64 x ∧ v1 = .int .i64 y ∧ Hid (Int.gcd x y = Int.gcd n d) ∧ ∃ n', wr = (w.alloc (Obj.cells #[Value.int IntKind.i64 n, Value.int IntKind.i64 d] 23)).drewN n') (fun _ v1 _ => (intOf v1).toNat)
    case atStart => exact ⟨-n, d, by omega, by omega, by omega, by omega, rfl, rfl, G, _, rfl⟩
    case round =>
      obtain ⟨x, y, hx, hy, hx', hy', rfl, rfl, hg, k, rfl⟩ := hrel
      by_cases h : 0 < y
      · have g1 : 0 ≤ x % y := Int.emod_nonneg _ (by omega)
        have g2 : x % y < y := Int.emod_lt_of_pos _ h
        go_wp2
        go_quiet (fail)
        go_wp2
        go_roundw
        case rel => exact ⟨y, x % y, by omega, by omega, by omega, by omega, rfl, rfl, (gcd_step x y hx h).trans hg.out, _, World.drewN_drewN _ _ _⟩
        case measure => simp [intOf]; omega
      · have hy0 : y = 0 := by omega
        have H : Hid (y = 0) := hy0
        clear hy0
        go_wp2
        go_ret
        have e := hg.out
        rw [H.out] at e
        have e2 : ((Int.gcd n d : Nat) : Int) = x := by rw [← e]; simp only [Int.gcd, Int.natAbs_zero, Nat.gcd_zero_right]; omega
        refine ⟨ret_b ?_, by refine below_drewN ?_ _; go_grown⟩
        rw [Bool.eq_iff_iff, vldB_true]
        simp
        omega
  · go_enter Tryd.func65, Tryd.ntmps65
    go_wp2
    go_quiet (fail)
    go_wp2
    go_loopw [3, 4] (fun v0 v1 wr => ∃ x y : Int, 0 ≤ x ∧ 0 ≤ y ∧ x ≤ 1099511627776 ∧ y ≤ 1099511627776 ∧ v0 = .int .i64 x ∧ v1 = .int .i64 y ∧ Hid (Int.gcd x y = Int.gcd n d) ∧ ∃ n', wr = (w.alloc (Obj.cells #[Value.int IntKind.i64 n, Value.int IntKind.i64 d] 23)).drewN n') (fun _ v1 _ => (intOf v1).toNat)
    case atStart => exact ⟨n, d, by omega, by omega, by omega, by omega, rfl, rfl, rfl, _, rfl⟩
    case round =>
      obtain ⟨x, y, hx, hy, hx', hy', rfl, rfl, hg, k, rfl⟩ := hrel
      by_cases h : 0 < y
      · have g1 : 0 ≤ x % y := Int.emod_nonneg _ (by omega)
        have g2 : x % y < y := Int.emod_lt_of_pos _ h
        go_wp2
        go_quiet (fail)
        go_wp2
        go_roundw
        case rel => exact ⟨y, x % y, by omega, by omega, by omega, by omega, rfl, rfl, (gcd_step x y hx h).trans hg.out, _, World.drewN_drewN _ _ _⟩
        case measure => simp [intOf]; omega
      · have hy0 : y = 0 := by omega
        have H : Hid (y = 0) := hy0
        clear hy0
        go_wp2
        go_ret
        have e := hg.out
        rw [H.out] at e
        have e2 : ((Int.gcd n d : Nat) : Int) = x := by rw [← e]; simp only [Int.gcd, Int.natAbs_zero, Nat.gcd_zero_right]; omega
        refine ⟨ret_b ?_, by refine below_drewN ?_ _; go_grown⟩
        rw [Bool.eq_iff_iff, vldB_true]
        simp
        omega
end Go.Proofs.YtblaakjldpcjlaaDoor
