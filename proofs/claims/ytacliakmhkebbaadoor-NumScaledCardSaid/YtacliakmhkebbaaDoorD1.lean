/- Decimal and the list comparison at the law's own example. -/
import Derived.Test.YtacliakmhkebbaaDoorB7
namespace Go.Proofs.YtacliakmhkebbaaDoor
open Go.RowKit
set_option linter.unusedVariables false
set_option linter.unusedSimpArgs false

theorem isPlaces_any (n : Int) (w : World) :
    Calls Tryd.prog 65 #[.int .i64 n] w fun e w' => e = .returned (.bool (decide (0 ≤ n) && decide (n ≤ 9))) ∧ w = w' := by
  go_enter Tryd.func65, Tryd.ntmps65
  go_wp2
  all_goals go_ret
  all_goals exact ⟨ret_b (by rw [Bool.eq_iff_iff]; simp; try omega), rfl⟩

theorem small5 (w : World) : Calls Tryd.prog 103 #[.int .i64 5] w fun e w' => e = .returned (.string ⟨#[53]⟩) ∧ w = w' :=
  (Tryd.internal_strconv_small 5 (by decide) w).mono fun _ _ ⟨a, b⟩ => ⟨a.trans (by rw [show (Lib.decDigits 5).toArray = #[53] from by kernel_rfl]), b.symm⟩

theorem fmt5 (w : World) : Calls Tryd.prog 66 #[.int .u64 5, .int .i64 10] w fun e w' => e = .returned (.string ⟨#[53]⟩) ∧ w = w' := by
  go_enter Tryd.func66, Tryd.ntmps66
  go_wp2_with (first | (go_at_call 84; go_in))
  refine (small5 _).mono ?_
  rintro e w' ⟨rfl, rfl⟩
  go_wp2_with fail
  go_ret
  exact ⟨rfl, rfl⟩

theorem rep2 (w : World) : Calls Tryd.prog 67 #[.string ⟨#[48]⟩, .int .i64 2] w fun e w' => e = .returned (.string ⟨#[48, 48]⟩) ∧ Below w.heap.size w w' :=
  (Tryd.strings_Repeat ⟨#[48]⟩ 2 w (by decide) (by decide)).mono fun _ _ ⟨a, b⟩ => ⟨a.trans (by rw [show (Lib.repeatL (⟨#[48]⟩ : ByteArray).data.toList 2).toArray = #[48, 48] from by decide]), b⟩

theorem decimal3 (w : World) :
    Calls Tryd.prog 29 #[.int .i64 (-5), .int .i64 2] w fun e w' => e = .returned (.tuple #[.string ⟨#[45, 48, 46, 48, 53]⟩, .int .i64 0]) ∧ Below w.heap.size w w' := by
  go_enter Tryd.func29, Tryd.ntmps29
  go_wp2_with fail
  refine (isPlaces_any _ _).mono ?_
  rintro e w' ⟨rfl, rfl⟩
  go_wp2_with fail
  refine (size_any _ (by decide) (by decide) _).mono ?_
  rintro e w' ⟨rfl, rfl⟩
  go_wp2_with fail
  refine (fmt5 _).mono ?_
  rintro e w' ⟨rfl, rfl⟩
  go_wp2_with fail
  refine (rep2 _).mono ?_
  rintro e w1 ⟨rfl, hb⟩
  go_wp2_with fail
  rw [show ((⟨#[48, 48]⟩ : ByteArray) ++ ⟨#[53]⟩) = ⟨#[48, 48, 53]⟩ from by kernel_rfl]
  go_quiet (fail)
  go_wp2_with fail
  rw [show ((⟨#[45]⟩ : ByteArray) ++ ((⟨#[48, 48, 53]⟩ : ByteArray).extract 0 1 ++ ⟨#[46]⟩ ++ (⟨#[48, 48, 53]⟩ : ByteArray).extract 1 3)) = ⟨#[45, 48, 46, 48, 53]⟩ from by kernel_rfl]
  go_ret2
  exact ⟨rfl, below_drewN hb _⟩

theorem same3 (a b ca cb : Nat) (x y z : Int) (w : World) (a0 : w.cell? ⟨a, 0, none⟩ = some (.int .i64 x)) (a1 : w.cell? ⟨a, 1, none⟩ = some (.int .i64 y)) (a2 : w.cell? ⟨a, 2, none⟩ = some (.int .i64 z))
    (b0 : w.cell? ⟨b, 0, none⟩ = some (.int .i64 x)) (b1 : w.cell? ⟨b, 1, none⟩ = some (.int .i64 y)) (b2 : w.cell? ⟨b, 2, none⟩ = some (.int .i64 z)) :
    Calls Tryd.prog 14 #[.slice (some ⟨a, 0, none⟩) 3 ca, .slice (some ⟨b, 0, none⟩) 3 cb] w fun e w' => e = .returned (.bool true) ∧ ∃ n, w' = w.drewN n := by
  go_enter Tryd.func14, Tryd.ntmps14
  go_wp2_with fail
  refine wp_loop_rounds 4 ?_
  rw [rounds_succ]
  go_wp2_with fail
  go_quiet (fail)
  go_wp2_with fail
  rw [rounds_succ]
  go_wp2_with fail
  go_quiet (fail)
  go_wp2_with fail
  rw [rounds_succ]
  go_wp2_with fail
  go_quiet (fail)
  go_wp2_with fail
  rw [rounds_succ]
  go_wp2_with fail
  go_ret
  exact ⟨rfl, _, rfl⟩
end Go.Proofs.YtacliakmhkebbaaDoor
