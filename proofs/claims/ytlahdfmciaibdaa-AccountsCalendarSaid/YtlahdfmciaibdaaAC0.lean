/- Accounts: months and years. -/
import Derived.Test.YtlahdfmciaibdaaB0
import Derived.Test.YtlahdfmciaibdaaAD1
import Derived.BigRegion
import Derived.Deep.Cut
import Derived.Deep.CutRange
import Derived.Deep.RegionHeld3
namespace Go.Proofs.Ytlahdfmciaibdaa
open Go.RowKit
set_option linter.unusedVariables false
set_option linter.unusedSimpArgs false

theorem leap_cases {y : Int} : leapB y = (decide (y % 4 = 0) && (!decide (y % 100 = 0) || decide (y % 400 = 0))) := by
  unfold leapB; rw [Bool.eq_iff_iff]; simp
/-- The remainders that a leap year asks, behind letters. -/
theorem leap_letters (y : Int) (y0 : 0 ≤ y) : ∃ a b c : Int, y.tmod 4 = a ∧ y.tmod 100 = b ∧ y.tmod 400 = c ∧ IntKind.i64.wrap a = a ∧ IntKind.i64.wrap b = b ∧ IntKind.i64.wrap c = c ∧ leapB y = (decide (a = 0) && (!decide (b = 0) || decide (c = 0))) := by
  refine ⟨y % 4, y % 100, y % 400, Int.tmod_eq_emod_of_nonneg y0, Int.tmod_eq_emod_of_nonneg y0, Int.tmod_eq_emod_of_nonneg y0, IntWalk.i64_in _ (by omega), IntWalk.i64_in _ (by omega), IntWalk.i64_in _ (by omega), leap_cases⟩

set_option maxRecDepth 100000 in
set_option maxHeartbeats 2000000 in
theorem leap_any (y : Int) (y0 : 0 ≤ y) (w : World) :
    Calls Try.prog 80 #[.int .i64 y] w fun e w' => e = .returned (.bool (leapB y)) ∧ w = w' := by
  obtain ⟨a, b, c, e1, e2, e3, f1, f2, f3, L⟩ := leap_letters y y0
  rw [L]
  clear L y0
  go_enter Try.func80, Try.ntmps80
  by_cases a0 : a = 0
  · subst a0
    by_cases b0 : b = 0
    · subst b0
      by_cases c0 : c = 0
      · subst c0
        go_wp2_with fail
        go_ret
        exact ⟨ret_b (by simp), rfl⟩
      · have cb : (c == 0) = false := beq_eq_false_iff_ne.2 c0
        go_wp2_with fail
        go_ret
        exact ⟨ret_b (by simp [c0]), rfl⟩
    · have bb : (b != 0) = true := by simpa using b0
      go_wp2_with fail
      go_ret
      exact ⟨ret_b (by simp [b0]), rfl⟩
  · have ab : (a == 0) = false := beq_eq_false_iff_ne.2 a0
    go_wp2_with fail
    go_ret
    exact ⟨ret_b (by simp [a0]), rfl⟩
/-- A month's kind. -/
theorem mlen_at (y m : Int) : (m = 2 ∧ mlen y m = if leapB y then 29 else 28) ∨ ((m = 4 ∨ m = 6 ∨ m = 9 ∨ m = 11) ∧ mlen y m = 30) ∨ (m ≠ 2 ∧ m ≠ 4 ∧ m ≠ 6 ∧ m ≠ 9 ∧ m ≠ 11 ∧ mlen y m = 31) := by
  unfold mlen
  by_cases h : m = 2
  · left; exact ⟨h, if_pos h⟩
  · by_cases g : m = 4 ∨ m = 6 ∨ m = 9 ∨ m = 11
    · right; left; rw [if_neg h, if_pos g]; exact ⟨g, rfl⟩
    · right; right; rw [if_neg h, if_neg g]; omega

set_option maxRecDepth 100000 in
set_option maxHeartbeats 4000000 in
theorem months_any (y m : Int) (y0 : 0 ≤ y) (w : World) :
    Calls Try.prog 38 #[.int .i64 y, .int .i64 m] w fun e w' => e = .returned (.int .i64 (mlen y m)) ∧ w = w' := by
  have LP := Lib.hid (fun W => leap_any y y0 W)
  rcases mlen_at y m with ⟨rfl, h⟩ | ⟨h, g⟩ | ⟨h1, h2, h3, h4, h5, g⟩
  · obtain ⟨V, hV⟩ : ∃ V, V = mlen y 2 := ⟨_, rfl⟩
    have HV := Lib.hid (hV.trans h)
    rw [← hV]
    clear h hV
    generalize leapB y = L at *
    go_enter Try.func38, Try.ntmps38
    go_wp2_with fail
    refine (LP.out _).mono ?_
    rintro e w1 ⟨rfl, rfl⟩
    cases L
    · go_wp2_with fail
      go_ret
      exact ⟨ret_i HV.out.symm, rfl⟩
    · go_wp2_with fail
      go_ret
      exact ⟨ret_i HV.out.symm, rfl⟩
  · rw [g]
    clear g LP
    rcases h with rfl | rfl | rfl | rfl
    all_goals
      go_enter Try.func38, Try.ntmps38
      go_wp2_with fail
      go_ret
      exact ⟨rfl, rfl⟩
  · rw [g]
    have b1 : (m == 2) = false := beq_eq_false_iff_ne.2 h1
    have b2 : (m == 4) = false := beq_eq_false_iff_ne.2 h2
    have b3 : (m == 6) = false := beq_eq_false_iff_ne.2 h3
    have b4 : (m == 9) = false := beq_eq_false_iff_ne.2 h4
    have b5 : (m == 11) = false := beq_eq_false_iff_ne.2 h5
    clear g LP h1 h2 h3 h4 h5
    go_enter Try.func38, Try.ntmps38
    go_wp2_with fail
    go_ret
    exact ⟨rfl, rfl⟩

set_option maxRecDepth 100000 in
set_option maxHeartbeats 4000000 in
theorem monthLength_any (y m : Int) (y0 : 0 ≤ y) (w : World) :
    Calls Try.prog 36 #[.int .i64 y, .int .i64 m] w fun e w' => e = .returned (.int .i64 (mlen y m)) ∧ w = w' := by
  rcases mlen_at y m with ⟨rfl, h⟩ | ⟨h, g⟩ | ⟨h1, h2, h3, h4, h5, g⟩
  · obtain ⟨a, b, c, e1, e2, e3, f1, f2, f3, L⟩ := leap_letters y y0
    obtain ⟨V, hV⟩ : ∃ V, V = mlen y 2 := ⟨_, rfl⟩
    have HV := Lib.hid (hV.trans (h.trans (by rw [L])))
    rw [← hV]
    clear h L y0 hV
    go_enter Try.func36, Try.ntmps36
    by_cases a0 : a = 0
    · subst a0
      by_cases b0 : b = 0
      · subst b0
        by_cases c0 : c = 0
        · subst c0
          go_wp2_with fail
          go_ret
          exact ⟨ret_i (by rw [HV.out]; simp), rfl⟩
        · have cb : (c == 0) = false := beq_eq_false_iff_ne.2 c0
          go_wp2_with fail
          go_ret
          exact ⟨ret_i (by rw [HV.out]; simp [c0]), rfl⟩
      · have bb : (b != 0) = true := by simpa using b0
        go_wp2_with fail
        go_ret
        exact ⟨ret_i (by rw [HV.out]; simp [b0]), rfl⟩
    · have ab : (a == 0) = false := beq_eq_false_iff_ne.2 a0
      go_wp2_with fail
      go_ret
      exact ⟨ret_i (by rw [HV.out]; simp [a0]), rfl⟩
  · rw [g]
    clear g
    rcases h with rfl | rfl | rfl | rfl
    all_goals
      go_enter Try.func36, Try.ntmps36
      go_wp2_with fail
      go_ret
      exact ⟨rfl, rfl⟩
  · rw [g]
    have b1 : (m == 2) = false := beq_eq_false_iff_ne.2 h1
    have b2 : (m == 4) = false := beq_eq_false_iff_ne.2 h2
    have b3 : (m == 6) = false := beq_eq_false_iff_ne.2 h3
    have b4 : (m == 9) = false := beq_eq_false_iff_ne.2 h4
    have b5 : (m == 11) = false := beq_eq_false_iff_ne.2 h5
    clear g h1 h2 h3 h4 h5
    go_enter Try.func36, Try.ntmps36
    go_wp2_with fail
    go_ret
    exact ⟨rfl, rfl⟩

set_option maxRecDepth 100000 in
theorem yearStart_any (k : Nat) (hk : k ≤ 3002) (w : World) :
    Calls Try.prog 37 #[.int .i64 (2000 + (k : Int))] w fun e w' => e = .returned (.int .i64 (ycnt k)) ∧ w = w' := by
  have YE := Lib.hid (ycnt_eq k)
  have e0 : IntKind.i64.wrap (2000 + (k : Int) - 2000) = k := by rw [show 2000 + (k : Int) - 2000 = k by omega]; exact IntWalk.i64_in _ (by omega)
  have e1 : IntKind.i64.wrap (365 * (k : Int)) = 365 * (k : Int) := IntWalk.i64_in _ (by omega)
  have e2 : IntKind.i64.wrap ((k : Int) + 3) = (k : Int) + 3 := IntWalk.i64_in _ (by omega)
  have e3 : IntKind.i64.wrap ((k : Int) + 99) = (k : Int) + 99 := IntWalk.i64_in _ (by omega)
  have e4 : IntKind.i64.wrap ((k : Int) + 399) = (k : Int) + 399 := IntWalk.i64_in _ (by omega)
  obtain ⟨a, ha⟩ : ∃ a, a = ((k : Int) + 3) / 4 := ⟨_, rfl⟩
  obtain ⟨b, hb⟩ : ∃ b, b = ((k : Int) + 99) / 100 := ⟨_, rfl⟩
  obtain ⟨c, hc⟩ : ∃ c, c = ((k : Int) + 399) / 400 := ⟨_, rfl⟩
  have t1 : ((k : Int) + 3).tdiv 4 = a := by rw [Int.tdiv_eq_ediv_of_nonneg (by omega), ha]
  have t2 : ((k : Int) + 99).tdiv 100 = b := by rw [Int.tdiv_eq_ediv_of_nonneg (by omega), hb]
  have t3 : ((k : Int) + 399).tdiv 400 = c := by rw [Int.tdiv_eq_ediv_of_nonneg (by omega), hc]
  have a1 : 0 ≤ a ∧ a ≤ 1000 := by omega
  have b1 : 0 ≤ b ∧ b ≤ 1000 := by omega
  have c1 : 0 ≤ c ∧ c ≤ 1000 := by omega
  have f1 : IntKind.i64.wrap a = a := IntWalk.i64_in _ (by omega)
  have f2 : IntKind.i64.wrap b = b := IntWalk.i64_in _ (by omega)
  have f3 : IntKind.i64.wrap c = c := IntWalk.i64_in _ (by omega)
  have g1 : IntKind.i64.wrap (365 * (k : Int) + a) = 365 * (k : Int) + a := IntWalk.i64_in _ (by omega)
  have g2 : IntKind.i64.wrap (365 * (k : Int) + a - b) = 365 * (k : Int) + a - b := IntWalk.i64_in _ (by omega)
  have g3 : IntKind.i64.wrap (365 * (k : Int) + a - b + c) = 365 * (k : Int) + a - b + c := IntWalk.i64_in _ (by omega)
  rw [← ha, ← hb, ← hc] at YE
  clear ha hb hc a1 b1 c1
  go_enter Try.func37, Try.ntmps37
  go_wp2_with fail
  try (go_quiet (fail))
  try (go_wp2_with fail)
  go_ret
  exact ⟨ret_i YE.out.symm, rfl⟩

set_option maxRecDepth 100000 in
set_option maxHeartbeats 2000000 in
theorem years_any (y : Int) (y0 : 0 ≤ y) (w : World) :
    Calls Try.prog 39 #[.int .i64 y] w fun e w' => e = .returned (.int .i64 (ylen y)) ∧ Below w.heap.size w w' := by
  have MN := Lib.hid (fun m W => months_any y m y0 W)
  have Y12 := Lib.hid (mcnt_12 y)
  have ML := Lib.hid (fun m => (show 28 ≤ mlen y m ∧ mlen y m ≤ 31 from ⟨mlen_lo y m, mlen_hi y m⟩))
  go_enter Try.func39, Try.ntmps39
  go_wp2_with fail
  go_loopw [3, 4] (fun nv mv wr => ∃ (j : Nat) (s : Int), j ≤ 12 ∧ nv = .int .i64 s ∧ mv = .int .i64 ((j + 1 : Nat) : Int) ∧ 0 ≤ s ∧ s ≤ 31 * j ∧ Hid (s = mcnt y j) ∧ Hid (Below w.heap.size w wr)) (fun _ mv _ => 13 - (intOf mv).toNat)
  case atStart => exact ⟨0, 0, by omega, rfl, rfl, by omega, by omega, Lib.hid rfl, (by first | exact Lib.hid (Below.refl _ _) | exact Lib.hid (Below.refl _ _).drew)⟩
  case round =>
    obtain ⟨j, s, hj, rfl, rfl, s0, s1, HS, HB⟩ := hrel
    by_cases t : j < 12
    · have i1 : ((j + 1 : Nat) : Int) ≤ 12 := by omega
      have ib : decide (((j + 1 : Nat) : Int) ≤ 12) = true := decide_eq_true i1
      have SN := Lib.hid (show s + mlen y ((j + 1 : Nat) : Int) = mcnt y (j + 1) from by rw [HS.out]; rfl)
      obtain ⟨m1, m2⟩ := ML.out ((j + 1 : Nat) : Int)
      have M1 := Lib.hid (fun W => MN.out ((j + 1 : Nat) : Int) W)
      have e2 : IntKind.i64.wrap (((j + 1 : Nat) : Int) + 1) = ((j + 1 + 1 : Nat) : Int) := by rw [show ((j + 1 : Nat) : Int) + 1 = ((j + 1 + 1 : Nat) : Int) by omega]; exact IntWalk.i64_in _ (by omega)
      clear HS
      generalize mlen y ((j + 1 : Nat) : Int) = L at *
      have e1 : IntKind.i64.wrap (s + L) = s + L := IntWalk.i64_in _ (by omega)
      go_wp2_with fail
      refine (M1.out _).mono ?_
      rintro e w1 ⟨rfl, rfl⟩
      go_wp2_with fail
      go_roundw
      case rel => exact ⟨j + 1, s + L, by omega, by go_num, by first | rfl | go_num, by omega, by omega, SN, (by first | exact HB | exact Lib.hid HB.out.drew | exact Lib.hid (below_drewN HB.out _))⟩
      case measure => simp [intOf]; omega
    · obtain rfl : j = 12 := by omega
      have SY := Lib.hid (HS.out.trans Y12.out)
      clear HS
      go_wp2_with fail
      go_ret
      exact ⟨ret_i SY.out, (by first | exact HB.out | exact HB.out.drew | exact below_drewN HB.out _)⟩
end Go.Proofs.Ytlahdfmciaibdaa
