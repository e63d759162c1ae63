/- Accounts: Charge, the program. -/
import Derived.Test.YtlahdfmciaibdaaAG0
import Derived.BigRegion
import Derived.Deep.Cut
import Derived.Deep.CutRange
import Derived.Deep.RegionHeld3
namespace Go.Proofs.Ytlahdfmciaibdaa
open Go.RowKit
set_option linter.unusedVariables false
set_option linter.unusedSimpArgs false

def rateB (n : Int) : Bool := decide (0 ≤ n) && decide (n ≤ 10000)
theorem isRate_any (n : Int) (w : World) :
    Calls Try.prog 47 #[.int .i64 n] w fun e w' => e = .returned (.bool (rateB n)) ∧ w = w' := by
  go_enter Try.func47, Try.ntmps47
  go_wp2
  all_goals go_ret
  all_goals exact ⟨ret_b (by unfold rateB; rw [Bool.eq_iff_iff]; simp; try omega), rfl⟩
theorem isRate_b (n : Int) (r : Bool) (h : rateB n = r) (w : World) :
    Calls Try.prog 47 #[.int .i64 n] w fun e w' => e = .returned (.bool r) ∧ w = w' := by rw [← h]; exact isRate_any n w

set_option maxRecDepth 100000 in
set_option maxHeartbeats 8000000 in
theorem Charge_any (n : Int) (p : Option Addr) (c : Nat) (D : List (Int × Int)) (w : World) (r : DmpR w p D) (ln : D.length ≤ 1000000) :
    Calls Try.prog 22 #[.int .i64 n, .slice p D.length c] w fun e w' => ∃ x E, e = .returned (.tuple #[.int .i64 x, .int .i64 E]) ∧ ChQ n D x E ∧ Below w.heap.size w w' := by
  have R := Lib.hid r
  obtain ⟨z, hz⟩ : ∃ z, z = D.length := ⟨_, rfl⟩
  have CQ := Lib.hid (show ∀ x E, ((¬ (0 ≤ n ∧ n ≤ 1099511627776) ∧ x = 0 ∧ E = 2) ∨ ((0 ≤ n ∧ n ≤ 1099511627776) ∧ 16 < z ∧ x = 0 ∧ E = 3) ∨
    ((0 ≤ n ∧ n ≤ 1099511627776) ∧ z ≤ 16 ∧ ¬ ScOk D z ∧ x = 0 ∧ E = 2) ∨
    ((0 ≤ n ∧ n ≤ 1099511627776) ∧ z ≤ 16 ∧ ScOk D z ∧ lastU D z < n ∧ x = 0 ∧ E = 4) ∨
    ((0 ≤ n ∧ n ≤ 1099511627776) ∧ z ≤ 16 ∧ ScOk D z ∧ n ≤ lastU D z ∧ x = chg (pts n D z) ∧ E = 0)) → ChQ n D x E from fun x E h => by subst hz; exact h)
  rw [← hz] at ln ⊢
  have HZ := Lib.hid hz
  clear hz r
  have HB : Hid (Below w.heap.size w w) := Below.refl _ _
  go_enter Try.func22, Try.ntmps22
  by_cases t1 : n < 0
  · have tb : decide (n < 0) = true := decide_eq_true t1
    go_wp2_with fail
    try (go_quiet (fail))
    try (go_wp2_with fail)
    go_ret2
    exact ⟨_, _, rfl, CQ.out _ _ (.inl ⟨by omega, rfl, rfl⟩), (by first | exact HB.out | exact HB.out.drew | exact HB.out.alloc HB.out.size _ | exact below_drewN HB.out _)⟩
  have tb1 : decide (n < 0) = false := decide_eq_false t1
  by_cases t2 : 1099511627776 < n
  · have tb : decide (1099511627776 < n) = true := decide_eq_true t2
    go_wp2_with fail
    try (go_quiet (fail))
    try (go_wp2_with fail)
    go_ret2
    exact ⟨_, _, rfl, CQ.out _ _ (.inl ⟨by omega, rfl, rfl⟩), (by first | exact HB.out | exact HB.out.drew | exact HB.out.alloc HB.out.size _ | exact below_drewN HB.out _)⟩
  have tb2 : decide (1099511627776 < n) = false := decide_eq_false t2
  have NR := Lib.hid (show 0 ≤ n ∧ n ≤ 1099511627776 from ⟨by omega, by omega⟩)
  by_cases t3 : 16 < z
  · have tb : decide (16 < z) = true := decide_eq_true t3
    go_wp2_with fail
    try (go_quiet (fail))
    try (go_wp2_with fail)
    go_ret2
    exact ⟨_, _, rfl, CQ.out _ _ (.inr (.inl ⟨NR.out, t3, rfl, rfl⟩)), (by first | exact HB.out | exact HB.out.drew | exact HB.out.alloc HB.out.size _ | exact below_drewN HB.out _)⟩
  have tb3 : decide (16 < z) = false := decide_eq_false t3
  have z16 : z ≤ 16 := by omega
  go_wp2_with fail
  try (go_quiet (fail))
  try (go_wp2_with fail)
  go_loopw [6, 7, 23] (fun pv lv iv wr => ∃ (i : Nat) (P L : Int), i ≤ z ∧ iv = .int .i64 i ∧ pv = .int .i64 P ∧ lv = .int .i64 L ∧ 0 ≤ L ∧ L ≤ 1099511627776 ∧ 0 ≤ P ∧ P ≤ 10995116277760000 ∧ Hid (P = pts n D i) ∧ Hid (L = lastU D i) ∧ Hid (ScOk D i) ∧ Hid (Below w.heap.size w wr)) (fun _ _ iv _ => z - (intOf iv).toNat)
  case atStart => exact ⟨0, 0, 0, Nat.zero_le _, rfl, rfl, rfl, by omega, by omega, by omega, by omega, Lib.hid rfl, Lib.hid rfl, Lib.hid (fun i h => absurd h (by omega)), (by first | exact HB | exact Lib.hid HB.out.drew | exact Lib.hid (below_drewN HB.out _))⟩
  case round =>
    clear HB
    obtain ⟨i, P, L, hi, rfl, rfl, rfl, l0, l1, p0, p1, HP, HL, SK, HB⟩ := hrel
    by_cases t : i < z
    · obtain ⟨x, rfl, kx, cx, dx⟩ := (R.out.below HB.out) i (by have := HZ.out; omega)
      have i1 : (0 : Int) ≤ (i : Int) := by omega
      have i2 : (i : Int) < (z : Int) := by omega
      have SX := Lib.hid (show L < pd D i ∧ pd D i ≤ 1099511627776 ∧ 0 ≤ sd D i ∧ sd D i ≤ 10000 → ScOk D (i + 1) from fun h j hj => by
        by_cases e : j = i
        · subst e; rw [← HL.out]; exact h
        · exact SK.out j (by omega))
      have NO := Lib.hid (show ¬ (L < pd D i ∧ pd D i ≤ 1099511627776 ∧ 0 ≤ sd D i ∧ sd D i ≤ 10000) → ¬ ScOk D z from fun h g => h (by rw [HL.out]; exact g i t))
      have PN := Lib.hid (show pts n D (i + 1) = P + (min n (pd D i) - min n L) * sd D i from by rw [HP.out, HL.out]; rfl)
      have LN := Lib.hid (show pd D i = lastU D (i + 1) from rfl)
      clear HP HL
      generalize pd D i = U at *
      generalize sd D i = S at *
      by_cases u1 : U ≤ L
      · have ub : decide (U ≤ L) = true := decide_eq_true u1
        have NK := Lib.hid (NO.out (by omega))
        clear SX NO PN LN SK
        go_wp2_with fail
        try (go_quiet (fail))
        try (go_wp2_with fail)
        go_ret2
        exact ⟨_, _, rfl, CQ.out _ _ (.inr (.inr (.inl ⟨NR.out, z16, NK.out, rfl, rfl⟩))), (by first | exact HB.out | exact HB.out.drew | exact HB.out.alloc HB.out.size _ | exact below_drewN HB.out _)⟩
      have ub1 : decide (U ≤ L) = false := decide_eq_false u1
      by_cases u2 : 1099511627776 < U
      · have ub : decide (1099511627776 < U) = true := decide_eq_true u2
        have NK := Lib.hid (NO.out (by omega))
        clear SX NO PN LN SK
        go_wp2_with fail
        try (go_quiet (fail))
        try (go_wp2_with fail)
        go_ret2
        exact ⟨_, _, rfl, CQ.out _ _ (.inr (.inr (.inl ⟨NR.out, z16, NK.out, rfl, rfl⟩))), (by first | exact HB.out | exact HB.out.drew | exact HB.out.alloc HB.out.size _ | exact below_drewN HB.out _)⟩
      have ub2 : decide (1099511627776 < U) = false := decide_eq_false u2
      by_cases u3 : 0 ≤ S ∧ S ≤ 10000
      · have C1 := Lib.hid (fun W => isRate_b S true (by unfold rateB; simp [u3]) W)
        have SN := Lib.hid (SX.out ⟨by omega, by omega, u3.1, u3.2⟩)
        have PB := pts_bound NR.out.1 SN.out
        rw [PN.out, ← LN.out] at PB
        obtain ⟨A, hA⟩ : ∃ A, A = min n U := ⟨_, rfl⟩
        obtain ⟨B, hB⟩ : ∃ B, B = min n L := ⟨_, rfl⟩
        rw [← hA, ← hB] at PB PN
        have AR : 0 ≤ A ∧ A ≤ 1099511627776 := by omega
        have BR : 0 ≤ B ∧ B ≤ A := by omega
        have q0 : 0 ≤ (A - B) * S := Int.mul_nonneg (by omega) u3.1
        have w1 : IntKind.i64.wrap (A - B) = A - B := IntWalk.i64_in _ (by omega)
        obtain ⟨G, hG⟩ : ∃ G, (A - B) * S = G := ⟨_, rfl⟩
        rw [hG] at PB PN q0
        have w2 : IntKind.i64.wrap ((A - B) * S) = G := by rw [hG]; exact IntWalk.i64_in _ (by omega)
        have w2' : wrap64 ((A - B) * S) = G := by rw [hG]; exact IntWalk.wrap64_in _ (by omega)
        have w3 : IntKind.i64.wrap (P + G) = P + G := IntWalk.i64_in _ (by omega)
        have m1 : min n U = A := hA.symm
        have m2 : min n L = B := hB.symm
        have pb0 : 0 ≤ P + G := PB.1
        have pb1 : P + G ≤ 10995116277760000 := by omega
        have PN2 : Hid (P + G = pts n D (i + 1)) := Lib.hid PN.out.symm
        have UR : 0 ≤ U ∧ U ≤ 1099511627776 := by omega
        clear SX NO PN SK PB hA hB hG q0 AR BR u3
        go_wp2_with fail
        try (go_quiet (fail))
        try (go_wp2_with fail)
        refine (C1.out _).mono ?_
        rintro e wb ⟨rfl, rfl⟩
        clear C1
        go_wp2_with fail
        try (go_quiet (fail))
        try (go_wp2_with fail)
        go_roundw
        case rel => exact ⟨i + 1, P + G, U, by omega, by go_num, by first | rfl | go_num, rfl, UR.1, UR.2, pb0, pb1, PN2, LN, SN, Lib.hid (HB.out.alloc HB.out.size _)⟩
        case measure => simp [intOf]; omega
      · have C1 := Lib.hid (fun W => isRate_b S false (by
          unfold rateB
          rw [Bool.and_eq_false_iff]
          by_cases g : 0 ≤ S
          · exact .inr (decide_eq_false (fun h => u3 ⟨g, h⟩))
          · exact .inl (decide_eq_false g)) W)
        have NK := Lib.hid (NO.out (fun h => u3 ⟨h.2.2.1, h.2.2.2⟩))
        clear SX NO PN LN SK u3
        go_wp2_with fail
        try (go_quiet (fail))
        try (go_wp2_with fail)
        refine (C1.out _).mono ?_
        rintro e wb ⟨rfl, rfl⟩
        go_wp2_with fail
        go_ret2
        exact ⟨_, _, rfl, CQ.out _ _ (.inr (.inr (.inl ⟨NR.out, z16, NK.out, rfl, rfl⟩))), (by first | exact HB.out | exact HB.out.drew | exact HB.out.alloc HB.out.size _ | exact below_drewN HB.out _)⟩
    · obtain rfl : i = z := by omega
      by_cases t4 : L < n
      · have LK := Lib.hid (show lastU D i < n from by rw [← HL.out]; exact t4)
        clear HP HL
        go_wp2_with fail
        go_ret2
        exact ⟨_, _, rfl, CQ.out _ _ (.inr (.inr (.inr (.inl ⟨NR.out, z16, SK.out, LK.out, rfl, rfl⟩)))), (by first | exact HB.out | exact HB.out.drew | exact HB.out.alloc HB.out.size _ | exact below_drewN HB.out _)⟩
      · have LK := Lib.hid (show n ≤ lastU D i from by rw [← HL.out]; omega)
        obtain ⟨q, hq⟩ : ∃ q, q = P / 10000 := ⟨_, rfl⟩
        obtain ⟨r, hr⟩ : ∃ r, r = P % 10000 := ⟨_, rfl⟩
        have r0 : 0 ≤ r := by omega
        have r1 : r < 10000 := by omega
        have q0 : 0 ≤ q := by omega
        have q1 : q ≤ 1099511627776 := by omega
        obtain ⟨v, hv⟩ : ∃ v : Int, v = (if 5000 ≤ r then 1 else 0) := ⟨_, rfl⟩
        have v0 : 0 ≤ v ∧ v ≤ 1 := by rw [hv]; split <;> omega
        have CV := Lib.hid (show q + v = chg (pts n D i) from by rw [hv, hq, hr, ← HP.out]; exact chg_split P p0)
        obtain ⟨c1, c2⟩ := chg_rnd r r0 r1
        have MD := Lib.hid (fun W => (show Calls Try.prog 48 #[.int .i64 r, .int .i64 1, .int .i64 10000, .int .i64 3] W fun e w' => e = .returned (.tuple #[.int .i64 v, .int .i64 0]) ∧ ∃ k, w' = W.drewN k from by
          have := MulDiv_ok r 1 10000 3 (wthB_true.2 ⟨by omega, by omega⟩) (by decide) (by decide) (by decide) (by decide) W
          rw [c1, c2, ← hv] at this
          exact this))
        have tr : P.tmod 10000 = r := by rw [Int.tmod_eq_emod_of_nonneg p0, hr]
        have tq : P.tdiv 10000 = q := by rw [Int.tdiv_eq_ediv_of_nonneg p0, hq]
        have wr1 : IntKind.i64.wrap r = r := IntWalk.i64_in _ (by omega)
        have wq1 : IntKind.i64.wrap q = q := IntWalk.i64_in _ (by omega)
        have wv1 : IntKind.i64.wrap (q + v) = q + v := IntWalk.i64_in _ (by omega)
        clear HP HL c1 c2 hv hq hr
        go_wp2_with fail
        refine (MD.out _).mono ?_
        rintro e wb ⟨rfl, k, rfl⟩
        clear MD
        go_wp2_with fail
        try (go_quiet (fail))
        try (go_wp2_with fail)
        go_ret2
        exact ⟨_, _, rfl, CQ.out _ _ (.inr (.inr (.inr (.inr ⟨NR.out, z16, SK.out, LK.out, CV.out, rfl⟩)))), (by first | exact HB.out | exact HB.out.drew | exact HB.out.alloc HB.out.size _ | exact below_drewN HB.out _)⟩
end Go.Proofs.Ytlahdfmciaibdaa
