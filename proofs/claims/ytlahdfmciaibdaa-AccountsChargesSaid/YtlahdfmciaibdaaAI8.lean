/- Several texts in one: AH1. -/
import Derived.Test.YtlahdfmciaibdaaAI1
import Derived.Test.YtlahdfmciaibdaaAP4
import Derived.Test.YtlahdfmciaibdaaAI7
import Derived.BigRegion
import Derived.Deep.RegionHeld3
import Derived.Deep.RegionLaw

/- Accounts: interest, the reference's. -/
namespace Go.Proofs.Ytlahdfmciaibdaa
open Go.RowKit
set_option linter.unusedVariables false
set_option linter.unusedSimpArgs false

theorem rcents_any (n : Int) (w : World) :
    Calls Try.prog 49 #[.int .i64 n] w fun e w' => e = .returned (.bool (cenB n)) ∧ w = w' := by
  go_enter Try.func49, Try.ntmps49
  go_wp2
  all_goals go_ret
  all_goals exact ⟨ret_b (by unfold cenB; rw [Bool.eq_iff_iff]; simp; try omega), rfl⟩
theorem rcents_b (n : Int) (r : Bool) (h : cenB n = r) (w : World) :
    Calls Try.prog 49 #[.int .i64 n] w fun e w' => e = .returned (.bool r) ∧ w = w' := by rw [← h]; exact rcents_any n w
theorem rounded_s {N : Nat} (X Y mode : Int) (s t u : Bool) (hs : s = decide (X < 0)) (ht : t = decide (Y < 0)) (hu : u = decide (rz X Y mode < 0)) (nl : Nat) (p q : Option Addr) (c d : Nat) (l m : List Int) (hl : l.length = nl) (w : World) (A : BigR N w p l X) (B : BigR N w q m Y) (hY : 0 < Y) (m0 : 0 ≤ mode) (m4 : mode ≤ 4) (hN : N ≤ 70000) :
    Calls Try.prog 54 #[.agg #[.bool s, .slice p nl c], .agg #[.bool t, .slice q m.length d], .int .i64 mode] w (BigS (N + 6) (rz X Y mode) u w) := by
  subst hs ht hl
  exact (Rounded_pos p q c d l m X Y mode w A B hY m0 m4 hN).mono fun _ _ h => h.s hu
theorem within_s {N : Nat} (x most : Int) (s : Bool) (hs : s = decide (x < 0)) (p : Option Addr) (c : Nat) (l : List Int) (h0 : 0 ≤ most) (hm : most ≤ 4611686018427387904) (hx : (x.natAbs : Int) ≤ most) (w : World) (A : BigR N w p l x) (hN : N ≤ 90000) :
    Calls Try.prog 53 #[.agg #[.bool s, .slice p l.length c], .int .i64 most] w fun e w' => e = .returned (.tuple #[.int .i64 x, .bool true]) ∧ Below w.heap.size w w' := by
  subst hs
  have := Within_any p c l x most h0 hm w A hN
  unfold wiV wiB at this
  rw [if_pos hx, decide_eq_true hx] at this
  exact this
/-- A whole number's box. -/
structure BoxG (g : Nat) (s : Bool) (p : Option Addr) (n c : Nat) (W : World) : Prop where
  sz : g < W.heap.size
  a0 : W.cell? ⟨g, 0, none⟩ = some (.bool s)
  a1 : W.cell? ⟨g, 1, none⟩ = some (.slice p n c)
  f0 : W.frozen? ⟨g, 0, none⟩ = false
  f1 : W.frozen? ⟨g, 1, none⟩ = false
theorem BoxG.below {g : Nat} {s : Bool} {p : Option Addr} {n c : Nat} {W W' : World} (h : BoxG g s p n c W) (hb : Below W.heap.size W W') : BoxG g s p n c W' := by
  obtain ⟨h1, h2, h3, h4, h5⟩ := h
  exact ⟨Nat.lt_of_lt_of_le h1 hb.size, (hb.cell (p := ⟨g, 0, none⟩) h1).trans h2, (hb.cell (p := ⟨g, 1, none⟩) h1).trans h3, (hb.frozen (p := ⟨g, 0, none⟩) h1).trans h4, (hb.frozen (p := ⟨g, 1, none⟩) h1).trans h5⟩
theorem BoxG.new (W : World) (s : Bool) (p : Option Addr) (n c : Nat) : BoxG W.heap.size s p n c (W.alloc (Obj.cells #[Value.bool s, Value.slice p n c] 81)) := by
  refine ⟨?_, ?_, ?_, ?_, ?_⟩ <;> simp [go_sem]
theorem rz_four {n F : Int} (n0 : -1099511627776 ≤ n) (n1 : n ≤ 1099511627776) (F0 : 0 ≤ F) (F1 : F ≤ 10000000000) : ((rz (n * F) 3650000 4).natAbs : Int) ≤ 1152921504606846976 := by
  have h1 : n * F ≤ 1099511627776 * 10000000000 := by
    have a : n * F ≤ 1099511627776 * F := Int.mul_le_mul_of_nonneg_right n1 F0
    omega
  have h0 : -(1099511627776 * 10000000000) ≤ n * F := by
    have a : -1099511627776 * F ≤ n * F := Int.mul_le_mul_of_nonneg_right n0 F0
    omega
  unfold rz
  generalize n * F = X at *
  generalize rzU X (X / 3650000) (X % 3650000) 3650000 4 = u
  cases u
  · simp only [cond_false]; split <;> omega
  · simp only [cond_true]; split <;> omega

set_option maxRecDepth 100000 in
set_option maxHeartbeats 8000000 in
theorem rInterest_any (n r a b : Int) (w : World) :
    Calls Try.prog 25 #[.int .i64 n, .int .i64 r, .int .i64 a, .int .i64 b] w fun e w' => ∃ x E, e = .returned (.tuple #[.int .i64 x, .int .i64 E]) ∧ InQ n r a b x E ∧ Below w.heap.size w w' := by
  by_cases u1 : -1099511627776 ≤ n ∧ n ≤ 1099511627776
  case neg =>
    have C1 := Lib.hid (fun W => rcents_b n false (cenB_f u1) W)
    have Q := Lib.hid (show InQ n r a b 0 2 from .inl ⟨fun h => u1 h.1, rfl, rfl⟩)
    clear u1
    go_enter Try.func25, Try.ntmps25
    go_wp2_with fail
    try (go_quiet (fail))
    try (go_wp2_with fail)
    refine (C1.out _).mono ?_
    rintro e wb ⟨rfl, rfl⟩
    go_wp2_with fail
    try (go_quiet (fail))
    try (go_wp2_with fail)
    go_ret2
    exact ⟨_, _, rfl, Q.out, (by first | exact Below.refl _ _ | exact (Below.refl _ _).drew | exact below_drewN (Below.refl _ _) _)⟩
  have C1 := Lib.hid (fun W => rcents_b n true (cenB_t u1) W)
  by_cases u2 : 0 ≤ r ∧ r ≤ 10000
  case neg =>
    have Q := Lib.hid (show InQ n r a b 0 2 from .inl ⟨fun h => u2 h.2.1, rfl, rfl⟩)
    by_cases g : r < 0
    · have g1 : decide (r < 0) = true := decide_eq_true g
      clear u1 u2
      go_enter Try.func25, Try.ntmps25
      go_wp2_with fail
      try (go_quiet (fail))
      try (go_wp2_with fail)
      refine (C1.out _).mono ?_
      rintro e wb ⟨rfl, rfl⟩
      go_wp2_with fail
      try (go_quiet (fail))
      try (go_wp2_with fail)
      go_ret2
      exact ⟨_, _, rfl, Q.out, (by first | exact Below.refl _ _ | exact (Below.refl _ _).drew | exact below_drewN (Below.refl _ _) _)⟩
    · have g1 : decide (r < 0) = false := decide_eq_false g
      have g2 : decide (10000 < r) = true := decide_eq_true (by omega)
      clear u1 u2
      go_enter Try.func25, Try.ntmps25
      go_wp2_with fail
      try (go_quiet (fail))
      try (go_wp2_with fail)
      refine (C1.out _).mono ?_
      rintro e wb ⟨rfl, rfl⟩
      go_wp2_with fail
      try (go_quiet (fail))
      try (go_wp2_with fail)
      go_ret2
      exact ⟨_, _, rfl, Q.out, (by first | exact Below.refl _ _ | exact (Below.refl _ _).drew | exact below_drewN (Below.refl _ _) _)⟩
  have g1 : decide (r < 0) = false := decide_eq_false (by omega)
  have g2 : decide (10000 < r) = false := decide_eq_false (by omega)
  by_cases u3 : 0 ≤ a ∧ a ≤ 1000000
  case neg =>
    have C2 := Lib.hid (fun W => rDay_b a false (dayB_not u3) W)
    have Q := Lib.hid (show InQ n r a b 0 2 from .inl ⟨fun h => u3 h.2.2.1, rfl, rfl⟩)
    clear u1 u2 u3
    go_enter Try.func25, Try.ntmps25
    go_wp2_with fail
    try (go_quiet (fail))
    try (go_wp2_with fail)
    refine (C1.out _).mono ?_
    rintro e wb ⟨rfl, rfl⟩
    go_wp2_with fail
    try (go_quiet (fail))
    try (go_wp2_with fail)
    refine (C2.out _).mono ?_
    rintro e wb ⟨rfl, rfl⟩
    go_wp2_with fail
    try (go_quiet (fail))
    try (go_wp2_with fail)
    go_ret2
    exact ⟨_, _, rfl, Q.out, (by first | exact Below.refl _ _ | exact (Below.refl _ _).drew | exact below_drewN (Below.refl _ _) _)⟩
  have C2 := Lib.hid (fun W => rDay_b a true ((dayB_iff a).2 u3) W)
  by_cases u4 : 0 ≤ b ∧ b ≤ 1000000
  case neg =>
    have C3 := Lib.hid (fun W => rDay_b b false (dayB_not u4) W)
    have Q := Lib.hid (show InQ n r a b 0 2 from .inl ⟨fun h => u4 h.2.2.2.1, rfl, rfl⟩)
    clear u1 u2 u3 u4
    go_enter Try.func25, Try.ntmps25
    go_wp2_with fail
    try (go_quiet (fail))
    try (go_wp2_with fail)
    refine (C1.out _).mono ?_
    rintro e wb ⟨rfl, rfl⟩
    go_wp2_with fail
    try (go_quiet (fail))
    try (go_wp2_with fail)
    refine (C2.out _).mono ?_
    rintro e wb ⟨rfl, rfl⟩
    go_wp2_with fail
    try (go_quiet (fail))
    try (go_wp2_with fail)
    refine (C3.out _).mono ?_
    rintro e wb ⟨rfl, rfl⟩
    go_wp2_with fail
    try (go_quiet (fail))
    try (go_wp2_with fail)
    go_ret2
    exact ⟨_, _, rfl, Q.out, (by first | exact Below.refl _ _ | exact (Below.refl _ _).drew | exact below_drewN (Below.refl _ _) _)⟩
  have C3 := Lib.hid (fun W => rDay_b b true ((dayB_iff b).2 u4) W)
  by_cases u5 : b < a
  · have g3 : decide (b < a) = true := decide_eq_true u5
    have Q := Lib.hid (show InQ n r a b 0 2 from .inl ⟨fun h => by have := h.2.2.2.2; omega, rfl, rfl⟩)
    clear u1 u2 u3 u4 u5
    go_enter Try.func25, Try.ntmps25
    go_wp2_with fail
    try (go_quiet (fail))
    try (go_wp2_with fail)
    refine (C1.out _).mono ?_
    rintro e wb ⟨rfl, rfl⟩
    go_wp2_with fail
    try (go_quiet (fail))
    try (go_wp2_with fail)
    refine (C2.out _).mono ?_
    rintro e wb ⟨rfl, rfl⟩
    go_wp2_with fail
    try (go_quiet (fail))
    try (go_wp2_with fail)
    refine (C3.out _).mono ?_
    rintro e wb ⟨rfl, rfl⟩
    go_wp2_with fail
    try (go_quiet (fail))
    try (go_wp2_with fail)
    go_ret2
    exact ⟨_, _, rfl, Q.out, (by first | exact Below.refl _ _ | exact (Below.refl _ _).drew | exact below_drewN (Below.refl _ _) _)⟩
  have g3 : decide (b < a) = false := decide_eq_false u5
  have OK := Lib.hid (show iOk n r a b from ⟨u1, u2, u3, u4, by omega⟩)
  have w1 : IntKind.i64.wrap (b - a) = b - a := IntWalk.i64_in _ (by omega)
  obtain ⟨D, hD⟩ : ∃ D, b - a = D := ⟨_, rfl⟩
  have D0 : 0 ≤ D := by omega
  have D1 : D ≤ 1000000 := by omega
  have F0 : 0 ≤ r * D := Int.mul_nonneg u2.1 D0
  have F1 : r * D ≤ 10000 * 1000000 := Int.mul_le_mul (by omega) (by omega) (by omega) (by omega)
  have BD := rz_four u1.1 u1.2 F0 (by omega)
  rw [← Int.mul_assoc] at BD
  obtain ⟨x, hx⟩ : ∃ x, x = rz (n * r * D) 3650000 4 := ⟨_, rfl⟩
  have RX := Lib.hid (show InQ n r a b x 0 from .inr ⟨OK.out, by rw [hx, hD, Int.mul_assoc], rfl⟩)
  rw [← hx] at BD
  rw [hD] at w1
  obtain ⟨s1, hs1⟩ : ∃ s, s = decide (n < 0) := ⟨_, rfl⟩
  obtain ⟨s2, hs2⟩ : ∃ s, s = decide (n * r < 0) := ⟨_, rfl⟩
  obtain ⟨s3, hs3⟩ : ∃ s, s = decide (n * r * D < 0) := ⟨_, rfl⟩
  obtain ⟨s4, hs4⟩ : ∃ s, s = decide (x < 0) := ⟨_, rfl⟩
  have S1 := Lib.hid hs1
  have S2 := Lib.hid hs2
  have S3 := Lib.hid hs3
  have S4 := Lib.hid hs4
  have SR := Lib.hid (show false = decide (r < 0) from g1.symm)
  have SD := Lib.hid (show false = decide (D < 0) from (decide_eq_false (by omega)).symm)
  have SC := Lib.hid (show false = decide ((3650000 : Int) < 0) from rfl)
  have HX := Lib.hid hx
  have HD := Lib.hid hD
  have BX := Lib.hid BD
  have nr : -9223372036854775808 ≤ n ∧ n ≤ 9223372036854775807 := ⟨by omega, by omega⟩
  have rr : -9223372036854775808 ≤ r ∧ r ≤ 9223372036854775807 := ⟨by omega, by omega⟩
  have dr : -9223372036854775808 ≤ D ∧ D ≤ 9223372036854775807 := ⟨by omega, by omega⟩
  have CN := Lib.hid (fun W => of_s n s1 S1.out nr.1 nr.2 W)
  have CR := Lib.hid (fun W => of_s r false SR.out rr.1 rr.2 W)
  have CD := Lib.hid (fun W => of_s D false SD.out dr.1 dr.2 W)
  clear hx hs1 hs2 hs3 hs4 BD u1 u2 u3 u4 F0 F1 D0 D1 nr rr dr
  go_enter Try.func25, Try.ntmps25
  go_wp2_with fail
  try (go_quiet (fail))
  try (go_wp2_with fail)
  refine (C1.out _).mono ?_
  rintro e wb ⟨rfl, rfl⟩
  go_wp2_with fail
  try (go_quiet (fail))
  try (go_wp2_with fail)
  refine (C2.out _).mono ?_
  rintro e wb ⟨rfl, rfl⟩
  go_wp2_with fail
  try (go_quiet (fail))
  try (go_wp2_with fail)
  refine (C3.out _).mono ?_
  rintro e wb ⟨rfl, rfl⟩
  go_wp2_with fail
  try (go_quiet (fail))
  try (go_wp2_with fail)
  try rw [HD.out]
  refine (CN.out _).mono ?_
  rintro e v1 ⟨p1, l1, c1, rfl, q1, f1, b1⟩
  have KB := Lib.hid (show Below w.heap.size w v1 from by first | exact b1 | exact ((Below.refl _ _).drew).trans b1 | exact (below_drewN (Below.refl _ _) _).trans b1)
  have X1 := Lib.hid q1
  clear q1 f1 b1 CN
  go_wp2_with fail
  refine (CR.out _).mono ?_
  rintro e v2 ⟨p2, l2, c2, rfl, q1, f1, b1⟩
  replace KB := Lib.hid (KB.out.trans ((show Below _ _ v2 from by first | exact b1 | exact ((Below.refl _ _).drew).trans b1 | exact (below_drewN (Below.refl _ _) _).trans b1).mono KB.out.size))
  replace X1 := Lib.hid (X1.out.below (show Below _ _ v2 from by first | exact b1 | exact ((Below.refl _ _).drew).trans b1 | exact (below_drewN (Below.refl _ _) _).trans b1))
  have X2 := Lib.hid q1
  clear q1 f1 b1 CR
  go_wp2_with fail
  refine (times_s n r s1 false s2 S1.out SR.out S2.out p1 p2 c1 c2 l1 l2 _ (by first | exact X1.out | exact X1.out.drew | exact X1.out.drewN _) (by first | exact X2.out | exact X2.out.drew | exact X2.out.drewN _) (by omega) (by omega)).mono ?_
  rintro e v3 ⟨p3, l3, c3, rfl, q1, f1, b1⟩
  replace KB := Lib.hid (KB.out.trans ((show Below _ _ v3 from by first | exact b1 | exact ((Below.refl _ _).drew).trans b1 | exact (below_drewN (Below.refl _ _) _).trans b1).mono KB.out.size))
  have X3 := Lib.hid q1
  clear q1 f1 b1 X1 X2
  go_wp2_with fail
  refine (CD.out _).mono ?_
  rintro e v4 ⟨p4, l4, c4, rfl, q1, f1, b1⟩
  replace KB := Lib.hid (KB.out.trans ((show Below _ _ v4 from by first | exact b1 | exact ((Below.refl _ _).drew).trans b1 | exact (below_drewN (Below.refl _ _) _).trans b1).mono KB.out.size))
  replace X3 := Lib.hid (X3.out.below (show Below _ _ v4 from by first | exact b1 | exact ((Below.refl _ _).drew).trans b1 | exact (below_drewN (Below.refl _ _) _).trans b1))
  have X4 := Lib.hid q1
  clear q1 f1 b1 CD
  go_wp2_with fail
  refine (times_s (n * r) D s2 false s3 S2.out SD.out S3.out p3 p4 c3 c4 l3 l4 _ (by first | exact X3.out | exact X3.out.drew | exact X3.out.drewN _) (by first | exact X4.out | exact X4.out.drew | exact X4.out.drewN _) (by omega) (by omega)).mono ?_
  rintro e v5 ⟨p5, l5, c5, rfl, q1, f1, b1⟩
  replace KB := Lib.hid (KB.out.trans ((show Below _ _ v5 from by first | exact b1 | exact ((Below.refl _ _).drew).trans b1 | exact (below_drewN (Below.refl _ _) _).trans b1).mono KB.out.size))
  generalize hn5 : l5.length = n5 at *
  have H5 := Lib.hid hn5
  have D0 := Lib.hid (BoxG.new v5 s3 p5 n5 c5)
  have al : Below v5.heap.size v5 (v5.alloc (Obj.cells #[Value.bool s3, Value.slice p5 n5 c5] 81)) := (Below.refl _ v5).alloc (Nat.le_refl _) _
  have X5 := Lib.hid (q1.below al)
  replace KB := Lib.hid (KB.out.trans (al.mono KB.out.size))
  clear q1 f1 b1 X3 X4 al hn5
  go_upto_region 4 with fail
  generalize (v5.alloc (Obj.cells #[Value.bool s3, Value.slice p5 n5 c5] 81)) = wa at *
  generalize v5.heap.size = g at *
  obtain ⟨k1, k2, k3, k4, k5⟩ := D0.out
  go_region_held3 (fun w' => w'.cell? ⟨g, 0, none⟩ = some (.bool s3) ∧ w'.cell? ⟨g, 1, none⟩ = some (.slice p5 n5 c5))
    (first | exact ⟨k2, k3⟩)
    (first
      | (go_at_call 52; (with_reducible refine (of_s 3650000 false SC.out (by omega) (by omega) _).mono ?_); rintro e v7 ⟨p7, l7, c7, rfl, r1, r2, r3⟩; replace D0 := Lib.hid (D0.out.below (show Below _ _ v7 from by first | exact r3 | exact ((Below.refl _ _).drew).trans r3 | exact (below_drewN (Below.refl _ _) _).trans r3)); clear k1 k2 k3 k4 k5; obtain ⟨k1, k2, k3, k4, k5⟩ := D0.out; replace X5 := Lib.hid (X5.out.below (show Below _ _ v7 from by first | exact r3 | exact ((Below.refl _ _).drew).trans r3 | exact (below_drewN (Below.refl _ _) _).trans r3)); have X7 := Lib.hid r1; replace KB := Lib.hid (KB.out.trans ((show Below _ _ v7 from by first | exact r3 | exact ((Below.refl _ _).drew).trans r3 | exact (below_drewN (Below.refl _ _) _).trans r3).mono KB.out.size)); clear r1 r2 r3)
      | (go_at_call 54; (with_reducible refine (rounded_s (N := 5 + 5 + 5) (n * r * D) 3650000 4 s3 false s4 S3.out SC.out (by rw [← HX.out]; exact S4.out) n5 p5 p7 c5 c7 l5 l7 H5.out _ (by first | exact X5.out | exact X5.out.drew | exact X5.out.drewN _) (by first | exact X7.out.more (by omega) | exact X7.out.drew.more (by omega) | exact (X7.out.drewN _).more (by omega)) (by omega) (by omega) (by omega) (by omega)).mono ?_); rintro e v8 ⟨p8, l8, c8, rfl, r1, r2, r3⟩; rw [← HX.out] at r1; replace D0 := Lib.hid (D0.out.below (show Below _ _ v8 from by first | exact r3 | exact ((Below.refl _ _).drew).trans r3 | exact (below_drewN (Below.refl _ _) _).trans r3)); clear k1 k2 k3 k4 k5; obtain ⟨k1, k2, k3, k4, k5⟩ := D0.out; have X8 := Lib.hid r1; replace KB := Lib.hid (KB.out.trans ((show Below _ _ v8 from by first | exact r3 | exact ((Below.refl _ _).drew).trans r3 | exact (below_drewN (Below.refl _ _) _).trans r3).mono KB.out.size)); clear r1 r2 r3)
      | (go_at_call 53; (with_reducible refine (within_s x 1152921504606846976 s4 S4.out p8 c8 l8 (by omega) (by omega) BX.out _ (by first | exact X8.out | exact X8.out.drew | exact X8.out.drewN _) (by omega)).mono ?_); rintro e v9 ⟨rfl, r3⟩; replace D0 := Lib.hid (D0.out.below (show Below _ _ v9 from by first | exact r3 | exact ((Below.refl _ _).drew).trans r3 | exact (below_drewN (Below.refl _ _) _).trans r3)); clear k1 k2 k3 k4 k5; obtain ⟨k1, k2, k3, k4, k5⟩ := D0.out; replace KB := Lib.hid (KB.out.trans ((show Below _ _ v9 from by first | exact r3 | exact ((Below.refl _ _).drew).trans r3 | exact (below_drewN (Below.refl _ _) _).trans r3).mono KB.out.size)); clear r3))
  clear k1 k2 k3 k4 k5
  go_wp2_with fail
  go_ret2
  exact ⟨_, _, rfl, RX.out, (by first | exact KB.out | exact KB.out.drew | exact below_drewN KB.out _)⟩
end Go.Proofs.Ytlahdfmciaibdaa
