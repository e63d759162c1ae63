/- Several texts in one: B8 U1 U2 R5. -/
import Derived.Test.YtlahdfmciaibdaaDoorND3
import Derived.Test.YtlahdfmciaibdaaDoorND4
import Derived.Test.YtlahdfmciaibdaaDoorU0
import Derived.Deep.CutBlock
import Derived.Deep.RegionHeld3

/- math/bits.Div64 in general. -/
namespace Go.Proofs.YtlahdfmciaibdaaDoor
open Go.RowKit
set_option linter.unusedVariables false
set_option linter.unusedSimpArgs false
set_option maxHeartbeats 1000000 in

theorem div64_gen (hi lo y : Int) (hh : 1 ≤ hi) (h' : hi < y) (h0 : 0 ≤ lo) (h1 : lo ≤ 18446744073709551615) (hy' : y ≤ 18446744073709551615) (w : World) :
    Calls Tryd.prog 61 #[.int .u64 hi, .int .u64 lo, .int .u64 y] w fun e w' => e = .returned (.tuple #[.int .u64 ((hi * 18446744073709551616 + lo) / y), .int .u64 ((hi * 18446744073709551616 + lo) % y)]) ∧ ∃ n, w' = w.drewN n := by
  have e0 : (y == 0) = false := by simp; omega
  have e1 : (hi == 0) = false := by simp; omega
  have L := (Tryd.bits_LeadingZeros64 y · (by omega) hy')
  obtain ⟨P, u, c, nm⟩ := nrm_any hi lo y hh h' h0 h1 hy'
  generalize (64 - (Lib.bitLen y.toNat : Int)) = s at L nm
  obtain ⟨s0, s1, hP, P1, eY, Y1, Y2, eu, ec, u0, u1, c0, c1, e⟩ := nm
  generalize hY : y * P = Y at *
  have D1 : Dig Y (Y / 4294967296) (Y % 4294967296) u (c / 4294967296) := ⟨by omega, by omega, by omega, by omega, by omega, u0, u1, by omega, by omega⟩
  have a1 : bits .and .u64 Y 4294967295 = Y % 4294967296 := and_low Y (by omega) Y2
  have a2 : bits .and .u64 c 4294967295 = c % 4294967296 := and_low c (by omega) c1
  have D0 : ∀ v : Int, 0 ≤ v → v < Y → Dig Y (Y / 4294967296) (Y % 4294967296) v (c % 4294967296) := fun v v0 v1 => ⟨by omega, by omega, by omega, by omega, by omega, v0, v1, by omega, by omega⟩
  obtain ⟨g1, g2, g3, g4, g5, g6⟩ := D1.guess
  have Hc : Hid (c = c / 4294967296 * 4294967296 + c % 4294967296) := Lib.hid (by omega)
  generalize hd1 : c / 4294967296 = d1 at *
  generalize hd0 : c % 4294967296 = d0 at *
  have b1 : 2147483648 ≤ Y / 4294967296 := D1.a1
  have b2 : Y / 4294967296 < 4294967296 := D1.a2
  have b3 : 0 ≤ Y % 4294967296 := D1.b1
  have b4 : Y % 4294967296 < 4294967296 := D1.b2
  generalize hy1 : Y / 4294967296 = y1 at *
  generalize hy0 : Y % 4294967296 = y0 at *
  have n1 : (y1 == 0) = false := by simp; omega
  have Hg := Lib.hid g3
  generalize hq : u / y1 = q at *
  generalize hr : u % y1 = r at *
  have qy1 : 0 ≤ q * y1 := Int.mul_nonneg g6 (by omega)
  have wq1 : IntKind.u64.wrap (q * y1) = q * y1 := by rw [IntKind.wrap_u64]; omega
  have w2 : IntKind.u64.wrap (u - q * y1) = r := by rw [IntKind.wrap_u64]; omega
  have w3 : IntKind.u64.wrap q = q := by rw [IntKind.wrap_u64]; omega
  have HP := Lib.hid hP
  clear hP
  have w4 : IntKind.u64.wrap (u.tdiv y1) = q := by rw [Int.tdiv_eq_ediv_of_nonneg u0, hq, w3]
  have w5 : d1 = d1 := rfl
  clear w3 w5
  go_enter Tryd.func61, Tryd.ntmps61
  go_upto_block 0 with (go_at_call 88; refine (L _).mono ?_; rintro e w1 ⟨rfl, rfl⟩)
  go_cut [15, 16] from 67 to 85 (fun a b wx => a = .int .u64 ((u * 4294967296 + d1) / Y) ∧ (∃ z, b = .int .u64 z) ∧ wx = w1)
  case first =>
    go_wp2_with fail
    go_loop [15, 16] (fun a b => ∃ q r : Int, Hid (q * y1 + r = u) ∧ 0 ≤ q ∧ q ≤ 4294967297 ∧ (u * 4294967296 + d1) / Y ≤ q ∧ 0 ≤ r ∧ r < 4294967296 ∧ a = .int .u64 q ∧ b = .int .u64 r) (fun a _ => (intOf a).toNat)
    case atStart => exact ⟨q, r, Hg, g6, g2, g1, g4, g5, rfl, rfl⟩
    case round =>
      obtain ⟨q, r, hqr, k1, k2, k3, k4, k5, rfl, rfl⟩ := hrel
      have z0 : 0 ≤ q * y0 := Int.mul_nonneg k1 b3
      have z2 : q * y0 ≤ 18446744073709551615 := by
        have : q * y0 ≤ 4294967297 * 4294967295 := Int.mul_le_mul k2 (by omega) b3 (by omega)
        omega
      have z1 : IntKind.u64.wrap (q * y0) = q * y0 := by rw [IntKind.wrap_u64]; omega
      have d1a : 0 ≤ d1 := D1.c1
      have d1b : d1 < 4294967296 := D1.c2
      have hov := fun t => D1.over hqr.out t
      have hdn := fun t => D1.done hqr.out k3 t
      have hdn' := fun h t => D1.done (Dig.step hqr.out) h t
      generalize hz : q * y0 = z at *
      have Hz := Lib.hid hz
      have z3 : IntKind.u64.wrap (q * y0) = z := by rw [hz]; exact z1
      clear hz z1
      by_cases t : 4294967296 ≤ q ∨ 4294967296 * r + d1 < z
      · have o := hov t
        have q0 : 1 ≤ q := by have := D1.quo_nonneg; omega
        have T := Lib.hid t
        clear hov hdn
        have hst := Lib.hid (Dig.step hqr.out)
        have D := Lib.hid hdn'
        clear hdn'
        by_cases t2 : 4294967296 ≤ r + y1
        · have D' := Lib.hid (D.out (by omega) (Or.inr ⟨t2, by omega, by omega⟩))
          rcases t with t | t
          · go_wp2_with fail
            go_meet
            exact ⟨by rw [D'.out], ⟨_, rfl⟩, rfl⟩
          · by_cases t3 : 4294967296 ≤ q
            · go_wp2_with fail
              go_meet
              exact ⟨by rw [D'.out], ⟨_, rfl⟩, rfl⟩
            · go_wp2_with fail
              go_meet
              exact ⟨by rw [D'.out], ⟨_, rfl⟩, rfl⟩
        · rcases t with t | t
          · go_wp2_with fail
            go_round
            case rel => exact ⟨q - 1, r + y1, hst, by omega, by omega, by omega, by omega, by omega, rfl, rfl⟩
            case measure => simp [intOf]; omega
          · by_cases t3 : 4294967296 ≤ q
            · go_wp2_with fail
              go_round
              case rel => exact ⟨q - 1, r + y1, hst, by omega, by omega, by omega, by omega, by omega, rfl, rfl⟩
              case measure => simp [intOf]; omega
            · go_wp2_with fail
              go_round
              case rel => exact ⟨q - 1, r + y1, hst, by omega, by omega, by omega, by omega, by omega, rfl, rfl⟩
              case measure => simp [intOf]; omega
      · have D := Lib.hid (hdn (Or.inl (by omega)))
        clear hov hdn hdn'
        have t1 : q < 4294967296 := by omega
        have t3 : z ≤ 4294967296 * r + d1 := by omega
        clear t
        go_wp2_with fail
        go_meet
        exact ⟨by rw [D.out], ⟨_, rfl⟩, rfl⟩
  case rest =>
    obtain ⟨rfl, ⟨z, rfl⟩, rfl⟩ := hcut
    have Q0 := D1.quo_nonneg
    have Q1 := D1.quo_lt
    have v0 : 0 ≤ (u * 4294967296 + d1) % Y := Int.emod_nonneg _ (by omega)
    have v1 : (u * 4294967296 + d1) % Y < Y := Int.emod_lt_of_pos _ (by omega)
    have hQ : (u * 4294967296 + d1) / Y * Y + (u * 4294967296 + d1) % Y = u * 4294967296 + d1 := by rw [Int.mul_comm]; exact Int.mul_ediv_add_emod _ _
    generalize (u * 4294967296 + d1) % Y = v at *
    generalize (u * 4294967296 + d1) / Y = Q at *
    have HQ := Lib.hid hQ
    clear hQ w4 w2 wq1 g1 g2 g3 g4 g5 g6 qy1 Hg hq hr
    have ev : IntKind.u64.wrap (IntKind.u64.wrap (IntKind.u64.wrap (u * 4294967296) + d1) - IntKind.u64.wrap (Q * Y)) = v := by
      have := HQ.out
      generalize Q * Y = x at *
      simp only [IntKind.wrap_u64]
      omega
    have DV := D0 v v0 v1
    clear D0
    obtain ⟨g1, g2, g3, g4, g5, g6⟩ := DV.guess
    generalize hq : v / y1 = q at *
    generalize hr : v % y1 = r at *
    have Hg := Lib.hid g3
    have qy1 : 0 ≤ q * y1 := Int.mul_nonneg g6 (by omega)
    have wq1 : IntKind.u64.wrap (q * y1) = q * y1 := by rw [IntKind.wrap_u64]; omega
    have w2 : IntKind.u64.wrap (v - q * y1) = r := by rw [IntKind.wrap_u64]; omega
    have w4 : IntKind.u64.wrap (v.tdiv y1) = q := by rw [Int.tdiv_eq_ediv_of_nonneg v0, hq, IntKind.wrap_u64]; omega
    go_upto_block 2 with fail
    go_cut [16, 18] from 102 to 120 (fun b a wx => (∃ z, b = .int .u64 z) ∧ a = .int .u64 ((v * 4294967296 + d0) / Y) ∧ wx = wc)
    case first =>
      go_wp2_with fail
      go_loop [16, 18] (fun b a => ∃ q r : Int, Hid (q * y1 + r = v) ∧ 0 ≤ q ∧ q ≤ 4294967297 ∧ (v * 4294967296 + d0) / Y ≤ q ∧ 0 ≤ r ∧ r < 4294967296 ∧ a = .int .u64 q ∧ b = .int .u64 r) (fun _ a => (intOf a).toNat)
      case atStart => exact ⟨q, r, Hg, g6, g2, g1, g4, g5, rfl, rfl⟩
      case round =>
        obtain ⟨q, r, hqr, k1, k2, k3, k4, k5, rfl, rfl⟩ := hrel
        have z0 : 0 ≤ q * y0 := Int.mul_nonneg k1 b3
        have z2 : q * y0 ≤ 18446744073709551615 := by
          have : q * y0 ≤ 4294967297 * 4294967295 := Int.mul_le_mul k2 (by omega) b3 (by omega)
          omega
        have z1 : IntKind.u64.wrap (q * y0) = q * y0 := by rw [IntKind.wrap_u64]; omega
        have d0a : 0 ≤ d0 := DV.c1
        have d0b : d0 < 4294967296 := DV.c2
        have hov := fun t => DV.over hqr.out t
        have hdn := fun t => DV.done hqr.out k3 t
        have hdn' := fun h t => DV.done (Dig.step hqr.out) h t
        generalize hz : q * y0 = z at *
        have Hz := Lib.hid hz
        have z3 : IntKind.u64.wrap (q * y0) = z := by rw [hz]; exact z1
        clear hz z1
        by_cases t : 4294967296 ≤ q ∨ 4294967296 * r + d0 < z
        · have o := hov t
          have q0 : 1 ≤ q := by have := DV.quo_nonneg; omega
          have T := Lib.hid t
          clear hov hdn
          have hst := Lib.hid (Dig.step hqr.out)
          have D := Lib.hid hdn'
          clear hdn'
          by_cases t2 : 4294967296 ≤ r + y1
          · have D' := Lib.hid (D.out (by omega) (Or.inr ⟨t2, by omega, by omega⟩))
            rcases t with t | t
            · go_wp2_with fail
              go_meet
              exact ⟨⟨_, rfl⟩, by rw [D'.out], rfl⟩
            · by_cases t3 : 4294967296 ≤ q
              · go_wp2_with fail
                go_meet
                exact ⟨⟨_, rfl⟩, by rw [D'.out], rfl⟩
              · go_wp2_with fail
                go_meet
                exact ⟨⟨_, rfl⟩, by rw [D'.out], rfl⟩
          · rcases t with t | t
            · go_wp2_with fail
              go_round
              case rel => exact ⟨q - 1, r + y1, hst, by omega, by omega, by omega, by omega, by omega, rfl, rfl⟩
              case measure => simp [intOf]; omega
            · by_cases t3 : 4294967296 ≤ q
              · go_wp2_with fail
                go_round
                case rel => exact ⟨q - 1, r + y1, hst, by omega, by omega, by omega, by omega, by omega, rfl, rfl⟩
                case measure => simp [intOf]; omega
              · go_wp2_with fail
                go_round
                case rel => exact ⟨q - 1, r + y1, hst, by omega, by omega, by omega, by omega, by omega, rfl, rfl⟩
                case measure => simp [intOf]; omega
        · have D := Lib.hid (hdn (Or.inl (by omega)))
          clear hov hdn hdn'
          have t1 : q < 4294967296 := by omega
          have t3 : z ≤ 4294967296 * r + d0 := by omega
          clear t
          go_wp2_with fail
          go_meet
          exact ⟨⟨_, rfl⟩, by rw [D.out], rfl⟩
    case rest =>
      obtain ⟨⟨z, rfl⟩, rfl, rfl⟩ := hcut
      have R0 := DV.quo_nonneg
      have R1 := DV.quo_lt
      have p0 : 0 ≤ (v * 4294967296 + d0) % Y := Int.emod_nonneg _ (by omega)
      have p1 : (v * 4294967296 + d0) % Y < Y := Int.emod_lt_of_pos _ (by omega)
      have hR : (v * 4294967296 + d0) / Y * Y + (v * 4294967296 + d0) % Y = v * 4294967296 + d0 := by rw [Int.mul_comm]; exact Int.mul_ediv_add_emod _ _
      generalize (v * 4294967296 + d0) % Y = ρ at *
      generalize (v * 4294967296 + d0) / Y = R at *
      have HR := Lib.hid hR
      clear hR w4 w2 wq1 g1 g2 g3 g4 g5 g6 qy1 Hg hq hr ev
      have ev : IntKind.u64.wrap (IntKind.u64.wrap (IntKind.u64.wrap (v * 4294967296) + d0) - IntKind.u64.wrap (R * Y)) = ρ := by
        have := HR.out
        generalize R * Y = x at *
        simp only [IntKind.wrap_u64]
        omega
      have E : Hid (Q * 4294967296 + R = (hi * 18446744073709551616 + lo) / y ∧ ρ / P = (hi * 18446744073709551616 + lo) % y) := by
        have a := HQ.out
        have b := HR.out
        rw [← hY] at a b p1
        exact digits _ y P u c d1 d0 v Q R ρ (by omega) P1 e Hc.out (by omega) (by omega) p0 p1
      clear e hY D1 DV
      go_wp2_with fail
      go_ret2
      have E2 : ρ / 2 ^ s.toNat = (hi * 18446744073709551616 + lo) % y := by rw [HP.out]; exact E.out.2
      exact ⟨ret_ii E.out.1 E2, 0, rfl⟩
theorem div64_all (hi lo y : Int) (hh : 0 ≤ hi) (h' : hi < y) (h0 : 0 ≤ lo) (h1 : lo ≤ 18446744073709551615) (hy' : y ≤ 18446744073709551615) (w : World) :
    Calls Tryd.prog 61 #[.int .u64 hi, .int .u64 lo, .int .u64 y] w fun e w' => e = .returned (.tuple #[.int .u64 ((hi * 18446744073709551616 + lo) / y), .int .u64 ((hi * 18446744073709551616 + lo) % y)]) ∧ ∃ n, w' = w.drewN n := by
  by_cases h : hi = 0
  · exact div64_any hi lo y h h' h0 h1 hy' w
  · exact div64_gen hi lo y (by omega) h' h0 h1 hy' w
end Go.Proofs.YtlahdfmciaibdaaDoor

/- A slice that came in; compareProducts, share, sumOf. -/
namespace Go.Proofs.YtlahdfmciaibdaaDoor
open Go.RowKit
set_option linter.unusedVariables false
set_option linter.unusedSimpArgs false

/-- The slice, wherever it lies, reads as this row. -/
def RowA (w : World) (p : Option Addr) (l : List Int) : Prop := ∀ i (h : i < l.length), ∃ x : Addr, p = some x ∧ x.block < w.heap.size ∧ w.cell? (x.add i) = some (.int .i64 (gd l i))
theorem add_block (x : Addr) (i : Nat) : (x.add i).block = x.block := by unfold Addr.add; split <;> rfl
theorem RowA.below {w w' : World} {p : Option Addr} {l : List Int} (r : RowA w p l) (hb : Below w.heap.size w w') : RowA w' p l := fun i h => by
  obtain ⟨x, e, k, c⟩ := r i h
  exact ⟨x, e, Nat.lt_of_lt_of_le k hb.size, by rw [hb.cell (p := x.add i) (by rw [add_block]; exact k)]; exact c⟩
theorem RowA.drewN {w : World} {p : Option Addr} {l : List Int} (r : RowA w p l) (n : Nat) : RowA (w.drewN n) p l := r.below (below_drewN (Below.refl _ _) n)

theorem cmpZ_hi {x y M : Int} (hM : 0 < M) (h : x / M ≠ y / M) : cmpZ (x / M) (y / M) = cmpZ x y := by
  have a1 := Int.emod_add_mul_ediv x M
  have a2 := Int.emod_add_mul_ediv y M
  have b1 := Int.emod_nonneg x (show M ≠ 0 by omega)
  have b2 := Int.emod_lt_of_pos x hM
  have c1 := Int.emod_nonneg y (show M ≠ 0 by omega)
  have c2 := Int.emod_lt_of_pos y hM
  rcases (by omega : x / M < y / M ∨ y / M < x / M) with t | t
  · have : M * (x / M + 1) ≤ M * (y / M) := Int.mul_le_mul_of_nonneg_left (by omega) (by omega)
    rw [Int.mul_add, Int.mul_one] at this
    unfold cmpZ; rw [if_pos t, if_pos (by omega)]
  · have : M * (y / M + 1) ≤ M * (x / M) := Int.mul_le_mul_of_nonneg_left (by omega) (by omega)
    rw [Int.mul_add, Int.mul_one] at this
    unfold cmpZ; rw [if_neg (by omega), if_pos t, if_neg (by omega), if_pos (by omega)]
theorem cmpZ_lo {x y M : Int} (h : x / M = y / M) : cmpZ (x % M) (y % M) = cmpZ x y := by
  have a1 := Int.emod_add_mul_ediv x M
  have a2 := Int.emod_add_mul_ediv y M
  rw [h] at a1
  unfold cmpZ
  rcases (by omega : x < y ∨ y < x ∨ x = y) with t | t | t
  · rw [if_pos t, if_pos (by omega)]
  · rw [if_neg (show ¬ x < y by omega), if_pos t, if_neg (by omega), if_pos (by omega)]
  · subst t; rw [if_neg (by omega), if_neg (by omega), if_neg (by omega), if_neg (by omega)]

set_option maxRecDepth 100000 in
theorem compare_any (a b c d : Int) (a0 : 0 ≤ a) (a1 : a ≤ 4611686018427387904) (b0 : 0 ≤ b) (b1 : b ≤ 4611686018427387904) (c0 : 0 ≤ c) (c1 : c ≤ 4611686018427387904) (d0 : 0 ≤ d) (d1 : d ≤ 4611686018427387904) (w : World) :
    Calls Tryd.prog 70 #[.int .i64 a, .int .i64 b, .int .i64 c, .int .i64 d] w fun e w' => e = .returned (.int .i64 (cmpZ (a * b) (c * d))) ∧ w = w' := by
  have EA := Lib.hid (show (a.natAbs : Int) = a by omega)
  have EB := Lib.hid (show (b.natAbs : Int) = b by omega)
  have EC := Lib.hid (show (c.natAbs : Int) = c by omega)
  have ED := Lib.hid (show (d.natAbs : Int) = d by omega)
  have M1 := Lib.hid (fun W => mul64_any a b a0 b0 (by omega) (by omega) W)
  have M2 := Lib.hid (fun W => mul64_any c d c0 d0 (by omega) (by omega) W)
  have HI := Lib.hid (fun h => cmpZ_hi (x := a * b) (y := c * d) (M := 18446744073709551616) (by omega) h)
  have LO := Lib.hid (fun h => cmpZ_lo (x := a * b) (y := c * d) (M := 18446744073709551616) h)
  generalize cmpZ (a * b) (c * d) = Z at *
  generalize a * b / 18446744073709551616 = h1 at *
  generalize a * b % 18446744073709551616 = l1 at *
  generalize c * d / 18446744073709551616 = h2 at *
  generalize c * d % 18446744073709551616 = l2 at *
  go_enter Tryd.func70, Tryd.ntmps70
  go_wp2_with fail
  refine (size_any _ (by omega) (by omega) _).mono ?_
  rintro e w1 ⟨rfl, rfl⟩
  rw [EA.out]
  go_wp2_with fail
  refine (size_any _ (by omega) (by omega) _).mono ?_
  rintro e w1 ⟨rfl, rfl⟩
  rw [EB.out]
  go_wp2_with fail
  refine (M1.out _).mono ?_
  rintro e w1 ⟨rfl, rfl⟩
  go_wp2_with fail
  refine (size_any _ (by omega) (by omega) _).mono ?_
  rintro e w1 ⟨rfl, rfl⟩
  rw [EC.out]
  go_wp2_with fail
  refine (size_any _ (by omega) (by omega) _).mono ?_
  rintro e w1 ⟨rfl, rfl⟩
  rw [ED.out]
  go_wp2_with fail
  refine (M2.out _).mono ?_
  rintro e w1 ⟨rfl, rfl⟩
  by_cases h : h1 = h2
  · have K := Lib.hid (LO.out h)
    have hb : (h1 != h2) = false := by simpa using h
    clear h LO HI
    go_wp2_with fail
    refine (cmpu_any _ _ _).mono ?_
    rintro e w1 ⟨rfl, rfl⟩
    go_wp2_with fail
    go_ret
    exact ⟨ret_i K.out, rfl⟩
  · have K := Lib.hid (HI.out h)
    have hb : (h1 != h2) = true := by simpa using h
    clear h LO HI
    go_wp2_with fail
    refine (cmpu_any _ _ _).mono ?_
    rintro e w1 ⟨rfl, rfl⟩
    go_wp2_with fail
    go_ret
    exact ⟨ret_i K.out, rfl⟩

set_option maxRecDepth 100000 in
/-- share, where the quotient fits. -/
theorem share_any (t m s : Int) (h1 : 0 ≤ t) (h2 : 0 ≤ m) (h3 : 1 ≤ s) (h4 : s ≤ 4611686018427387904) (h5 : t ≤ 4611686018427387904) (h6 : m ≤ s) (w : World) :
    Calls Tryd.prog 24 #[.int .i64 t, .int .i64 m, .int .i64 s] w fun e w' => e = .returned (.tuple #[.int .i64 (t * m / s), .int .u64 (t * m % s)]) ∧ ∃ n, w' = w.drewN n := by
  have p0 : 0 ≤ t * m := Int.mul_nonneg h1 h2
  have p1 : t * m ≤ t * s := Int.mul_le_mul_of_nonneg_left h6 h1
  have q0 : 0 ≤ t * m / s := Int.ediv_nonneg p0 (by omega)
  have q1 : t * m / s ≤ t := by
    have := Int.ediv_le_ediv (show 0 < s by omega) p1
    rwa [Int.mul_ediv_cancel _ (by omega)] at this
  have q2 : t * m / s ≤ 9223372036854775807 := by omega
  have hi0 : 0 ≤ t * m / 18446744073709551616 := Int.ediv_nonneg p0 (by omega)
  have hi1 : t * m / 18446744073709551616 < s := by
    refine Int.ediv_lt_of_lt_mul (by omega) ?_
    have : t * s < 18446744073709551616 * s := Int.mul_lt_mul_of_pos_right (by omega) (by omega)
    have := Int.mul_comm s 18446744073709551616
    omega
  have lo0 : 0 ≤ t * m % 18446744073709551616 := Int.emod_nonneg _ (by omega)
  have lo1 : t * m % 18446744073709551616 ≤ 18446744073709551615 := by have := Int.emod_lt_of_pos (t * m) (show (0 : Int) < 18446744073709551616 by omega); omega
  have DV := fun W => div64_all (t * m / 18446744073709551616) (t * m % 18446744073709551616) s hi0 hi1 lo0 lo1 (by omega) W
  rw [show t * m / 18446744073709551616 * 18446744073709551616 + t * m % 18446744073709551616 = t * m from by have := Int.emod_add_mul_ediv (t * m) 18446744073709551616; omega] at DV
  replace DV := Lib.hid DV
  have M1 := Lib.hid (fun W => mul64_any t m h1 h2 (by omega) (by omega) W)
  have E1 := Lib.hid (show (t.natAbs : Int) = t by omega)
  have E2 := Lib.hid (show (m.natAbs : Int) = m by omega)
  have E3 := Lib.hid (show (s.natAbs : Int) = s by omega)
  clear hi0 hi1 lo0 lo1 p1 q1
  generalize t * m / s = Q at *
  generalize t * m % s = R at *
  generalize t * m / 18446744073709551616 = H at *
  generalize t * m % 18446744073709551616 = L at *
  clear p0
  go_enter Tryd.func24, Tryd.ntmps24
  go_wp2_with fail
  refine (size_any _ (by omega) (by omega) _).mono ?_
  rintro e w1 ⟨rfl, rfl⟩
  rw [E1.out]
  go_wp2_with fail
  refine (size_any _ (by omega) (by omega) _).mono ?_
  rintro e w1 ⟨rfl, rfl⟩
  rw [E2.out]
  go_wp2_with fail
  refine (M1.out _).mono ?_
  rintro e w1 ⟨rfl, rfl⟩
  go_wp2_with fail
  refine (size_any _ (by omega) (by omega) _).mono ?_
  rintro e w1 ⟨rfl, rfl⟩
  rw [E3.out]
  go_wp2_with fail
  refine (DV.out _).mono ?_
  rintro e w1 ⟨rfl, n1, rfl⟩
  go_wp2_with fail
  go_ret2
  exact ⟨rfl, _, rfl⟩

/-- What the divisions take. -/
def Takes (t : Int) (l : List Int) : Prop := l.length ≤ 256 ∧ (0 ≤ t ∧ t ≤ 1125899906842624) ∧ ∀ i, i < l.length → 0 ≤ gd l i ∧ gd l i ≤ 1073741824
/-- What sumOf returns. -/
def SumR (t : Int) (l : List Int) (S E : Int) : Prop :=
  (256 < l.length ∧ S = 0 ∧ E = 3) ∨ (l.length ≤ 256 ∧ (¬ (0 ≤ t ∧ t ≤ 1125899906842624) ∨ ∃ i, i < l.length ∧ ¬ (0 ≤ gd l i ∧ gd l i ≤ 1073741824)) ∧ S = 0 ∧ E = 2) ∨ (Takes t l ∧ l.sum = 0 ∧ 0 < t ∧ S = 0 ∧ E = 5) ∨ (Takes t l ∧ (l.sum = 0 → t = 0) ∧ S = l.sum ∧ E = 0)

set_option maxRecDepth 100000 in
set_option maxHeartbeats 1000000 in
theorem sumOf_any (t : Int) (p : Option Addr) (c : Nat) (l : List Int) (w : World) (r : RowA w p l) (ln : l.length ≤ 1000000) :
    Calls Tryd.prog 23 #[.int .i64 t, .slice p l.length c] w fun e w' => (∃ S E, e = .returned (.tuple #[.int .i64 S, .int .i64 E]) ∧ SumR t l S E) ∧ w = w' := by
  obtain ⟨x, hx⟩ : ∃ x, x = l.length := ⟨_, rfl⟩
  rw [← hx] at ln ⊢
  by_cases h1 : 256 < x
  · have F := Lib.hid (show SumR t l 0 3 from .inl ⟨by omega, rfl, rfl⟩)
    clear hx r
    go_enter Tryd.func23, Tryd.ntmps23
    go_wp2_with fail
    go_ret2
    exact ⟨⟨_, _, rfl, F.out⟩, rfl⟩
  by_cases h2 : 0 ≤ t ∧ t ≤ 1125899906842624
  · have B := Lib.hid (show (decide (0 ≤ t) && decide (t ≤ 1125899906842624)) = true by simp [h2])
    have HX := Lib.hid hx
    have R := Lib.hid r
    have T := Lib.hid h2
    obtain ⟨t0, t1⟩ := h2
    clear hx r
    go_enter Tryd.func23, Tryd.ntmps23
    go_wp2_with fail
    refine (isAmount_any _ _).mono ?_
    rintro e w1 ⟨rfl, rfl⟩
    rw [B.out]
    go_wp2_with fail
    go_loop [6, 17] (fun sv kv => ∃ (k : Nat) (S : Int), k ≤ x ∧ sv = .int .i64 S ∧ kv = .int .i64 k ∧ 0 ≤ S ∧ S ≤ k * 1073741824 ∧ Hid (S = (l.take k).sum ∧ ∀ i, i < k → 0 ≤ gd l i ∧ gd l i ≤ 1073741824)) (fun _ kv => x - (intOf kv).toNat)
    case atStart => exact ⟨0, 0, Nat.zero_le _, rfl, rfl, by omega, by omega, by show _ ∧ _; exact ⟨rfl, by omega⟩⟩
    case round =>
      obtain ⟨k, S, hk, rfl, rfl, s0, s1, HS⟩ := hrel
      by_cases t2 : k < x
      · have l1 : k < l.length := by have := HX.out; omega
        obtain ⟨xa, rfl, kx, cx⟩ := R.out k l1
        have ST := sum_take_succ l1
        have NX : Hid (0 ≤ gd l k ∧ gd l k ≤ 1073741824 → S + gd l k = (l.take (k + 1)).sum ∧ ∀ i, i < k + 1 → 0 ≤ gd l i ∧ gd l i ≤ 1073741824) := fun g => ⟨by rw [ST, HS.out.1], fun i hi => by
          rcases (by omega : i < k ∨ i = k) with z | z
          · exact HS.out.2 i z
          · subst z; exact g⟩
        have BD : Hid (¬ (0 ≤ gd l k ∧ gd l k ≤ 1073741824) → SumR t l 0 2) := fun g => .inr (.inl ⟨by have := HX.out; omega, .inr ⟨k, l1, g⟩, rfl, rfl⟩)
        have i3 : (k : Int) < (x : Int) := by omega
        clear ST HS
        generalize gd l k = v at *
        by_cases gv : 0 ≤ v ∧ v ≤ 1073741824
        · have WV := Lib.hid (show (decide (0 ≤ v) && decide (v ≤ 1073741824)) = true by simp [gv])
          have NY := Lib.hid (NX.out gv)
          obtain ⟨g0, g1⟩ := gv
          clear NX BD
          go_wp2_with fail
          refine (isWeight_any _ _).mono ?_
          rintro e w1 ⟨rfl, rfl⟩
          rw [WV.out]
          go_wp2_with fail
          go_round
          case rel => exact ⟨k + 1, S + v, by omega, rfl, by go_num, by omega, by omega, NY⟩
          case measure => simp [intOf]; omega
        · have WV := Lib.hid (show (decide (0 ≤ v) && decide (v ≤ 1073741824)) = false by rw [Bool.and_eq_false_iff]; simp only [decide_eq_false_iff_not]; omega)
          have F := Lib.hid (BD.out gv)
          clear NX BD gv
          go_wp2_with fail
          refine (isWeight_any _ _).mono ?_
          rintro e w1 ⟨rfl, rfl⟩
          rw [WV.out]
          go_wp2_with fail
          go_ret2
          exact ⟨⟨_, _, rfl, F.out⟩, rfl⟩
      · have kx : k = l.length := by have := HX.out; omega
        have SE : S = l.sum := by rw [HS.out.1, kx, List.take_length]
        have TK : Takes t l := ⟨by have := HX.out; omega, T.out, fun i hi => HS.out.2 i (by omega)⟩
        clear HS
        rcases (by omega : (S = 0 ∧ 0 < t) ∨ ¬ (S = 0 ∧ 0 < t)) with ⟨z1, z2⟩ | z
        · have F := Lib.hid (show SumR t l 0 5 from .inr (.inr (.inl ⟨TK, by omega, z2, rfl, rfl⟩)))
          subst z1
          clear SE TK
          go_wp2_with fail
          go_ret2
          exact ⟨⟨_, _, rfl, F.out⟩, rfl⟩
        · have F := Lib.hid (show SumR t l S 0 from .inr (.inr (.inr ⟨TK, by omega, SE, rfl⟩)))
          clear SE TK
          rcases (by omega : ¬ S = 0 ∨ (S = 0 ∧ ¬ 0 < t)) with z1 | ⟨z1, z2⟩
          · have zb : (S == 0) = false := by simpa using z1
            clear z
            go_wp2_with fail
            go_ret2
            exact ⟨⟨_, _, rfl, F.out⟩, rfl⟩
          · subst z1
            clear z
            go_wp2_with fail
            go_ret2
            exact ⟨⟨_, _, rfl, F.out⟩, rfl⟩
  · have B := Lib.hid (show (decide (0 ≤ t) && decide (t ≤ 1125899906842624)) = false by rw [Bool.and_eq_false_iff]; simp only [decide_eq_false_iff_not]; omega)
    have F := Lib.hid (show SumR t l 0 2 from .inr (.inl ⟨by omega, .inl h2, rfl, rfl⟩))
    clear hx r h2
    go_enter Tryd.func23, Tryd.ntmps23
    go_wp2_with fail
    refine (isAmount_any _ _).mono ?_
    rintro e w1 ⟨rfl, rfl⟩
    rw [B.out]
    go_wp2_with fail
    go_ret2
    exact ⟨⟨_, _, rfl, F.out⟩, rfl⟩
end Go.Proofs.YtlahdfmciaibdaaDoor

/- next: the part that has the next unit. -/
namespace Go.Proofs.YtlahdfmciaibdaaDoor
open Go.RowKit
set_option linter.unusedVariables false
set_option linter.unusedSimpArgs false

theorem cross_u {A B C D q s : Int} (hD : 0 < D) (hq : 0 < q) (hs : 0 < s) (h1 : A * D < B * q) (h2 : B * s ≤ C * D) : A * s < C * q := by
  have : (A * s) * D < (C * q) * D := by
    calc (A * s) * D = (A * D) * s := by ac_rfl
      _ < (B * q) * s := Int.mul_lt_mul_of_pos_right h1 hs
      _ = (B * s) * q := by ac_rfl
      _ ≤ (C * D) * q := Int.mul_le_mul_of_nonneg_right h2 (by omega)
      _ = (C * q) * D := by ac_rfl
  exact Int.lt_of_mul_lt_mul_right this (by omega)
/-- Of the first k parts f has the next unit. -/
def Fst (l P : List Int) (k f : Nat) : Prop := 0 < gd l f ∧ ∀ j, j < k → 0 < gd l j → f ≠ j → Ahead (2 * gd P f + 1) (gd l f) f (2 * gd P j + 1) (gd l j) j
theorem Fst.skip {l P : List Int} {k f : Nat} (h : Fst l P k f) (z : ¬ 0 < gd l k) : Fst l P (k + 1) f := ⟨h.1, fun j hj pj ne => by
  rcases (by omega : j < k ∨ j = k) with t | t
  · exact h.2 j t pj ne
  · subst t; exact absurd pj z⟩
theorem Fst.new {l P : List Int} {k : Nat} (h : ∀ j, j < k → ¬ 0 < gd l j) (p : 0 < gd l k) : Fst l P (k + 1) k := ⟨p, fun j hj pj ne => absurd pj (h j (by omega))⟩
theorem Fst.take {l P : List Int} {k f : Nat} (h : Fst l P k f) (p : 0 < gd l k) (c : (2 * gd P k + 1) * gd l f < (2 * gd P f + 1) * gd l k) : Fst l P (k + 1) k := ⟨p, fun j hj pj ne => by
  by_cases e : j = f
  · subst e; exact .inl c
  · have := h.2 j (by omega) pj (fun z => e z.symm)
    exact .inl (cross_u h.1 p pj c (by unfold Ahead at this; omega))⟩
theorem Fst.keep {l P : List Int} {k f : Nat} (h : Fst l P k f) (hf : f < k) (c : ¬ (2 * gd P k + 1) * gd l f < (2 * gd P f + 1) * gd l k) : Fst l P (k + 1) f := ⟨h.1, fun j hj pj ne => by
  rcases (by omega : j < k ∨ j = k) with t | t
  · exact h.2 j t pj ne
  · subst t
    rcases (by omega : (2 * gd P f + 1) * gd l j < (2 * gd P j + 1) * gd l f ∨ (2 * gd P f + 1) * gd l j = (2 * gd P j + 1) * gd l f) with u | u
    · exact .inl u
    · exact .inr ⟨u, hf⟩⟩

/-- What next keeps. -/
def NxAt (l P : List Int) (k : Nat) (fv : Value) : Prop := (fv = .int .i64 (-1) ∧ Hid (∀ j, j < k → ¬ 0 < gd l j)) ∨ ∃ f : Nat, f < k ∧ fv = .int .i64 f ∧ Hid (Fst l P k f)

set_option maxRecDepth 100000 in
set_option maxHeartbeats 4000000 in
theorem next_any (g : Nat) (cp : Nat) (P : List Int) (q : Option Addr) (c : Nat) (l : List Int) (w : World) (rp : ∀ i, i < l.length → w.cell? ⟨g, i, none⟩ = some (.int .i64 (gd P i))) (gz : g < w.heap.size) (r : RowA w q l) (ln : l.length ≤ 1000000)
    (hP : ∀ i, 0 ≤ gd P i ∧ gd P i ≤ 1152921504606846976) (hl : ∀ i, i < l.length → 0 ≤ gd l i ∧ gd l i ≤ 1073741824) (ex : ∃ i, i < l.length ∧ 0 < gd l i) :
    Calls Tryd.prog 34 #[.slice (some ⟨g, 0, none⟩) l.length cp, .slice q l.length c] w fun e w' => (∃ i : Nat, e = .returned (.int .i64 i) ∧ Nx l P i) ∧ ∃ n, w' = w.drewN n := by
  obtain ⟨x, hx⟩ : ∃ x, x = l.length := ⟨_, rfl⟩
  rw [← hx] at ln ⊢
  have HX := Lib.hid hx
  have R := Lib.hid r
  have RP := Lib.hid rp
  have HP := Lib.hid hP
  have HL := Lib.hid hl
  have EX := Lib.hid ex
  clear hx r rp hP hl ex
  go_enter Tryd.func34, Tryd.ntmps34
  go_wp2_with fail
  go_loopw [5, 10] (fun fv kv wr => ∃ k : Nat, k ≤ x ∧ kv = .int .i64 k ∧ NxAt l P k fv ∧ ∃ n, wr = w.drewN n) (fun _ kv _ => x - (intOf kv).toNat)
  case atStart => exact ⟨0, Nat.zero_le _, rfl, .inl ⟨rfl, by show ∀ j, _; intro j hj; omega⟩, 0, rfl⟩
  case round =>
    obtain ⟨k, hk, rfl, hn, n, rfl⟩ := hrel
    by_cases t2 : k < x
    · have l1 : k < l.length := by have := HX.out; omega
      obtain ⟨xa, rfl, kx, cx⟩ := R.out k l1
      obtain ⟨v0, v1⟩ := HL.out k l1
      obtain ⟨P0, P1⟩ := HP.out k
      have cP := RP.out k l1
      have i3 : (k : Int) < (x : Int) := by omega
      by_cases z : gd l k = 0
      · have nz : ¬ 0 < gd l k := by omega
        have NK : Hid (∀ f, Fst l P k f → Fst l P (k + 1) f) := fun f h => h.skip nz
        have NK2 : Hid ((∀ j, j < k → ¬ 0 < gd l j) → ∀ j, j < k + 1 → ¬ 0 < gd l j) := fun h j hj => by
          rcases (by omega : j < k ∨ j = k) with t | t
          · exact h j t
          · subst t; exact nz
        rw [z] at cx
        clear z nz v0 v1 cP P0 P1
        go_wp2_with fail
        go_roundw
        case rel =>
          refine ⟨k + 1, by omega, by go_num, ?_, _, rfl⟩
          rcases hn with ⟨rfl, h⟩ | ⟨f, hf, rfl, h⟩
          · exact .inl ⟨rfl, NK2.out h.out⟩
          · exact .inr ⟨f, by omega, rfl, NK.out f h.out⟩
        case measure => simp [intOf]; omega
      · have pz : 0 < gd l k := by omega
        have zb : (gd l k == 0) = false := by simpa using z
        rcases hn with ⟨rfl, h⟩ | ⟨f, hf, rfl, h⟩
        · have NK := Lib.hid (Fst.new (P := P) h.out pz)
          clear h z pz cP P0 P1
          generalize gd l k = v at *
          go_wp2_with fail
          go_quiet (fail)
          go_wp2_with fail
          go_roundw
          case rel => exact ⟨k + 1, by omega, by go_num, .inr ⟨k, by omega, rfl, NK⟩, _, rfl⟩
          case measure => simp [intOf]; omega
        · have lf : f < l.length := by omega
          obtain ⟨xb, exb, kxb, cxf⟩ := R.out f lf
          obtain rfl : xa = xb := Option.some.inj exb
          obtain ⟨f0, f1⟩ := HL.out f lf
          obtain ⟨Q0, Q1⟩ := HP.out f
          have cQ := RP.out f lf
          have T1 : Hid ((2 * gd P k + 1) * gd l f < (2 * gd P f + 1) * gd l k → Fst l P (k + 1) k) := fun c => h.out.take pz c
          have T2 : Hid (¬ (2 * gd P k + 1) * gd l f < (2 * gd P f + 1) * gd l k → Fst l P (k + 1) f) := fun c => h.out.keep hf c
          clear h z pz exb kxb
          have i4 : (f : Int) < (x : Int) := by omega
          have i5 : (0 : Int) ≤ (f : Int) := by omega
          have i6 : (0 : Int) ≤ (k : Int) := by omega
          generalize gd l k = v at *
          generalize gd l f = u at *
          generalize gd P k = a at *
          generalize gd P f = b at *
          have e1 : IntKind.i64.wrap (2 * a) = 2 * a := IntWalk.i64_in _ (by omega)
          have e2 : IntKind.i64.wrap (2 * a + 1) = 2 * a + 1 := IntWalk.i64_in _ (by omega)
          have e3 : IntKind.i64.wrap (2 * b) = 2 * b := IntWalk.i64_in _ (by omega)
          have e4 : IntKind.i64.wrap (2 * b + 1) = 2 * b + 1 := IntWalk.i64_in _ (by omega)
          have CP := Lib.hid (fun W => compare_any (2 * a + 1) u (2 * b + 1) v (by omega) (by omega) f0 (by omega) (by omega) (by omega) v0 (by omega) W)
          have CZ : Hid (∀ Z, Z = cmpZ ((2 * a + 1) * u) ((2 * b + 1) * v) → (Z < 0 ∧ Fst l P (k + 1) k) ∨ (¬ Z < 0 ∧ Fst l P (k + 1) f)) := fun Z hZ => by
            subst hZ
            by_cases c : (2 * a + 1) * u < (2 * b + 1) * v
            · exact .inl ⟨by unfold cmpZ; rw [if_pos c]; omega, T1.out c⟩
            · exact .inr ⟨by unfold cmpZ; rw [if_neg c]; split <;> omega, T2.out c⟩
          clear T1 T2
          obtain ⟨Z, hZ⟩ : ∃ Z, Z = cmpZ ((2 * a + 1) * u) ((2 * b + 1) * v) := ⟨_, rfl⟩
          rw [← hZ] at CP
          rcases CZ.out Z hZ with ⟨cz, NK⟩ | ⟨cz, NK⟩
          · replace NK := Lib.hid NK
            clear CZ hZ
            go_wp2_with fail
            go_region_held3 (fun w' => w'.cell? ⟨g, k, none⟩ = some (.int .i64 a) ∧ w'.cell? ⟨g, f, none⟩ = some (.int .i64 b) ∧ w'.cell? (xa.add f) = some (.int .i64 u)) (first | exact ⟨cP, cQ, cxf⟩ | go_keep) (first | (go_at_call 70; (with_reducible refine (CP.out _).mono ?_); rintro e w1 ⟨rfl, rfl⟩))
            go_wp2_with fail
            go_roundw
            case rel => exact ⟨k + 1, by omega, by go_num, .inr ⟨k, by omega, rfl, NK⟩, _, rfl⟩
            case measure => simp [intOf]; omega
          · replace NK := Lib.hid NK
            clear CZ hZ
            go_wp2_with fail
            go_region_held3 (fun w' => w'.cell? ⟨g, k, none⟩ = some (.int .i64 a) ∧ w'.cell? ⟨g, f, none⟩ = some (.int .i64 b) ∧ w'.cell? (xa.add f) = some (.int .i64 u)) (first | exact ⟨cP, cQ, cxf⟩ | go_keep) (first | (go_at_call 70; (with_reducible refine (CP.out _).mono ?_); rintro e w1 ⟨rfl, rfl⟩))
            go_wp2_with fail
            go_roundw
            case rel => exact ⟨k + 1, by omega, by go_num, .inr ⟨f, by omega, rfl, NK⟩, _, rfl⟩
            case measure => simp [intOf]; omega
    · have kx : k = l.length := by have := HX.out; omega
      obtain ⟨j, hj, pj⟩ := EX.out
      rcases hn with ⟨rfl, h⟩ | ⟨f, hf, rfl, h⟩
      · exact absurd pj (h.out j (by omega))
      · have F := Lib.hid (show Nx l P f from ⟨by omega, h.out.1, fun i hi pi ne => h.out.2 i (by omega) pi ne⟩)
        clear h pj hj kx
        go_wp2_with fail
        go_ret
        exact ⟨⟨f, rfl, F.out⟩, _, rfl⟩
end Go.Proofs.YtlahdfmciaibdaaDoor

/- The reference's rows: whole, Of, addD, subD. -/
namespace Go.Proofs.YtlahdfmciaibdaaDoor
open Go.RowKit
set_option linter.unusedVariables false
set_option linter.unusedSimpArgs false

theorem RowR.setCell {w : World} {p : Option Addr} {l : List Int} (r : RowR w p l) {q : Addr} (h : ∀ a, p = some a → a.block ≠ q.block) (v : Value) : RowR (w.setCell q v) p l := fun i hi => by
  obtain ⟨g, e, k, c⟩ := r i hi
  refine ⟨g, e, by simpa [World.setCell] using k, ?_⟩
  rw [World.cell?_setCell_other _ _ _ _ (fun e2 => h _ e (by subst e2; rfl))]
  exact c

/-- The reference's whole number x. -/
structure BigR (n : Nat) (w : World) (p : Option Addr) (l : List Int) (x : Int) : Prop where
  can : Can l x.natAbs
  size : l.length ≤ n
  row : RowR w p l
theorem BigR.below {n : Nat} {w w' : World} {p : Option Addr} {l : List Int} {x : Int} (r : BigR n w p l x) (hb : Below w.heap.size w w') : BigR n w' p l x := ⟨r.can, r.size, r.row.below hb⟩
theorem BigR.more {n m : Nat} {w : World} {p : Option Addr} {l : List Int} {x : Int} (r : BigR n w p l x) (h : n ≤ m) : BigR m w p l x := ⟨r.can, by have := r.size; omega, r.row⟩
/-- A call's result is the whole number x. -/
def BigRes (n : Nat) (x : Int) (w : World) (e : Ending) (w' : World) : Prop :=
  ∃ p l c, e = .returned (.agg #[.bool (decide (x < 0)), .slice p l.length c]) ∧ BigR n w' p l x ∧ (∀ a, p = some a → w.heap.size ≤ a.block) ∧ Below w.heap.size w w'

theorem whole_sign {t : List Int} {v : Int} (s : Bool) (h : Can t v) : decide ((bif s then -v else v) < 0) = (s && decide (0 < t.length)) := by
  have k := h.nonneg
  have z := h.length_zero
  cases s
  · simp; omega
  · simp only [cond_true, Bool.true_and]
    rw [Bool.eq_iff_iff]
    simp only [decide_eq_true_eq]
    omega
theorem whole_abs {v : Int} (s : Bool) (h : 0 ≤ v) : ((bif s then -v else v).natAbs : Int) = v := by cases s <;> simp <;> omega

set_option maxHeartbeats 400000 in
theorem whole_any (s : Bool) (p : Option Addr) (c : Nat) (l : List Int) (w : World) (hd : Digs l) (r : RowR w p l) (ln : l.length ≤ 1000000) :
    Calls Tryd.prog 65 #[.bool s, .slice p l.length c] w (BigRes l.length (bif s then -dval l else dval l) w) := by
  have nn := dval_nonneg hd
  have AB := Lib.hid (whole_abs s nn)
  have R := Lib.hid r; clear r
  have D := Lib.hid hd; clear hd
  go_enter Tryd.func65, Tryd.ntmps65
  go_wp2_with fail
  refine (trim_any p c l _ D.out (R.out.below (by go_grown)) ln).mono ?_
  rintro e w1 ⟨t, q, cc, rfl, hcan, hlen, hr, hn, hf, hb1⟩
  obtain ⟨hc, hfz⟩ := bcell hb1
  have hz : w.heap.size < w1.heap.size := by have := hb1.size; simp at this; omega
  have WS := Lib.hid (whole_sign s hcan)
  have fin : ∀ b : Bool, b = (s && decide (0 < t.length)) → BigRes l.length (bif s then -dval l else dval l) w (.returned (.agg #[.bool b, .slice q t.length cc])) ((w1.setCell ⟨w.heap.size, 0, none⟩ (.bool b)).setCell ⟨w.heap.size, 1, none⟩ (.slice q t.length cc)) := by
    intro b hb
    have hq : ∀ a, q = some a → a.block ≠ w.heap.size := fun a ha => by have := hf a ha; simp at this; omega
    refine ⟨q, t, cc, by rw [hb, ← WS.out], ⟨by rw [AB.out]; exact hcan, hlen, (hr.setCell (q := ⟨w.heap.size, 0, none⟩) hq _).setCell (q := ⟨w.heap.size, 1, none⟩) hq _⟩, fun a ha => by have := hf a ha; simp at this; omega, ?_⟩
    exact (((((Below.refl _ _).alloc (Nat.le_refl _) _).trans (hb1.mono (by simp))).setCell (by simp) _).setCell (by simp) _)
  clear WS AB hcan hr hn hf hb1 hlen
  generalize t.length = n at *
  have key : (s = false) ∨ (s = true ∧ n = 0) ∨ (s = true ∧ 0 < n) := by cases s <;> simp <;> omega
  rcases key with rfl | ⟨rfl, rfl⟩ | ⟨rfl, h0⟩
  · have F := Lib.hid (fin false (by simp)); clear fin
    go_wp2_with fail
    exact bodyPost_ret (v := .agg #[.bool false, .slice q n cc]) (by simp [results, Tryd.results65, go_sem, hc, hz]) rfl F.out
  · have F := Lib.hid (fin false (by simp)); clear fin
    go_wp2_with fail
    exact bodyPost_ret (v := .agg #[.bool false, .slice q 0 cc]) (by simp [results, Tryd.results65, go_sem, hc, hz]) rfl F.out
  · have F := Lib.hid (fin true (by simp; omega)); clear fin
    go_wp2_with fail
    exact bodyPost_ret (v := .agg #[.bool true, .slice q n cc]) (by simp [results, Tryd.results65, go_sem, hc, hz]) rfl F.out
end Go.Proofs.YtlahdfmciaibdaaDoor
