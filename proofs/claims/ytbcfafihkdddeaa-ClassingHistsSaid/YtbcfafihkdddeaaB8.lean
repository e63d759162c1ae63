/- math/bits.Div64 in general. -/
import Derived.Test.YtbcfafihkdddeaaB2
import Derived.Test.YtbcfafihkdddeaaM4
import Derived.Deep.CutBlock
namespace Go.Proofs.Ytbcfafihkdddeaa
open Go.RowKit
set_option linter.unusedVariables false
set_option linter.unusedSimpArgs false
set_option maxHeartbeats 1000000 in

theorem div64_gen (hi lo y : Int) (hh : 1 ≤ hi) (h' : hi < y) (h0 : 0 ≤ lo) (h1 : lo ≤ 18446744073709551615) (hy' : y ≤ 18446744073709551615) (w : World) :
    Calls Try.prog 150 #[.int .u64 hi, .int .u64 lo, .int .u64 y] w fun e w' => e = .returned (.tuple #[.int .u64 ((hi * 18446744073709551616 + lo) / y), .int .u64 ((hi * 18446744073709551616 + lo) % y)]) ∧ ∃ n, w' = w.drewN n := by
  have e0 : (y == 0) = false := by simp; omega
  have e1 : (hi == 0) = false := by simp; omega
  have L := (Try.bits_LeadingZeros64 y · (by omega) hy')
  obtain ⟨P, u, c, nm⟩ := nrm_any hi lo y hh h' h0 h1 hy'
  generalize (64 - (Lib.bitLen y.toNat : Int)) = s at L nm
  obtain ⟨s0, s1, hP, P1, eY, Y1, Y2, eu, ec, u0, u1, c0, c1, e⟩ := nm
  generalize hY : y * P = Y at *
  have D1 : Dig Y (Y / 4294967296) (Y % 4294967296) u (c / 4294967296) := ⟨by omega, by omega, by omega, by omega, by omega, u0, u1, by omega, by omega⟩
  have a1 : bits .and .u64 Y 4294967295 = Y % 4294967296 := and_low Y (by omega) Y2
  have a2 : bits .and .u64 c 4294967295 = c % 4294967296 := and_low c (by omega) c1
  have D0 : ∀ v : Int, 0 ≤ v → v < Y → Dig Y (Y / 4294967296) (Y % 4294967296) v (c % 4294967296) := fun v v0 v1 => ⟨by omega, by omega, by omega, by omega, by omega, v0, v1, by omega, by omega⟩
  obtain ⟨g1, g2, g3, g4, g5, g6⟩ := D1.guess
  have Hc : Hid (c = c / 4294967296 * 4294967296 + c % 4294967296) := Lib.hid (by omega)
  generalize hd1 : c / 4294967296 = d1 at *
  generalize hd0 : c % 4294967296 = d0 at *
  have b1 : 2147483648 ≤ Y / 4294967296 := D1.a1
  have b2 : Y / 4294967296 < 4294967296 := D1.a2
  have b3 : 0 ≤ Y % 4294967296 := D1.b1
  have b4 : Y % 4294967296 < 4294967296 := D1.b2
  generalize hy1 : Y / 4294967296 = y1 at *
  generalize hy0 : Y % 4294967296 = y0 at *
  have n1 : (y1 == 0) = false := by simp; omega
  have Hg := Lib.hid g3
  generalize hq : u / y1 = q at *
  generalize hr : u % y1 = r at *
  have qy1 : 0 ≤ q * y1 := Int.mul_nonneg g6 (by omega)
  have wq1 : IntKind.u64.wrap (q * y1) = q * y1 := by rw [IntKind.wrap_u64]; omega
  have w2 : IntKind.u64.wrap (u - q * y1) = r := by rw [IntKind.wrap_u64]; omega
  have w3 : IntKind.u64.wrap q = q := by rw [IntKind.wrap_u64]; omega
  have HP := Lib.hid hP
  clear hP
  have w4 : IntKind.u64.wrap (u.tdiv y1) = q := by rw [Int.tdiv_eq_ediv_of_nonneg u0, hq, w3]
  have w5 : d1 = d1 := rfl
  clear w3 w5
  go_enter Try.func150, Try.ntmps150
  go_upto_block 0 with (go_at_call 168; refine (L _).mono ?_; rintro e w1 ⟨rfl, rfl⟩)
  go_cut [15, 16] from 67 to 85 (fun a b wx => a = .int .u64 ((u * 4294967296 + d1) / Y) ∧ (∃ z, b = .int .u64 z) ∧ wx = w1)
  case first =>
    go_wp2_with fail
    go_loop [15, 16] (fun a b => ∃ q r : Int, Hid (q * y1 + r = u) ∧ 0 ≤ q ∧ q ≤ 4294967297 ∧ (u * 4294967296 + d1) / Y ≤ q ∧ 0 ≤ r ∧ r < 4294967296 ∧ a = .int .u64 q ∧ b = .int .u64 r) (fun a _ => (intOf a).toNat)
    case atStart => exact ⟨q, r, Hg, g6, g2, g1, g4, g5, rfl, rfl⟩
    case round =>
      obtain ⟨q, r, hqr, k1, k2, k3, k4, k5, rfl, rfl⟩ := hrel
      have z0 : 0 ≤ q * y0 := Int.mul_nonneg k1 b3
      have z2 : q * y0 ≤ 18446744073709551615 := by
        have : q * y0 ≤ 4294967297 * 4294967295 := Int.mul_le_mul k2 (by omega) b3 (by omega)
        omega
      have z1 : IntKind.u64.wrap (q * y0) = q * y0 := by rw [IntKind.wrap_u64]; omega
      have d1a : 0 ≤ d1 := D1.c1
      have d1b : d1 < 4294967296 := D1.c2
      have hov := fun t => D1.over hqr.out t
      have hdn := fun t => D1.done hqr.out k3 t
      have hdn' := fun h t => D1.done (Dig.step hqr.out) h t
      generalize hz : q * y0 = z at *
      have Hz := Lib.hid hz
      have z3 : IntKind.u64.wrap (q * y0) = z := by rw [hz]; exact z1
      clear hz z1
      by_cases t : 4294967296 ≤ q ∨ 4294967296 * r + d1 < z
      · have o := hov t
        have q0 : 1 ≤ q := by have := D1.quo_nonneg; omega
        have T := Lib.hid t
        clear hov hdn
        have hst := Lib.hid (Dig.step hqr.out)
        have D := Lib.hid hdn'
        clear hdn'
        by_cases t2 : 4294967296 ≤ r + y1
        · have D' := Lib.hid (D.out (by omega) (Or.inr ⟨t2, by omega, by omega⟩))
          rcases t with t | t
          · go_wp2_with fail
            go_meet
            exact ⟨by rw [D'.out], ⟨_, rfl⟩, rfl⟩
          · by_cases t3 : 4294967296 ≤ q
            · go_wp2_with fail
              go_meet
              exact ⟨by rw [D'.out], ⟨_, rfl⟩, rfl⟩
            · go_wp2_with fail
              go_meet
              exact ⟨by rw [D'.out], ⟨_, rfl⟩, rfl⟩
        · rcases t with t | t
          · go_wp2_with fail
            go_round
            case rel => exact ⟨q - 1, r + y1, hst, by omega, by omega, by omega, by omega, by omega, rfl, rfl⟩
            case measure => simp [intOf]; omega
          · by_cases t3 : 4294967296 ≤ q
            · go_wp2_with fail
              go_round
              case rel => exact ⟨q - 1, r + y1, hst, by omega, by omega, by omega, by omega, by omega, rfl, rfl⟩
              case measure => simp [intOf]; omega
            · go_wp2_with fail
              go_round
              case rel => exact ⟨q - 1, r + y1, hst, by omega, by omega, by omega, by omega, by omega, rfl, rfl⟩
              case measure => simp [intOf]; omega
      · have D := Lib.hid (hdn (Or.inl (by omega)))
        clear hov hdn hdn'
        have t1 : q < 4294967296 := by omega
        have t3 : z ≤ 4294967296 * r + d1 := by omega
        clear t
        go_wp2_with fail
        go_meet
        exact ⟨by rw [D.out], ⟨_, rfl⟩, rfl⟩
  case rest =>
    obtain ⟨rfl, ⟨z, rfl⟩, rfl⟩ := hcut
    have Q0 := D1.quo_nonneg
    have Q1 := D1.quo_lt
    have v0 : 0 ≤ (u * 4294967296 + d1) % Y := Int.emod_nonneg _ (by omega)
    have v1 : (u * 4294967296 + d1) % Y < Y := Int.emod_lt_of_pos _ (by omega)
    have hQ : (u * 4294967296 + d1) / Y * Y + (u * 4294967296 + d1) % Y = u * 4294967296 + d1 := by rw [Int.mul_comm]; exact Int.mul_ediv_add_emod _ _
    generalize (u * 4294967296 + d1) % Y = v at *
    generalize (u * 4294967296 + d1) / Y = Q at *
    have HQ := Lib.hid hQ
    clear hQ w4 w2 wq1 g1 g2 g3 g4 g5 g6 qy1 Hg hq hr
    have ev : IntKind.u64.wrap (IntKind.u64.wrap (IntKind.u64.wrap (u * 4294967296) + d1) - IntKind.u64.wrap (Q * Y)) = v := by
      have := HQ.out
      generalize Q * Y = x at *
      simp only [IntKind.wrap_u64]
      omega
    have DV := D0 v v0 v1
    clear D0
    obtain ⟨g1, g2, g3, g4, g5, g6⟩ := DV.guess
    generalize hq : v / y1 = q at *
    generalize hr : v % y1 = r at *
    have Hg := Lib.hid g3
    have qy1 : 0 ≤ q * y1 := Int.mul_nonneg g6 (by omega)
    have wq1 : IntKind.u64.wrap (q * y1) = q * y1 := by rw [IntKind.wrap_u64]; omega
    have w2 : IntKind.u64.wrap (v - q * y1) = r := by rw [IntKind.wrap_u64]; omega
    have w4 : IntKind.u64.wrap (v.tdiv y1) = q := by rw [Int.tdiv_eq_ediv_of_nonneg v0, hq, IntKind.wrap_u64]; omega
    go_upto_block 2 with fail
    go_cut [16, 18] from 102 to 120 (fun b a wx => (∃ z, b = .int .u64 z) ∧ a = .int .u64 ((v * 4294967296 + d0) / Y) ∧ wx = wc)
    case first =>
      go_wp2_with fail
      go_loop [16, 18] (fun b a => ∃ q r : Int, Hid (q * y1 + r = v) ∧ 0 ≤ q ∧ q ≤ 4294967297 ∧ (v * 4294967296 + d0) / Y ≤ q ∧ 0 ≤ r ∧ r < 4294967296 ∧ a = .int .u64 q ∧ b = .int .u64 r) (fun _ a => (intOf a).toNat)
      case atStart => exact ⟨q, r, Hg, g6, g2, g1, g4, g5, rfl, rfl⟩
      case round =>
        obtain ⟨q, r, hqr, k1, k2, k3, k4, k5, rfl, rfl⟩ := hrel
        have z0 : 0 ≤ q * y0 := Int.mul_nonneg k1 b3
        have z2 : q * y0 ≤ 18446744073709551615 := by
          have : q * y0 ≤ 4294967297 * 4294967295 := Int.mul_le_mul k2 (by omega) b3 (by omega)
          omega
        have z1 : IntKind.u64.wrap (q * y0) = q * y0 := by rw [IntKind.wrap_u64]; omega
        have d0a : 0 ≤ d0 := DV.c1
        have d0b : d0 < 4294967296 := DV.c2
        have hov := fun t => DV.over hqr.out t
        have hdn := fun t => DV.done hqr.out k3 t
        have hdn' := fun h t => DV.done (Dig.step hqr.out) h t
        generalize hz : q * y0 = z at *
        have Hz := Lib.hid hz
        have z3 : IntKind.u64.wrap (q * y0) = z := by rw [hz]; exact z1
        clear hz z1
        by_cases t : 4294967296 ≤ q ∨ 4294967296 * r + d0 < z
        · have o := hov t
          have q0 : 1 ≤ q := by have := DV.quo_nonneg; omega
          have T := Lib.hid t
          clear hov hdn
          have hst := Lib.hid (Dig.step hqr.out)
          have D := Lib.hid hdn'
          clear hdn'
          by_cases t2 : 4294967296 ≤ r + y1
          · have D' := Lib.hid (D.out (by omega) (Or.inr ⟨t2, by omega, by omega⟩))
            rcases t with t | t
            · go_wp2_with fail
              go_meet
              exact ⟨⟨_, rfl⟩, by rw [D'.out], rfl⟩
            · by_cases t3 : 4294967296 ≤ q
              · go_wp2_with fail
                go_meet
                exact ⟨⟨_, rfl⟩, by rw [D'.out], rfl⟩
              · go_wp2_with fail
                go_meet
                exact ⟨⟨_, rfl⟩, by rw [D'.out], rfl⟩
          · rcases t with t | t
            · go_wp2_with fail
              go_round
              case rel => exact ⟨q - 1, r + y1, hst, by omega, by omega, by omega, by omega, by omega, rfl, rfl⟩
              case measure => simp [intOf]; omega
            · by_cases t3 : 4294967296 ≤ q
              · go_wp2_with fail
                go_round
                case rel => exact ⟨q - 1, r + y1, hst, by omega, by omega, by omega, by omega, by omega, rfl, rfl⟩
                case measure => simp [intOf]; omega
              · go_wp2_with fail
                go_round
                case rel => exact ⟨q - 1, r + y1, hst, by omega, by omega, by omega, by omega, by omega, rfl, rfl⟩
                case measure => simp [intOf]; omega
        · have D := Lib.hid (hdn (Or.inl (by omega)))
          clear hov hdn hdn'
          have t1 : q < 4294967296 := by omega
          have t3 : z ≤ 4294967296 * r + d0 := by omega
          clear t
          go_wp2_with fail
          go_meet
          exact ⟨⟨_, rfl⟩, by rw [D.out], rfl⟩
    case rest =>
      obtain ⟨⟨z, rfl⟩, rfl, rfl⟩ := hcut
      have R0 := DV.quo_nonneg
      have R1 := DV.quo_lt
      have p0 : 0 ≤ (v * 4294967296 + d0) % Y := Int.emod_nonneg _ (by omega)
      have p1 : (v * 4294967296 + d0) % Y < Y := Int.emod_lt_of_pos _ (by omega)
      have hR : (v * 4294967296 + d0) / Y * Y + (v * 4294967296 + d0) % Y = v * 4294967296 + d0 := by rw [Int.mul_comm]; exact Int.mul_ediv_add_emod _ _
      generalize (v * 4294967296 + d0) % Y = ρ at *
      generalize (v * 4294967296 + d0) / Y = R at *
      have HR := Lib.hid hR
      clear hR w4 w2 wq1 g1 g2 g3 g4 g5 g6 qy1 Hg hq hr ev
      have ev : IntKind.u64.wrap (IntKind.u64.wrap (IntKind.u64.wrap (v * 4294967296) + d0) - IntKind.u64.wrap (R * Y)) = ρ := by
        have := HR.out
        generalize R * Y = x at *
        simp only [IntKind.wrap_u64]
        omega
      have E : Hid (Q * 4294967296 + R = (hi * 18446744073709551616 + lo) / y ∧ ρ / P = (hi * 18446744073709551616 + lo) % y) := by
        have a := HQ.out
        have b := HR.out
        rw [← hY] at a b p1
        exact digits _ y P u c d1 d0 v Q R ρ (by omega) P1 e Hc.out (by omega) (by omega) p0 p1
      clear e hY D1 DV
      go_wp2_with fail
      go_ret2
      have E2 : ρ / 2 ^ s.toNat = (hi * 18446744073709551616 + lo) % y := by rw [HP.out]; exact E.out.2
      exact ⟨ret_ii E.out.1 E2, 0, rfl⟩
theorem div64_all (hi lo y : Int) (hh : 0 ≤ hi) (h' : hi < y) (h0 : 0 ≤ lo) (h1 : lo ≤ 18446744073709551615) (hy' : y ≤ 18446744073709551615) (w : World) :
    Calls Try.prog 150 #[.int .u64 hi, .int .u64 lo, .int .u64 y] w fun e w' => e = .returned (.tuple #[.int .u64 ((hi * 18446744073709551616 + lo) / y), .int .u64 ((hi * 18446744073709551616 + lo) % y)]) ∧ ∃ n, w' = w.drewN n := by
  by_cases h : hi = 0
  · exact div64_any hi lo y h h' h0 h1 hy' w
  · exact div64_gen hi lo y (by omega) h' h0 h1 hy' w
end Go.Proofs.Ytbcfafihkdddeaa
