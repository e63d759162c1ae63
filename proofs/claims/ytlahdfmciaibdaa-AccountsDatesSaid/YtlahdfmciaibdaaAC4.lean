/- Accounts: DateOf, the reference's side. -/
import Derived.Test.YtlahdfmciaibdaaAC3
namespace Go.Proofs.Ytlahdfmciaibdaa
open Go.RowKit
set_option linter.unusedVariables false
set_option linter.unusedSimpArgs false

set_option maxRecDepth 100000 in
set_option maxHeartbeats 2000000 in
theorem years_w (y : Int) (y0 : 0 ≤ y) (w : World) :
    Calls Try.prog 39 #[.int .i64 y] w fun e w' => e = .returned (.int .i64 (ylen y)) ∧ w = w' := by
  have MN := Lib.hid (fun m W => months_any y m y0 W)
  have Y12 := Lib.hid (mcnt_12 y)
  have ML := Lib.hid (fun m => (show 28 ≤ mlen y m ∧ mlen y m ≤ 31 from ⟨mlen_lo y m, mlen_hi y m⟩))
  go_enter Try.func39, Try.ntmps39
  go_wp2_with fail
  go_loopw [3, 4] (fun nv mv wr => ∃ (j : Nat) (s : Int), j ≤ 12 ∧ nv = .int .i64 s ∧ mv = .int .i64 ((j + 1 : Nat) : Int) ∧ 0 ≤ s ∧ s ≤ 31 * j ∧ Hid (s = mcnt y j) ∧ wr = w) (fun _ mv _ => 13 - (intOf mv).toNat)
  case atStart => exact ⟨0, 0, by omega, rfl, rfl, by omega, by omega, Lib.hid rfl, rfl⟩
  case round =>
    obtain ⟨j, s, hj, rfl, rfl, s0, s1, HS, rfl⟩ := hrel
    by_cases t : j < 12
    · have i1 : ((j + 1 : Nat) : Int) ≤ 12 := by omega
      have ib : decide (((j + 1 : Nat) : Int) ≤ 12) = true := decide_eq_true i1
      have SN := Lib.hid (show s + mlen y ((j + 1 : Nat) : Int) = mcnt y (j + 1) from by rw [HS.out]; rfl)
      obtain ⟨m1, m2⟩ := ML.out ((j + 1 : Nat) : Int)
      have M1 := Lib.hid (fun W => MN.out ((j + 1 : Nat) : Int) W)
      have e2 : IntKind.i64.wrap (((j + 1 : Nat) : Int) + 1) = ((j + 1 + 1 : Nat) : Int) := by rw [show ((j + 1 : Nat) : Int) + 1 = ((j + 1 + 1 : Nat) : Int) by omega]; exact IntWalk.i64_in _ (by omega)
      clear HS
      generalize mlen y ((j + 1 : Nat) : Int) = L at *
      have e1 : IntKind.i64.wrap (s + L) = s + L := IntWalk.i64_in _ (by omega)
      go_wp2_with fail
      refine (M1.out _).mono ?_
      rintro e w1 ⟨rfl, rfl⟩
      go_wp2_with fail
      go_roundw
      case rel => exact ⟨j + 1, s + L, by omega, by go_num, by first | rfl | go_num, by omega, by omega, SN, by first | exact rfl | trivial⟩
      case measure => simp [intOf]; omega
    · obtain rfl : j = 12 := by omega
      have SY := Lib.hid (HS.out.trans Y12.out)
      clear HS
      go_wp2_with fail
      go_ret
      exact ⟨ret_i SY.out, rfl⟩
/-- The result's box at p, the date's at q. -/
structure DW (w wr : World) (p q : Nat) (Y M : Int) : Prop where
  c0 : wr.cell? ⟨q, 0, none⟩ = some (.int .i64 Y)
  c1 : wr.cell? ⟨q, 1, none⟩ = some (.int .i64 M)
  c2 : wr.cell? ⟨q, 2, none⟩ = some (.int .i64 0)
  f0 : wr.frozen? ⟨q, 0, none⟩ = false
  f1 : wr.frozen? ⟨q, 1, none⟩ = false
  f2 : wr.frozen? ⟨q, 2, none⟩ = false
  r0 : wr.cell? ⟨p, 0, none⟩ = some (.int .i64 0)
  r1 : wr.cell? ⟨p, 1, none⟩ = some (.int .i64 0)
  r2 : wr.cell? ⟨p, 2, none⟩ = some (.int .i64 0)
  g0 : wr.frozen? ⟨p, 0, none⟩ = false
  g1 : wr.frozen? ⟨p, 1, none⟩ = false
  g2 : wr.frozen? ⟨p, 2, none⟩ = false
  B : Below w.heap.size w wr
  hp : w.heap.size ≤ p
  hq : p < q
theorem DW.setY {w wr : World} {p q : Nat} {Y M : Int} (h : DW w wr p q Y M) (x : Int) : DW w (wr.setCell ⟨q, 0, none⟩ (.int .i64 x)) p q x M := by
  have ne := h.hq
  have hp := h.hp
  have o : ∀ a : Addr, (⟨q, 0, none⟩ : Addr) ≠ a → (wr.setCell ⟨q, 0, none⟩ (.int .i64 x)).cell? a = wr.cell? a := fun a e => World.cell?_setCell_other _ _ _ _ e
  refine ⟨World.cell?_setCell_same _ _ _ h.c0, (o _ (by simp)).trans h.c1, (o _ (by simp)).trans h.c2, by simpa using h.f0, by simpa using h.f1, by simpa using h.f2, (o _ (by first | (simp; done) | (simp; omega))).trans h.r0, (o _ (by first | (simp; done) | (simp; omega))).trans h.r1, (o _ (by first | (simp; done) | (simp; omega))).trans h.r2, by simpa using h.g0, by simpa using h.g1, by simpa using h.g2, h.B.setCell (by dsimp only; omega) _, h.hp, h.hq⟩
theorem DW.setM {w wr : World} {p q : Nat} {Y M : Int} (h : DW w wr p q Y M) (x : Int) : DW w (wr.setCell ⟨q, 1, none⟩ (.int .i64 x)) p q Y x := by
  have ne := h.hq
  have hp := h.hp
  have o : ∀ a : Addr, (⟨q, 1, none⟩ : Addr) ≠ a → (wr.setCell ⟨q, 1, none⟩ (.int .i64 x)).cell? a = wr.cell? a := fun a e => World.cell?_setCell_other _ _ _ _ e
  refine ⟨(o _ (by simp)).trans h.c0, World.cell?_setCell_same _ _ _ h.c1, (o _ (by simp)).trans h.c2, by simpa using h.f0, by simpa using h.f1, by simpa using h.f2, (o _ (by first | (simp; done) | (simp; omega))).trans h.r0, (o _ (by first | (simp; done) | (simp; omega))).trans h.r1, (o _ (by first | (simp; done) | (simp; omega))).trans h.r2, by simpa using h.g0, by simpa using h.g1, by simpa using h.g2, h.B.setCell (by dsimp only; omega) _, h.hp, h.hq⟩

set_option maxRecDepth 100000 in
set_option maxHeartbeats 4000000 in
theorem rDateOf_any (day : Int) (w : World) :
    Calls Try.prog 14 #[.int .i64 day] w fun e w' => ∃ Y M D E, e = .returned (.tuple #[.agg #[.int .i64 Y, .int .i64 M, .int .i64 D], .int .i64 E]) ∧ DatQ day Y M D E ∧ Below w.heap.size w w' := by
  by_cases hd : 0 ≤ day ∧ day ≤ 1000000
  · have C1 := Lib.hid (fun W => rDay1 day true (by simp [dayB1]; omega) W)
    obtain ⟨d0, d1⟩ := hd
    have YR := Lib.hid (fun (k : Nat) W => years_w (2000 + (k : Int)) (by omega) W)
    have YS := Lib.hid (fun j : Nat => (show ycnt (j + 1) = ycnt j + ylen (2000 + (j : Int)) from rfl))
    have YB := Lib.hid (fun k : Nat => (show 365 * (k : Int) ≤ ycnt k ∧ ycnt k ≤ 366 * (k : Int) from ⟨ycnt_lo k, ycnt_hi k⟩))
    have YL := Lib.hid (fun j : Nat => (show 365 ≤ ylen (2000 + (j : Int)) ∧ ylen (2000 + (j : Int)) ≤ 366 from ⟨ylen_lo (2000 + (j : Int)), ylen_hi (2000 + (j : Int))⟩))
    have MR := Lib.hid (fun y m => (show 28 ≤ mlen y m ∧ mlen y m ≤ 31 from ⟨mlen_lo y m, mlen_hi y m⟩))
    have ML := Lib.hid (fun (k : Nat) m W => months_any (2000 + (k : Int)) m (by omega) W)
    go_enter Try.func14, Try.ntmps14
    go_wp2_with fail
    refine (C1.out _).mono ?_
    rintro e w1 ⟨rfl, rfl⟩
    clear C1
    go_wp2_with fail
    go_loopw [0] (fun dv wr => ∃ (k : Nat) (u : Int), dv = .int .i64 u ∧ 0 ≤ u ∧ u ≤ 1000000 ∧ k ≤ 2740 ∧ Hid (u = day - ycnt k) ∧ Hid (DW w wr w.heap.size (w.heap.size + 1) (2000 + (k : Int)) 1)) (fun dv _ => (intOf dv).toNat)
    case atStart =>
      refine ⟨0, day, rfl, d0, d1, by omega, Lib.hid (by simp [ycnt]), Lib.hid ?_⟩
      constructor
      case B => exact by repeat' (first | exact Below.refl _ _ | refine below_drewN ?_ _ | refine Below.setCell ?_ ?_ _ | refine Below.alloc ?_ ?_ _ | (simp; done) | (simp; omega) | omega)
      all_goals (first | omega | simp [go_sem])
    case round =>
      obtain ⟨k, u, rfl, ua, ub, hk, HU, DM⟩ := hrel
      obtain ⟨l1, l2⟩ := YL.out k
      have Y1 := Lib.hid (fun W => YR.out k W)
      have cY := DM.out.c0
      have cM := DM.out.c1
      have fY := DM.out.f0
      have yk := (YB.out (k + 1)).1
      have ys := YS.out k
      by_cases t : ylen (2000 + (k : Int)) ≤ u
      · have tb : decide (ylen (2000 + (k : Int)) ≤ u) = true := decide_eq_true t
        have NU := Lib.hid (show u - ylen (2000 + (k : Int)) = day - ycnt (k + 1) from by rw [ys, HU.out]; omega)
        have k2 : k + 1 ≤ 2740 := by have := HU.out; omega
        have D2 := Lib.hid (DM.out.setY (2000 + ((k + 1 : Nat) : Int)))
        have e1 : IntKind.i64.wrap (2000 + (k : Int) + 1) = 2000 + ((k + 1 : Nat) : Int) := by rw [show 2000 + (k : Int) + 1 = 2000 + ((k + 1 : Nat) : Int) by omega]; exact IntWalk.i64_in _ (by omega)
        clear yk ys HU DM
        generalize ylen (2000 + (k : Int)) = L at *
        have e2 : IntKind.i64.wrap (u - L) = u - L := IntWalk.i64_in _ (by omega)
        go_wp2_with fail
        refine (Y1.out _).mono ?_
        rintro e w2 ⟨rfl, rfl⟩
        go_wp2_with fail
        refine (Y1.out _).mono ?_
        rintro e w2 ⟨rfl, rfl⟩
        go_wp2_with fail
        go_roundw
        case rel => exact ⟨k + 1, u - L, by first | rfl | go_num, by omega, by omega, k2, NU, D2⟩
        case measure => simp [intOf]; omega
      · have tb : decide (ylen (2000 + (k : Int)) ≤ u) = false := decide_eq_false t
        have MK := Lib.hid (show MoK day k 0 u from by
          have := HU.out
          rw [this]
          exact MoK.start (by omega) (by rw [ys]; omega))
        clear yk ys HU YS YB YL
        generalize ylen (2000 + (k : Int)) = L at *
        go_wp2_with fail
        refine (Y1.out _).mono ?_
        rintro e w2 ⟨rfl, rfl⟩
        clear Y1 YR cY cM fY
        go_wp2_with fail
        go_loopw [0] (fun rv wz => ∃ (m : Nat) (u : Int), rv = .int .i64 u ∧ m ≤ 11 ∧ 0 ≤ u ∧ u ≤ 1000000 ∧ Hid (MoK day k m u) ∧ Hid (DW w wz w.heap.size (w.heap.size + 1) (2000 + (k : Int)) ((m + 1 : Nat) : Int))) (fun rv _ => (intOf rv).toNat)
        case atStart => exact ⟨0, u, rfl, by omega, ua, ub, MK, DM⟩
        case round =>
          clear MK DM ua ub t tb l1 l2
          obtain ⟨m, u, rfl, hm, ua, ub, MK, DM⟩ := hrel
          have M1 := Lib.hid (fun W => ML.out k ((m + 1 : Nat) : Int) W)
          obtain ⟨m1, m2⟩ := MR.out (2000 + (k : Int)) ((m + 1 : Nat) : Int)
          have MN := Lib.hid (fun g => MK.out.next g)
          have MD := Lib.hid (fun g => MK.out.done g)
          have e3 : IntKind.i64.wrap (((m + 1 : Nat) : Int) + 1) = ((m + 1 + 1 : Nat) : Int) := by rw [show ((m + 1 : Nat) : Int) + 1 = ((m + 1 + 1 : Nat) : Int) by omega]; exact IntWalk.i64_in _ (by omega)
          have cY := DM.out.c0
          have cM := DM.out.c1
          have fM := DM.out.f1
          clear MK
          generalize mlen (2000 + (k : Int)) ((m + 1 : Nat) : Int) = K at *
          by_cases t : K ≤ u
          · have tb : decide (K ≤ u) = true := decide_eq_true t
            have NK := Lib.hid (MN.out t)
            have e4 : IntKind.i64.wrap (u - K) = u - K := IntWalk.i64_in _ (by omega)
            have m3 := NK.out.hm
            have u2 := NK.out.r0
            have D2 := Lib.hid (DM.out.setM ((m + 1 + 1 : Nat) : Int))
            clear MN MD DM
            go_wp2_with fail
            refine (M1.out _).mono ?_
            rintro e w2 ⟨rfl, rfl⟩
            go_wp2_with fail
            refine (M1.out _).mono ?_
            rintro e w2 ⟨rfl, rfl⟩
            go_wp2_with fail
            go_roundw
            case rel => exact ⟨m + 1, u - K, by first | rfl | go_num, m3, u2, by omega, NK, D2⟩
            case measure => simp [intOf]; omega
          · have tb : decide (K ≤ u) = false := decide_eq_false t
            have ID := Lib.hid (MD.out (by omega))
            have e4 : IntKind.i64.wrap (u + 1) = u + 1 := IntWalk.i64_in _ (by omega)
            have cD := DM.out.c2
            have fD := DM.out.f2
            have r0 := DM.out.r0
            have r1 := DM.out.r1
            have r2 := DM.out.r2
            have g0 := DM.out.g0
            have g1 := DM.out.g1
            have g2 := DM.out.g2
            have BB := Lib.hid DM.out.B
            clear MN MD DM
            go_wp2_with fail
            refine (M1.out _).mono ?_
            rintro e w2 ⟨rfl, rfl⟩
            clear M1
            go_wp2_with fail
            refine bodyPost_ret (v := .tuple #[.agg #[.int .i64 (2000 + (k : Int)), .int .i64 ((m + 1 : Nat) : Int), .int .i64 (u + 1)], .int .i64 0]) (by simp [results, Try.results14, go_sem, cY, cM, cD, r0, r1, r2]) rfl ⟨_, _, _, _, rfl, .inr ⟨d0, d1, rfl, k, m, ID.out, rfl, by push_cast; rfl⟩, ?_⟩
            exact by repeat' (first | exact BB.out | exact Below.refl _ _ | refine below_drewN ?_ _ | refine Below.setCell ?_ ?_ _ | refine Below.alloc ?_ ?_ _ | (simp; done) | (simp; omega) | omega)
  · have C1 := Lib.hid (fun W => rDay1 day false (by simp [dayB1]; omega) W)
    have HD := Lib.hid hd
    clear hd
    go_enter Try.func14, Try.ntmps14
    go_wp2_with fail
    refine (C1.out _).mono ?_
    rintro e w1 ⟨rfl, rfl⟩
    clear C1
    go_wp2_with fail
    refine bodyPost_ret (v := .tuple #[.agg #[.int .i64 0, .int .i64 0, .int .i64 0], .int .i64 2]) (by simp [results, Try.results14, go_sem]) rfl ⟨_, _, _, _, rfl, .inl ⟨HD.out, rfl, rfl, rfl, rfl⟩, ?_⟩
    exact by repeat' (first | exact Below.refl _ _ | refine below_drewN ?_ _ | refine Below.setCell ?_ ?_ _ | refine Below.alloc ?_ ?_ _ | (simp; done) | (simp; omega) | omega)
end Go.Proofs.Ytlahdfmciaibdaa
