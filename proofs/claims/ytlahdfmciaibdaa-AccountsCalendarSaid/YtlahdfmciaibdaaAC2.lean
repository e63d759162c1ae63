/- Accounts: DayOf, the reference's side. -/
import Derived.Test.YtlahdfmciaibdaaAC1
namespace Go.Proofs.Ytlahdfmciaibdaa
open Go.RowKit
set_option linter.unusedVariables false
set_option linter.unusedSimpArgs false

theorem cellB {w w' : World} {p i : Nat} {x : Option Value} (st : Below w.heap.size w w') (hp : p < w.heap.size) (h : w.cell? ⟨p, i, none⟩ = x) : w'.cell? ⟨p, i, none⟩ = x := (st.cell (p := ⟨p, i, none⟩) hp).trans h
def dayB1 (n : Int) : Bool := decide (0 ≤ n) && decide (n ≤ 1000000)
theorem rDay0 (n : Int) (w : World) :
    Calls Try.prog 40 #[.int .i64 n] w fun e w' => e = .returned (.bool (dayB1 n)) ∧ w = w' := by
  go_enter Try.func40, Try.ntmps40
  go_wp2
  all_goals go_ret
  all_goals exact ⟨ret_b (by unfold dayB1; rw [Bool.eq_iff_iff]; simp; try omega), rfl⟩
theorem rDay1 (n : Int) (r : Bool) (h : dayB1 n = r) (w : World) :
    Calls Try.prog 40 #[.int .i64 n] w fun e w' => e = .returned (.bool r) ∧ w = w' := by rw [← h]; exact rDay0 n w

set_option maxRecDepth 100000 in
set_option maxHeartbeats 4000000 in
theorem rDayOf_any (y m d : Int) (w : World) :
    Calls Try.prog 12 #[.agg #[.int .i64 y, .int .i64 m, .int .i64 d]] w fun e w' => ∃ n E, e = .returned (.tuple #[.int .i64 n, .int .i64 E]) ∧ DofQ y m d n E ∧ Below w.heap.size w w' := by
  have FE := Lib.hid (show ¬ DateOk y m d → DofQ y m d 0 2 from fun h => .inl ⟨h, rfl, rfl⟩)
  go_enter Try.func12, Try.ntmps12
  go_upto_region 1 with fail
  have HB := Lib.hid ((Below.refl w.heap.size w).alloc (Nat.le_refl _) (Obj.cells #[Value.int IntKind.i64 y, Value.int IntKind.i64 m, Value.int IntKind.i64 d] 23))
  obtain ⟨cY, cM, cD⟩ := box3 w (.int .i64 y) (.int .i64 m) (.int .i64 d) 23
  have pz : w.heap.size < (w.alloc (Obj.cells #[Value.int IntKind.i64 y, Value.int IntKind.i64 m, Value.int IntKind.i64 d] 23)).heap.size := by simp
  generalize w.alloc (Obj.cells #[Value.int IntKind.i64 y, Value.int IntKind.i64 m, Value.int IntKind.i64 d] 23) = w1 at *
  obtain ⟨p, hp⟩ : ∃ p, w.heap.size = p := ⟨_, rfl⟩
  rw [hp] at cY cM cD pz ⊢
  clear hp
  by_cases t1 : y < 2000
  · have NK := Lib.hid (FE.out (fun g => by have := g.1; have := g.2.1; have := g.2.2.1; have := g.2.2.2.1; have := g.2.2.2.2.1; omega))
    have tb : decide (y < 2000) = true := decide_eq_true t1
    clear FE t1
    go_quiet (fail)
    go_wp2_with fail
    go_ret2
    exact ⟨_, _, rfl, NK.out, (by first | exact HB.out | exact HB.out.drew | exact below_drewN HB.out _)⟩
  have bt1 : decide (y < 2000) = false := decide_eq_false t1
  by_cases t2 : 5000 < y
  · have NK := Lib.hid (FE.out (fun g => by have := g.1; have := g.2.1; have := g.2.2.1; have := g.2.2.2.1; have := g.2.2.2.2.1; omega))
    have tb : decide (5000 < y) = true := decide_eq_true t2
    clear FE t2
    go_quiet (fail)
    go_wp2_with fail
    go_ret2
    exact ⟨_, _, rfl, NK.out, (by first | exact HB.out | exact HB.out.drew | exact below_drewN HB.out _)⟩
  have bt2 : decide (5000 < y) = false := decide_eq_false t2
  by_cases t3 : m < 1
  · have NK := Lib.hid (FE.out (fun g => by have := g.1; have := g.2.1; have := g.2.2.1; have := g.2.2.2.1; have := g.2.2.2.2.1; omega))
    have tb : decide (m < 1) = true := decide_eq_true t3
    clear FE t3
    go_quiet (fail)
    go_wp2_with fail
    go_ret2
    exact ⟨_, _, rfl, NK.out, (by first | exact HB.out | exact HB.out.drew | exact below_drewN HB.out _)⟩
  have bt3 : decide (m < 1) = false := decide_eq_false t3
  by_cases t4 : 12 < m
  · have NK := Lib.hid (FE.out (fun g => by have := g.1; have := g.2.1; have := g.2.2.1; have := g.2.2.2.1; have := g.2.2.2.2.1; omega))
    have tb : decide (12 < m) = true := decide_eq_true t4
    clear FE t4
    go_quiet (fail)
    go_wp2_with fail
    go_ret2
    exact ⟨_, _, rfl, NK.out, (by first | exact HB.out | exact HB.out.drew | exact below_drewN HB.out _)⟩
  have bt4 : decide (12 < m) = false := decide_eq_false t4
  by_cases t5 : d < 1
  · have NK := Lib.hid (FE.out (fun g => by have := g.1; have := g.2.1; have := g.2.2.1; have := g.2.2.2.1; have := g.2.2.2.2.1; omega))
    have tb : decide (d < 1) = true := decide_eq_true t5
    clear FE t5
    go_quiet (fail)
    go_wp2_with fail
    go_ret2
    exact ⟨_, _, rfl, NK.out, (by first | exact HB.out | exact HB.out.drew | exact below_drewN HB.out _)⟩
  have bt5 : decide (d < 1) = false := decide_eq_false t5
  have MR := Lib.hid (show 28 ≤ mlen y m ∧ mlen y m ≤ 31 from ⟨mlen_lo y m, mlen_hi y m⟩)
  have ML := Lib.hid (fun W => months_any y m (by omega) W)
  have MA := Lib.hid (fun j W => months_any y j (by omega) W)
  have OK := Lib.hid (show d ≤ mlen y m → DateOk y m d from fun h => ⟨by omega, by omega, by omega, by omega, by omega, h⟩)
  have NO := Lib.hid (show mlen y m < d → ¬ DateOk y m d from fun h g => by have := g.2.2.2.2.2; omega)
  generalize mlen y m = L at *
  by_cases t6 : L < d
  · have NK := Lib.hid (FE.out (NO.out t6))
    have tb : decide (L < d) = true := decide_eq_true t6
    clear FE NO OK t6 MA
    go_region_held3 (fun w' => w'.cell? ⟨p, 0, none⟩ = some (.int .i64 y) ∧ w'.cell? ⟨p, 1, none⟩ = some (.int .i64 m) ∧ w'.cell? ⟨p, 2, none⟩ = some (.int .i64 d))
    (with_reducible first | exact ⟨cY, cM, cD⟩ | exact ⟨cellDr1 cY, cellDr1 cM, cellDr1 cD⟩ | exact ⟨cellDr1 (cellDr1 cY), cellDr1 (cellDr1 cM), cellDr1 (cellDr1 cD)⟩)
      (first | (go_at_call 38; (with_reducible refine (ML.out _).mono ?_); rintro e wa ⟨rfl, rfl⟩))
    go_wp2_with fail
    go_ret2
    exact ⟨_, _, rfl, NK.out, (by first | exact HB.out | exact HB.out.drew | exact below_drewN HB.out _)⟩
  have tb : decide (L < d) = false := decide_eq_false t6
  have l1 : L ≤ 31 := MR.out.2
  have DK := Lib.hid (OK.out (by omega))
  clear FE NO OK
  go_region_held3 (fun w' => w'.cell? ⟨p, 0, none⟩ = some (.int .i64 y) ∧ w'.cell? ⟨p, 1, none⟩ = some (.int .i64 m) ∧ w'.cell? ⟨p, 2, none⟩ = some (.int .i64 d))
    (with_reducible first | exact ⟨cY, cM, cD⟩ | exact ⟨cellDr1 cY, cellDr1 cM, cellDr1 cD⟩ | exact ⟨cellDr1 (cellDr1 cY), cellDr1 (cellDr1 cM), cellDr1 (cellDr1 cD)⟩)
    (first | (go_at_call 38; (with_reducible refine (ML.out _).mono ?_); rintro e wa ⟨rfl, rfl⟩))
  obtain ⟨k, hk⟩ : ∃ k : Nat, y = 2000 + (k : Int) := ⟨(y - 2000).toNat, by omega⟩
  have k1 : k ≤ 3000 := by omega
  have YR := Lib.hid (fun (j : Nat) W => years_any (2000 + (j : Int)) (by omega) W)
  have YB := Lib.hid (fun (j : Nat) (h : j ≤ 3000) => ycnt_bound j h)
  have YL := Lib.hid (fun j : Nat => (show 0 ≤ ylen (2000 + (j : Int)) ∧ ylen (2000 + (j : Int)) ≤ 366 from ⟨by have := ylen_lo (2000 + (j : Int)); omega, ylen_hi (2000 + (j : Int))⟩))
  have YS := Lib.hid (fun j : Nat => (show ycnt (j + 1) = ycnt j + ylen (2000 + (j : Int)) from rfl))
  have DA := Lib.hid (show dayAt y m d = ycnt k + mcnt y (m - 1).toNat + d - 1 from by unfold dayAt; rw [show (y - 2000).toNat = k by omega])
  have MB := Lib.hid (mcnt_bound y)
  have MS := Lib.hid (fun j : Nat => (show mcnt y (j + 1) = mcnt y j + mlen y ((j + 1 : Nat) : Int) from rfl))
  have ML3 := Lib.hid (fun j => (show 0 ≤ mlen y j ∧ mlen y j ≤ 31 from ⟨by have := mlen_lo y j; omega, mlen_hi y j⟩))
  have e1 : IntKind.i64.wrap (d - 1) = d - 1 := IntWalk.i64_in _ (by omega)
  clear ML MR
  go_wp2_with fail
  go_loopw [4, 5] (fun dv yv wr => ∃ (j : Nat) (s : Int), j ≤ k ∧ dv = .int .i64 s ∧ yv = .int .i64 (2000 + (j : Int)) ∧ 0 ≤ s ∧ s ≤ 1098100 ∧ Hid (s = ycnt j + d - 1) ∧ wr.cell? ⟨p, 0, none⟩ = some (.int .i64 y) ∧ wr.cell? ⟨p, 1, none⟩ = some (.int .i64 m) ∧ p < wr.heap.size ∧ Hid (Below w.heap.size w wr)) (fun _ yv _ => 6000 - (intOf yv).toNat)
  case atStart => exact ⟨0, d - 1, by omega, rfl, by first | rfl | simp, by omega, by omega, Lib.hid (by simp [ycnt]), (by first | exact cY | exact cellDr1 cY), (by first | exact cM | exact cellDr1 cM), pz, (by first | exact HB | exact Lib.hid HB.out.drew | exact Lib.hid HB.out.drew.drew | exact Lib.hid (below_drewN HB.out _))⟩
  case round =>
    clear HB cY cM cD pz
    obtain ⟨j, s, hj, rfl, rfl, s0, s1, HS, cY, cM, pz, HB⟩ := hrel
    by_cases t : j < k
    · have ty : 2000 + (j : Int) < y := by omega
      have tb2 : decide (2000 + (j : Int) < y) = true := decide_eq_true ty
      have SN := Lib.hid (show s + ylen (2000 + (j : Int)) = ycnt (j + 1) + d - 1 from by rw [YS.out, HS.out]; omega)
      obtain ⟨m1, m2⟩ := YL.out j
      have sb : s + ylen (2000 + (j : Int)) ≤ 1098100 := by
        have := YB.out (j + 1) (by omega)
        have := SN.out
        omega
      have M1 := Lib.hid (fun W => YR.out j W)
      have e3 : IntKind.i64.wrap (2000 + (j : Int) + 1) = 2000 + ((j + 1 : Nat) : Int) := by rw [show 2000 + (j : Int) + 1 = 2000 + ((j + 1 : Nat) : Int) by omega]; exact IntWalk.i64_in _ (by omega)
      clear HS hk
      generalize ylen (2000 + (j : Int)) = K at *
      have e4 : IntKind.i64.wrap (s + K) = s + K := IntWalk.i64_in _ (by omega)
      go_wp2_with fail
      refine (M1.out _).mono ?_
      rintro e wb ⟨rfl, hb⟩
      have st : Below wr.heap.size wr wb := (by first | exact hb | exact ((Below.refl _ _).drew).trans hb | exact (below_drewN (Below.refl _ _) _).trans hb)
      have cY := cellB st pz cY
      have cM := cellB st pz cM
      have pz2 : p < wb.heap.size := Nat.lt_of_lt_of_le pz st.size
      replace HB := Lib.hid (HB.out.trans (st.mono HB.out.size))
      clear hb st pz
      go_wp2_with fail
      go_roundw
      case rel => exact ⟨j + 1, s + K, by omega, by go_num, by first | rfl | go_num, by omega, sb, SN, cY, cM, pz2, (by first | exact HB | exact Lib.hid HB.out.drew | exact Lib.hid HB.out.drew.drew | exact Lib.hid (below_drewN HB.out _))⟩
      case measure => simp [intOf]; omega
    · obtain rfl : j = k := by omega
      have ty : ¬ 2000 + (j : Int) < y := by omega
      have tb2 : decide (2000 + (j : Int) < y) = false := decide_eq_false ty
      clear YR YL YS YB t hk
      generalize ycnt j = Y at *
      go_wp2_with fail
      have S0 := Lib.hid (show 0 ≤ Y + d - 1 ∧ Y + d - 1 ≤ 1098100 from by have := HS.out; omega)
      have HS0 := HS
      clear s0 s1 HS
      go_loopw [4, 6] (fun dv mv wr => ∃ (i : Nat) (u : Int), i ≤ 12 ∧ (i : Int) < m ∧ dv = .int .i64 u ∧ mv = .int .i64 ((i + 1 : Nat) : Int) ∧ 0 ≤ u ∧ u ≤ 1099000 ∧ Hid (u = Y + mcnt y i + d - 1) ∧ wr.cell? ⟨p, 0, none⟩ = some (.int .i64 y) ∧ wr.cell? ⟨p, 1, none⟩ = some (.int .i64 m) ∧ Hid (Below w.heap.size w wr)) (fun _ mv _ => 14 - (intOf mv).toNat)
      case atStart => exact ⟨0, s, by omega, by omega, rfl, rfl, by have := S0.out; have := HS0.out; omega, by have := S0.out; have := HS0.out; omega, Lib.hid (by rw [HS0.out]; simp [mcnt]), (by first | exact cY | exact cellDr1 cY), (by first | exact cM | exact cellDr1 cM), (by first | exact HB | exact Lib.hid HB.out.drew | exact Lib.hid HB.out.drew.drew | exact Lib.hid (below_drewN HB.out _))⟩
      case round =>
        clear HB cY cM HS0
        obtain ⟨i, u, hi, him, rfl, rfl, s0, s1, HS, cY, cM, HB⟩ := hrel
        by_cases t : ((i + 1 : Nat) : Int) < m
        · have tb2 : decide (((i + 1 : Nat) : Int) < m) = true := decide_eq_true t
          have SN := Lib.hid (show u + mlen y ((i + 1 : Nat) : Int) = Y + mcnt y (i + 1) + d - 1 from by rw [MS.out, HS.out]; omega)
          obtain ⟨m1, m2⟩ := ML3.out ((i + 1 : Nat) : Int)
          have sb : u + mlen y ((i + 1 : Nat) : Int) ≤ 1099000 := by
            have := MB.out (i + 1)
            have := SN.out
            have := S0.out
            omega
          have M1 := Lib.hid (fun W => MA.out ((i + 1 : Nat) : Int) W)
          have e3 : IntKind.i64.wrap (((i + 1 : Nat) : Int) + 1) = ((i + 1 + 1 : Nat) : Int) := by rw [show ((i + 1 : Nat) : Int) + 1 = ((i + 1 + 1 : Nat) : Int) by omega]; exact IntWalk.i64_in _ (by omega)
          clear HS
          generalize mlen y ((i + 1 : Nat) : Int) = K at *
          have e4 : IntKind.i64.wrap (u + K) = u + K := IntWalk.i64_in _ (by omega)
          go_wp2_with fail
          refine (M1.out _).mono ?_
          rintro e wb ⟨rfl, rfl⟩
          go_wp2_with fail
          go_roundw
          case rel => exact ⟨i + 1, u + K, by omega, t, by go_num, by first | rfl | go_num, by omega, sb, SN, cY, cM, (by first | exact HB | exact Lib.hid HB.out.drew | exact Lib.hid HB.out.drew.drew | exact Lib.hid (below_drewN HB.out _))⟩
          case measure => simp [intOf]; omega
        · have tb2 : decide (((i + 1 : Nat) : Int) < m) = false := decide_eq_false t
          have hj2 : (m - 1).toNat = i := by omega
          have DS := Lib.hid (show dayAt y m d = u from by rw [DA.out, hj2]; exact HS.out.symm)
          clear HS MB MS ML3 MA DA hj2
          by_cases ts : u ≤ 1000000
          · have C1 := Lib.hid (fun W => rDay1 u true (by simp [dayB1]; omega) W)
            go_wp2_with fail
            refine (C1.out _).mono ?_
            rintro e wb ⟨rfl, rfl⟩
            go_wp2_with fail
            go_ret2
            exact ⟨_, _, rfl, .inr (.inr ⟨DK.out, by rw [DS.out]; omega, DS.out.symm, rfl⟩), (by first | exact HB.out | exact HB.out.drew | exact below_drewN HB.out _)⟩
          · have C1 := Lib.hid (fun W => rDay1 u false (by simp [dayB1]; omega) W)
            go_wp2_with fail
            refine (C1.out _).mono ?_
            rintro e wb ⟨rfl, rfl⟩
            go_wp2_with fail
            go_ret2
            exact ⟨_, _, rfl, .inr (.inl ⟨DK.out, by rw [DS.out]; omega, rfl, rfl⟩), (by first | exact HB.out | exact HB.out.drew | exact below_drewN HB.out _)⟩
end Go.Proofs.Ytlahdfmciaibdaa
