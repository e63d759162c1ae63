/- Accounts: DayOf, both sides. -/
import Derived.Test.YtlahdfmciaibdaaAC0
namespace Go.Proofs.Ytlahdfmciaibdaa
open Go.RowKit
set_option linter.unusedVariables false
set_option linter.unusedSimpArgs false

def DateOk (y m d : Int) : Prop := 2000 ≤ y ∧ y ≤ 5000 ∧ 1 ≤ m ∧ m ≤ 12 ∧ 1 ≤ d ∧ d ≤ mlen y m
def dayAt (y m d : Int) : Int := ycnt (y - 2000).toNat + mcnt y (m - 1).toNat + d - 1
/-- What DayOf answers. -/
def DofQ (y m d n E : Int) : Prop := (¬ DateOk y m d ∧ n = 0 ∧ E = 2) ∨ (DateOk y m d ∧ 1000000 < dayAt y m d ∧ n = 0 ∧ E = 4) ∨ (DateOk y m d ∧ dayAt y m d ≤ 1000000 ∧ n = dayAt y m d ∧ E = 0)
theorem DofQ.det {y m d n E n' E' : Int} (h : DofQ y m d n E) (g : DofQ y m d n' E') : n = n' ∧ E = E' := by
  rcases h with ⟨a, b, c⟩ | ⟨a, b, c, e⟩ | ⟨a, b, c, e⟩ <;> rcases g with ⟨a', b', c'⟩ | ⟨a', b', c', e'⟩ | ⟨a', b', c', e'⟩ <;> first | (exact absurd a' a) | (exact absurd a a') | (constructor <;> omega)
theorem box3 (w : World) (a b c : Value) (t : TypeId) : (w.alloc (.cells #[a, b, c] t)).cell? ⟨w.heap.size, 0, none⟩ = some a ∧ (w.alloc (.cells #[a, b, c] t)).cell? ⟨w.heap.size, 1, none⟩ = some b ∧ (w.alloc (.cells #[a, b, c] t)).cell? ⟨w.heap.size, 2, none⟩ = some c := by
  refine ⟨?_, ?_, ?_⟩ <;> simp [go_sem]
theorem cellDr1 {w : World} {a : Addr} {x : Option Value} (h : w.cell? a = x) : w.drew.cell? a = x := h
theorem ycnt_bound (k : Nat) (hk : k ≤ 3000) : 0 ≤ ycnt k ∧ ycnt k ≤ 1098000 := by
  have := ycnt_lo k; have := ycnt_hi k; omega
theorem mcnt_bound (y : Int) : ∀ j : Nat, 0 ≤ mcnt y j ∧ mcnt y j ≤ 31 * j
  | 0 => ⟨Int.le_refl _, Int.le_refl _⟩
  | j + 1 => by have := mcnt_bound y j; have := mlen_lo y ((j : Nat) + 1); have := mlen_hi y ((j : Nat) + 1); simp only [mcnt]; push_cast; omega

set_option maxRecDepth 100000 in
set_option maxHeartbeats 4000000 in
theorem DayOf_any (y m d : Int) (w : World) :
    Calls Try.prog 11 #[.agg #[.int .i64 y, .int .i64 m, .int .i64 d]] w fun e w' => ∃ n E, e = .returned (.tuple #[.int .i64 n, .int .i64 E]) ∧ DofQ y m d n E ∧ Below w.heap.size w w' := by
  have FE := Lib.hid (show ¬ DateOk y m d → DofQ y m d 0 2 from fun h => .inl ⟨h, rfl, rfl⟩)
  go_enter Try.func11, Try.ntmps11
  go_upto_region 1 with fail
  have HB := Lib.hid ((Below.refl w.heap.size w).alloc (Nat.le_refl _) (Obj.cells #[Value.int IntKind.i64 y, Value.int IntKind.i64 m, Value.int IntKind.i64 d] 23))
  obtain ⟨cY, cM, cD⟩ := box3 w (.int .i64 y) (.int .i64 m) (.int .i64 d) 23
  generalize w.alloc (Obj.cells #[Value.int IntKind.i64 y, Value.int IntKind.i64 m, Value.int IntKind.i64 d] 23) = w1 at *
  obtain ⟨p, hp⟩ : ∃ p, w.heap.size = p := ⟨_, rfl⟩
  rw [hp] at cY cM cD ⊢
  clear hp
  by_cases t1 : y < 2000
  · have NK := Lib.hid (FE.out (fun g => by have := g.1; have := g.2.1; have := g.2.2.1; have := g.2.2.2.1; have := g.2.2.2.2.1; omega))
    have tb : decide (y < 2000) = true := decide_eq_true t1
    clear FE t1
    go_quiet (fail)
    go_wp2_with fail
    go_ret2
    exact ⟨_, _, rfl, NK.out, (by first | exact HB.out | exact HB.out.drew | exact below_drewN HB.out _)⟩
  have bt1 : decide (y < 2000) = false := decide_eq_false t1
  by_cases t2 : 5000 < y
  · have NK := Lib.hid (FE.out (fun g => by have := g.1; have := g.2.1; have := g.2.2.1; have := g.2.2.2.1; have := g.2.2.2.2.1; omega))
    have tb : decide (5000 < y) = true := decide_eq_true t2
    clear FE t2
    go_quiet (fail)
    go_wp2_with fail
    go_ret2
    exact ⟨_, _, rfl, NK.out, (by first | exact HB.out | exact HB.out.drew | exact below_drewN HB.out _)⟩
  have bt2 : decide (5000 < y) = false := decide_eq_false t2
  by_cases t3 : m < 1
  · have NK := Lib.hid (FE.out (fun g => by have := g.1; have := g.2.1; have := g.2.2.1; have := g.2.2.2.1; have := g.2.2.2.2.1; omega))
    have tb : decide (m < 1) = true := decide_eq_true t3
    clear FE t3
    go_quiet (fail)
    go_wp2_with fail
    go_ret2
    exact ⟨_, _, rfl, NK.out, (by first | exact HB.out | exact HB.out.drew | exact below_drewN HB.out _)⟩
  have bt3 : decide (m < 1) = false := decide_eq_false t3
  by_cases t4 : 12 < m
  · have NK := Lib.hid (FE.out (fun g => by have := g.1; have := g.2.1; have := g.2.2.1; have := g.2.2.2.1; have := g.2.2.2.2.1; omega))
    have tb : decide (12 < m) = true := decide_eq_true t4
    clear FE t4
    go_quiet (fail)
    go_wp2_with fail
    go_ret2
    exact ⟨_, _, rfl, NK.out, (by first | exact HB.out | exact HB.out.drew | exact below_drewN HB.out _)⟩
  have bt4 : decide (12 < m) = false := decide_eq_false t4
  by_cases t5 : d < 1
  · have NK := Lib.hid (FE.out (fun g => by have := g.1; have := g.2.1; have := g.2.2.1; have := g.2.2.2.1; have := g.2.2.2.2.1; omega))
    have tb : decide (d < 1) = true := decide_eq_true t5
    clear FE t5
    go_quiet (fail)
    go_wp2_with fail
    go_ret2
    exact ⟨_, _, rfl, NK.out, (by first | exact HB.out | exact HB.out.drew | exact below_drewN HB.out _)⟩
  have bt5 : decide (d < 1) = false := decide_eq_false t5
  have MR := Lib.hid (show 28 ≤ mlen y m ∧ mlen y m ≤ 31 from ⟨mlen_lo y m, mlen_hi y m⟩)
  have ML := Lib.hid (fun W => monthLength_any y m (by omega) W)
  have MA := Lib.hid (fun j W => monthLength_any y j (by omega) W)
  have OK := Lib.hid (show d ≤ mlen y m → DateOk y m d from fun h => ⟨by omega, by omega, by omega, by omega, by omega, h⟩)
  have NO := Lib.hid (show mlen y m < d → ¬ DateOk y m d from fun h g => by have := g.2.2.2.2.2; omega)
  generalize mlen y m = L at *
  by_cases t6 : L < d
  · have NK := Lib.hid (FE.out (NO.out t6))
    have tb : decide (L < d) = true := decide_eq_true t6
    clear FE NO OK t6 MA
    go_region_held3 (fun w' => w'.cell? ⟨p, 0, none⟩ = some (.int .i64 y) ∧ w'.cell? ⟨p, 1, none⟩ = some (.int .i64 m) ∧ w'.cell? ⟨p, 2, none⟩ = some (.int .i64 d))
    (with_reducible first | exact ⟨cY, cM, cD⟩ | exact ⟨cellDr1 cY, cellDr1 cM, cellDr1 cD⟩ | exact ⟨cellDr1 (cellDr1 cY), cellDr1 (cellDr1 cM), cellDr1 (cellDr1 cD)⟩)
      (first | (go_at_call 36; (with_reducible refine (ML.out _).mono ?_); rintro e wa ⟨rfl, rfl⟩))
    go_wp2_with fail
    go_ret2
    exact ⟨_, _, rfl, NK.out, (by first | exact HB.out | exact HB.out.drew | exact below_drewN HB.out _)⟩
  have tb : decide (L < d) = false := decide_eq_false t6
  have l1 : L ≤ 31 := MR.out.2
  have DK := Lib.hid (OK.out (by omega))
  clear FE NO OK
  go_region_held3 (fun w' => w'.cell? ⟨p, 0, none⟩ = some (.int .i64 y) ∧ w'.cell? ⟨p, 1, none⟩ = some (.int .i64 m) ∧ w'.cell? ⟨p, 2, none⟩ = some (.int .i64 d))
    (with_reducible first | exact ⟨cY, cM, cD⟩ | exact ⟨cellDr1 cY, cellDr1 cM, cellDr1 cD⟩ | exact ⟨cellDr1 (cellDr1 cY), cellDr1 (cellDr1 cM), cellDr1 (cellDr1 cD)⟩)
    (first | (go_at_call 36; (with_reducible refine (ML.out _).mono ?_); rintro e wa ⟨rfl, rfl⟩))
  obtain ⟨k, hk⟩ : ∃ k : Nat, y = 2000 + (k : Int) := ⟨(y - 2000).toNat, by omega⟩
  have k1 : k ≤ 3000 := by omega
  have YS := Lib.hid (fun W => (show Calls Try.prog 37 #[.int .i64 y] W fun e w' => e = .returned (.int .i64 (ycnt k)) ∧ W = w' from hk ▸ yearStart_any k (by omega) W))
  obtain ⟨yb0, yb1⟩ := ycnt_bound k k1
  have DA := Lib.hid (show dayAt y m d = ycnt k + mcnt y (m - 1).toNat + d - 1 from by unfold dayAt; rw [show (y - 2000).toNat = k by omega])
  have MB := Lib.hid (mcnt_bound y)
  have MS := Lib.hid (fun j : Nat => (show mcnt y (j + 1) = mcnt y j + mlen y ((j + 1 : Nat) : Int) from rfl))
  have ML3 := Lib.hid (fun j => (show 0 ≤ mlen y j ∧ mlen y j ≤ 31 from ⟨by have := mlen_lo y j; omega, mlen_hi y j⟩))
  have e1 : IntKind.i64.wrap (ycnt k + d) = ycnt k + d := IntWalk.i64_in _ (by omega)
  have e2 : IntKind.i64.wrap (ycnt k + d - 1) = ycnt k + d - 1 := IntWalk.i64_in _ (by omega)
  clear ML MR hk
  generalize ycnt k = Y at *
  go_upto_region 3 with fail
  go_region_held3 (fun w' => w'.cell? ⟨p, 0, none⟩ = some (.int .i64 y) ∧ w'.cell? ⟨p, 1, none⟩ = some (.int .i64 m) ∧ w'.cell? ⟨p, 2, none⟩ = some (.int .i64 d))
    (with_reducible first | exact ⟨cY, cM, cD⟩ | exact ⟨cellDr1 cY, cellDr1 cM, cellDr1 cD⟩ | exact ⟨cellDr1 (cellDr1 cY), cellDr1 (cellDr1 cM), cellDr1 (cellDr1 cD)⟩)
    (first | (go_at_call 37; (with_reducible refine (YS.out _).mono ?_); rintro e wa ⟨rfl, rfl⟩))
  clear YS
  go_wp2_with fail
  go_loopw [4, 5] (fun dv mv wr => ∃ (j : Nat) (s : Int), j ≤ 12 ∧ (j : Int) < m ∧ dv = .int .i64 s ∧ mv = .int .i64 ((j + 1 : Nat) : Int) ∧ 0 ≤ s ∧ s ≤ 1099000 ∧ Hid (s = Y + mcnt y j + d - 1) ∧ wr.cell? ⟨p, 0, none⟩ = some (.int .i64 y) ∧ wr.cell? ⟨p, 1, none⟩ = some (.int .i64 m) ∧ Hid (Below w.heap.size w wr)) (fun _ mv _ => 14 - (intOf mv).toNat)
  case atStart => exact ⟨0, Y + d - 1, by omega, by omega, rfl, rfl, by omega, by omega, Lib.hid (by simp [mcnt]), (by first | exact cY | exact cellDr1 cY | exact cellDr1 (cellDr1 cY)), (by first | exact cM | exact cellDr1 cM | exact cellDr1 (cellDr1 cM)), (by first | exact HB | exact Lib.hid HB.out.drew | exact Lib.hid HB.out.drew.drew | exact Lib.hid (below_drewN HB.out _))⟩
  case round =>
    clear HB cY cM cD
    obtain ⟨j, s, hj, hjm, rfl, rfl, s0, s1, HS, cY, cM, HB⟩ := hrel
    by_cases t : ((j + 1 : Nat) : Int) < m
    · have tb2 : decide (((j + 1 : Nat) : Int) < m) = true := decide_eq_true t
      have SN := Lib.hid (show s + mlen y ((j + 1 : Nat) : Int) = Y + mcnt y (j + 1) + d - 1 from by rw [MS.out, HS.out]; omega)
      obtain ⟨m1, m2⟩ := ML3.out ((j + 1 : Nat) : Int)
      have sb : s + mlen y ((j + 1 : Nat) : Int) ≤ 1099000 := by
        have := MB.out (j + 1)
        have := SN.out
        omega
      have M1 := Lib.hid (fun W => MA.out ((j + 1 : Nat) : Int) W)
      have e3 : IntKind.i64.wrap (((j + 1 : Nat) : Int) + 1) = ((j + 1 + 1 : Nat) : Int) := by rw [show ((j + 1 : Nat) : Int) + 1 = ((j + 1 + 1 : Nat) : Int) by omega]; exact IntWalk.i64_in _ (by omega)
      clear HS
      generalize mlen y ((j + 1 : Nat) : Int) = K at *
      have e4 : IntKind.i64.wrap (s + K) = s + K := IntWalk.i64_in _ (by omega)
      go_wp2_with fail
      refine (M1.out _).mono ?_
      rintro e wb ⟨rfl, rfl⟩
      go_wp2_with fail
      go_roundw
      case rel => exact ⟨j + 1, s + K, by omega, t, by go_num, by first | rfl | go_num, by omega, sb, SN, cY, cM, (by first | exact HB | exact Lib.hid HB.out.drew | exact Lib.hid HB.out.drew.drew | exact Lib.hid (below_drewN HB.out _))⟩
      case measure => simp [intOf]; omega
    · have tb2 : decide (((j + 1 : Nat) : Int) < m) = false := decide_eq_false t
      have hj2 : (m - 1).toNat = j := by omega
      have DS := Lib.hid (show dayAt y m d = s from by rw [DA.out, hj2]; exact HS.out.symm)
      clear HS MB MS ML3 MA DA hj2
      by_cases ts : 1000000 < s
      · go_wp2_with fail
        go_ret2
        exact ⟨_, _, rfl, .inr (.inl ⟨DK.out, by rw [DS.out]; exact ts, rfl, rfl⟩), (by first | exact HB.out | exact HB.out.drew | exact below_drewN HB.out _)⟩
      · go_wp2_with fail
        go_ret2
        exact ⟨_, _, rfl, .inr (.inr ⟨DK.out, by rw [DS.out]; omega, DS.out.symm, rfl⟩), (by first | exact HB.out | exact HB.out.drew | exact below_drewN HB.out _)⟩
end Go.Proofs.Ytlahdfmciaibdaa
