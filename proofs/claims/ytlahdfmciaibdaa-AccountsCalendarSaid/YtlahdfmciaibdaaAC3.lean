/- Accounts: DateOf, the program. -/
import Derived.Test.YtlahdfmciaibdaaAC2
namespace Go.Proofs.Ytlahdfmciaibdaa
open Go.RowKit
set_option linter.unusedVariables false
set_option linter.unusedSimpArgs false

/-- What DateOf answers. -/
def DatQ (day Y M D E : Int) : Prop := (¬ (0 ≤ day ∧ day ≤ 1000000) ∧ Y = 0 ∧ M = 0 ∧ D = 0 ∧ E = 2) ∨ (0 ≤ day ∧ day ≤ 1000000 ∧ E = 0 ∧ ∃ k m : Nat, IsDate day k m D ∧ Y = 2000 + (k : Int) ∧ M = (m : Int) + 1)
theorem DatQ.det {day Y M D E Y' M' D' E' : Int} (h : DatQ day Y M D E) (g : DatQ day Y' M' D' E') : Y = Y' ∧ M = M' ∧ D = D' ∧ E = E' := by
  rcases h with ⟨a, b, c, d, e⟩ | ⟨a, b, c, k, m, i, d, e⟩ <;> rcases g with ⟨a', b', c', d', e'⟩ | ⟨a', b', c', k', m', i', d', e'⟩
  · omega
  · exact absurd ⟨a', b'⟩ a
  · exact absurd ⟨a, b⟩ a'
  · obtain ⟨h1, h2, h3⟩ := i.uniq i'
    subst h1 h2
    omega
/-- What the search for the month keeps. -/
structure MoK (day : Int) (k m : Nat) (r : Int) : Prop where
  e : r = day - ycnt k - mcnt (2000 + k) m
  r0 : 0 ≤ r
  hm : m ≤ 11
  hi : r + mcnt (2000 + k) m < ylen (2000 + k)
theorem MoK.next {day : Int} {k m : Nat} {r : Int} (h : MoK day k m r) (g : mlen (2000 + k) ((m + 1 : Nat) : Int) ≤ r) : MoK day k (m + 1) (r - mlen (2000 + k) ((m + 1 : Nat) : Int)) := by
  have e : mcnt (2000 + (k : Int)) (m + 1) = mcnt (2000 + k) m + mlen (2000 + k) ((m + 1 : Nat) : Int) := rfl
  refine ⟨by rw [e, h.e]; omega, by omega, ?_, by rw [e]; have := h.hi; omega⟩
  apply Classical.byContradiction
  intro c
  have m11 : m = 11 := by have := h.hm; omega
  subst m11
  have := mcnt_12 (2000 + (k : Int))
  rw [e] at this
  have := h.hi
  omega
theorem MoK.done {day : Int} {k m : Nat} {r : Int} (h : MoK day k m r) (g : r < mlen (2000 + k) ((m + 1 : Nat) : Int)) : IsDate day k m (r + 1) := by
  refine ⟨h.hm, by have := h.r0; omega, by push_cast at g; omega, ?_⟩
  have := h.e
  omega
theorem MoK.start {day : Int} {k : Nat} (h1 : ycnt k ≤ day) (h2 : day < ycnt (k + 1)) : MoK day k 0 (day - ycnt k) := by
  have e : ycnt (k + 1) = ycnt k + ylen (2000 + (k : Int)) := rfl
  refine ⟨by simp [mcnt], by omega, by omega, by simp only [mcnt]; omega⟩
theorem isDay1 (n : Int) (w : World) :
    Calls Try.prog 41 #[.int .i64 n] w fun e w' => e = .returned (.bool (dayB1 n)) ∧ w = w' := by
  go_enter Try.func41, Try.ntmps41
  go_wp2
  all_goals go_ret
  all_goals exact ⟨ret_b (by unfold dayB1; rw [Bool.eq_iff_iff]; simp; try omega), rfl⟩
theorem isDay2 (n : Int) (r : Bool) (h : dayB1 n = r) (w : World) :
    Calls Try.prog 41 #[.int .i64 n] w fun e w' => e = .returned (.bool r) ∧ w = w' := by rw [← h]; exact isDay1 n w

set_option maxRecDepth 100000 in
set_option maxHeartbeats 4000000 in
theorem DateOf_any (day : Int) (w : World) :
    Calls Try.prog 13 #[.int .i64 day] w fun e w' => ∃ Y M D E, e = .returned (.tuple #[.agg #[.int .i64 Y, .int .i64 M, .int .i64 D], .int .i64 E]) ∧ DatQ day Y M D E ∧ Below w.heap.size w w' := by
  by_cases hd : 0 ≤ day ∧ day ≤ 1000000
  · have C1 := Lib.hid (fun W => isDay2 day true (by simp [dayB1]; omega) W)
    obtain ⟨d0, d1⟩ := hd
    have YS := Lib.hid (fun (k : Nat) (h : k ≤ 3002) W => yearStart_any k h W)
    have YB := Lib.hid (fun k : Nat => (show 365 * (k : Int) ≤ ycnt k ∧ ycnt k ≤ 366 * (k : Int) from ⟨ycnt_lo k, ycnt_hi k⟩))
    have MR := Lib.hid (fun y m => (show 28 ≤ mlen y m ∧ mlen y m ≤ 31 from ⟨mlen_lo y m, mlen_hi y m⟩))
    have ML := Lib.hid (fun (k : Nat) m W => monthLength_any (2000 + (k : Int)) m (by omega) W)
    obtain ⟨q, hq⟩ : ∃ q, q = day / 366 := ⟨_, rfl⟩
    have tq : day.tdiv 366 = q := by rw [Int.tdiv_eq_ediv_of_nonneg d0, hq]
    have q0 : 0 ≤ q := by omega
    have q1 : q ≤ 2733 := by omega
    have q2 : 366 * q ≤ day := by omega
    have eq1 : IntKind.i64.wrap q = q := IntWalk.i64_in _ (by omega)
    have eq2 : IntKind.i64.wrap (2000 + q) = 2000 + q := IntWalk.i64_in _ (by omega)
    clear hq
    go_enter Try.func13, Try.ntmps13
    go_wp2_with fail
    refine (C1.out _).mono ?_
    rintro e w1 ⟨rfl, rfl⟩
    clear C1
    go_wp2_with fail
    go_loopw [4] (fun yv wr => ∃ k : Nat, yv = .int .i64 (2000 + (k : Int)) ∧ k ≤ 2740 ∧ Hid (ycnt k ≤ day) ∧ ∃ n, wr = (w.alloc (Obj.cells #[Value.int .i64 0, Value.int .i64 0, Value.int .i64 0] 23)).drewN n) (fun yv _ => 5000 - (intOf yv).toNat)
    case atStart => exact ⟨q.toNat, by rw [show 2000 + ((q.toNat : Nat) : Int) = 2000 + q by omega], by omega, Lib.hid (by have := (YB.out q.toNat).2; omega), by first | exact ⟨0, rfl⟩ | exact ⟨1, rfl⟩⟩
    case round =>
      obtain ⟨k, rfl, hk, HK, n, rfl⟩ := hrel
      have e1 : IntKind.i64.wrap (2000 + (k : Int) + 1) = 2000 + ((k + 1 : Nat) : Int) := by rw [show 2000 + (k : Int) + 1 = 2000 + ((k + 1 : Nat) : Int) by omega]; exact IntWalk.i64_in _ (by omega)
      have Y1 := Lib.hid (fun W => YS.out (k + 1) (by omega) W)
      have YB1 := YB.out (k + 1)
      by_cases t : ycnt (k + 1) ≤ day
      · have NK := Lib.hid t
        have tb : decide (ycnt (k + 1) ≤ day) = true := decide_eq_true t
        have k2 : k + 1 ≤ 2740 := by omega
        clear HK YB1 t
        generalize ycnt (k + 1) = Z at Y1 tb
        go_wp2_with fail
        refine (Y1.out _).mono ?_
        rintro e w2 ⟨rfl, rfl⟩
        go_wp2_with fail
        go_roundw
        case rel => exact ⟨k + 1, by first | rfl | go_num, k2, NK, _, rfl⟩
        case measure => simp [intOf]; omega
      · have MK := Lib.hid (MoK.start HK.out (by omega))
        have tb : decide (ycnt (k + 1) ≤ day) = false := decide_eq_false t
        have Y2 := Lib.hid (fun W => YS.out k (by omega) W)
        obtain ⟨r, hr⟩ : ∃ r, day - ycnt k = r := ⟨_, rfl⟩
        have yk := YB.out k
        have e2 : IntKind.i64.wrap (day - ycnt k) = r := by rw [hr]; exact IntWalk.i64_in _ (by have := MK.out.r0; rw [hr] at this; omega)
        rw [hr] at MK
        have r9 : r ≤ 1000000 := by have := HK.out; omega
        clear HK YB1 YS YB t hr yk
        generalize ycnt (k + 1) = Z at Y1 tb
        generalize ycnt k = X at Y2 e2
        go_wp2_with fail
        refine (Y1.out _).mono ?_
        rintro e w2 ⟨rfl, rfl⟩
        go_wp2_with fail
        refine (Y2.out _).mono ?_
        rintro e w2 ⟨rfl, rfl⟩
        clear Y1 Y2
        go_wp2_with fail
        go_loopw [5, 6] (fun rv mv wr => ∃ (m : Nat) (u : Int), rv = .int .i64 u ∧ mv = .int .i64 ((m + 1 : Nat) : Int) ∧ m ≤ 11 ∧ 0 ≤ u ∧ u ≤ 1000000 ∧ Hid (MoK day k m u) ∧ ∃ n, wr = (w.alloc (Obj.cells #[Value.int .i64 0, Value.int .i64 0, Value.int .i64 0] 23)).drewN n) (fun _ mv _ => 20 - (intOf mv).toNat)
        case atStart => exact ⟨0, r, rfl, rfl, by omega, MK.out.r0, r9, MK, _, rfl⟩
        case round =>
          clear MK r9
          obtain ⟨m, u, rfl, rfl, hm, u0, u1, MK, n2, rfl⟩ := hrel
          have M1 := Lib.hid (fun W => ML.out k ((m + 1 : Nat) : Int) W)
          obtain ⟨m1, m2⟩ := MR.out (2000 + (k : Int)) ((m + 1 : Nat) : Int)
          have MN := Lib.hid (fun g => MK.out.next g)
          have MD := Lib.hid (fun g => MK.out.done g)
          have e3 : IntKind.i64.wrap (((m + 1 : Nat) : Int) + 1) = ((m + 1 + 1 : Nat) : Int) := by rw [show ((m + 1 : Nat) : Int) + 1 = ((m + 1 + 1 : Nat) : Int) by omega]; exact IntWalk.i64_in _ (by omega)
          clear MK
          generalize mlen (2000 + (k : Int)) ((m + 1 : Nat) : Int) = L at *
          by_cases t : L ≤ u
          · have tb : decide (L ≤ u) = true := decide_eq_true t
            have NK := Lib.hid (MN.out t)
            have e4 : IntKind.i64.wrap (u - L) = u - L := IntWalk.i64_in _ (by omega)
            have m3 := NK.out.hm
            have u2 := NK.out.r0
            clear MN MD
            go_wp2_with fail
            refine (M1.out _).mono ?_
            rintro e w2 ⟨rfl, rfl⟩
            go_wp2_with fail
            refine (M1.out _).mono ?_
            rintro e w2 ⟨rfl, rfl⟩
            go_wp2_with fail
            go_roundw
            case rel => exact ⟨m + 1, u - L, by first | rfl | go_num, by first | rfl | go_num, m3, u2, by omega, NK, _, rfl⟩
            case measure => simp [intOf]; omega
          · have tb : decide (L ≤ u) = false := decide_eq_false t
            have ID := Lib.hid (MD.out (by omega))
            have e4 : IntKind.i64.wrap (u + 1) = u + 1 := IntWalk.i64_in _ (by omega)
            clear MN MD
            go_wp2_with fail
            refine (M1.out _).mono ?_
            rintro e w2 ⟨rfl, rfl⟩
            go_wp2_with fail
            refine bodyPost_ret (v := .tuple #[.agg #[.int .i64 (2000 + (k : Int)), .int .i64 ((m + 1 : Nat) : Int), .int .i64 (u + 1)], .int .i64 0]) (by simp [results, Try.results13, go_sem]) rfl ⟨_, _, _, _, rfl, .inr ⟨d0, d1, rfl, k, m, ID.out, rfl, by push_cast; rfl⟩, ?_⟩
            exact by repeat' (first | exact Below.refl _ _ | refine below_drewN ?_ _ | refine Below.setCell ?_ ?_ _ | refine Below.alloc ?_ ?_ _ | (simp; done) | (simp; omega) | omega)
  · have C1 := Lib.hid (fun W => isDay2 day false (by simp [dayB1]; omega) W)
    have HD := Lib.hid hd
    clear hd
    go_enter Try.func13, Try.ntmps13
    go_wp2_with fail
    refine (C1.out _).mono ?_
    rintro e w1 ⟨rfl, rfl⟩
    clear C1
    go_wp2_with fail
    refine bodyPost_ret (v := .tuple #[.agg #[.int .i64 0, .int .i64 0, .int .i64 0], .int .i64 2]) (by simp [results, Try.results13, go_sem]) rfl ⟨_, _, _, _, rfl, .inl ⟨HD.out, rfl, rfl, rfl, rfl⟩, ?_⟩
    exact by repeat' (first | exact Below.refl _ _ | refine below_drewN ?_ _ | refine Below.setCell ?_ ?_ _ | refine Below.alloc ?_ ?_ _ | (simp; done) | (simp; omega) | omega)
end Go.Proofs.Ytlahdfmciaibdaa
