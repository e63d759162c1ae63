/- Accounts: Working and Prompt, the program. -/
import Derived.Test.YtlahdfmciaibdaaAP0
namespace Go.Proofs.Ytlahdfmciaibdaa
open Go.RowKit
set_option linter.unusedVariables false
set_option linter.unusedSimpArgs false

/-- What Working answers. -/
def WkQ (day : Int) (H : List Int) (b : Bool) (E : Int) : Prop := HErr day H E ∧ (E ≠ 0 → b = false) ∧ (E = 0 → b = wkB H day)
theorem HErr.day {day : Int} {H : List Int} (h : HErr day H 0) : H.length ≤ 64 ∧ HOk H H.length ∧ 0 ≤ day ∧ day ≤ 1000000 := by
  rcases h with ⟨_, b⟩ | ⟨_, _, c⟩ | ⟨a, b, c, d, e⟩
  · omega
  · omega
  · exact ⟨a, b, c, d⟩
theorem HErr.of {day : Int} {H : List Int} (a : H.length ≤ 64) (b : HOk H H.length) (c : 0 ≤ day) (d : day ≤ 1000000) : HErr day H 0 := .inr (.inr ⟨a, b, c, d, rfl⟩)
theorem HOk.mem {H : List Int} (h : HOk H H.length) : ∀ y ∈ H, y ≤ 1000000 := fun y hy => by
  obtain ⟨i, hi, e⟩ := mem_gi hy
  have := h i hi
  omega

set_option maxRecDepth 100000 in
theorem Working_any (day : Int) (p : Option Addr) (c : Nat) (H : List Int) (w : World) (r : NumR w p H) (ln : H.length ≤ 1000000) :
    Calls Try.prog 17 #[.int .i64 day, .slice p H.length c] w fun e w' => ∃ b E, e = .returned (.tuple #[.bool b, .int .i64 E]) ∧ WkQ day H b E ∧ Below w.heap.size w w' := by
  have CD := Lib.hid (checkDays_any day p c H w r ln)
  have WK := Lib.hid (fun W h h0 => isWorking_any day p c H W h ln h0)
  have R := Lib.hid r
  obtain ⟨n, hn⟩ : ∃ n, n = H.length := ⟨_, rfl⟩
  rw [← hn] at CD WK ⊢
  clear hn ln r
  go_enter Try.func17, Try.ntmps17
  go_wp2_with fail
  refine CD.out.mono ?_
  rintro e w1 ⟨x, rfl, hx, hb⟩
  have HX := Lib.hid hx
  have HB := Lib.hid hb
  clear hx hb CD
  by_cases x0 : x = 0
  · subst x0
    have R1 := Lib.hid (R.out.below HB.out)
    have D0 := Lib.hid HX.out.day.2.2.1
    go_wp2_with fail
    refine (WK.out _ R1.out D0.out).mono ?_
    rintro e w2 ⟨rfl, hb⟩
    have HB2 := Lib.hid (HB.out.trans (hb.mono HB.out.size))
    clear hb WK HB
    go_wp2_with fail
    go_ret2
    exact ⟨_, _, rfl, ⟨HX.out, fun h => absurd rfl h, fun _ => rfl⟩, (by first | exact HB2.out | exact HB2.out.drew | exact below_drewN HB2.out _)⟩
  · have xb : (x != 0) = true := by simpa using x0
    have X0 := Lib.hid x0
    clear x0 WK
    go_wp2_with fail
    go_ret2
    exact ⟨_, _, rfl, ⟨HX.out, fun _ => rfl, fun h => absurd h X0.out⟩, (by first | exact HB.out | exact HB.out.drew | exact below_drewN HB.out _)⟩

/-- What Prompt answers. -/
def PrQ (day n : Int) (H : List Int) (x E : Int) : Prop :=
  (E ≠ 0 ∧ HErr day H E ∧ x = 0) ∨ (HErr day H 0 ∧ ¬ (1 ≤ n ∧ n ≤ 366) ∧ E = 2 ∧ x = 0) ∨
  (HErr day H 0 ∧ 1 ≤ n ∧ n ≤ 366 ∧ ∃ k : Nat, NthW H day n.toNat k ∧ ((1000000 < day + k ∧ E = 4 ∧ x = 0) ∨ (day + k ≤ 1000000 ∧ E = 0 ∧ x = day + k)))
/-- What Prompt keeps. -/
structure PrK (H : List Int) (day : Int) (n k c : Nat) : Prop where
  cnt : wcnt H day k = c
  le : c ≤ n
  last : c = n → NthW H day n k
  far : day + k ≤ 1000000 + 3 * (c : Int) + wphase (day + k)
theorem wphase_hi (x : Int) : 0 ≤ wphase x ∧ wphase x ≤ 2 := by unfold wphase; split <;> (try split) <;> omega
theorem PrK.start {H : List Int} {day : Int} {n : Nat} (hn : 1 ≤ n) (d : day ≤ 1000000) : PrK H day n 0 0 := by
  refine ⟨rfl, by omega, fun e => by omega, ?_⟩
  have := wphase_hi (day + (0 : Nat))
  simp at *
  omega
theorem PrK.next {H : List Int} {day : Int} {n k c : Nat} (h : PrK H day n k c) (hc : c < n) (hH : ∀ y ∈ H, y ≤ 1000000) : PrK H day n (k + 1) (c + if wkB H (day + k + 1) then 1 else 0) := by
  have e : day + ((k + 1 : Nat) : Int) = day + k + 1 := by omega
  refine ⟨by rw [← h.cnt]; rfl, by split <;> omega, fun g => ?_, ?_⟩
  · split at g
    · rename_i hw
      refine ⟨?_, by rw [e]; exact hw, by omega⟩
      show wcnt H day k + _ = n
      rw [h.cnt, hw]; exact g
    · omega
  · rw [e]
    have := far_step (H := H) (M := 1000000) (x := day + k) (n := (c : Int)) (n' := ((c + if wkB H (day + k + 1) then 1 else 0 : Nat) : Int)) hH h.far (by push_cast; split <;> simp)
    have := wphase_hi (day + k + 1)
    omega

set_option maxRecDepth 100000 in
set_option maxHeartbeats 4000000 in
theorem Prompt_any (day n : Int) (n1 : -9223372036854775808 ≤ n) (n2 : n ≤ 9223372036854775807) (p : Option Addr) (c : Nat) (H : List Int) (w : World) (r : NumR w p H) (ln : H.length ≤ 1000000) :
    Calls Try.prog 19 #[.int .i64 day, .int .i64 n, .slice p H.length c] w fun e w' => ∃ x E, e = .returned (.tuple #[.int .i64 x, .int .i64 E]) ∧ PrQ day n H x E ∧ Below w.heap.size w w' := by
  have CD := Lib.hid (checkDays_any day p c H w r ln)
  have WK := Lib.hid (fun x W h h0 => isWorking_any x p c H W h ln h0)
  have R := Lib.hid r
  obtain ⟨z, hz⟩ : ∃ z, z = H.length := ⟨_, rfl⟩
  rw [← hz] at CD WK ⊢
  clear hz ln r
  go_enter Try.func19, Try.ntmps19
  go_wp2_with fail
  refine CD.out.mono ?_
  rintro e w1 ⟨x, rfl, hx, hb⟩
  have HX := Lib.hid hx
  have HB := Lib.hid hb
  clear hx hb CD
  by_cases x0 : x = 0
  · subst x0
    by_cases t1 : n < 1
    · have tb : decide (n < 1) = true := decide_eq_true t1
      clear WK
      go_wp2_with fail
      try (go_quiet (fail))
      try (go_wp2_with fail)
      go_ret2
      exact ⟨_, _, rfl, .inr (.inl ⟨HX.out, by omega, rfl, rfl⟩), (by first | exact HB.out | exact HB.out.drew | exact below_drewN HB.out _)⟩
    by_cases t2 : 366 < n
    · have tb : decide (n < 1) = false := decide_eq_false t1
      have tc : decide (366 < n) = true := decide_eq_true t2
      clear WK
      go_wp2_with fail
      try (go_quiet (fail))
      try (go_wp2_with fail)
      go_ret2
      exact ⟨_, _, rfl, .inr (.inl ⟨HX.out, by omega, rfl, rfl⟩), (by first | exact HB.out | exact HB.out.drew | exact below_drewN HB.out _)⟩
    obtain ⟨m, rfl⟩ := Int.eq_ofNat_of_zero_le (show 0 ≤ n by omega)
    have m1 : 1 ≤ m := by omega
    have m2 : m ≤ 366 := by omega
    have tb : decide ((m : Int) < 1) = false := decide_eq_false t1
    have tc : decide (366 < (m : Int)) = false := decide_eq_false t2
    obtain ⟨h1, h2, h3, h4⟩ := HX.out.day
    have HM := Lib.hid h2.mem
    clear t1 t2 n1 n2 h1 h2
    go_wp2_with fail
    try (go_quiet (fail))
    try (go_wp2_with fail)
    go_loopw [0, 1] (fun dv nv wr => ∃ k u : Nat, dv = .int .i64 (day + k) ∧ nv = .int .i64 u ∧ u ≤ m ∧ day + k ≤ 1001100 ∧ Hid (PrK H day m k (m - u)) ∧ Hid (Below w.heap.size w wr)) (fun dv _ _ => (1001200 - intOf dv).toNat)
    case atStart =>
      refine ⟨0, m, by simp, rfl, Nat.le_refl _, by simp; omega, ?_, (by first | exact HB | exact Lib.hid HB.out.drew | exact Lib.hid (below_drewN HB.out _))⟩
      rw [Nat.sub_self]
      exact Lib.hid (PrK.start m1 h4)
    case round =>
      clear HB
      obtain ⟨k, u, rfl, rfl, hu, hk, PK, HB⟩ := hrel
      by_cases tu : 0 < u
      · have u0 : (0 : Int) < (u : Int) := by omega
        have NX := Lib.hid (PK.out.next (by omega) HM.out)
        have R1 := Lib.hid (R.out.below HB.out)
        have e1 : IntKind.i64.wrap (day + k + 1) = day + k + 1 := IntWalk.i64_in _ (by omega)
        have far := NX.out.far
        have ph := wphase_hi (day + ((k + 1 : Nat) : Int))
        have kk : day + ((k + 1 : Nat) : Int) = day + k + 1 := by omega
        have cl := NX.out.le
        have hk2 : day + k + 1 ≤ 1001100 := by omega
        have W1 := Lib.hid (fun W h => WK.out (day + k + 1) W h (by omega))
        clear far ph cl PK
        go_wp2_with fail
        refine (W1.out _ (by first | exact R1.out | exact R1.out.below ((Below.refl _ _).drew) | exact R1.out.below (below_drewN (Below.refl _ _) _))).mono ?_
        rintro e w2 ⟨rfl, hb⟩
        have HB2 := Lib.hid (HB.out.trans ((show Below _ _ w2 from by first | exact hb | exact ((Below.refl _ _).drew).trans hb | exact (below_drewN (Below.refl _ _) _).trans hb).mono HB.out.size))
        clear hb W1 R1 HB
        cases hw : wkB H (day + k + 1) with
        | true =>
          rw [hw] at NX
          obtain ⟨u', rfl⟩ : ∃ u', u = u' + 1 := ⟨u - 1, by omega⟩
          have NX2 : Hid (PrK H day m (k + 1) (m - u')) := by
            have := NX.out
            simp only [if_true] at this
            rw [show m - (u' + 1) + 1 = m - u' by omega] at this
            exact Lib.hid this
          have e2 : IntKind.i64.wrap (((u' + 1 : Nat) : Int) - 1) = u' := by rw [show ((u' + 1 : Nat) : Int) - 1 = u' by omega]; exact IntWalk.i64_in _ (by omega)
          clear NX hw
          go_wp2_with fail
          go_roundw
          case rel => exact ⟨k + 1, u', by rw [kk], by go_num, by omega, by omega, NX2, (by first | exact HB2 | exact Lib.hid HB2.out.drew | exact Lib.hid (below_drewN HB2.out _))⟩
          case measure => simp [intOf]; omega
        | false =>
          rw [hw] at NX
          have NX2 : Hid (PrK H day m (k + 1) (m - u)) := NX
          clear NX hw
          go_wp2_with fail
          go_roundw
          case rel => exact ⟨k + 1, u, by rw [kk], rfl, by omega, by omega, NX2, (by first | exact HB2 | exact Lib.hid HB2.out.drew | exact Lib.hid (below_drewN HB2.out _))⟩
          case measure => simp [intOf]; omega
      · obtain rfl : u = 0 := by omega
        have NW := Lib.hid (PK.out.last (by omega))
        have NW2 : Hid (NthW H day ((m : Int).toNat) k) := NW
        obtain ⟨y, hy⟩ : ∃ y, y = day + (k : Int) := ⟨_, rfl⟩
        rw [← hy] at hk ⊢
        have HY := Lib.hid hy
        clear hy PK WK NW tb tc
        by_cases ty : 1000000 < y
        · go_wp2_with fail
          go_ret2
          exact ⟨_, _, rfl, .inr (.inr ⟨HX.out, by omega, by omega, k, NW2.out, .inl ⟨by have := HY.out; omega, rfl, rfl⟩⟩), (by first | exact HB.out | exact HB.out.drew | exact below_drewN HB.out _)⟩
        · go_wp2_with fail
          go_ret2
          exact ⟨_, _, rfl, .inr (.inr ⟨HX.out, by omega, by omega, k, NW2.out, .inr ⟨by have := HY.out; omega, rfl, HY.out⟩⟩), (by first | exact HB.out | exact HB.out.drew | exact below_drewN HB.out _)⟩
  · have xb : (x != 0) = true := by simpa using x0
    have X0 := Lib.hid x0
    clear x0 WK
    go_wp2_with fail
    go_ret2
    exact ⟨_, _, rfl, .inl ⟨X0.out, HX.out, rfl⟩, (by first | exact HB.out | exact HB.out.drew | exact below_drewN HB.out _)⟩
end Go.Proofs.Ytlahdfmciaibdaa
