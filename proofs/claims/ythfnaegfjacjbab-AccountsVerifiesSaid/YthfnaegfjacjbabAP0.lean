/- Accounts: days, holidays, working days: the program's side. -/
import Derived.Test.YthfnaegfjacjbabB0
import Derived.Test.YthfnaegfjacjbabAD2
import Derived.BigRegion
import Derived.Deep.Cut
import Derived.Deep.CutRange
import Derived.Deep.RegionHeld3
namespace Go.Proofs.Ythfnaegfjacjbab
open Go.RowKit
set_option linter.unusedVariables false
set_option linter.unusedSimpArgs false

def gi (O : List Int) (i : Nat) : Int := O[i]?.getD 0
/-- The slice, wherever it lies, reads as these numbers. -/
def NumR (w : World) (p : Option Addr) (O : List Int) : Prop := ∀ i, i < O.length → ∃ x : Addr, p = some x ∧ x.block < w.heap.size ∧ w.cell? (x.add i) = some (.int .i64 (gi O i))
theorem addB (x : Addr) (i : Nat) : (x.add i).block = x.block := by unfold Addr.add; split <;> rfl
theorem NumR.below {w w' : World} {p : Option Addr} {O : List Int} (r : NumR w p O) (hb : Below w.heap.size w w') : NumR w' p O := fun i h => by
  obtain ⟨x, e, k, c⟩ := r i h
  exact ⟨x, e, Nat.lt_of_lt_of_le k hb.size, by rw [hb.cell (p := x.add i) (by rw [addB]; exact k)]; exact c⟩
theorem gi_mem {H : List Int} {i : Nat} (h : i < H.length) : gi H i ∈ H := by
  unfold gi; rw [List.getElem?_eq_getElem h]; exact List.getElem_mem h
theorem mem_gi {H : List Int} {v : Int} (h : v ∈ H) : ∃ i, i < H.length ∧ gi H i = v := by
  obtain ⟨i, hi, e⟩ := List.mem_iff_getElem.1 h
  exact ⟨i, hi, by unfold gi; rw [List.getElem?_eq_getElem hi]; exact e⟩
def dayB (n : Int) : Bool := decide (0 ≤ n) && decide (n ≤ 1000000)
theorem dayB_iff (n : Int) : dayB n = true ↔ 0 ≤ n ∧ n ≤ 1000000 := by unfold dayB; simp
theorem dayB_not {n : Int} (h : ¬ (0 ≤ n ∧ n ≤ 1000000)) : dayB n = false := by
  cases e : dayB n with
  | false => rfl
  | true => exact absurd ((dayB_iff n).1 e) h
theorem isDay_any (n : Int) (w : World) :
    Calls Try.prog 41 #[.int .i64 n] w fun e w' => e = .returned (.bool (dayB n)) ∧ w = w' := by
  go_enter Try.func41, Try.ntmps41
  go_wp2
  all_goals go_ret
  all_goals exact ⟨ret_b (by unfold dayB; rw [Bool.eq_iff_iff]; simp; try omega), rfl⟩
theorem isDay_b (n : Int) (r : Bool) (h : dayB n = r) (w : World) :
    Calls Try.prog 41 #[.int .i64 n] w fun e w' => e = .returned (.bool r) ∧ w = w' := by rw [← h]; exact isDay_any n w

def HOk (H : List Int) (n : Nat) : Prop := ∀ i, i < n → 0 ≤ gi H i ∧ gi H i ≤ 1000000
/-- What the check of holidays and a day answers. -/
def HErr (day : Int) (H : List Int) (x : Int) : Prop := (64 < H.length ∧ x = 3) ∨ (H.length ≤ 64 ∧ ¬ (HOk H H.length ∧ 0 ≤ day ∧ day ≤ 1000000) ∧ x = 2) ∨ (H.length ≤ 64 ∧ HOk H H.length ∧ 0 ≤ day ∧ day ≤ 1000000 ∧ x = 0)
theorem HErr.det {day : Int} {H : List Int} {x y : Int} (h : HErr day H x) (g : HErr day H y) : x = y := by
  rcases h with ⟨a, b⟩ | ⟨a, b, c⟩ | ⟨a, b, c, d, e⟩ <;> rcases g with ⟨a', b'⟩ | ⟨a', b', c'⟩ | ⟨a', b', c', d', e'⟩ <;> first | omega | exact absurd ⟨b', c', d'⟩ b | exact absurd ⟨b, c, d⟩ b'

set_option maxRecDepth 100000 in
set_option maxHeartbeats 4000000 in
theorem checkDays_any (day : Int) (p : Option Addr) (c : Nat) (H : List Int) (w : World) (r : NumR w p H) (ln : H.length ≤ 1000000) :
    Calls Try.prog 43 #[.int .i64 day, .slice p H.length c] w fun e w' => ∃ x, e = .returned (.int .i64 x) ∧ HErr day H x ∧ Below w.heap.size w w' := by
  have R := Lib.hid r
  obtain ⟨n, hn⟩ : ∃ n, n = H.length := ⟨_, rfl⟩
  have HE := Lib.hid (show ∀ x, HErr day H x = ((64 < n ∧ x = 3) ∨ (n ≤ 64 ∧ ¬ (HOk H n ∧ 0 ≤ day ∧ day ≤ 1000000) ∧ x = 2) ∨ (n ≤ 64 ∧ HOk H n ∧ 0 ≤ day ∧ day ≤ 1000000 ∧ x = 0)) from fun x => by rw [hn]; rfl)
  rw [← hn] at ln ⊢
  have HN := Lib.hid hn
  clear hn r
  by_cases t0 : 64 < n
  · have t1 : decide (64 < n) = true := decide_eq_true t0
    go_enter Try.func43, Try.ntmps43
    go_wp2_with fail
    go_ret
    exact ⟨3, rfl, by rw [HE.out]; exact .inl ⟨t0, rfl⟩, Below.refl _ _⟩
  have t1 : decide (64 < n) = false := decide_eq_false t0
  go_enter Try.func43, Try.ntmps43
  go_wp2_with fail
  go_loopw [12] (fun kv wr => ∃ i : Nat, i ≤ n ∧ kv = .int .i64 i ∧ Hid (HOk H i) ∧ Hid (Below w.heap.size w wr)) (fun kv _ => n - (intOf kv).toNat)
  case atStart => exact ⟨0, Nat.zero_le _, rfl, Lib.hid fun i h => absurd h (by omega), Lib.hid (Below.refl _ _)⟩
  case round =>
    obtain ⟨i, hi, rfl, HO, HB⟩ := hrel
    by_cases t2 : i < n
    · obtain ⟨x, rfl, kx, cx⟩ := (R.out.below HB.out) i (by have := HN.out; omega)
      have i1 : (0 : Int) ≤ (i : Int) := by omega
      have i2 : (i : Int) < (n : Int) := by omega
      have SX := Lib.hid (show HOk H (i + 1) ↔ (0 ≤ gi H i ∧ gi H i ≤ 1000000) from
        ⟨fun h => h i (by omega), fun h j hj => by
          by_cases e : j = i
          · subst e; omega
          · exact HO.out j (by omega)⟩)
      have NO := Lib.hid (show ¬ HOk H (i + 1) → ¬ HOk H n from fun h g => h fun j hj => g j (by omega))
      clear HO
      generalize gi H i = P at *
      by_cases hp : 0 ≤ P ∧ P ≤ 1000000
      · have OK := Lib.hid (SX.out.2 hp)
        have C1 := Lib.hid (fun W => isDay_b P true ((dayB_iff P).2 hp) W)
        clear hp SX NO
        go_wp2_with fail
        refine (C1.out _).mono ?_
        rintro e w1 ⟨rfl, rfl⟩
        go_wp2_with fail
        go_roundw
        case rel => exact ⟨i + 1, by omega, by go_num, OK, (by first | exact HB | exact Lib.hid HB.out.drew | exact Lib.hid (below_drewN HB.out _))⟩
        case measure => simp [intOf]; omega
      · have NK := Lib.hid (NO.out fun h => hp (SX.out.1 h))
        have C1 := Lib.hid (fun W => isDay_b P false (dayB_not hp) W)
        clear hp SX NO
        go_wp2_with fail
        refine (C1.out _).mono ?_
        rintro e w1 ⟨rfl, rfl⟩
        go_wp2_with fail
        go_ret
        exact ⟨2, rfl, by rw [HE.out]; exact .inr (.inl ⟨by omega, fun h => NK.out h.1, rfl⟩), (by first | exact HB.out | exact HB.out.drew | exact below_drewN HB.out _)⟩
    · obtain rfl : i = n := by omega
      by_cases hd : 0 ≤ day ∧ day ≤ 1000000
      · have C1 := Lib.hid (fun W => isDay_b day true ((dayB_iff day).2 hd) W)
        have HD := Lib.hid hd
        clear hd
        go_wp2_with fail
        refine (C1.out _).mono ?_
        rintro e w1 ⟨rfl, rfl⟩
        go_wp2_with fail
        go_ret
        exact ⟨0, rfl, by rw [HE.out]; exact .inr (.inr ⟨by omega, HO.out, HD.out.1, HD.out.2, rfl⟩), (by first | exact HB.out | exact HB.out.drew | exact below_drewN HB.out _)⟩
      · have C1 := Lib.hid (fun W => isDay_b day false (dayB_not hd) W)
        have HD := Lib.hid hd
        clear hd
        go_wp2_with fail
        refine (C1.out _).mono ?_
        rintro e w1 ⟨rfl, rfl⟩
        go_wp2_with fail
        go_ret
        exact ⟨2, rfl, by rw [HE.out]; exact .inr (.inl ⟨by omega, fun h => HD.out h.2, rfl⟩), (by first | exact HB.out | exact HB.out.drew | exact below_drewN HB.out _)⟩

set_option maxRecDepth 100000 in
set_option maxHeartbeats 4000000 in
theorem index_any (p : Option Addr) (c : Nat) (H : List Int) (v : Int) (w : World) (r : NumR w p H) (ln : H.length ≤ 1000000) :
    Calls Try.prog 111 #[.slice p H.length c, .int .i64 v] w fun e w' => ∃ x, e = .returned (.int .i64 x) ∧ ((x = -1 ∧ v ∉ H) ∨ (0 ≤ x ∧ v ∈ H)) ∧ Below w.heap.size w w' := by
  have R := Lib.hid r
  have HM := Lib.hid (fun i (hi : i < H.length) => gi_mem hi)
  have HG := Lib.hid (fun (h : v ∈ H) => mem_gi h)
  obtain ⟨n, hn⟩ : ∃ n, n = H.length := ⟨_, rfl⟩
  rw [← hn] at ln HM HG ⊢
  have HN := Lib.hid hn
  clear hn r
  go_enter Try.func111, Try.ntmps111
  go_wp2_with fail
  go_loopw [8] (fun kv wr => ∃ i : Nat, i ≤ n ∧ kv = .int .i64 i ∧ Hid (∀ j, j < i → gi H j ≠ v) ∧ Hid (Below w.heap.size w wr)) (fun kv _ => n - (intOf kv).toNat)
  case atStart => exact ⟨0, Nat.zero_le _, rfl, Lib.hid fun j h => absurd h (by omega), Lib.hid (Below.refl _ _)⟩
  case round =>
    obtain ⟨i, hi, rfl, HO, HB⟩ := hrel
    by_cases t2 : i < n
    · obtain ⟨x, rfl, kx, cx⟩ := (R.out.below HB.out) i (by have := HN.out; omega)
      have i1 : (0 : Int) ≤ (i : Int) := by omega
      have i2 : (i : Int) < (n : Int) := by omega
      have MI := Lib.hid (HM.out i t2)
      have SX := Lib.hid (show gi H i ≠ v → ∀ j, j < i + 1 → gi H j ≠ v from fun h j hj => by
          by_cases e : j = i
          · subst e; exact h
          · exact HO.out j (by omega))
      clear HO kx
      generalize gi H i = P at *
      by_cases hp : P = v
      · have MV := Lib.hid (hp ▸ MI.out)
        have eb : (v == P) = true := by simp [hp]
        clear hp SX MI HM HG
        go_wp2_with fail
        try (go_quiet (fail))
        try (go_wp2_with fail)
        go_ret
        exact ⟨i, rfl, .inr ⟨i1, MV.out⟩, (by first | exact HB.out | exact HB.out.drew | exact below_drewN HB.out _)⟩
      · have SN := Lib.hid (SX.out hp)
        have eb : (v == P) = false := by
          rw [beq_eq_false_iff_ne]; exact fun e => hp e.symm
        clear hp SX MI HM HG
        go_wp2_with fail
        try (go_quiet (fail))
        try (go_wp2_with fail)
        go_roundw
        case rel => exact ⟨i + 1, by omega, by go_num, SN, (by first | exact HB | exact Lib.hid HB.out.drew | exact Lib.hid (below_drewN HB.out _))⟩
        case measure => simp [intOf]; omega
    · obtain rfl : i = n := by omega
      have NM := Lib.hid (show v ∉ H from fun h => by
        obtain ⟨j, hj, e⟩ := HG.out h
        exact HO.out j hj e)
      clear HM HG HO
      go_wp2_with fail
      go_ret
      exact ⟨-1, rfl, .inl ⟨rfl, NM.out⟩, (by first | exact HB.out | exact HB.out.drew | exact below_drewN HB.out _)⟩

theorem contains_any (p : Option Addr) (c : Nat) (H : List Int) (v : Int) (w : World) (r : NumR w p H) (ln : H.length ≤ 1000000) :
    Calls Try.prog 81 #[.slice p H.length c, .int .i64 v] w fun e w' => e = .returned (.bool (decide (v ∈ H))) ∧ Below w.heap.size w w' := by
  have IX := Lib.hid (index_any p c H v w r ln)
  obtain ⟨n, hn⟩ : ∃ n, n = H.length := ⟨_, rfl⟩
  rw [← hn] at IX ⊢
  clear hn ln r
  go_enter Try.func81, Try.ntmps81
  go_wp2_with fail
  refine IX.out.mono ?_
  rintro e w1 ⟨x, rfl, hx, hb⟩
  have HB := Lib.hid hb
  have HX := Lib.hid (show decide (0 ≤ x) = decide (v ∈ H) from by
    rcases hx with ⟨rfl, h⟩ | ⟨h0, h⟩
    · simp [h]
    · simp [h, h0])
  clear hx hb IX
  go_wp2_with fail
  go_ret
  exact ⟨ret_b HX.out, (by first | exact HB.out | exact HB.out.drew | exact below_drewN HB.out _)⟩

set_option maxRecDepth 100000 in
theorem isWorking_any (day : Int) (p : Option Addr) (c : Nat) (H : List Int) (w : World) (r : NumR w p H) (ln : H.length ≤ 1000000) (d0 : 0 ≤ day) :
    Calls Try.prog 44 #[.int .i64 day, .slice p H.length c] w fun e w' => e = .returned (.bool (wkB H day)) ∧ Below w.heap.size w w' := by
  have CX := Lib.hid (contains_any p c H day w r ln)
  have WB := Lib.hid (show wkB H day = (decide (1 < day % 7) && !decide (day ∈ H)) from by
    unfold wkB; rw [Bool.eq_iff_iff]; simp)
  obtain ⟨n, hn⟩ : ∃ n, n = H.length := ⟨_, rfl⟩
  rw [← hn] at CX ⊢
  obtain ⟨m, hm⟩ : ∃ m, m = day % 7 := ⟨_, rfl⟩
  rw [← hm] at WB
  have em : day.tmod 7 = m := by rw [Int.tmod_eq_emod_of_nonneg d0, hm]
  have m0 : 0 ≤ m := by omega
  have m1 : m < 7 := by omega
  have ew : IntKind.i64.wrap m = m := IntWalk.i64_in _ (by omega)
  clear hn hm ln r d0
  by_cases t : 1 < m
  · have tb : decide (1 < m) = true := decide_eq_true t
    rw [tb, Bool.true_and] at WB
    go_enter Try.func44, Try.ntmps44
    go_wp2_with fail
    try (go_quiet (fail))
    refine CX.out.mono ?_
    rintro e w1 ⟨rfl, hb⟩
    have HB := Lib.hid hb
    clear hb CX
    go_wp2_with fail
    go_ret
    exact ⟨ret_b WB.out.symm, (by first | exact HB.out | exact HB.out.drew | exact below_drewN HB.out _)⟩
  · have tb : decide (1 < m) = false := decide_eq_false t
    rw [tb, Bool.false_and] at WB
    go_enter Try.func44, Try.ntmps44
    go_wp2_with fail
    try (go_quiet (fail))
    try (go_wp2_with fail)
    go_ret
    exact ⟨ret_b WB.out.symm, (by first | exact Below.refl _ _ | exact (Below.refl _ _).drew | exact below_drewN (Below.refl _ _) _)⟩
end Go.Proofs.Ythfnaegfjacjbab
