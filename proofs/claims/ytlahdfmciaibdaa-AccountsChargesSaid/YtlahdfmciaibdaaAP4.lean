/- Accounts: days, holidays, working days: the reference's side; copied and same. -/
import Derived.Test.YtlahdfmciaibdaaAP1
namespace Go.Proofs.Ytlahdfmciaibdaa
open Go.RowKit
set_option linter.unusedVariables false
set_option linter.unusedSimpArgs false

theorem rDay_any (n : Int) (w : World) :
    Calls Try.prog 40 #[.int .i64 n] w fun e w' => e = .returned (.bool (dayB n)) ∧ w = w' := by
  go_enter Try.func40, Try.ntmps40
  go_wp2
  all_goals go_ret
  all_goals exact ⟨ret_b (by unfold dayB; rw [Bool.eq_iff_iff]; simp; try omega), rfl⟩
theorem rDay_b (n : Int) (r : Bool) (h : dayB n = r) (w : World) :
    Calls Try.prog 40 #[.int .i64 n] w fun e w' => e = .returned (.bool r) ∧ w = w' := by rw [← h]; exact rDay_any n w

set_option maxRecDepth 100000 in
set_option maxHeartbeats 4000000 in
theorem holidays_any (day : Int) (p : Option Addr) (c : Nat) (H : List Int) (w : World) (r : NumR w p H) (ln : H.length ≤ 1000000) :
    Calls Try.prog 45 #[.int .i64 day, .slice p H.length c] w fun e w' => ∃ x, e = .returned (.int .i64 x) ∧ HErr day H x ∧ Below w.heap.size w w' := by
  have R := Lib.hid r
  obtain ⟨n, hn⟩ : ∃ n, n = H.length := ⟨_, rfl⟩
  have HE := Lib.hid (show ∀ x, HErr day H x = ((64 < n ∧ x = 3) ∨ (n ≤ 64 ∧ ¬ (HOk H n ∧ 0 ≤ day ∧ day ≤ 1000000) ∧ x = 2) ∨ (n ≤ 64 ∧ HOk H n ∧ 0 ≤ day ∧ day ≤ 1000000 ∧ x = 0)) from fun x => by rw [hn]; rfl)
  rw [← hn] at ln ⊢
  have HN := Lib.hid hn
  clear hn r
  by_cases t0 : 64 < n
  · have t1 : decide (64 < n) = true := decide_eq_true t0
    go_enter Try.func45, Try.ntmps45
    go_wp2_with fail
    go_ret
    exact ⟨3, rfl, by rw [HE.out]; exact .inl ⟨t0, rfl⟩, Below.refl _ _⟩
  have t1 : decide (64 < n) = false := decide_eq_false t0
  go_enter Try.func45, Try.ntmps45
  go_wp2_with fail
  go_loopw [5] (fun kv wr => ∃ i : Nat, i ≤ n ∧ kv = .int .i64 i ∧ Hid (HOk H i) ∧ Hid (Below w.heap.size w wr)) (fun kv _ => n - (intOf kv).toNat)
  case atStart => exact ⟨0, Nat.zero_le _, rfl, Lib.hid fun i h => absurd h (by omega), Lib.hid (Below.refl _ _)⟩
  case round =>
    obtain ⟨i, hi, rfl, HO, HB⟩ := hrel
    by_cases t2 : i < n
    · obtain ⟨x, rfl, kx, cx⟩ := (R.out.below HB.out) i (by have := HN.out; omega)
      have i1 : (0 : Int) ≤ (i : Int) := by omega
      have i2 : (i : Int) < (n : Int) := by omega
      have SX := Lib.hid (show HOk H (i + 1) ↔ (0 ≤ gi H i ∧ gi H i ≤ 1000000) from
        ⟨fun h => h i (by omega), fun h j hj => by
          by_cases e : j = i
          · subst e; omega
          · exact HO.out j (by omega)⟩)
      have NO := Lib.hid (show ¬ HOk H (i + 1) → ¬ HOk H n from fun h g => h fun j hj => g j (by omega))
      clear HO
      generalize gi H i = P at *
      by_cases hp : 0 ≤ P ∧ P ≤ 1000000
      · have OK := Lib.hid (SX.out.2 hp)
        have C1 := Lib.hid (fun W => rDay_b P true ((dayB_iff P).2 hp) W)
        clear hp SX NO
        go_wp2_with fail
        refine (C1.out _).mono ?_
        rintro e w1 ⟨rfl, rfl⟩
        go_wp2_with fail
        go_roundw
        case rel => exact ⟨i + 1, by omega, by go_num, OK, (by first | exact HB | exact Lib.hid HB.out.drew | exact Lib.hid (below_drewN HB.out _))⟩
        case measure => simp [intOf]; omega
      · have NK := Lib.hid (NO.out fun h => hp (SX.out.1 h))
        have C1 := Lib.hid (fun W => rDay_b P false (dayB_not hp) W)
        clear hp SX NO
        go_wp2_with fail
        refine (C1.out _).mono ?_
        rintro e w1 ⟨rfl, rfl⟩
        go_wp2_with fail
        go_ret
        exact ⟨2, rfl, by rw [HE.out]; exact .inr (.inl ⟨by omega, fun h => NK.out h.1, rfl⟩), (by first | exact HB.out | exact HB.out.drew | exact below_drewN HB.out _)⟩
    · obtain rfl : i = n := by omega
      by_cases hd : 0 ≤ day ∧ day ≤ 1000000
      · have C1 := Lib.hid (fun W => rDay_b day true ((dayB_iff day).2 hd) W)
        have HD := Lib.hid hd
        clear hd
        go_wp2_with fail
        refine (C1.out _).mono ?_
        rintro e w1 ⟨rfl, rfl⟩
        go_wp2_with fail
        go_ret
        exact ⟨0, rfl, by rw [HE.out]; exact .inr (.inr ⟨by omega, HO.out, HD.out.1, HD.out.2, rfl⟩), (by first | exact HB.out | exact HB.out.drew | exact below_drewN HB.out _)⟩
      · have C1 := Lib.hid (fun W => rDay_b day false (dayB_not hd) W)
        have HD := Lib.hid hd
        clear hd
        go_wp2_with fail
        refine (C1.out _).mono ?_
        rintro e w1 ⟨rfl, rfl⟩
        go_wp2_with fail
        go_ret
        exact ⟨2, rfl, by rw [HE.out]; exact .inr (.inl ⟨by omega, fun h => HD.out h.2, rfl⟩), (by first | exact HB.out | exact HB.out.drew | exact below_drewN HB.out _)⟩

set_option maxRecDepth 100000 in
set_option maxHeartbeats 4000000 in
theorem works_any (day : Int) (p : Option Addr) (c : Nat) (H : List Int) (w : World) (r : NumR w p H) (ln : H.length ≤ 1000000) (d0 : 0 ≤ day) :
    Calls Try.prog 46 #[.int .i64 day, .slice p H.length c] w fun e w' => e = .returned (.bool (wkB H day)) ∧ Below w.heap.size w w' := by
  have R := Lib.hid r
  have HM := Lib.hid (fun i (hi : i < H.length) => gi_mem hi)
  have HG := Lib.hid (fun (h : day ∈ H) => mem_gi h)
  have WB := Lib.hid (show wkB H day = (decide (1 < day % 7) && !decide (day ∈ H)) from by
    unfold wkB; rw [Bool.eq_iff_iff]; simp)
  obtain ⟨n, hn⟩ : ∃ n, n = H.length := ⟨_, rfl⟩
  rw [← hn] at ln HM HG ⊢
  have HN := Lib.hid hn
  obtain ⟨m, hm⟩ : ∃ m, m = day % 7 := ⟨_, rfl⟩
  rw [← hm] at WB
  have em : day.tmod 7 = m := by rw [Int.tmod_eq_emod_of_nonneg d0, hm]
  have m0 : 0 ≤ m := by omega
  have m1 : m < 7 := by omega
  have ew : IntKind.i64.wrap m = m := IntWalk.i64_in _ (by omega)
  clear hn hm r d0
  by_cases t : m < 2
  · have W0 := Lib.hid (show wkB H day = false from by rw [WB.out, decide_eq_false (by omega), Bool.false_and])
    clear WB HM HG
    go_enter Try.func46, Try.ntmps46
    go_wp2_with fail
    go_ret
    exact ⟨ret_b W0.out.symm, (by first | exact Below.refl _ _ | exact (Below.refl _ _).drew | exact below_drewN (Below.refl _ _) _)⟩
  have W0 := Lib.hid (show wkB H day = !decide (day ∈ H) from by rw [WB.out, decide_eq_true (by omega), Bool.true_and])
  clear WB
  go_enter Try.func46, Try.ntmps46
  go_wp2_with fail
  go_loopw [5] (fun kv wr => ∃ i : Nat, i ≤ n ∧ kv = .int .i64 i ∧ Hid (∀ j, j < i → gi H j ≠ day) ∧ Hid (Below w.heap.size w wr)) (fun kv _ => n - (intOf kv).toNat)
  case atStart => exact ⟨0, Nat.zero_le _, rfl, Lib.hid fun j h => absurd h (by omega), (by first | exact Lib.hid (Below.refl _ _) | exact Lib.hid (Below.refl _ _).drew)⟩
  case round =>
    obtain ⟨i, hi, rfl, HO, HB⟩ := hrel
    by_cases t2 : i < n
    · obtain ⟨x, rfl, kx, cx⟩ := (R.out.below HB.out) i (by have := HN.out; omega)
      have i1 : (0 : Int) ≤ (i : Int) := by omega
      have i2 : (i : Int) < (n : Int) := by omega
      have MI := Lib.hid (HM.out i t2)
      have SX := Lib.hid (show gi H i ≠ day → ∀ j, j < i + 1 → gi H j ≠ day from fun h j hj => by
          by_cases e : j = i
          · subst e; exact h
          · exact HO.out j (by omega))
      clear HO kx
      generalize gi H i = P at *
      by_cases hp : P = day
      · have MV := Lib.hid (show wkB H day = false from by rw [W0.out, decide_eq_true (hp ▸ MI.out)]; rfl)
        have eb : (P == day) = true := by simp [hp]
        clear hp SX MI HM HG W0
        go_wp2_with fail
        try (go_quiet (fail))
        try (go_wp2_with fail)
        go_ret
        exact ⟨ret_b MV.out.symm, (by first | exact HB.out | exact HB.out.drew | exact below_drewN HB.out _)⟩
      · have SN := Lib.hid (SX.out hp)
        have eb : (P == day) = false := beq_eq_false_iff_ne.2 hp
        clear hp SX MI HM HG W0
        go_wp2_with fail
        try (go_quiet (fail))
        try (go_wp2_with fail)
        go_roundw
        case rel => exact ⟨i + 1, by omega, by go_num, SN, (by first | exact HB | exact Lib.hid HB.out.drew | exact Lib.hid (below_drewN HB.out _))⟩
        case measure => simp [intOf]; omega
    · obtain rfl : i = n := by omega
      have NM := Lib.hid (show wkB H day = true from by
        rw [W0.out, decide_eq_false (fun h => by
          obtain ⟨j, hj, e⟩ := HG.out h
          exact HO.out j hj e)]; rfl)
      clear HM HG HO W0
      go_wp2_with fail
      go_ret
      exact ⟨ret_b NM.out.symm, (by first | exact HB.out | exact HB.out.drew | exact below_drewN HB.out _)⟩

set_option maxRecDepth 100000 in
theorem rWorking_any (day : Int) (p : Option Addr) (c : Nat) (H : List Int) (w : World) (r : NumR w p H) (ln : H.length ≤ 1000000) :
    Calls Try.prog 18 #[.int .i64 day, .slice p H.length c] w fun e w' => ∃ b E, e = .returned (.tuple #[.bool b, .int .i64 E]) ∧ WkQ day H b E ∧ Below w.heap.size w w' := by
  have CD := Lib.hid (holidays_any day p c H w r ln)
  have WK := Lib.hid (fun W h h0 => works_any day p c H W h ln h0)
  have R := Lib.hid r
  obtain ⟨n, hn⟩ : ∃ n, n = H.length := ⟨_, rfl⟩
  rw [← hn] at CD WK ⊢
  clear hn ln r
  go_enter Try.func18, Try.ntmps18
  go_wp2_with fail
  refine CD.out.mono ?_
  rintro e w1 ⟨x, rfl, hx, hb⟩
  have HX := Lib.hid hx
  have HB := Lib.hid hb
  clear hx hb CD
  by_cases x0 : x = 0
  · subst x0
    have R1 := Lib.hid (R.out.below HB.out)
    have D0 := Lib.hid HX.out.day.2.2.1
    go_wp2_with fail
    try (go_quiet (fail))
    refine (WK.out _ (by first | exact R1.out | exact R1.out.below ((Below.refl _ _).drew) | exact R1.out.below (below_drewN (Below.refl _ _) _)) D0.out).mono ?_
    rintro e w2 ⟨rfl, hb⟩
    have HB2 := Lib.hid (HB.out.trans ((show Below _ _ w2 from by first | exact hb | exact ((Below.refl _ _).drew).trans hb | exact (below_drewN (Below.refl _ _) _).trans hb).mono HB.out.size))
    clear hb WK HB
    go_wp2_with fail
    go_ret2
    exact ⟨_, _, rfl, ⟨HX.out, fun h => absurd rfl h, fun _ => rfl⟩, (by first | exact HB2.out | exact HB2.out.drew | exact below_drewN HB2.out _)⟩
  · have xb : (x == 0) = false := beq_eq_false_iff_ne.2 x0
    have X0 := Lib.hid x0
    clear x0 WK
    go_wp2_with fail
    try (go_quiet (fail))
    try (go_wp2_with fail)
    go_ret2
    exact ⟨_, _, rfl, ⟨HX.out, fun _ => rfl, fun h => absurd h X0.out⟩, (by first | exact HB.out | exact HB.out.drew | exact below_drewN HB.out _)⟩

/-- What the reference's Prompt answers: it stops beyond the last day. -/
def PrR (day n : Int) (H : List Int) (x E : Int) : Prop :=
  PrQ day n H x E ∨ (HErr day H 0 ∧ 1 ≤ n ∧ n ≤ 366 ∧ E = 4 ∧ x = 0 ∧ ∃ k : Nat, wcnt H day k < n.toNat ∧ 1000000 < day + k)
theorem prompt_eq {day n : Int} {H : List Int} {x y E F : Int} (h : PrQ day n H x E) (g : PrR day n H y F) : x = y ∧ E = F := by
  have det : ∀ {y F : Int}, PrQ day n H y F → x = y ∧ E = F := fun {y F} g => by
    rcases h with ⟨a, b, c⟩ | ⟨a, b, c, d⟩ | ⟨a, b, c, k, d, e⟩ <;> rcases g with ⟨a', b', c'⟩ | ⟨a', b', c', d'⟩ | ⟨a', b', c', k', d', e'⟩
    · exact ⟨by omega, b.det b'⟩
    · exact absurd (b.det a') a
    · exact absurd (b.det a') a
    · exact absurd (b'.det a) a'
    · exact ⟨by omega, by omega⟩
    · exact absurd ⟨b', c'⟩ b
    · exact absurd (b'.det a) a'
    · exact absurd ⟨b, c⟩ b'
    · have := d.uniq d'
      subst this
      constructor <;> omega
  rcases g with g | ⟨a, b, c, rfl, rfl, k, d, e⟩
  · exact det g
  · obtain ⟨j, w, q⟩ := (show ∃ k : Nat, NthW H day n.toNat k ∧ ((1000000 < day + k ∧ E = 4 ∧ x = 0) ∨ (day + k ≤ 1000000 ∧ E = 0 ∧ x = day + k)) from by
      rcases h with ⟨a', b', _⟩ | ⟨_, a', _, _⟩ | ⟨_, _, _, k, d, e⟩
      · exact absurd (b'.det a) a'
      · exact absurd ⟨b, c⟩ a'
      · exact ⟨k, d, e⟩)
    have : k < j := by
      apply Classical.byContradiction
      intro z
      have := wcnt_mono H day (j := j) (k := k) (by omega)
      rw [w.c] at this; omega
    constructor <;> omega

set_option maxRecDepth 100000 in
set_option maxHeartbeats 4000000 in
theorem rPrompt_any (day n : Int) (n1 : -9223372036854775808 ≤ n) (n2 : n ≤ 9223372036854775807) (p : Option Addr) (c : Nat) (H : List Int) (w : World) (r : NumR w p H) (ln : H.length ≤ 1000000) :
    Calls Try.prog 20 #[.int .i64 day, .int .i64 n, .slice p H.length c] w fun e w' => ∃ x E, e = .returned (.tuple #[.int .i64 x, .int .i64 E]) ∧ PrR day n H x E ∧ Below w.heap.size w w' := by
  have CD := Lib.hid (holidays_any day p c H w r ln)
  have WK := Lib.hid (fun x W h h0 => works_any x p c H W h ln h0)
  have R := Lib.hid r
  obtain ⟨z, hz⟩ : ∃ z, z = H.length := ⟨_, rfl⟩
  rw [← hz] at CD WK ⊢
  clear hz ln r
  go_enter Try.func20, Try.ntmps20
  go_wp2_with fail
  refine CD.out.mono ?_
  rintro e w1 ⟨x, rfl, hx, hb⟩
  have HX := Lib.hid hx
  have HB := Lib.hid hb
  clear hx hb CD
  by_cases x0 : x = 0
  · subst x0
    by_cases t1 : n < 1
    · have tb : decide (n < 1) = true := decide_eq_true t1
      clear WK
      go_wp2_with fail
      try (go_quiet (fail))
      try (go_wp2_with fail)
      go_ret2
      exact ⟨_, _, rfl, .inl (.inr (.inl ⟨HX.out, by omega, rfl, rfl⟩)), (by first | exact HB.out | exact HB.out.drew | exact below_drewN HB.out _)⟩
    by_cases t2 : 366 < n
    · have tb : decide (n < 1) = false := decide_eq_false t1
      have tc : decide (366 < n) = true := decide_eq_true t2
      clear WK
      go_wp2_with fail
      try (go_quiet (fail))
      try (go_wp2_with fail)
      go_ret2
      exact ⟨_, _, rfl, .inl (.inr (.inl ⟨HX.out, by omega, rfl, rfl⟩)), (by first | exact HB.out | exact HB.out.drew | exact below_drewN HB.out _)⟩
    obtain ⟨m, rfl⟩ := Int.eq_ofNat_of_zero_le (show 0 ≤ n by omega)
    have m1 : 1 ≤ m := by omega
    have m2 : m ≤ 366 := by omega
    have tb : decide ((m : Int) < 1) = false := decide_eq_false t1
    have tc : decide (366 < (m : Int)) = false := decide_eq_false t2
    obtain ⟨h1, h2, h3, h4⟩ := HX.out.day
    have HM := Lib.hid h2.mem
    clear t1 t2 n1 n2 h1 h2
    go_wp2_with fail
    try (go_quiet (fail))
    try (go_wp2_with fail)
    go_loopw [0, 1] (fun dv nv wr => ∃ k u : Nat, dv = .int .i64 (day + k) ∧ nv = .int .i64 u ∧ u ≤ m ∧ day + k ≤ 1000001 ∧ Hid (PrK H day m k (m - u)) ∧ Hid (Below w.heap.size w wr)) (fun dv _ _ => (1001200 - intOf dv).toNat)
    case atStart =>
      refine ⟨0, m, by simp, rfl, Nat.le_refl _, by simp; omega, ?_, (by first | exact HB | exact Lib.hid HB.out.drew | exact Lib.hid (below_drewN HB.out _))⟩
      rw [Nat.sub_self]
      exact Lib.hid (PrK.start m1 h4)
    case round =>
      clear HB
      obtain ⟨k, u, rfl, rfl, hu, hk, PK, HB⟩ := hrel
      by_cases tu : 0 < u
      · have u0 : (0 : Int) < (u : Int) := by omega
        have ub : decide ((0 : Int) < (u : Int)) = true := decide_eq_true u0
        have ub2 : decide (0 < u) = true := decide_eq_true tu
        by_cases td : day + k ≤ 1000000
        · have tdb : decide (day + k ≤ 1000000) = true := decide_eq_true td
          have NX := Lib.hid (PK.out.next (by omega) HM.out)
          have R1 := Lib.hid (R.out.below HB.out)
          have e1 : IntKind.i64.wrap (day + k + 1) = day + k + 1 := IntWalk.i64_in _ (by omega)
          have kk : day + ((k + 1 : Nat) : Int) = day + k + 1 := by omega
          have W1 := Lib.hid (fun W h => WK.out (day + k + 1) W h (by omega))
          clear PK
          go_wp2_with fail
          try (go_quiet (fail))
          try (go_wp2_with fail)
          refine (W1.out _ (by first | exact R1.out | exact R1.out.below ((Below.refl _ _).drew) | exact R1.out.below (below_drewN (Below.refl _ _) _))).mono ?_
          rintro e w2 ⟨rfl, hb⟩
          have HB2 := Lib.hid (HB.out.trans ((show Below _ _ w2 from by first | exact hb | exact ((Below.refl _ _).drew).trans hb | exact (below_drewN (Below.refl _ _) _).trans hb).mono HB.out.size))
          clear hb W1 R1 HB
          cases hw : wkB H (day + k + 1) with
          | true =>
            rw [hw] at NX
            obtain ⟨u', rfl⟩ : ∃ u', u = u' + 1 := ⟨u - 1, by omega⟩
            have NX2 : Hid (PrK H day m (k + 1) (m - u')) := by
              have := NX.out
              simp only [if_true] at this
              rw [show m - (u' + 1) + 1 = m - u' by omega] at this
              exact Lib.hid this
            have e2 : IntKind.i64.wrap (((u' + 1 : Nat) : Int) - 1) = u' := by rw [show ((u' + 1 : Nat) : Int) - 1 = u' by omega]; exact IntWalk.i64_in _ (by omega)
            clear NX hw
            go_wp2_with fail
            go_roundw
            case rel => exact ⟨k + 1, u', by rw [kk], by go_num, by omega, by omega, NX2, (by first | exact HB2 | exact Lib.hid HB2.out.drew | exact Lib.hid (below_drewN HB2.out _))⟩
            case measure => simp [intOf]; omega
          | false =>
            rw [hw] at NX
            have NX2 : Hid (PrK H day m (k + 1) (m - u)) := NX
            clear NX hw
            go_wp2_with fail
            go_roundw
            case rel => exact ⟨k + 1, u, by rw [kk], rfl, by omega, by omega, NX2, (by first | exact HB2 | exact Lib.hid HB2.out.drew | exact Lib.hid (below_drewN HB2.out _))⟩
            case measure => simp [intOf]; omega
        · have tdb : decide (day + k ≤ 1000000) = false := decide_eq_false td
          have ty : 1000000 < day + (k : Int) := by omega
          have tz : decide (1000000 < day + (k : Int)) = true := decide_eq_true ty
          have CK := Lib.hid (show wcnt H day k < ((m : Int).toNat) from by rw [PK.out.cnt]; simp; omega)
          clear PK WK tb tc
          go_wp2_with fail
          try (go_quiet (fail))
          try (go_wp2_with fail)
          go_ret2
          exact ⟨_, _, rfl, .inr ⟨HX.out, by omega, by omega, rfl, rfl, k, CK.out, ty⟩, (by first | exact HB.out | exact HB.out.drew | exact below_drewN HB.out _)⟩
      · obtain rfl : u = 0 := by omega
        have NW := Lib.hid (PK.out.last (by omega))
        have NW2 : Hid (NthW H day ((m : Int).toNat) k) := NW
        obtain ⟨y, hy⟩ : ∃ y, y = day + (k : Int) := ⟨_, rfl⟩
        rw [← hy] at hk ⊢
        have HY := Lib.hid hy
        clear hy PK WK NW tb tc
        by_cases ty : 1000000 < y
        · go_wp2_with fail
          try (go_quiet (fail))
          try (go_wp2_with fail)
          go_ret2
          exact ⟨_, _, rfl, .inl (.inr (.inr ⟨HX.out, by omega, by omega, k, NW2.out, .inl ⟨by have := HY.out; omega, rfl, rfl⟩⟩)), (by first | exact HB.out | exact HB.out.drew | exact below_drewN HB.out _)⟩
        · go_wp2_with fail
          try (go_quiet (fail))
          try (go_wp2_with fail)
          go_ret2
          exact ⟨_, _, rfl, .inl (.inr (.inr ⟨HX.out, by omega, by omega, k, NW2.out, .inr ⟨by have := HY.out; omega, rfl, HY.out⟩⟩)), (by first | exact HB.out | exact HB.out.drew | exact below_drewN HB.out _)⟩
  · have xb : (x != 0) = true := by simpa using x0
    have xc : (x == 0) = false := beq_eq_false_iff_ne.2 x0
    have X0 := Lib.hid x0
    clear x0 WK
    go_wp2_with fail
    try (go_quiet (fail))
    try (go_wp2_with fail)
    go_ret2
    exact ⟨_, _, rfl, .inl (.inl ⟨X0.out, HX.out, rfl⟩), (by first | exact HB.out | exact HB.out.drew | exact below_drewN HB.out _)⟩
end Go.Proofs.Ytlahdfmciaibdaa
