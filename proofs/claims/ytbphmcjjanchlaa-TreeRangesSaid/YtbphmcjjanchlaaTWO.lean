/- TreeRanges, walked. -/
import Derived.Test.YtbphmcjjanchlaaTWN
import Derived.Test.YtbphmcjjanchlaaIS
import Derived.Test.YtbphmcjjanchlaaTWP
import Derived.Deep.Cut
import Derived.Deep.CutRange
namespace Go.Proofs.Ytbphmcjjanchlaa
open Go.RowKit Go.Proofs.Ytbphmcjjanchlaa.Mii
set_option linter.unusedVariables false
set_option linter.unusedSimpArgs false

set_option maxRecDepth 100000 in
set_option maxHeartbeats 20000000 in
theorem treeRanges_walk (p : Option Addr) (c : Nat) (S : List OpV) (w : World) (r : OpsR w p S) (ln : S.length ≤ 9223372036854775807) (x : Int) (hx0 : 0 ≤ x ∧ x ≤ 255) (fr : Int) (hf0 : -9223372036854775808 ≤ fr ∧ fr ≤ 9223372036854775807) (k : Int) (hk0 : -9223372036854775808 ≤ k ∧ k ≤ 9223372036854775807) (tt : Int) (ht0 : -9223372036854775808 ≤ tt ∧ tt ≤ 9223372036854775807) :
    Calls Try.prog 10 #[.slice p S.length c, .int .u8 x, .int .i64 fr, .int .i64 k, .int .i64 tt] w fun e w' => e = .returned (.bool true) ∧ Below w.heap.size w w' := by
  have AL := Lib.hid Go.Proofs.Ytbphmcjjanchlaa.Mis.alive_any
  have CF := Lib.hid (fun W => few_any p S.length c W ln)
  by_cases hlen : S.length ≤ 200
  case neg =>
    rw [decide_eq_false hlen] at CF
    generalize hx : S.length = x at *
    clear hx r hlen
    go_enter Try.func10, Try.ntmps10
    go_wp2_with fail
    refine (CF.out _).mono ?_
    rintro e w0 ⟨rfl, rfl⟩
    go_wp2_with fail
    refine (AL.out _).mono ?_
    rintro e w1 ⟨rfl, st⟩
    go_wp2_with fail
    go_ret
    exact ⟨rfl, st⟩
  rw [decide_eq_true hlen] at CF
  have CP := Lib.hid (played_any p c S w r hlen)
  have KR := Lib.hid hk0
  have FR := Lib.hid hf0
  have TR := Lib.hid ht0
  generalize hy : S.length = y at *
  clear hy r ln hk0 hf0 ht0
  go_enter Try.func10, Try.ntmps10
  go_wp2_with fail
  refine (CF.out _).mono ?_
  rintro e w0 ⟨rfl, rfl⟩
  go_wp2_with fail
  refine CP.out.mono ?_
  rintro e w1 ⟨bw, KS, ms, vm, vl, rfl, hW, hB, hk, hm⟩
  obtain ⟨gm, cm, gl, cl, rfl, rfl, gm0, -, hE⟩ := hW.entry
  obtain ⟨n, hn⟩ : ∃ n, n = ms.length := ⟨_, rfl⟩
  have hn0 : 0 < n := by rw [hn]; exact hW.ne
  obtain ⟨i, hi⟩ : ∃ i : Nat, i = x.toNat % n := ⟨_, rfl⟩
  have li : i < n := by rw [hi]; exact Nat.mod_lt _ hn0
  obtain ⟨e, s, d, -, -, O, -, rr, mi, ni⟩ := hE i (by rw [← hn]; exact li)
  obtain ⟨c0, c1, -, -, -⟩ := hW.cells
  rw [← hn] at c0 c1 hm
  have q1 : x.tmod (n : Int) = (i : Int) := by rw [Int.tmod_eq_emod_of_nonneg hx0.1, hi, Int.natCast_emod, Int.toNat_of_nonneg hx0.1]
  have n5 : ¬ n = 0 := by omega
  have q4 : (decide ((n : Int) = 0)) = false := decide_eq_false (by omega)
  have q5 : x % (n : Int) = (i : Int) := by rw [hi, Int.natCast_emod, Int.toNat_of_nonneg hx0.1]
  have q2 := IntWalk.i64_in x (by omega)
  have q3 := IntWalk.i64_in (i : Int) (by omega)
  have i1 : (0 : Int) ≤ (i : Int) := by omega
  have i2 : (i : Int) < (n : Int) := by omega
  have n0 : ¬ (n : Int) = 0 := by omega
  have n1 : ((n : Int) == 0) = false := by simp; omega
  have ll : e.L.length ≤ 1000000 := by have := O.len; omega
  have HB := Lib.hid hB
  have OO := Lib.hid O
  have TE := Lib.hid O.at_
  generalize e.p = ep at *
  clear hW hE hB hk CF CP hi rr ni O c1 hn
  go_wp2_with fail
  go_cut [13] from 31 to 44 (fun v13 wx => ∃ B, v13 = .pointer (some ⟨B, 0, none⟩) ∧ wx.cell? ⟨B, 0, none⟩ = some (.pointer ep) ∧ Below w1.heap.size w1 wx)
  case first =>
    refine wp_region_G (fun w' => w'.cell? ⟨bw, 0, none⟩ = some (.slice (some ⟨gm, 0, none⟩) n cm) ∧ w'.cell? ⟨gm, i, none⟩ = some (.pointer ep)) 15 (by kernel_rfl) ?_
    have hS : w1.drew.cell? ⟨bw, 0, none⟩ = some (.slice (some ⟨gm, 0, none⟩) n cm) ∧ w1.drew.cell? ⟨gm, i, none⟩ = some (.pointer ep) := ⟨cell_dr c0, cell_dr mi⟩
    refine wpAnyG_take (i := 0) (oi := _) (v := .pointer (some ⟨bw, 0, none⟩)) rfl (by kernel_rfl) (by kernel_rfl) (by kernel_rfl) (by kernel_rfl) (by kernel_rfl) (by decide) (fun _ _ _ h => h) (by rfl) (fun w' hw' => ?_) hS ?_
    · obtain ⟨h1, h2⟩ := hw'
      go_simp
    try simp only [Act.put, List.setIfInBounds_toArray, List.set_cons_zero, List.set_cons_succ]
    refine wpAnyG_take (i := 1) (oi := _) (v := .pointer (some ⟨bw, 0, none⟩)) rfl (by kernel_rfl) (by kernel_rfl) (by kernel_rfl) (by kernel_rfl) (by kernel_rfl) (by decide) (fun _ _ _ h => h) (by rfl) (fun w' hw' => ?_) hS ?_
    · obtain ⟨h1, h2⟩ := hw'
      go_simp
    try simp only [Act.put, List.setIfInBounds_toArray, List.set_cons_zero, List.set_cons_succ]
    refine wpAnyG_take (i := 2) (oi := _) (v := .pointer (some ⟨bw, 0, none⟩)) rfl (by kernel_rfl) (by kernel_rfl) (by kernel_rfl) (by kernel_rfl) (by kernel_rfl) (by decide) (fun _ _ _ h => h) (by rfl) (fun w' hw' => ?_) hS ?_
    · obtain ⟨h1, h2⟩ := hw'
      go_simp
    try simp only [Act.put, List.setIfInBounds_toArray, List.set_cons_zero, List.set_cons_succ]
    refine wpAnyG_take (i := 3) (oi := _) (v := .slice (some ⟨gm, 0, none⟩) n cm) rfl (by kernel_rfl) (by kernel_rfl) (by kernel_rfl) (by kernel_rfl) (by kernel_rfl) (by decide) (fun _ _ _ h => h) (by rfl) (fun w' hw' => ?_) hS ?_
    · obtain ⟨h1, h2⟩ := hw'
      go_simp
    try simp only [Act.put, List.setIfInBounds_toArray, List.set_cons_zero, List.set_cons_succ]
    refine wpAnyG_take (i := 4) (oi := _) (v := .int .u8 x) rfl (by kernel_rfl) (by kernel_rfl) (by kernel_rfl) (by kernel_rfl) (by kernel_rfl) (by decide) (fun _ _ _ h => h) (by rfl) (fun w' hw' => ?_) hS ?_
    · obtain ⟨h1, h2⟩ := hw'
      go_simp
    try simp only [Act.put, List.setIfInBounds_toArray, List.set_cons_zero, List.set_cons_succ]
    refine wpAnyG_take (i := 5) (oi := _) (v := .int .i64 x) rfl (by kernel_rfl) (by kernel_rfl) (by kernel_rfl) (by kernel_rfl) (by kernel_rfl) (by decide) (fun _ _ _ h => h) (by rfl) (fun w' hw' => ?_) hS ?_
    · obtain ⟨h1, h2⟩ := hw'
      go_simp
    try simp only [Act.put, List.setIfInBounds_toArray, List.set_cons_zero, List.set_cons_succ]
    refine wpAnyG_take (i := 6) (oi := _) (v := .pointer (some ⟨bw, 0, none⟩)) rfl (by kernel_rfl) (by kernel_rfl) (by kernel_rfl) (by kernel_rfl) (by kernel_rfl) (by decide) (fun _ _ _ h => h) (by rfl) (fun w' hw' => ?_) hS ?_
    · obtain ⟨h1, h2⟩ := hw'
      go_simp
    try simp only [Act.put, List.setIfInBounds_toArray, List.set_cons_zero, List.set_cons_succ]
    refine wpAnyG_take (i := 7) (oi := _) (v := .pointer (some ⟨bw, 0, none⟩)) rfl (by kernel_rfl) (by kernel_rfl) (by kernel_rfl) (by kernel_rfl) (by kernel_rfl) (by decide) (fun _ _ _ h => h) (by rfl) (fun w' hw' => ?_) hS ?_
    · obtain ⟨h1, h2⟩ := hw'
      go_simp
    try simp only [Act.put, List.setIfInBounds_toArray, List.set_cons_zero, List.set_cons_succ]
    refine wpAnyG_take (i := 8) (oi := _) (v := .pointer (some ⟨bw, 0, none⟩)) rfl (by kernel_rfl) (by kernel_rfl) (by kernel_rfl) (by kernel_rfl) (by kernel_rfl) (by decide) (fun _ _ _ h => h) (by rfl) (fun w' hw' => ?_) hS ?_
    · obtain ⟨h1, h2⟩ := hw'
      go_simp
    try simp only [Act.put, List.setIfInBounds_toArray, List.set_cons_zero, List.set_cons_succ]
    refine wpAnyG_take (i := 9) (oi := _) (v := .slice (some ⟨gm, 0, none⟩) n cm) rfl (by kernel_rfl) (by kernel_rfl) (by kernel_rfl) (by kernel_rfl) (by kernel_rfl) (by decide) (fun _ _ _ h => h) (by rfl) (fun w' hw' => ?_) hS ?_
    · obtain ⟨h1, h2⟩ := hw'
      go_simp
    try simp only [Act.put, List.setIfInBounds_toArray, List.set_cons_zero, List.set_cons_succ]
    refine wpAnyG_take (i := 10) (oi := _) (v := .int .i64 n) rfl (by kernel_rfl) (by kernel_rfl) (by kernel_rfl) (by kernel_rfl) (by kernel_rfl) (by decide) (fun _ _ _ h => h) (by rfl) (fun w' hw' => ?_) hS ?_
    · obtain ⟨h1, h2⟩ := hw'
      go_simp
    try simp only [Act.put, List.setIfInBounds_toArray, List.set_cons_zero, List.set_cons_succ]
    refine wpAnyG_take (i := 11) (oi := _) (v := .int .i64 i) rfl (by kernel_rfl) (by kernel_rfl) (by kernel_rfl) (by kernel_rfl) (by kernel_rfl) (by decide) (fun _ _ _ h => h) (by rfl) (fun w' hw' => ?_) hS ?_
    · obtain ⟨h1, h2⟩ := hw'
      first | (go_simp; done) | (go_simp; simp [Op.intDiv, n0, n5, q1, q5]; done) | (simp [go_sem, Op.intDiv, n0, n5, q1, q5]; done)
    try simp only [Act.put, List.setIfInBounds_toArray, List.set_cons_zero, List.set_cons_succ]
    refine wpAnyG_take (i := 12) (oi := _) (v := .pointer (some ⟨gm, i, none⟩)) rfl (by kernel_rfl) (by kernel_rfl) (by kernel_rfl) (by kernel_rfl) (by kernel_rfl) (by decide) (fun _ _ _ h => h) (by rfl) (fun w' hw' => ?_) hS ?_
    · obtain ⟨h1, h2⟩ := hw'
      go_simp
    try simp only [Act.put, List.setIfInBounds_toArray, List.set_cons_zero, List.set_cons_succ]
    refine wpAnyG_take (i := 13) (oi := _) (v := .agg #[.pointer ep]) rfl (by kernel_rfl) (by kernel_rfl) (by kernel_rfl) (by kernel_rfl) (by kernel_rfl) (by decide) (fun _ _ _ h => h) (by rfl) (fun w' hw' => ?_) hS ?_
    · obtain ⟨h1, h2⟩ := hw'
      go_simp
    try simp only [Act.put, List.setIfInBounds_toArray, List.set_cons_zero, List.set_cons_succ]
    refine wpAnyG_one (i := 14) (o := _) (by kernel_rfl) rfl (fun K hK => ?_)
    go_simp
    refine hK.out _ _ (fun _ => ⟨cell_al _ (cell_dr c0), cell_al _ (cell_dr mi)⟩) ?_
    try simp only [Act.put, List.setIfInBounds_toArray, List.set_cons_zero, List.set_cons_succ]
    clear hK
    refine wpAnyG_one (i := 15) (o := _) (by kernel_rfl) rfl (fun K hK => ?_)
    go_simp
    refine hK.out _ _ (fun h => absurd h (by decide)) ?_
    try simp only [Act.put, List.setIfInBounds_toArray, List.set_cons_zero, List.set_cons_succ]
    clear hK
    refine wpAnyG_done (by kernel_rfl) ?_ _
    go_wp2_with fail
    go_meet
    exact ⟨_, rfl, by simp [go_sem], by first | exact ((Below.refl _ w1).drew.alloc (Nat.le_refl _) _).setCell (by simp) _ | exact Below.dr ((Below.refl _ w1).alloc (Nat.le_refl _) _)⟩
  case rest =>
    obtain ⟨B, rfl, xB, st⟩ := hcut
    have OX := Lib.hid (OO.out.keep (KeepI.below st))
    have TX := Lib.hid (TE.out.grow st)
    clear TE
    have BX := Lib.hid (HB.out.trans (st.mono HB.out.size))
    clear OO HB c0 mi st q1 q2 q3 i1 i2 n0 n1 q4 q5
    have GX := Lib.hid xB
    clear xB
    go_upto_region 5 with fail
    go_cut [14, 15] from 45 to 52 (fun v14 v15 wx => ∃ lo hi : Int, v14 = .int .i64 lo ∧ v15 = .int .i64 hi ∧ wx = wc ∧ (lo ≤ fr ∧ lo ≤ k ∧ lo ≤ tt ∧ fr ≤ hi ∧ k ≤ hi ∧ tt ≤ hi))
    case first =>
      go_wp2_with fail
      all_goals
        go_meet
        exact ⟨_, _, rfl, rfl, rfl, by omega⟩
    case rest =>
      obtain ⟨lo, hi, rfl, rfl, rfl, h1, h2, h3, h4, h5, h6⟩ := hcut
      go_upto_region 6 with fail
      go_cut [16] from 53 to 61 (fun v16 wy => ∃ mid : Int, v16 = .int .i64 mid ∧ wy = wc ∧ lo ≤ mid ∧ mid ≤ hi)
      case first =>
        go_wp2_with fail
        all_goals
          go_meet
          exact ⟨_, rfl, rfl, by omega, by omega⟩
      case rest =>
        obtain ⟨mid, rfl, rfl, m1, m2⟩ := hcut
        clear h1 h2 h3 h4 h5 h6
        go_wp2_with fail
        have xB := GX.out
        have CR := Lib.hid (fun (u v : Int) (W' : World) (b : Below wc.heap.size wc W') => Range_any ep e.t u v W' (TX.out.grow b) OX.out.avl OX.out.tasc (by rw [OX.out.sz]; omega))
        refine wp_region_G (fun w' => w'.cell? ⟨B, 0, none⟩ = some (.pointer ep)) 15 (by kernel_rfl) ?_
        have hS : wc.drew.cell? ⟨B, 0, none⟩ = some (.pointer ep) := cell_dr xB
        refine wpAnyG_take2 (i := 0) (d := 62) (oi := _) (v := .agg #[.pointer ep]) rfl (by kernel_rfl) (by kernel_rfl) (by kernel_rfl) (by kernel_rfl) (by kernel_rfl) (by kernel_rfl) (by decide) (fun _ _ _ h => h) (by rfl) (fun w' hw' => ?_) hS ?_
        · go_simp
        simp only [List.setIfInBounds_toArray, List.set_cons_zero, List.set_cons_succ]
        refine wpAnyG_take2 (i := 1) (d := 63) (oi := _) (v := .int .i64 lo) rfl (by kernel_rfl) (by kernel_rfl) (by kernel_rfl) (by kernel_rfl) (by kernel_rfl) (by kernel_rfl) (by decide) (fun _ _ _ h => h) (by rfl) (fun w' hw' => ?_) hS ?_
        · go_simp
        simp only [List.setIfInBounds_toArray, List.set_cons_zero, List.set_cons_succ]
        refine wpAnyG_take2 (i := 2) (d := 64) (oi := _) (v := .int .i64 hi) rfl (by kernel_rfl) (by kernel_rfl) (by kernel_rfl) (by kernel_rfl) (by kernel_rfl) (by kernel_rfl) (by decide) (fun _ _ _ h => h) (by rfl) (fun w' hw' => ?_) hS ?_
        · go_simp
        simp only [List.setIfInBounds_toArray, List.set_cons_zero, List.set_cons_succ]
        refine wpAnyG_take2 (i := 4) (d := 66) (oi := _) (v := .agg #[.pointer ep]) rfl (by kernel_rfl) (by kernel_rfl) (by kernel_rfl) (by kernel_rfl) (by kernel_rfl) (by kernel_rfl) (by decide) (fun _ _ _ h => h) (by rfl) (fun w' hw' => ?_) hS ?_
        · go_simp
        simp only [List.setIfInBounds_toArray, List.set_cons_zero, List.set_cons_succ]
        refine wpAnyG_take2 (i := 5) (d := 67) (oi := _) (v := .int .i64 lo) rfl (by kernel_rfl) (by kernel_rfl) (by kernel_rfl) (by kernel_rfl) (by kernel_rfl) (by kernel_rfl) (by decide) (fun _ _ _ h => h) (by rfl) (fun w' hw' => ?_) hS ?_
        · go_simp
        simp only [List.setIfInBounds_toArray, List.set_cons_zero, List.set_cons_succ]
        refine wpAnyG_take2 (i := 6) (d := 68) (oi := _) (v := .int .i64 mid) rfl (by kernel_rfl) (by kernel_rfl) (by kernel_rfl) (by kernel_rfl) (by kernel_rfl) (by kernel_rfl) (by decide) (fun _ _ _ h => h) (by rfl) (fun w' hw' => ?_) hS ?_
        · go_simp
        simp only [List.setIfInBounds_toArray, List.set_cons_zero, List.set_cons_succ]
        refine wpAnyG_take2 (i := 8) (d := 70) (oi := _) (v := .agg #[.pointer ep]) rfl (by kernel_rfl) (by kernel_rfl) (by kernel_rfl) (by kernel_rfl) (by kernel_rfl) (by kernel_rfl) (by decide) (fun _ _ _ h => h) (by rfl) (fun w' hw' => ?_) hS ?_
        · go_simp
        simp only [List.setIfInBounds_toArray, List.set_cons_zero, List.set_cons_succ]
        refine wpAnyG_take2 (i := 9) (d := 71) (oi := _) (v := .int .i64 mid) rfl (by kernel_rfl) (by kernel_rfl) (by kernel_rfl) (by kernel_rfl) (by kernel_rfl) (by kernel_rfl) (by decide) (fun _ _ _ h => h) (by rfl) (fun w' hw' => ?_) hS ?_
        · go_simp
        simp only [List.setIfInBounds_toArray, List.set_cons_zero, List.set_cons_succ]
        refine wpAnyG_take2 (i := 10) (d := 72) (oi := _) (v := .int .i64 hi) rfl (by kernel_rfl) (by kernel_rfl) (by kernel_rfl) (by kernel_rfl) (by kernel_rfl) (by kernel_rfl) (by decide) (fun _ _ _ h => h) (by rfl) (fun w' hw' => ?_) hS ?_
        · go_simp
        simp only [List.setIfInBounds_toArray, List.set_cons_zero, List.set_cons_succ]
        refine wpAnyG_box (w0 := wc) (c1 := 65) (c2 := 69) (c3 := 73) (b1 := 17) (b2 := 18) (b3 := 19) (i1 := 3) (i2 := 7) (i3 := 11) (j1 := 12) (j2 := 13) (j3 := 14) (m := 15) (Q1 := RngQ e.t lo hi) (Q2 := RngQ e.t lo mid) (Q3 := RngQ e.t mid hi) (Lend := #[true, true, true, true, true, true, true, true, true, true, true, true, true, true, true, false, false, false])
          (by kernel_rfl) (by kernel_rfl) (by kernel_rfl) (by decide) (by decide) (by decide) (by decide) ⟨by kernel_rfl, by kernel_rfl, by kernel_rfl, by kernel_rfl, by kernel_rfl, by kernel_rfl⟩ ?hput hS (Below.refl _ wc).drew ⟨by kernel_rfl, by kernel_rfl, by kernel_rfl, by kernel_rfl, by kernel_rfl, by kernel_rfl⟩ ?ho ?hz (by kernel_rfl) ?hLm ?K1 ?K2 ?K3 ?A1 ?A2 ?A3 ?hend
        case hput => simp only [Act.put, List.setIfInBounds_toArray, List.set_cons_zero, List.set_cons_succ]
        case ho =>
          intro j hj y1 y2 y3 y4 y5 y6
          rcases (by omega : j = 0 ∨ j = 1 ∨ j = 2 ∨ j = 4 ∨ j = 5 ∨ j = 6 ∨ j = 8 ∨ j = 9 ∨ j = 10) with rfl | rfl | rfl | rfl | rfl | rfl | rfl | rfl | rfl <;> rfl
        case hz =>
          intro j hj
          by_cases h18 : j < 18
          · rcases (by omega : j = 15 ∨ j = 16 ∨ j = 17) with rfl | rfl | rfl <;> rfl
          · simp [Array.getD]; try omega
        case hLm =>
          intro j hj
          have hj : j < 18 := hj
          rcases (by omega : j = 0 ∨ j = 1 ∨ j = 2 ∨ j = 3 ∨ j = 4 ∨ j = 5 ∨ j = 6 ∨ j = 7 ∨ j = 8 ∨ j = 9 ∨ j = 10 ∨ j = 11 ∨ j = 12 ∨ j = 13 ∨ j = 14 ∨ j = 15 ∨ j = 16 ∨ j = 17) with rfl | rfl | rfl | rfl | rfl | rfl | rfl | rfl | rfl | rfl | rfl | rfl | rfl | rfl | rfl | rfl | rfl | rfl <;> rfl
        case K1 =>
          intro v1 v2 v3 y1 y2 y3 w' bel hS' o ho K' hK
          have ho2 := Option.some.inj ho
          clear ho
          subst ho2
          simp only [Act.put, List.setIfInBounds_toArray, List.set_cons_zero, List.set_cons_succ, List.getElem_toArray, List.getElem_cons_zero, List.getElem_cons_succ]
          go_simp
          go_at_call 35
          refine (CR.out lo hi w' bel).mono ?_
          rintro e' w'' ⟨q, t, rfl, a', g, st⟩
          have h9 := hK.out _ _ st (cell_gr st hS') ⟨q, t, rfl, a', g⟩
          simp only [Act.put, List.setIfInBounds_toArray, List.set_cons_zero, List.set_cons_succ] at h9
          exact h9
        case K2 =>
          intro v1 v2 v3 y1 y2 y3 w' bel hS' o ho K' hK
          have ho2 := Option.some.inj ho
          clear ho
          subst ho2
          simp only [Act.put, List.setIfInBounds_toArray, List.set_cons_zero, List.set_cons_succ, List.getElem_toArray, List.getElem_cons_zero, List.getElem_cons_succ]
          go_simp
          go_at_call 35
          refine (CR.out lo mid w' bel).mono ?_
          rintro e' w'' ⟨q, t, rfl, a', g, st⟩
          have h9 := hK.out _ _ st (cell_gr st hS') ⟨q, t, rfl, a', g⟩
          simp only [Act.put, List.setIfInBounds_toArray, List.set_cons_zero, List.set_cons_succ] at h9
          exact h9
        case K3 =>
          intro v1 v2 v3 y1 y2 y3 w' bel hS' o ho K' hK
          have ho2 := Option.some.inj ho
          clear ho
          subst ho2
          simp only [Act.put, List.setIfInBounds_toArray, List.set_cons_zero, List.set_cons_succ, List.getElem_toArray, List.getElem_cons_zero, List.getElem_cons_succ]
          go_simp
          go_at_call 35
          refine (CR.out mid hi w' bel).mono ?_
          rintro e' w'' ⟨q, t, rfl, a', g, st⟩
          have h9 := hK.out _ _ st (cell_gr st hS') ⟨q, t, rfl, a', g⟩
          simp only [Act.put, List.setIfInBounds_toArray, List.set_cons_zero, List.set_cons_succ] at h9
          exact h9
        case A1 =>
          intro v1 v2 v3 y1 y2 y3 w' hS' o ho K' hK
          have ho2 := Option.some.inj ho
          clear ho
          subst ho2
          simp only [Act.put, List.setIfInBounds_toArray, List.set_cons_zero, List.set_cons_succ, List.getElem_toArray, List.getElem_cons_zero, List.getElem_cons_succ]
          go_simp
          have h9 := hK.out 35 (cell_al _ hS')
          simp only [Act.put, List.setIfInBounds_toArray, List.set_cons_zero, List.set_cons_succ] at h9
          exact h9
        case A2 =>
          intro v1 v2 v3 y1 y2 y3 w' hS' o ho K' hK
          have ho2 := Option.some.inj ho
          clear ho
          subst ho2
          simp only [Act.put, List.setIfInBounds_toArray, List.set_cons_zero, List.set_cons_succ, List.getElem_toArray, List.getElem_cons_zero, List.getElem_cons_succ]
          go_simp
          have h9 := hK.out 35 (cell_al _ hS')
          simp only [Act.put, List.setIfInBounds_toArray, List.set_cons_zero, List.set_cons_succ] at h9
          exact h9
        case A3 =>
          intro v1 v2 v3 y1 y2 y3 w' hS' o ho K' hK
          have ho2 := Option.some.inj ho
          clear ho
          subst ho2
          simp only [Act.put, List.setIfInBounds_toArray, List.set_cons_zero, List.set_cons_succ, List.getElem_toArray, List.getElem_cons_zero, List.getElem_cons_succ]
          go_simp
          have h9 := hK.out 35 (cell_al _ hS')
          simp only [Act.put, List.setIfInBounds_toArray, List.set_cons_zero, List.set_cons_succ] at h9
          exact h9
        case hend =>
          intro B1 B2 B3 q1 q2 q3 t1 t2 t3 w' bel hS' a1 a2 a3 r1 r2 r3 z1 z2 z3 e1 e2 e3 f1 f2 f3 n12 n13 n23 f hu
          have n21 : ¬ B2 = B1 := fun e => n12 e.symm
          have n31 : ¬ B3 = B1 := fun e => n13 e.symm
          have n32 : ¬ B3 = B2 := fun e => n23 e.symm
          obtain ⟨f, rfl⟩ : ∃ g, f = g + 1 + 1 + 1 := ⟨f - 3, by have h3 : unl #[true, true, true, true, true, true, true, true, true, true, true, true, true, true, true, false, false, false] = 3 := (by decide); omega⟩
          have X1 := Lib.hid (three_b (w0 := wc) bel z1 z2 z3 e1 e2 e3 n12 n13 n23 a1 a2 a3)
          have SX := Lib.hid (show (((w'.setCell ⟨B1, 0, none⟩ (.pointer q1)).setCell ⟨B2, 0, none⟩ (.pointer q2)).setCell ⟨B3, 0, none⟩ (.pointer q3)).cell? ⟨B, 0, none⟩ = some (.pointer ep) from by
            have zl := World.block_lt_of_cell? wc _ xB
            exact cell_st (by dsimp only at zl ⊢; omega) (cell_st (by dsimp only at zl ⊢; omega) (cell_st (by dsimp only at zl ⊢; omega) hS')))
          have R1 := Lib.hid r1
          have R2 := Lib.hid r2
          have R3 := Lib.hid r3
          clear bel hS' a1 a2 a3 r1 r2 r3 z1 z2 z3 hu CR GX xB hS
          try simp only [Act.put, List.setIfInBounds_toArray, List.set_cons_zero, List.set_cons_succ]
          refine wpAnyG_one (i := 15) (o := _) (by kernel_rfl) rfl (fun K hK => ?_)
          go_simp
          refine hK.out _ _ (fun h => absurd h (by decide)) ?_
          try simp only [Act.put, List.setIfInBounds_toArray, List.set_cons_zero, List.set_cons_succ]
          clear hK
          refine wpAnyG_one (i := 16) (o := _) (by kernel_rfl) rfl (fun K hK => ?_)
          go_simp
          refine hK.out _ _ (fun h => absurd h (by decide)) ?_
          try simp only [Act.put, List.setIfInBounds_toArray, List.set_cons_zero, List.set_cons_succ]
          clear hK
          refine wpAnyG_one (i := 17) (o := _) (by kernel_rfl) rfl (fun K hK => ?_)
          go_simp
          refine hK.out _ _ (fun h => absurd h (by decide)) ?_
          try simp only [Act.put, List.setIfInBounds_toArray, List.set_cons_zero, List.set_cons_succ]
          clear hK
          refine wpAnyG_done (by kernel_rfl) ?_ _
          generalize ((w'.setCell ⟨B1, 0, none⟩ (.pointer q1)).setCell ⟨B2, 0, none⟩ (.pointer q2)).setCell ⟨B3, 0, none⟩ (.pointer q3) = V at X1 SX ⊢
          have st0 := X1.out.bel
          have OV := Lib.hid (OX.out.keep (KeepI.below st0))
          have TV := Lib.hid (TX.out.grow st0)
          have BV := Lib.hid (BX.out.trans (st0.mono BX.out.size))
          have M1 := Lib.hid (show t1.rows = encL (filL (pRng lo hi) e.L) from rng_enc OX.out.asc (by have := R1.out.v; rwa [OX.out.rows] at this))
          have ML := Lib.hid (show (filL (pRng lo hi) e.L).length ≤ 1000000 from Nat.le_trans (List.length_filter_le _ _) ll)
          have JL := Lib.hid (show t2.rows ++ t3.rows = t1.rows from rng_join R1.out.v R2.out.v R3.out.v m1 m2)
          have CJ := Lib.hid (Join_any q2 q3 t2 t3 V X1.out.a2 X1.out.a3 R2.out.avl R3.out.avl (rng_cut R2.out.v R3.out.v) (by have := R2.out.sz; have := R3.out.sz; have := OX.out.sz; omega))
          have W1 := X1.out.c1
          have W2 := X1.out.c2
          have W3 := X1.out.c3
          have WB := SX.out
          clear st0 OX TX BX SX
          go_wp2_with fail
          refine CJ.out.mono ?_
          rintro e5 v5 ⟨q5, t5, rfl, a5, g5, st5⟩
          have r5 : t5.rows = encL (filL (pRng lo hi) e.L) := by rw [← M1.out, ← JL.out]; exact g5.1
          have T5 := Lib.hid (show At v5 q5 t5 ∧ t5.rows = encL (filL (pRng lo hi) e.L) from ⟨a5, r5⟩)
          have A1 := Lib.hid (X1.out.a1.grow st5)
          have Z5 := Lib.hid st5.size
          have OV5 := Lib.hid (OV.out.keep (KeepI.below st5))
          have TV5 := Lib.hid (TV.out.grow st5)
          have BV5 := Lib.hid (BV.out.trans (st5.mono BV.out.size))
          replace W1 := cell_gr st5 W1
          replace WB := cell_gr st5 WB
          clear CJ a5 g5 r5 st5 OV TV BV W2 W3 X1 JL
          go_wp2_with fail
          obtain ⟨z, hz⟩ : ∃ z, z = v5.heap.size := ⟨_, rfl⟩
          have C20 : (v5.alloc (Obj.cells #[Value.pointer q5] 35)).cell? ⟨z, 0, none⟩ = some (.pointer q5) := by rw [hz]; simp [go_sem]
          replace W1 := cell_al (Obj.cells #[Value.pointer q5] 35) W1
          replace WB := cell_al (Obj.cells #[Value.pointer q5] 35) WB
          have b9 : Below v5.heap.size v5 (v5.alloc (Obj.cells #[Value.pointer q5] 35)) := (Below.refl _ v5).alloc (Nat.le_refl _) _
          have T9 := Lib.hid (T5.out.1.grow b9)
          have R9 := Lib.hid T5.out.2
          have A9 := Lib.hid (A1.out.grow b9)
          have TV9 := Lib.hid (TV5.out.grow b9)
          have BV9 := Lib.hid (BV5.out.trans (b9.mono BV5.out.size))
          rw [← hz]
          clear b9 hz T5 A1 TV5 BV5 Z5
          generalize v5.alloc (Obj.cells #[Value.pointer q5] 35) = V9 at *
          obtain ⟨M, hM⟩ : ∃ M, M = filL (pRng lo hi) e.L := ⟨_, rfl⟩
          obtain ⟨RH, hRH⟩ : ∃ RH : Int, RH = (rnk e.t.rows hi : Int) := ⟨_, rfl⟩
          obtain ⟨RL, hRL⟩ : ∃ RL : Int, RL = (rnk e.t.rows lo : Int) := ⟨_, rfl⟩
          rw [← hM] at M1 ML R9
          have TA := Lib.hid OV5.out.tasc
          have SZ := Lib.hid (show e.t.sz ≤ 1000000 by rw [OV5.out.sz]; exact ll)
          have LE : (M.length : Int) = RH - RL := by
            have := rng_len TA.out R1.out.v (Int.le_trans m1 m2)
            rw [M1.out, encL_len] at this
            rw [hRH, hRL]; exact this
          obtain ⟨LM, hLM⟩ : ∃ LM : Int, LM = (M.length : Int) := ⟨_, rfl⟩
          have e7 : IntKind.i64.wrap (RH - RL) = LM := by rw [hLM, ← LE] at *; first | exact IntWalk.i64_in _ (by have := ML.out; omega) | (rw [hLM]; exact IntWalk.i64_in _ (by have := ML.out; omega))
          have CLi := Lib.hid (fun W (b : Below V9.heap.size V9 W) => list_any q1 t1 M W (A9.out.grow b) M1.out ML.out)
          have CSa := Lib.hid (fun W (b : Below V9.heap.size V9 W) s' c' (h : RowsR W s' M) => same_any q5 t5 s' c' M W (T9.out.grow b) R9.out h ML.out)
          have CL1 := Lib.hid (fun W (b : Below V9.heap.size V9 W) => Len_any q1 t1 LM W (A9.out.grow b) (by rw [sz_enc M1.out, hLM]))
          have CRh := Lib.hid (fun W (b : Below V9.heap.size V9 W) => Rank_any ep e.t hi W (TV9.out.grow b) TA.out (by have := SZ.out; omega))
          have CRl := Lib.hid (fun W (b : Below V9.heap.size V9 W) => Rank_any ep e.t lo W (TV9.out.grow b) TA.out (by have := SZ.out; omega))
          rw [← hRH] at CRh
          rw [← hRL] at CRl
          have CRg := Lib.hid (fun W (b : Below V9.heap.size V9 W) => Range_any ep e.t hi lo W (TV9.out.grow b) OV5.out.avl TA.out (by have := SZ.out; omega))
          have LH := Int.le_trans m1 m2
          have CL0 := Lib.hid (fun W q' t' (h : At W q' t') (g : RngQ e.t hi lo t') => Len_any q' t' 0 W h (by
            have := rng_none' g.v LH
            rw [← t'.sz_eq, this]; rfl))
          have BW : Below V9.heap.size V9 V9.drew := (Below.refl _ V9).drew
          have LN := Lib.hid (show LM = (M.length : Int) from hLM)
          clear hM hRH hRL LE hLM LH A9 T9 TV9 M1 R9 R1 R2 R3 OV5 TA SZ ML m1 m2 ll
          obtain ⟨ml, hml⟩ : ∃ ml, ml = M.length := ⟨_, rfl⟩
          go_region_held3 (fun w' => w'.cell? ⟨B, 0, none⟩ = some (.pointer ep) ∧ w'.cell? ⟨B1, 0, none⟩ = some (.pointer q1) ∧ w'.cell? ⟨z, 0, none⟩ = some (.pointer q5)) (first | exact ⟨WB, W1, C20⟩ | exact ⟨cell_dr WB, cell_dr W1, cell_dr C20⟩) (first
            | (go_at_call 38; (with_reducible refine (CLi.out _ BW).mono ?_); rintro e6 w6 ⟨v6, rfl, ho, st⟩; obtain ⟨s6, c6, rfl, rr⟩ := ownRows ho; have RR := Lib.hid rr; replace WB := cell_gr st WB; replace W1 := cell_gr st W1; replace C20 := cell_gr st C20; replace BW := BW.trans (st.mono BW.size); clear ho rr st)
            | (go_at_call 16; (with_reducible refine (CSa.out _ BW _ _ RR.out).mono ?_); rintro e6 w6 ⟨rfl, st⟩; replace WB := cell_gr st WB; replace W1 := cell_gr st W1; replace C20 := cell_gr st C20; replace BW := BW.trans (st.mono BW.size); clear st)
            | (go_at_call 25; (with_reducible refine (CL1.out _ BW).mono ?_); rintro e6 w6 ⟨rfl, st⟩; replace WB := cell_gr st WB; replace W1 := cell_gr st W1; replace C20 := cell_gr st C20; replace BW := BW.trans (st.mono BW.size); clear st)
            | (go_at_call 39; (with_reducible refine (CRh.out _ BW).mono ?_); rintro e6 w6 ⟨rfl, st⟩; replace WB := cell_gr st WB; replace W1 := cell_gr st W1; replace C20 := cell_gr st C20; replace BW := BW.trans (st.mono BW.size); clear st)
            | (go_at_call 39; (with_reducible refine (CRl.out _ BW).mono ?_); rintro e6 w6 ⟨rfl, st⟩; replace WB := cell_gr st WB; replace W1 := cell_gr st W1; replace C20 := cell_gr st C20; replace BW := BW.trans (st.mono BW.size); clear st)
            | (go_at_call 35; (with_reducible refine (CRg.out _ BW).mono ?_); rintro e6 w6 ⟨q6, t6, rfl, a6, g6, st⟩; have A6 := Lib.hid a6; have G6 := Lib.hid g6; replace WB := cell_gr st WB; replace W1 := cell_gr st W1; replace C20 := cell_gr st C20; replace BW := BW.trans (st.mono BW.size); clear a6 g6 st)
            | (go_at_call 25; (with_reducible refine (CL0.out _ _ _ A6.out G6.out).mono ?_); rintro e6 w6 ⟨rfl, st⟩; replace WB := cell_gr st WB; replace W1 := cell_gr st W1; replace C20 := cell_gr st C20; replace BW := BW.trans (st.mono BW.size); clear st)
            | (go_at_call 14; refine (AL.out _).mono ?_; rintro e6 w6 ⟨rfl, st⟩; replace WB := cell_gr st WB; replace W1 := cell_gr st W1; replace C20 := cell_gr st C20; replace BW := BW.trans (st.mono BW.size); clear st))
          go_wp2_with fail
          go_ret
          exact ⟨rfl, BV9.out.trans (BW.mono BV9.out.size)⟩
end Go.Proofs.Ytbphmcjjanchlaa
