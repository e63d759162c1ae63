/- TreeSets, walked. -/
import Derived.Test.YtbphmcjjanchlaaTWN
import Derived.Test.YtbphmcjjanchlaaIS
import Derived.Test.YtbphmcjjanchlaaTWT
import Derived.Deep.Cut
import Derived.Deep.CutRange
namespace Go.Proofs.Ytbphmcjjanchlaa
open Go.RowKit Go.Proofs.Ytbphmcjjanchlaa.Mii
set_option linter.unusedVariables false
set_option linter.unusedSimpArgs false

/-- Two may come up, in either order. -/
theorem wpAnyG_two {P : Program} {ops : Array Oper} {Q : Exit → Act → World → Prop} {md : Region.Mode} {S : World → Prop} {n : Nat} {i j : Nat} {o o' : Oper} {fuel : Nat} {listed : Array Bool} {a : Act} {w : World} (hr : Region.ready md ops listed = [i, j]) (ho : ops[i]? = some o) (ho' : ops[j]? = some o')
    (h : ∀ K' : Act → World → Prop, Shut (∀ a w, (i < n → S w) → wpAnyG P md ops Q S n fuel (listed.setIfInBounds i true) a w → K' a w) → if Region.wanted o (yielded ops a.tmps) = true then Oper.wp P o a w K' Q else K' (a.put o.dst undef) w)
    (h' : ∀ K' : Act → World → Prop, Shut (∀ a w, (j < n → S w) → wpAnyG P md ops Q S n fuel (listed.setIfInBounds j true) a w → K' a w) → if Region.wanted o' (yielded ops a.tmps) = true then Oper.wp P o' a w K' Q else K' (a.put o'.dst undef) w) : wpAnyG P md ops Q S n (fuel + 1) listed a w :=
  ⟨fun h0 => (by rw [hr] at h0; cases h0), hr ▸ fun l hl => by
    rcases List.mem_cons.1 hl with rfl | hl
    · exact wpOp_step ho (fun K' hK => h K' (fun a w h1 h2 => hK a w ⟨h1, h2⟩))
    · rw [List.mem_singleton] at hl; subst hl
      exact wpOp_step ho' (fun K' hK => h' K' (fun a w h1 h2 => hK a w ⟨h1, h2⟩))⟩

set_option maxRecDepth 100000 in
set_option maxHeartbeats 20000000 in
theorem treeSets_walk (p : Option Addr) (c : Nat) (S : List OpV) (w : World) (r : OpsR w p S) (ln : S.length ≤ 9223372036854775807) (x : Int) (hx0 : 0 ≤ x ∧ x ≤ 255) (xx : Int) (hxx : 0 ≤ xx ∧ xx ≤ 255) (k : Int) (hk0 : -9223372036854775808 ≤ k ∧ k ≤ 9223372036854775807) :
    Calls Try.prog 9 #[.slice p S.length c, .int .u8 x, .int .u8 xx, .int .i64 k] w fun e w' => e = .returned (.bool true) ∧ Below w.heap.size w w' := by
  have AL := Lib.hid Go.Proofs.Ytbphmcjjanchlaa.Mis.alive_any
  have CF := Lib.hid (fun W => few_any p S.length c W ln)
  by_cases hlen : S.length ≤ 200
  case neg =>
    rw [decide_eq_false hlen] at CF
    generalize hx : S.length = x at *
    clear hx r hlen
    go_enter Try.func9, Try.ntmps9
    go_wp2_with fail
    refine (CF.out _).mono ?_
    rintro e w0 ⟨rfl, rfl⟩
    go_wp2_with fail
    refine (AL.out _).mono ?_
    rintro e w1 ⟨rfl, st⟩
    go_wp2_with fail
    go_ret
    exact ⟨rfl, st⟩
  rw [decide_eq_true hlen] at CF
  have CP := Lib.hid (played_any p c S w r hlen)
  have KR := Lib.hid hk0
  generalize hy : S.length = y at *
  clear hy r ln hk0
  go_enter Try.func9, Try.ntmps9
  go_wp2_with fail
  refine (CF.out _).mono ?_
  rintro e w0 ⟨rfl, rfl⟩
  go_wp2_with fail
  refine CP.out.mono ?_
  rintro e w1 ⟨bw, KS, ms, vm, vl, rfl, hW, hB, hk, hm⟩
  obtain ⟨gm, cm, gl, cl, rfl, rfl, gm0, -, hE⟩ := hW.entry
  obtain ⟨n, hn⟩ : ∃ n, n = ms.length := ⟨_, rfl⟩
  have hn0 : 0 < n := by rw [hn]; exact hW.ne
  obtain ⟨c0, c1, -, -, -⟩ := hW.cells
  rw [← hn] at c0 c1 hm
  have n5 : ¬ n = 0 := by omega
  have n0 : ¬ (n : Int) = 0 := by omega
  have n1 : ((n : Int) == 0) = false := by simp; omega
  have q4 : (decide ((n : Int) = 0)) = false := decide_eq_false (by omega)
  obtain ⟨i, hi⟩ : ∃ i : Nat, i = x.toNat % n := ⟨_, rfl⟩
  have li : i < n := by rw [hi]; exact Nat.mod_lt _ hn0
  obtain ⟨e, si, di, -, -, Oi, -, rri, mii, nii⟩ := hE i (by rw [← hn]; exact li)
  have q1i : x.tmod (n : Int) = (i : Int) := by rw [Int.tmod_eq_emod_of_nonneg hx0.1, hi, Int.natCast_emod, Int.toNat_of_nonneg hx0.1]
  have q5i : x % (n : Int) = (i : Int) := by rw [hi, Int.natCast_emod, Int.toNat_of_nonneg hx0.1]
  have q2i := IntWalk.i64_in x (by omega)
  have q3i := IntWalk.i64_in (i : Int) (by omega)
  have i1i : (0 : Int) ≤ (i : Int) := by omega
  have i2i : (i : Int) < (n : Int) := by omega
  have lli : e.L.length ≤ 1000000 := by have := Oi.len; omega
  have OOi := Lib.hid Oi
  have TEi := Lib.hid Oi.at_
  obtain ⟨j, hj⟩ : ∃ j : Nat, j = xx.toNat % n := ⟨_, rfl⟩
  have lj : j < n := by rw [hj]; exact Nat.mod_lt _ hn0
  obtain ⟨f, sj, dj, -, -, Oj, -, rrj, mij, nij⟩ := hE j (by rw [← hn]; exact lj)
  have q1j : xx.tmod (n : Int) = (j : Int) := by rw [Int.tmod_eq_emod_of_nonneg hxx.1, hj, Int.natCast_emod, Int.toNat_of_nonneg hxx.1]
  have q5j : xx % (n : Int) = (j : Int) := by rw [hj, Int.natCast_emod, Int.toNat_of_nonneg hxx.1]
  have q2j := IntWalk.i64_in xx (by omega)
  have q3j := IntWalk.i64_in (j : Int) (by omega)
  have i1j : (0 : Int) ≤ (j : Int) := by omega
  have i2j : (j : Int) < (n : Int) := by omega
  have llj : f.L.length ≤ 1000000 := by have := Oj.len; omega
  have OOj := Lib.hid Oj
  have TEj := Lib.hid Oj.at_
  have HB := Lib.hid hB
  have KSL := Lib.hid (show KS.length ≤ 1000000 by omega)
  generalize e.p = ep at *
  generalize f.p = fp at *
  clear hW hE hB hk CF CP hi rri nii hj rrj nij Oi Oj c1 hn
  go_wp2_with fail
  go_cut [11, 12] from 31 to 58 (fun v11 v12 wx => ∃ B C, v11 = .pointer (some ⟨B, 0, none⟩) ∧ v12 = .pointer (some ⟨C, 0, none⟩) ∧ wx.cell? ⟨B, 0, none⟩ = some (.pointer ep) ∧ wx.cell? ⟨C, 0, none⟩ = some (.pointer fp) ∧ Below w1.heap.size w1 wx)
  case first =>
    refine wp_region_G (fun w' => w'.cell? ⟨bw, 0, none⟩ = some (.slice (some ⟨gm, 0, none⟩) n cm) ∧ w'.cell? ⟨gm, i, none⟩ = some (.pointer ep) ∧ w'.cell? ⟨gm, j, none⟩ = some (.pointer fp)) 32 (by kernel_rfl) ?_
    have hS : w1.drew.cell? ⟨bw, 0, none⟩ = some (.slice (some ⟨gm, 0, none⟩) n cm) ∧ w1.drew.cell? ⟨gm, i, none⟩ = some (.pointer ep) ∧ w1.drew.cell? ⟨gm, j, none⟩ = some (.pointer fp) := ⟨cell_dr c0, cell_dr mii, cell_dr mij⟩
    refine wpAnyG_take2 (i := 0) (d := 31) (oi := _) (v := .pointer (some ⟨bw, 0, none⟩)) rfl (by kernel_rfl) (by kernel_rfl) (by kernel_rfl) (by kernel_rfl) (by kernel_rfl) (by kernel_rfl) (by decide) (fun _ _ _ h => h) (by rfl) (fun w' hw' => ?_) hS ?_
    · obtain ⟨h1, h2, h3⟩ := hw'
      go_simp
    simp only [List.setIfInBounds_toArray, List.set_cons_zero, List.set_cons_succ]
    refine wpAnyG_take2 (i := 1) (d := 32) (oi := _) (v := .pointer (some ⟨bw, 0, none⟩)) rfl (by kernel_rfl) (by kernel_rfl) (by kernel_rfl) (by kernel_rfl) (by kernel_rfl) (by kernel_rfl) (by decide) (fun _ _ _ h => h) (by rfl) (fun w' hw' => ?_) hS ?_
    · obtain ⟨h1, h2, h3⟩ := hw'
      go_simp
    simp only [List.setIfInBounds_toArray, List.set_cons_zero, List.set_cons_succ]
    refine wpAnyG_take2 (i := 2) (d := 33) (oi := _) (v := .pointer (some ⟨bw, 0, none⟩)) rfl (by kernel_rfl) (by kernel_rfl) (by kernel_rfl) (by kernel_rfl) (by kernel_rfl) (by kernel_rfl) (by decide) (fun _ _ _ h => h) (by rfl) (fun w' hw' => ?_) hS ?_
    · obtain ⟨h1, h2, h3⟩ := hw'
      go_simp
    simp only [List.setIfInBounds_toArray, List.set_cons_zero, List.set_cons_succ]
    refine wpAnyG_take2 (i := 3) (d := 34) (oi := _) (v := .slice (some ⟨gm, 0, none⟩) n cm) rfl (by kernel_rfl) (by kernel_rfl) (by kernel_rfl) (by kernel_rfl) (by kernel_rfl) (by kernel_rfl) (by decide) (fun _ _ _ h => h) (by rfl) (fun w' hw' => ?_) hS ?_
    · obtain ⟨h1, h2, h3⟩ := hw'
      go_simp
    simp only [List.setIfInBounds_toArray, List.set_cons_zero, List.set_cons_succ]
    refine wpAnyG_take2 (i := 4) (d := 35) (oi := _) (v := .int .u8 x) rfl (by kernel_rfl) (by kernel_rfl) (by kernel_rfl) (by kernel_rfl) (by kernel_rfl) (by kernel_rfl) (by decide) (fun _ _ _ h => h) (by rfl) (fun w' hw' => ?_) hS ?_
    · obtain ⟨h1, h2, h3⟩ := hw'
      go_simp
    simp only [List.setIfInBounds_toArray, List.set_cons_zero, List.set_cons_succ]
    refine wpAnyG_take2 (i := 5) (d := 36) (oi := _) (v := .int .i64 x) rfl (by kernel_rfl) (by kernel_rfl) (by kernel_rfl) (by kernel_rfl) (by kernel_rfl) (by kernel_rfl) (by decide) (fun _ _ _ h => h) (by rfl) (fun w' hw' => ?_) hS ?_
    · obtain ⟨h1, h2, h3⟩ := hw'
      go_simp
    simp only [List.setIfInBounds_toArray, List.set_cons_zero, List.set_cons_succ]
    refine wpAnyG_take2 (i := 6) (d := 37) (oi := _) (v := .pointer (some ⟨bw, 0, none⟩)) rfl (by kernel_rfl) (by kernel_rfl) (by kernel_rfl) (by kernel_rfl) (by kernel_rfl) (by kernel_rfl) (by decide) (fun _ _ _ h => h) (by rfl) (fun w' hw' => ?_) hS ?_
    · obtain ⟨h1, h2, h3⟩ := hw'
      go_simp
    simp only [List.setIfInBounds_toArray, List.set_cons_zero, List.set_cons_succ]
    refine wpAnyG_take2 (i := 7) (d := 38) (oi := _) (v := .pointer (some ⟨bw, 0, none⟩)) rfl (by kernel_rfl) (by kernel_rfl) (by kernel_rfl) (by kernel_rfl) (by kernel_rfl) (by kernel_rfl) (by decide) (fun _ _ _ h => h) (by rfl) (fun w' hw' => ?_) hS ?_
    · obtain ⟨h1, h2, h3⟩ := hw'
      go_simp
    simp only [List.setIfInBounds_toArray, List.set_cons_zero, List.set_cons_succ]
    refine wpAnyG_take2 (i := 8) (d := 39) (oi := _) (v := .pointer (some ⟨bw, 0, none⟩)) rfl (by kernel_rfl) (by kernel_rfl) (by kernel_rfl) (by kernel_rfl) (by kernel_rfl) (by kernel_rfl) (by decide) (fun _ _ _ h => h) (by rfl) (fun w' hw' => ?_) hS ?_
    · obtain ⟨h1, h2, h3⟩ := hw'
      go_simp
    simp only [List.setIfInBounds_toArray, List.set_cons_zero, List.set_cons_succ]
    refine wpAnyG_take2 (i := 9) (d := 40) (oi := _) (v := .slice (some ⟨gm, 0, none⟩) n cm) rfl (by kernel_rfl) (by kernel_rfl) (by kernel_rfl) (by kernel_rfl) (by kernel_rfl) (by kernel_rfl) (by decide) (fun _ _ _ h => h) (by rfl) (fun w' hw' => ?_) hS ?_
    · obtain ⟨h1, h2, h3⟩ := hw'
      go_simp
    simp only [List.setIfInBounds_toArray, List.set_cons_zero, List.set_cons_succ]
    refine wpAnyG_take2 (i := 10) (d := 41) (oi := _) (v := .int .i64 n) rfl (by kernel_rfl) (by kernel_rfl) (by kernel_rfl) (by kernel_rfl) (by kernel_rfl) (by kernel_rfl) (by decide) (fun _ _ _ h => h) (by rfl) (fun w' hw' => ?_) hS ?_
    · obtain ⟨h1, h2, h3⟩ := hw'
      go_simp
    simp only [List.setIfInBounds_toArray, List.set_cons_zero, List.set_cons_succ]
    refine wpAnyG_take2 (i := 11) (d := 42) (oi := _) (v := .int .i64 i) rfl (by kernel_rfl) (by kernel_rfl) (by kernel_rfl) (by kernel_rfl) (by kernel_rfl) (by kernel_rfl) (by decide) (fun _ _ _ h => h) (by rfl) (fun w' hw' => ?_) hS ?_
    · obtain ⟨h1, h2, h3⟩ := hw'
      first | (go_simp; done) | (go_simp; simp [Op.intDiv, n0, n5, q1i, q5i]; done) | (simp [go_sem, Op.intDiv, n0, n5, q1i, q5i]; done)
    simp only [List.setIfInBounds_toArray, List.set_cons_zero, List.set_cons_succ]
    refine wpAnyG_take2 (i := 12) (d := 43) (oi := _) (v := .pointer (some ⟨gm, i, none⟩)) rfl (by kernel_rfl) (by kernel_rfl) (by kernel_rfl) (by kernel_rfl) (by kernel_rfl) (by kernel_rfl) (by decide) (fun _ _ _ h => h) (by rfl) (fun w' hw' => ?_) hS ?_
    · obtain ⟨h1, h2, h3⟩ := hw'
      go_simp
    simp only [List.setIfInBounds_toArray, List.set_cons_zero, List.set_cons_succ]
    refine wpAnyG_take2 (i := 13) (d := 44) (oi := _) (v := .agg #[.pointer ep]) rfl (by kernel_rfl) (by kernel_rfl) (by kernel_rfl) (by kernel_rfl) (by kernel_rfl) (by kernel_rfl) (by decide) (fun _ _ _ h => h) (by rfl) (fun w' hw' => ?_) hS ?_
    · obtain ⟨h1, h2, h3⟩ := hw'
      go_simp
    simp only [List.setIfInBounds_toArray, List.set_cons_zero, List.set_cons_succ]
    refine wpAnyG_take2 (i := 14) (d := 45) (oi := _) (v := .pointer (some ⟨bw, 0, none⟩)) rfl (by kernel_rfl) (by kernel_rfl) (by kernel_rfl) (by kernel_rfl) (by kernel_rfl) (by kernel_rfl) (by decide) (fun _ _ _ h => h) (by rfl) (fun w' hw' => ?_) hS ?_
    · obtain ⟨h1, h2, h3⟩ := hw'
      go_simp
    simp only [List.setIfInBounds_toArray, List.set_cons_zero, List.set_cons_succ]
    refine wpAnyG_take2 (i := 15) (d := 46) (oi := _) (v := .pointer (some ⟨bw, 0, none⟩)) rfl (by kernel_rfl) (by kernel_rfl) (by kernel_rfl) (by kernel_rfl) (by kernel_rfl) (by kernel_rfl) (by decide) (fun _ _ _ h => h) (by rfl) (fun w' hw' => ?_) hS ?_
    · obtain ⟨h1, h2, h3⟩ := hw'
      go_simp
    simp only [List.setIfInBounds_toArray, List.set_cons_zero, List.set_cons_succ]
    refine wpAnyG_take2 (i := 16) (d := 47) (oi := _) (v := .pointer (some ⟨bw, 0, none⟩)) rfl (by kernel_rfl) (by kernel_rfl) (by kernel_rfl) (by kernel_rfl) (by kernel_rfl) (by kernel_rfl) (by decide) (fun _ _ _ h => h) (by rfl) (fun w' hw' => ?_) hS ?_
    · obtain ⟨h1, h2, h3⟩ := hw'
      go_simp
    simp only [List.setIfInBounds_toArray, List.set_cons_zero, List.set_cons_succ]
    refine wpAnyG_take2 (i := 17) (d := 48) (oi := _) (v := .slice (some ⟨gm, 0, none⟩) n cm) rfl (by kernel_rfl) (by kernel_rfl) (by kernel_rfl) (by kernel_rfl) (by kernel_rfl) (by kernel_rfl) (by decide) (fun _ _ _ h => h) (by rfl) (fun w' hw' => ?_) hS ?_
    · obtain ⟨h1, h2, h3⟩ := hw'
      go_simp
    simp only [List.setIfInBounds_toArray, List.set_cons_zero, List.set_cons_succ]
    refine wpAnyG_take2 (i := 18) (d := 49) (oi := _) (v := .int .u8 xx) rfl (by kernel_rfl) (by kernel_rfl) (by kernel_rfl) (by kernel_rfl) (by kernel_rfl) (by kernel_rfl) (by decide) (fun _ _ _ h => h) (by rfl) (fun w' hw' => ?_) hS ?_
    · obtain ⟨h1, h2, h3⟩ := hw'
      go_simp
    simp only [List.setIfInBounds_toArray, List.set_cons_zero, List.set_cons_succ]
    refine wpAnyG_take2 (i := 19) (d := 50) (oi := _) (v := .int .i64 xx) rfl (by kernel_rfl) (by kernel_rfl) (by kernel_rfl) (by kernel_rfl) (by kernel_rfl) (by kernel_rfl) (by decide) (fun _ _ _ h => h) (by rfl) (fun w' hw' => ?_) hS ?_
    · obtain ⟨h1, h2, h3⟩ := hw'
      go_simp
    simp only [List.setIfInBounds_toArray, List.set_cons_zero, List.set_cons_succ]
    refine wpAnyG_take2 (i := 20) (d := 51) (oi := _) (v := .pointer (some ⟨bw, 0, none⟩)) rfl (by kernel_rfl) (by kernel_rfl) (by kernel_rfl) (by kernel_rfl) (by kernel_rfl) (by kernel_rfl) (by decide) (fun _ _ _ h => h) (by rfl) (fun w' hw' => ?_) hS ?_
    · obtain ⟨h1, h2, h3⟩ := hw'
      go_simp
    simp only [List.setIfInBounds_toArray, List.set_cons_zero, List.set_cons_succ]
    refine wpAnyG_take2 (i := 21) (d := 52) (oi := _) (v := .pointer (some ⟨bw, 0, none⟩)) rfl (by kernel_rfl) (by kernel_rfl) (by kernel_rfl) (by kernel_rfl) (by kernel_rfl) (by kernel_rfl) (by decide) (fun _ _ _ h => h) (by rfl) (fun w' hw' => ?_) hS ?_
    · obtain ⟨h1, h2, h3⟩ := hw'
      go_simp
    simp only [List.setIfInBounds_toArray, List.set_cons_zero, List.set_cons_succ]
    refine wpAnyG_take2 (i := 22) (d := 53) (oi := _) (v := .pointer (some ⟨bw, 0, none⟩)) rfl (by kernel_rfl) (by kernel_rfl) (by kernel_rfl) (by kernel_rfl) (by kernel_rfl) (by kernel_rfl) (by decide) (fun _ _ _ h => h) (by rfl) (fun w' hw' => ?_) hS ?_
    · obtain ⟨h1, h2, h3⟩ := hw'
      go_simp
    simp only [List.setIfInBounds_toArray, List.set_cons_zero, List.set_cons_succ]
    refine wpAnyG_take2 (i := 23) (d := 54) (oi := _) (v := .slice (some ⟨gm, 0, none⟩) n cm) rfl (by kernel_rfl) (by kernel_rfl) (by kernel_rfl) (by kernel_rfl) (by kernel_rfl) (by kernel_rfl) (by decide) (fun _ _ _ h => h) (by rfl) (fun w' hw' => ?_) hS ?_
    · obtain ⟨h1, h2, h3⟩ := hw'
      go_simp
    simp only [List.setIfInBounds_toArray, List.set_cons_zero, List.set_cons_succ]
    refine wpAnyG_take2 (i := 24) (d := 55) (oi := _) (v := .int .i64 n) rfl (by kernel_rfl) (by kernel_rfl) (by kernel_rfl) (by kernel_rfl) (by kernel_rfl) (by kernel_rfl) (by decide) (fun _ _ _ h => h) (by rfl) (fun w' hw' => ?_) hS ?_
    · obtain ⟨h1, h2, h3⟩ := hw'
      go_simp
    simp only [List.setIfInBounds_toArray, List.set_cons_zero, List.set_cons_succ]
    refine wpAnyG_take2 (i := 25) (d := 56) (oi := _) (v := .int .i64 j) rfl (by kernel_rfl) (by kernel_rfl) (by kernel_rfl) (by kernel_rfl) (by kernel_rfl) (by kernel_rfl) (by decide) (fun _ _ _ h => h) (by rfl) (fun w' hw' => ?_) hS ?_
    · obtain ⟨h1, h2, h3⟩ := hw'
      first | (go_simp; done) | (go_simp; simp [Op.intDiv, n0, n5, q1j, q5j]; done) | (simp [go_sem, Op.intDiv, n0, n5, q1j, q5j]; done)
    simp only [List.setIfInBounds_toArray, List.set_cons_zero, List.set_cons_succ]
    refine wpAnyG_take2 (i := 26) (d := 57) (oi := _) (v := .pointer (some ⟨gm, j, none⟩)) rfl (by kernel_rfl) (by kernel_rfl) (by kernel_rfl) (by kernel_rfl) (by kernel_rfl) (by kernel_rfl) (by decide) (fun _ _ _ h => h) (by rfl) (fun w' hw' => ?_) hS ?_
    · obtain ⟨h1, h2, h3⟩ := hw'
      go_simp
    simp only [List.setIfInBounds_toArray, List.set_cons_zero, List.set_cons_succ]
    refine wpAnyG_take2 (i := 27) (d := 58) (oi := _) (v := .agg #[.pointer fp]) rfl (by kernel_rfl) (by kernel_rfl) (by kernel_rfl) (by kernel_rfl) (by kernel_rfl) (by kernel_rfl) (by decide) (fun _ _ _ h => h) (by rfl) (fun w' hw' => ?_) hS ?_
    · obtain ⟨h1, h2, h3⟩ := hw'
      go_simp
    simp only [List.setIfInBounds_toArray, List.set_cons_zero, List.set_cons_succ]
    have zb := World.block_lt_of_cell? w1 _ c0
    have zg := World.block_lt_of_cell? w1 _ mii
    dsimp only at zb zg
    refine wpAnyG_two (i := 28) (j := 29) (o := _) (o' := _) (by kernel_rfl) rfl rfl (fun K hK => ?_) (fun K hK => ?_)
    · go_simp
      refine hK.out _ _ (fun _ => ⟨cell_al _ (cell_dr c0), cell_al _ (cell_dr mii), cell_al _ (cell_dr mij)⟩) ?_
      try simp only [Act.put, List.setIfInBounds_toArray, List.set_cons_zero, List.set_cons_succ]
      clear hK
      refine wpAnyG_one (i := 29) (o := _) (by kernel_rfl) rfl (fun K hK => ?_)
      go_simp
      refine hK.out _ _ (fun _ => ⟨cell_al _ (cell_al _ (cell_dr c0)), cell_al _ (cell_al _ (cell_dr mii)), cell_al _ (cell_al _ (cell_dr mij))⟩) ?_
      try simp only [Act.put, List.setIfInBounds_toArray, List.set_cons_zero, List.set_cons_succ]
      clear hK
      refine wpAnyG_one (i := 30) (o := _) (by kernel_rfl) rfl (fun K hK => ?_)
      go_simp
      refine hK.out _ _ (fun _ => ⟨(cell_al _ (cell_al _ (cell_dr c0))), (cell_al _ (cell_al _ (cell_dr mii))), (cell_al _ (cell_al _ (cell_dr mij)))⟩) ?_
      try simp only [Act.put, List.setIfInBounds_toArray, List.set_cons_zero, List.set_cons_succ]
      clear hK
      refine wpAnyG_one (i := 31) (o := _) (by kernel_rfl) rfl (fun K hK => ?_)
      go_simp
      refine hK.out _ _ (fun _ => ⟨(cell_al _ (cell_al _ (cell_dr c0))), (cell_al _ (cell_al _ (cell_dr mii))), (cell_al _ (cell_al _ (cell_dr mij)))⟩) ?_
      try simp only [Act.put, List.setIfInBounds_toArray, List.set_cons_zero, List.set_cons_succ]
      clear hK
      refine wpAnyG_done (by kernel_rfl) ?_ _
      go_wp2_with fail
      go_meet
      exact ⟨_, _, rfl, rfl, by simp [go_sem], by simp [go_sem], Below.dr (((Below.refl _ w1).alloc (Nat.le_refl _) _).alloc ((Below.refl _ w1).alloc (Nat.le_refl _) _).size _)⟩
    · go_simp
      refine hK.out _ _ (fun _ => ⟨cell_al _ (cell_dr c0), cell_al _ (cell_dr mii), cell_al _ (cell_dr mij)⟩) ?_
      try simp only [Act.put, List.setIfInBounds_toArray, List.set_cons_zero, List.set_cons_succ]
      clear hK
      refine wpAnyG_one (i := 28) (o := _) (by kernel_rfl) rfl (fun K hK => ?_)
      go_simp
      refine hK.out _ _ (fun _ => ⟨cell_al _ (cell_al _ (cell_dr c0)), cell_al _ (cell_al _ (cell_dr mii)), cell_al _ (cell_al _ (cell_dr mij))⟩) ?_
      try simp only [Act.put, List.setIfInBounds_toArray, List.set_cons_zero, List.set_cons_succ]
      clear hK
      refine wpAnyG_one (i := 30) (o := _) (by kernel_rfl) rfl (fun K hK => ?_)
      go_simp
      refine hK.out _ _ (fun _ => ⟨(cell_al _ (cell_al _ (cell_dr c0))), (cell_al _ (cell_al _ (cell_dr mii))), (cell_al _ (cell_al _ (cell_dr mij)))⟩) ?_
      try simp only [Act.put, List.setIfInBounds_toArray, List.set_cons_zero, List.set_cons_succ]
      clear hK
      refine wpAnyG_one (i := 31) (o := _) (by kernel_rfl) rfl (fun K hK => ?_)
      go_simp
      refine hK.out _ _ (fun _ => ⟨(cell_al _ (cell_al _ (cell_dr c0))), (cell_al _ (cell_al _ (cell_dr mii))), (cell_al _ (cell_al _ (cell_dr mij)))⟩) ?_
      try simp only [Act.put, List.setIfInBounds_toArray, List.set_cons_zero, List.set_cons_succ]
      clear hK
      refine wpAnyG_done (by kernel_rfl) ?_ _
      go_wp2_with fail
      go_meet
      exact ⟨_, _, rfl, rfl, by simp [go_sem], by simp [go_sem], Below.dr (((Below.refl _ w1).alloc (Nat.le_refl _) _).alloc ((Below.refl _ w1).alloc (Nat.le_refl _) _).size _)⟩
  case rest =>
    obtain ⟨B, C, rfl, rfl, xB, xC, st⟩ := hcut
    have OX := Lib.hid (OOi.out.keep (KeepI.below st))
    have OY := Lib.hid (OOj.out.keep (KeepI.below st))
    have TX := Lib.hid (TEi.out.grow st)
    have TY := Lib.hid (TEj.out.grow st)
    have BX := Lib.hid (HB.out.trans (st.mono HB.out.size))
    have GX := Lib.hid xB
    have GY := Lib.hid xC
    clear OOi OOj TEi TEj HB c0 mii mij st n5 n0 n1 q4 q1i q5i q2i q3i i1i i2i q1j q5j q2j q3j i1j i2j xB xC li lj
    have xB := GX.out
    have xC := GY.out
    have zE := Lib.hid (show e.t.sz ≤ 1000000 ∧ f.t.sz ≤ 1000000 from ⟨by rw [OX.out.sz]; exact lli, by rw [OY.out.sz]; exact llj⟩)
    have CU := Lib.hid (fun (W' : World) (b : Below wc.heap.size wc W') => Union_any ep fp e.t f.t W' (TX.out.grow b) (TY.out.grow b) OX.out.avl OY.out.avl OX.out.tasc OY.out.tasc (by have := zE.out; omega))
    have CI := Lib.hid (fun (W' : World) (b : Below wc.heap.size wc W') => Intersect_any ep fp e.t f.t W' (TX.out.grow b) (TY.out.grow b) OX.out.avl OY.out.avl OX.out.tasc OY.out.tasc (by have := zE.out; omega))
    have CT := Lib.hid (fun (W' : World) (b : Below wc.heap.size wc W') => Subtract_any ep fp e.t f.t W' (TX.out.grow b) (TY.out.grow b) OX.out.avl OY.out.avl OX.out.tasc OY.out.tasc (by have := zE.out; omega))
    go_wp2_with fail
    refine wp_region_G (fun w' => w'.cell? ⟨B, 0, none⟩ = some (.pointer ep) ∧ w'.cell? ⟨C, 0, none⟩ = some (.pointer fp)) 12 (by kernel_rfl) ?_
    have hS : wc.drew.cell? ⟨B, 0, none⟩ = some (.pointer ep) ∧ wc.drew.cell? ⟨C, 0, none⟩ = some (.pointer fp) := ⟨cell_dr xB, cell_dr xC⟩
    refine wpAnyG_take2 (i := 0) (d := 59) (oi := _) (v := .agg #[.pointer ep]) rfl (by kernel_rfl) (by kernel_rfl) (by kernel_rfl) (by kernel_rfl) (by kernel_rfl) (by kernel_rfl) (by decide) (fun _ _ _ h => h) (by rfl) (fun w' hw' => ?_) hS ?_
    · obtain ⟨h1, h2⟩ := hw'
      go_simp
    simp only [List.setIfInBounds_toArray, List.set_cons_zero, List.set_cons_succ]
    refine wpAnyG_take2 (i := 1) (d := 60) (oi := _) (v := .agg #[.pointer fp]) rfl (by kernel_rfl) (by kernel_rfl) (by kernel_rfl) (by kernel_rfl) (by kernel_rfl) (by kernel_rfl) (by decide) (fun _ _ _ h => h) (by rfl) (fun w' hw' => ?_) hS ?_
    · obtain ⟨h1, h2⟩ := hw'
      go_simp
    simp only [List.setIfInBounds_toArray, List.set_cons_zero, List.set_cons_succ]
    refine wpAnyG_take2 (i := 3) (d := 62) (oi := _) (v := .agg #[.pointer ep]) rfl (by kernel_rfl) (by kernel_rfl) (by kernel_rfl) (by kernel_rfl) (by kernel_rfl) (by kernel_rfl) (by decide) (fun _ _ _ h => h) (by rfl) (fun w' hw' => ?_) hS ?_
    · obtain ⟨h1, h2⟩ := hw'
      go_simp
    simp only [List.setIfInBounds_toArray, List.set_cons_zero, List.set_cons_succ]
    refine wpAnyG_take2 (i := 4) (d := 63) (oi := _) (v := .agg #[.pointer fp]) rfl (by kernel_rfl) (by kernel_rfl) (by kernel_rfl) (by kernel_rfl) (by kernel_rfl) (by kernel_rfl) (by decide) (fun _ _ _ h => h) (by rfl) (fun w' hw' => ?_) hS ?_
    · obtain ⟨h1, h2⟩ := hw'
      go_simp
    simp only [List.setIfInBounds_toArray, List.set_cons_zero, List.set_cons_succ]
    refine wpAnyG_take2 (i := 6) (d := 65) (oi := _) (v := .agg #[.pointer ep]) rfl (by kernel_rfl) (by kernel_rfl) (by kernel_rfl) (by kernel_rfl) (by kernel_rfl) (by kernel_rfl) (by decide) (fun _ _ _ h => h) (by rfl) (fun w' hw' => ?_) hS ?_
    · obtain ⟨h1, h2⟩ := hw'
      go_simp
    simp only [List.setIfInBounds_toArray, List.set_cons_zero, List.set_cons_succ]
    refine wpAnyG_take2 (i := 7) (d := 66) (oi := _) (v := .agg #[.pointer fp]) rfl (by kernel_rfl) (by kernel_rfl) (by kernel_rfl) (by kernel_rfl) (by kernel_rfl) (by kernel_rfl) (by decide) (fun _ _ _ h => h) (by rfl) (fun w' hw' => ?_) hS ?_
    · obtain ⟨h1, h2⟩ := hw'
      go_simp
    simp only [List.setIfInBounds_toArray, List.set_cons_zero, List.set_cons_succ]
    refine wpAnyG_box (w0 := wc) (c1 := 61) (c2 := 64) (c3 := 67) (b1 := 13) (b2 := 14) (b3 := 15) (i1 := 2) (i2 := 5) (i3 := 8) (j1 := 9) (j2 := 10) (j3 := 11) (m := 12) (Q1 := UniQ e.t f.t) (Q2 := IntQ e.t f.t) (Q3 := SubQ e.t f.t) (Lend := #[true, true, true, true, true, true, true, true, true, true, true, true, false, false, false])
      (by kernel_rfl) (by kernel_rfl) (by kernel_rfl) (by decide) (by decide) (by decide) (by decide) ⟨by kernel_rfl, by kernel_rfl, by kernel_rfl, by kernel_rfl, by kernel_rfl, by kernel_rfl⟩ ?hput hS (Below.refl _ wc).drew ⟨by kernel_rfl, by kernel_rfl, by kernel_rfl, by kernel_rfl, by kernel_rfl, by kernel_rfl⟩ ?ho ?hz (by kernel_rfl) ?hLm ?K1 ?K2 ?K3 ?A1 ?A2 ?A3 ?hend
    case hput => simp only [Act.put, List.setIfInBounds_toArray, List.set_cons_zero, List.set_cons_succ]
    case ho =>
      intro j hj y1 y2 y3 y4 y5 y6
      rcases (by omega : j = 0 ∨ j = 1 ∨ j = 3 ∨ j = 4 ∨ j = 6 ∨ j = 7) with rfl | rfl | rfl | rfl | rfl | rfl <;> rfl
    case hz =>
      intro j hj
      by_cases h15 : j < 15
      · rcases (by omega : j = 12 ∨ j = 13 ∨ j = 14) with rfl | rfl | rfl <;> rfl
      · simp [Array.getD]; try omega
    case hLm =>
      intro j hj
      have hj : j < 15 := hj
      rcases (by omega : j = 0 ∨ j = 1 ∨ j = 2 ∨ j = 3 ∨ j = 4 ∨ j = 5 ∨ j = 6 ∨ j = 7 ∨ j = 8 ∨ j = 9 ∨ j = 10 ∨ j = 11 ∨ j = 12 ∨ j = 13 ∨ j = 14) with rfl | rfl | rfl | rfl | rfl | rfl | rfl | rfl | rfl | rfl | rfl | rfl | rfl | rfl | rfl <;> rfl
    case K1 =>
      intro v1 v2 v3 y1 y2 y3 w' bel hS' o ho K' hK
      have ho2 := Option.some.inj ho
      clear ho
      subst ho2
      simp only [Act.put, List.setIfInBounds_toArray, List.set_cons_zero, List.set_cons_succ, List.getElem_toArray, List.getElem_cons_zero, List.getElem_cons_succ]
      go_simp
      go_at_call 33
      refine (CU.out w' bel).mono ?_
      rintro e' w'' ⟨q, t, rfl, a', g, st⟩
      have h9 := hK.out _ _ st ⟨cell_gr st hS'.1, cell_gr st hS'.2⟩ ⟨q, t, rfl, a', g⟩
      simp only [Act.put, List.setIfInBounds_toArray, List.set_cons_zero, List.set_cons_succ] at h9
      exact h9
    case K2 =>
      intro v1 v2 v3 y1 y2 y3 w' bel hS' o ho K' hK
      have ho2 := Option.some.inj ho
      clear ho
      subst ho2
      simp only [Act.put, List.setIfInBounds_toArray, List.set_cons_zero, List.set_cons_succ, List.getElem_toArray, List.getElem_cons_zero, List.getElem_cons_succ]
      go_simp
      go_at_call 37
      refine (CI.out w' bel).mono ?_
      rintro e' w'' ⟨q, t, rfl, a', g, st⟩
      have h9 := hK.out _ _ st ⟨cell_gr st hS'.1, cell_gr st hS'.2⟩ ⟨q, t, rfl, a', g⟩
      simp only [Act.put, List.setIfInBounds_toArray, List.set_cons_zero, List.set_cons_succ] at h9
      exact h9
    case K3 =>
      intro v1 v2 v3 y1 y2 y3 w' bel hS' o ho K' hK
      have ho2 := Option.some.inj ho
      clear ho
      subst ho2
      simp only [Act.put, List.setIfInBounds_toArray, List.set_cons_zero, List.set_cons_succ, List.getElem_toArray, List.getElem_cons_zero, List.getElem_cons_succ]
      go_simp
      go_at_call 34
      refine (CT.out w' bel).mono ?_
      rintro e' w'' ⟨q, t, rfl, a', g, st⟩
      have h9 := hK.out _ _ st ⟨cell_gr st hS'.1, cell_gr st hS'.2⟩ ⟨q, t, rfl, a', g⟩
      simp only [Act.put, List.setIfInBounds_toArray, List.set_cons_zero, List.set_cons_succ] at h9
      exact h9
    case A1 =>
      intro v1 v2 v3 y1 y2 y3 w' hS' o ho K' hK
      have ho2 := Option.some.inj ho
      clear ho
      subst ho2
      simp only [Act.put, List.setIfInBounds_toArray, List.set_cons_zero, List.set_cons_succ, List.getElem_toArray, List.getElem_cons_zero, List.getElem_cons_succ]
      go_simp
      have h9 := hK.out 35 ⟨cell_al _ hS'.1, cell_al _ hS'.2⟩
      simp only [Act.put, List.setIfInBounds_toArray, List.set_cons_zero, List.set_cons_succ] at h9
      exact h9
    case A2 =>
      intro v1 v2 v3 y1 y2 y3 w' hS' o ho K' hK
      have ho2 := Option.some.inj ho
      clear ho
      subst ho2
      simp only [Act.put, List.setIfInBounds_toArray, List.set_cons_zero, List.set_cons_succ, List.getElem_toArray, List.getElem_cons_zero, List.getElem_cons_succ]
      go_simp
      have h9 := hK.out 35 ⟨cell_al _ hS'.1, cell_al _ hS'.2⟩
      simp only [Act.put, List.setIfInBounds_toArray, List.set_cons_zero, List.set_cons_succ] at h9
      exact h9
    case A3 =>
      intro v1 v2 v3 y1 y2 y3 w' hS' o ho K' hK
      have ho2 := Option.some.inj ho
      clear ho
      subst ho2
      simp only [Act.put, List.setIfInBounds_toArray, List.set_cons_zero, List.set_cons_succ, List.getElem_toArray, List.getElem_cons_zero, List.getElem_cons_succ]
      go_simp
      have h9 := hK.out 35 ⟨cell_al _ hS'.1, cell_al _ hS'.2⟩
      simp only [Act.put, List.setIfInBounds_toArray, List.set_cons_zero, List.set_cons_succ] at h9
      exact h9
    case hend =>
      intro B1 B2 B3 q1 q2 q3 t1 t2 t3 w' bel hS' a1 a2 a3 r1 r2 r3 z1 z2 z3 e1 e2 e3 f1 f2 f3 n12 n13 n23 f9 hu
      have n21 : ¬ B2 = B1 := fun e => n12 e.symm
      have n31 : ¬ B3 = B1 := fun e => n13 e.symm
      have n32 : ¬ B3 = B2 := fun e => n23 e.symm
      obtain ⟨f9, rfl⟩ : ∃ g, f9 = g + 1 + 1 + 1 := ⟨f9 - 3, by have h3 : unl #[true, true, true, true, true, true, true, true, true, true, true, true, false, false, false] = 3 := (by decide); omega⟩
      have X1 := Lib.hid (three_b (w0 := wc) bel z1 z2 z3 e1 e2 e3 n12 n13 n23 a1 a2 a3)
      have SX := Lib.hid (show (((w'.setCell ⟨B1, 0, none⟩ (.pointer q1)).setCell ⟨B2, 0, none⟩ (.pointer q2)).setCell ⟨B3, 0, none⟩ (.pointer q3)).cell? ⟨B, 0, none⟩ = some (.pointer ep) ∧ (((w'.setCell ⟨B1, 0, none⟩ (.pointer q1)).setCell ⟨B2, 0, none⟩ (.pointer q2)).setCell ⟨B3, 0, none⟩ (.pointer q3)).cell? ⟨C, 0, none⟩ = some (.pointer fp) from by
        have zl := World.block_lt_of_cell? wc _ xB
        have zl2 := World.block_lt_of_cell? wc _ xC
        exact ⟨cell_st (by dsimp only at zl ⊢; omega) (cell_st (by dsimp only at zl ⊢; omega) (cell_st (by dsimp only at zl ⊢; omega) hS'.1)), cell_st (by dsimp only at zl2 ⊢; omega) (cell_st (by dsimp only at zl2 ⊢; omega) (cell_st (by dsimp only at zl2 ⊢; omega) hS'.2))⟩)
      have R1 := Lib.hid r1
      have R2 := Lib.hid r2
      have R3 := Lib.hid r3
      clear bel hS' a1 a2 a3 r1 r2 r3 z1 z2 z3 hu CU CI CT GX GY xB xC hS
      try simp only [Act.put, List.setIfInBounds_toArray, List.set_cons_zero, List.set_cons_succ]
      refine wpAnyG_one (i := 12) (o := _) (by kernel_rfl) rfl (fun K hK => ?_)
      go_simp
      refine hK.out _ _ (fun h => absurd h (by decide)) ?_
      try simp only [Act.put, List.setIfInBounds_toArray, List.set_cons_zero, List.set_cons_succ]
      clear hK
      refine wpAnyG_one (i := 13) (o := _) (by kernel_rfl) rfl (fun K hK => ?_)
      go_simp
      refine hK.out _ _ (fun h => absurd h (by decide)) ?_
      try simp only [Act.put, List.setIfInBounds_toArray, List.set_cons_zero, List.set_cons_succ]
      clear hK
      refine wpAnyG_one (i := 14) (o := _) (by kernel_rfl) rfl (fun K hK => ?_)
      go_simp
      refine hK.out _ _ (fun h => absurd h (by decide)) ?_
      try simp only [Act.put, List.setIfInBounds_toArray, List.set_cons_zero, List.set_cons_succ]
      clear hK
      refine wpAnyG_done (by kernel_rfl) ?_ _
      generalize ((w'.setCell ⟨B1, 0, none⟩ (.pointer q1)).setCell ⟨B2, 0, none⟩ (.pointer q2)).setCell ⟨B3, 0, none⟩ (.pointer q3) = V at X1 SX ⊢
      have st0 := X1.out.bel
      have OV := Lib.hid (OX.out.keep (KeepI.below st0))
      have OW := Lib.hid (OY.out.keep (KeepI.below st0))
      have TV := Lib.hid (TX.out.grow st0)
      have TW := Lib.hid (TY.out.grow st0)
      have BV := Lib.hid (BX.out.trans (st0.mono BX.out.size))
      have M1 := Lib.hid (show t1.rows = encL (uniF e.L f.L) from uni_enc OV.out.asc OW.out.asc (by have := R1.out.v; rwa [OV.out.rows, OW.out.rows] at this))
      have M2 := Lib.hid (show t2.rows = encL (filL (pIn e.L) f.L) from int_enc OW.out.asc (by have := R2.out.v; rwa [OV.out.rows, OW.out.rows] at this))
      have M3 := Lib.hid (show t3.rows = encL (filL (pOut f.L) e.L) from sub_enc OV.out.asc (by have := R3.out.v; rwa [OV.out.rows, OW.out.rows] at this))
      have z1 : e.t.sz = e.L.length := OV.out.sz
      have z2 : f.t.sz = f.L.length := OW.out.sz
      obtain ⟨al1, al2⟩ := algebra OV.out.asc OW.out.asc
      have zz := zE.out
      have y1 := sz_enc M1.out
      have y2 := sz_enc M2.out
      have y3 := sz_enc M3.out
      have ML := Lib.hid (show (uniF e.L f.L).length ≤ 1000000 from Nat.le_trans (asc_card KS _ (uniF_T f.L e.L OV.out.asc OW.out.asc).asc fun x hx => by
        have h9 := key_val (uniF_T f.L e.L OV.out.asc OW.out.asc).asc hx
        rw [(uniF_T f.L e.L OV.out.asc OW.out.asc).v] at h9
        by_cases h8 : val f.L x.1 = none
        · rw [h8, Option.none_or] at h9; exact OV.out.ks _ h9
        · exact OW.out.ks _ h8) KSL.out)
      obtain ⟨M, hM⟩ : ∃ M, M = uniF e.L f.L := ⟨_, rfl⟩
      rw [← hM] at M1 y1 al1 ML
      obtain ⟨LU, hLU⟩ : ∃ LU : Int, LU = (t1.sz : Int) := ⟨_, rfl⟩
      obtain ⟨LI, hLI⟩ : ∃ LI : Int, LI = (t2.sz : Int) := ⟨_, rfl⟩
      obtain ⟨LS, hLS⟩ : ∃ LS : Int, LS = (t3.sz : Int) := ⟨_, rfl⟩
      obtain ⟨LA, hLA⟩ : ∃ LA : Int, LA = (e.t.sz : Int) := ⟨_, rfl⟩
      obtain ⟨LB, hLB⟩ : ∃ LB : Int, LB = (f.t.sz : Int) := ⟨_, rfl⟩
      obtain ⟨S4, hS4⟩ : ∃ S4 : Int, S4 = LA + LB := ⟨_, rfl⟩
      have e7 : IntKind.i64.wrap (LU + LI) = S4 := by rw [show LU + LI = S4 by omega]; exact IntWalk.i64_in _ (by omega)
      have e8 : IntKind.i64.wrap (LA + LB) = S4 := by rw [show LA + LB = S4 by omega]; exact IntWalk.i64_in _ (by omega)
      have e9 : IntKind.i64.wrap (LA - LI) = LS := by rw [show LA - LI = LS by omega]; exact IntWalk.i64_in _ (by omega)
      have CUn := Lib.hid (fun W (b : Below V.heap.size V W) => Union_any q3 fp t3 f.t W (X1.out.a3.grow b) (TW.out.grow b) R3.out.avl OW.out.avl R3.out.v.asc OW.out.tasc (by have := R3.out.sz; have := zE.out; omega))
      have CLi := Lib.hid (fun W (b : Below V.heap.size V W) => list_any q1 t1 M W (X1.out.a1.grow b) M1.out (by have := ML.out; omega))
      have CSa := Lib.hid (fun W q t s' c' (a : At W q t) (g : UniQ t3 f.t t) (h : RowsR W s' M) => same_any q t s' c' M W a ((uni_back R1.out.v R3.out.v g.v).trans M1.out) h (by have := ML.out; omega))
      have CL1 := Lib.hid (fun W (b : Below V.heap.size V W) => Len_any q1 t1 LU W (X1.out.a1.grow b) hLU.symm)
      have CL2 := Lib.hid (fun W (b : Below V.heap.size V W) => Len_any q2 t2 LI W (X1.out.a2.grow b) hLI.symm)
      have CL3 := Lib.hid (fun W (b : Below V.heap.size V W) => Len_any q3 t3 LS W (X1.out.a3.grow b) hLS.symm)
      have CLa := Lib.hid (fun W (b : Below V.heap.size V W) => Len_any ep e.t LA W (TV.out.grow b) hLA.symm)
      have CLb := Lib.hid (fun W (b : Below V.heap.size V W) => Len_any fp f.t LB W (TW.out.grow b) hLB.symm)
      have W1 := X1.out.c1
      have W2 := X1.out.c2
      have W3 := X1.out.c3
      have WB := SX.out.1
      have WC := SX.out.2
      have BW : Below V.heap.size V V.drew := (Below.refl _ V).drew
      clear st0 OX OY TX TY BX SX hM hLU hLI hLS hLA hLB hS4 al1 al2 zz y1 y2 y3 z1 z2 M1 M2 M3 R1 R2 R3 X1 e1 e2 e3 f1 f2 f3 n12 n13 n23 n21 n31 n32 f9 ML OW TW
      go_wp2_with fail
      go_region_held3 (fun w' => w'.cell? ⟨B, 0, none⟩ = some (.pointer ep) ∧ w'.cell? ⟨C, 0, none⟩ = some (.pointer fp) ∧ w'.cell? ⟨B1, 0, none⟩ = some (.pointer q1) ∧ w'.cell? ⟨B2, 0, none⟩ = some (.pointer q2) ∧ w'.cell? ⟨B3, 0, none⟩ = some (.pointer q3)) (first | exact ⟨WB, WC, W1, W2, W3⟩ | exact ⟨cell_dr WB, cell_dr WC, cell_dr W1, cell_dr W2, cell_dr W3⟩) (first
        | (go_at_call 33; (with_reducible refine (CUn.out _ BW).mono ?_); rintro e6 w6 ⟨q6, t6, rfl, a6, g6, st⟩; have A6 := Lib.hid a6; have G6 := Lib.hid g6; replace WB := cell_gr st WB; replace WC := cell_gr st WC; replace W1 := cell_gr st W1; replace W2 := cell_gr st W2; replace W3 := cell_gr st W3; replace BW := BW.trans (st.mono BW.size); clear a6 g6 st)
        | (go_at_call 38; (with_reducible refine (CLi.out _ BW).mono ?_); rintro e6 w6 ⟨v6, rfl, ho, st⟩; obtain ⟨s6, c6, rfl, rr⟩ := ownRows ho; have RR := Lib.hid rr; (try replace A6 := Lib.hid (A6.out.grow st)); replace WB := cell_gr st WB; replace WC := cell_gr st WC; replace W1 := cell_gr st W1; replace W2 := cell_gr st W2; replace W3 := cell_gr st W3; replace BW := BW.trans (st.mono BW.size); clear ho rr st)
        | (go_at_call 16; (with_reducible refine (CSa.out _ _ _ _ _ A6.out G6.out RR.out).mono ?_); rintro e6 w6 ⟨rfl, st⟩; replace WB := cell_gr st WB; replace WC := cell_gr st WC; replace W1 := cell_gr st W1; replace W2 := cell_gr st W2; replace W3 := cell_gr st W3; replace BW := BW.trans (st.mono BW.size); clear st)
        | (go_at_call 25; (with_reducible refine (CL1.out _ BW).mono ?_); rintro e6 w6 ⟨rfl, st⟩; replace WB := cell_gr st WB; replace WC := cell_gr st WC; replace W1 := cell_gr st W1; replace W2 := cell_gr st W2; replace W3 := cell_gr st W3; replace BW := BW.trans (st.mono BW.size); clear st)
        | (go_at_call 25; (with_reducible refine (CL2.out _ BW).mono ?_); rintro e6 w6 ⟨rfl, st⟩; replace WB := cell_gr st WB; replace WC := cell_gr st WC; replace W1 := cell_gr st W1; replace W2 := cell_gr st W2; replace W3 := cell_gr st W3; replace BW := BW.trans (st.mono BW.size); clear st)
        | (go_at_call 25; (with_reducible refine (CLa.out _ BW).mono ?_); rintro e6 w6 ⟨rfl, st⟩; replace WB := cell_gr st WB; replace WC := cell_gr st WC; replace W1 := cell_gr st W1; replace W2 := cell_gr st W2; replace W3 := cell_gr st W3; replace BW := BW.trans (st.mono BW.size); clear st)
        | (go_at_call 25; (with_reducible refine (CLb.out _ BW).mono ?_); rintro e6 w6 ⟨rfl, st⟩; replace WB := cell_gr st WB; replace WC := cell_gr st WC; replace W1 := cell_gr st W1; replace W2 := cell_gr st W2; replace W3 := cell_gr st W3; replace BW := BW.trans (st.mono BW.size); clear st)
        | (go_at_call 25; (with_reducible refine (CL3.out _ BW).mono ?_); rintro e6 w6 ⟨rfl, st⟩; replace WB := cell_gr st WB; replace WC := cell_gr st WC; replace W1 := cell_gr st W1; replace W2 := cell_gr st W2; replace W3 := cell_gr st W3; replace BW := BW.trans (st.mono BW.size); clear st))
      go_wp2_with fail
      have TE6 := Lib.hid (TV.out.grow BW)
      have SZ := Lib.hid zE.out.1
      have TA := Lib.hid OV.out.tasc
      have AV := Lib.hid OV.out.avl
      have B6 := Lib.hid (BV.out.trans (BW.mono BV.out.size))
      have RW := Lib.hid OV.out.rows
      clear TV zE OV BV BW W1 W2 W3 WC CUn CLi CSa CL1 CL2 CL3 CLa CLb e7 e8 e9 A6 G6 RR
      refine (Split_any ep e.t k w6 TE6.out AV.out TA.out (by have := SZ.out; omega)).mono ?_
      rintro e7 w7 ⟨q7, lo, x7, f7, q8, hi, rfl, a7, a8, g7, st7⟩
      have T7 := Lib.hid (TE6.out.grow st7)
      replace WB := cell_gr st7 WB
      have B7 := Lib.hid (B6.out.trans (st7.mono B6.out.size))
      have G7 := Lib.hid g7
      obtain ⟨n7, rfl⟩ : ∃ n : Int, x7 = .int .i64 n := by
        have h9 := g7.hx
        rw [RW.out, enc_val] at h9
        rw [h9]; cases val e.L k <;> exact ⟨_, rfl⟩
      have A7 := Lib.hid a7
      have A8 := Lib.hid a8
      clear a7 a8 g7 st7 TE6 B6
      cases f7 with
      | false =>
        go_wp2_with fail
        obtain ⟨z, hz⟩ : ∃ z, z = w7.heap.size := ⟨_, rfl⟩
        have zB := World.block_lt_of_cell? w7 _ WB
        dsimp only at zB
        have BZ := Lib.hid (show ¬ B = z by omega)
        have C16 : ((w7.alloc (Obj.cells #[Value.pointer q7] 35)).alloc (Obj.cells #[Value.pointer q8] 35)).cell? ⟨z, 0, none⟩ = some (.pointer q7) := by rw [hz]; simp [go_sem]
        have C19 : ((w7.alloc (Obj.cells #[Value.pointer q7] 35)).alloc (Obj.cells #[Value.pointer q8] 35)).cell? ⟨z + 1, 0, none⟩ = some (.pointer q8) := by rw [hz]; simp [go_sem]
        have F16 : ((w7.alloc (Obj.cells #[Value.pointer q7] 35)).alloc (Obj.cells #[Value.pointer q8] 35)).frozen? ⟨z, 0, none⟩ = false := by rw [hz]; simp [go_sem]
        replace WB := cell_al (Obj.cells #[Value.pointer q8] 35) (cell_al (Obj.cells #[Value.pointer q7] 35) WB)
        have b9 : Below w7.heap.size w7 ((w7.alloc (Obj.cells #[Value.pointer q7] 35)).alloc (Obj.cells #[Value.pointer q8] 35)) := ((Below.refl _ w7).alloc (Nat.le_refl _) _).alloc ((Below.refl _ w7).alloc (Nat.le_refl _) _).size _
        have zle := Lib.hid (show w.heap.size ≤ z by have := B7.out.size; omega)
        have T8 := Lib.hid (T7.out.grow b9)
        have P7 := Lib.hid (A7.out.grow b9)
        have P8 := Lib.hid (A8.out.grow b9)
        have B8 := Lib.hid (B7.out.trans (b9.mono B7.out.size))
        rw [← hz]
        clear b9 hz T7 A7 A8 B7
        generalize ((w7.alloc (Obj.cells #[Value.pointer q7] 35)).alloc (Obj.cells #[Value.pointer q8] 35)) = V8 at *
        have JJ := Lib.hid (cut_join TA.out G7.out.slo G7.out.shi (by have h9 := G7.out.hf; cases h8 : val e.t.rows k with | none => rfl | some v => rw [h8] at h9; cases h9))
        have CJ := Join_any q7 q8 lo hi V8 P7.out P8.out G7.out.al G7.out.ah (by rw [JJ.out]; exact TA.out) (by have h1 := G7.out.sz; have h2 := SZ.out; omega)
        have TU := T8
        have BU := B8
        clear P7 P8 G7 T8 B8 zle C16 C19 F16
        refine CJ.mono ?_
        rintro e5 v5 ⟨q5, t5, rfl, a5, g5, st5⟩
        have R5 := Lib.hid (show t5.rows = encL e.L by rw [← RW.out, ← JJ.out]; exact g5.1)
        have A5 := Lib.hid a5
        have T5 := Lib.hid (TU.out.grow st5)
        have B5 := Lib.hid (BU.out.trans (st5.mono BU.out.size))
        replace WB := cell_gr st5 WB
        clear CJ a5 g5 st5 TU BU
        go_wp2_with fail
        obtain ⟨z2, hz2⟩ : ∃ z2, z2 = v5.heap.size := ⟨_, rfl⟩
        have C20 : (v5.alloc (Obj.cells #[Value.pointer q5] 35)).cell? ⟨z2, 0, none⟩ = some (.pointer q5) := by rw [hz2]; simp [go_sem]
        replace WB := cell_al (Obj.cells #[Value.pointer q5] 35) WB
        have b9 : Below v5.heap.size v5 (v5.alloc (Obj.cells #[Value.pointer q5] 35)) := (Below.refl _ v5).alloc (Nat.le_refl _) _
        have T9 := Lib.hid (T5.out.grow b9)
        have A9 := Lib.hid (A5.out.grow b9)
        have B9 := Lib.hid (B5.out.trans (b9.mono B5.out.size))
        rw [← hz2]
        clear b9 hz2 T5 A5 B5
        generalize v5.alloc (Obj.cells #[Value.pointer q5] 35) = V9 at *
        have LN := Lib.hid (show e.L.length ≤ 1000000 by have h1 := SZ.out; have h2 := sz_enc RW.out; omega)
        have CLi := Lib.hid (fun W (b : Below V9.heap.size V9 W) => list_any ep e.t e.L W (T9.out.grow b) RW.out LN.out)
        have CS1 := Lib.hid (fun W (b : Below V9.heap.size V9 W) s' c' (h : RowsR W s' e.L) => same_any q5 t5 s' c' e.L W (A9.out.grow b) R5.out h LN.out)
        have CUn := Lib.hid (fun W (b : Below V9.heap.size V9 W) => Union_any ep ep e.t e.t W (T9.out.grow b) (T9.out.grow b) AV.out AV.out TA.out TA.out (by have := SZ.out; omega))
        have CS2 := Lib.hid (fun W q t s' c' (a : At W q t) (g : UniQ e.t e.t t) (h : RowsR W s' e.L) => same_any q t s' c' e.L W a ((uni_self TA.out g.v).trans RW.out) h LN.out)
        have CSu := Lib.hid (fun W (b : Below V9.heap.size V9 W) => Subtract_any ep ep e.t e.t W (T9.out.grow b) (T9.out.grow b) AV.out AV.out TA.out TA.out (by have := SZ.out; omega))
        have CL0 := Lib.hid (fun W q t (a : At W q t) (g : SubQ e.t e.t t) => Len_any q t 0 W a (by
          have h9 := sub_self g.v
          rw [← t.sz_eq, h9]; rfl))
        have BW : Below V9.heap.size V9 V9.drew := (Below.refl _ V9).drew
        clear T9 A9 R5
        go_region_held3 (fun w' => w'.cell? ⟨B, 0, none⟩ = some (.pointer ep) ∧ w'.cell? ⟨z2, 0, none⟩ = some (.pointer q5)) (first | exact ⟨WB, C20⟩ | exact ⟨cell_dr WB, cell_dr C20⟩) (first
          | (go_at_call 38; (with_reducible refine (CLi.out _ BW).mono ?_); rintro e6 w6 ⟨v6, rfl, ho, st⟩; obtain ⟨s6, c6, rfl, rr⟩ := ownRows ho; have RR := Lib.hid rr; (try replace A6 := Lib.hid (A6.out.grow st)); replace WB := cell_gr st WB; replace C20 := cell_gr st C20; replace BW := BW.trans (st.mono BW.size); clear ho rr st)
          | (go_at_call 16; (with_reducible refine (CS1.out _ BW _ _ RR.out).mono ?_); rintro e6 w6 ⟨rfl, st⟩; replace WB := cell_gr st WB; replace C20 := cell_gr st C20; replace BW := BW.trans (st.mono BW.size); clear st)
          | (go_at_call 33; (with_reducible refine (CUn.out _ BW).mono ?_); rintro e6 w6 ⟨q6, t6, rfl, a6, g6, st⟩; have A6 := Lib.hid a6; have G6 := Lib.hid g6; replace WB := cell_gr st WB; replace C20 := cell_gr st C20; replace BW := BW.trans (st.mono BW.size); clear a6 g6 st)
          | (go_at_call 16; (with_reducible refine (CS2.out _ _ _ _ _ A6.out G6.out RR.out).mono ?_); rintro e6 w6 ⟨rfl, st⟩; replace WB := cell_gr st WB; replace C20 := cell_gr st C20; replace BW := BW.trans (st.mono BW.size); clear st)
          | (go_at_call 34; (with_reducible refine (CSu.out _ BW).mono ?_); rintro e6 w6 ⟨q6, t6, rfl, a6, g6, st⟩; have AS := Lib.hid a6; have GS := Lib.hid g6; replace WB := cell_gr st WB; replace C20 := cell_gr st C20; replace BW := BW.trans (st.mono BW.size); clear a6 g6 st)
          | (go_at_call 25; (with_reducible refine (CL0.out _ _ _ AS.out GS.out).mono ?_); rintro e6 w6 ⟨rfl, st⟩; replace WB := cell_gr st WB; replace C20 := cell_gr st C20; replace BW := BW.trans (st.mono BW.size); clear st)
          | (go_at_call 14; (with_reducible refine (AL.out _).mono ?_); rintro e6 w6 ⟨rfl, st⟩; replace WB := cell_gr st WB; replace C20 := cell_gr st C20; replace BW := BW.trans (st.mono BW.size); clear st))
        go_wp2_with fail
        go_ret
        exact ⟨rfl, B9.out.trans (BW.mono B9.out.size)⟩
      | true =>
        go_wp2_with fail
        obtain ⟨z, hz⟩ : ∃ z, z = w7.heap.size := ⟨_, rfl⟩
        have zB := World.block_lt_of_cell? w7 _ WB
        dsimp only at zB
        have BZ := Lib.hid (show ¬ B = z by omega)
        have C16 : ((w7.alloc (Obj.cells #[Value.pointer q7] 35)).alloc (Obj.cells #[Value.pointer q8] 35)).cell? ⟨z, 0, none⟩ = some (.pointer q7) := by rw [hz]; simp [go_sem]
        have C19 : ((w7.alloc (Obj.cells #[Value.pointer q7] 35)).alloc (Obj.cells #[Value.pointer q8] 35)).cell? ⟨z + 1, 0, none⟩ = some (.pointer q8) := by rw [hz]; simp [go_sem]
        have F16 : ((w7.alloc (Obj.cells #[Value.pointer q7] 35)).alloc (Obj.cells #[Value.pointer q8] 35)).frozen? ⟨z, 0, none⟩ = false := by rw [hz]; simp [go_sem]
        replace WB := cell_al (Obj.cells #[Value.pointer q8] 35) (cell_al (Obj.cells #[Value.pointer q7] 35) WB)
        have b9 : Below w7.heap.size w7 ((w7.alloc (Obj.cells #[Value.pointer q7] 35)).alloc (Obj.cells #[Value.pointer q8] 35)) := ((Below.refl _ w7).alloc (Nat.le_refl _) _).alloc ((Below.refl _ w7).alloc (Nat.le_refl _) _).size _
        have zle := Lib.hid (show w.heap.size ≤ z by have := B7.out.size; omega)
        have T8 := Lib.hid (T7.out.grow b9)
        have P7 := Lib.hid (A7.out.grow b9)
        have P8 := Lib.hid (A8.out.grow b9)
        have B8 := Lib.hid (B7.out.trans (b9.mono B7.out.size))
        rw [← hz]
        clear b9 hz T7 A7 A8 B7
        generalize ((w7.alloc (Obj.cells #[Value.pointer q7] 35)).alloc (Obj.cells #[Value.pointer q8] 35)) = V8 at *
        have SZ7 := Lib.hid (show lo.sz + hi.sz + 1 = e.t.sz from G7.out.sz)
        have v7 : val e.t.rows k = some (.int .i64 n7) := by
          have h9 := G7.out.hf
          have h7 := G7.out.hx
          cases h8 : val e.t.rows k with
          | none => rw [h8] at h9; cases h9
          | some v => rw [h8] at h7; rw [h7]; rfl
        refine (Put_any q7 lo k (.int .i64 n7) V8 rfl P7.out G7.out.al G7.out.slo.asc (by have h1 := SZ7.out; have h2 := SZ.out; omega)).mono ?_
        rintro e9 v9 ⟨q9, t9, rfl, a9, g9, st9⟩
        replace F16 := fro_gr st9 C16 F16
        replace C16 := cell_gr st9 C16
        replace C19 := cell_gr st9 C19
        replace WB := cell_gr st9 WB
        have JJ := Lib.hid (put_join TA.out G7.out.slo G7.out.shi v7 g9.p)
        have VL := Lib.hid g9.avl
        have VZ := Lib.hid (show t9.sz ≤ lo.sz + 1 from g9.sz)
        have X9 := Lib.hid (a9.set (.pointer q9) C16)
        have X8 := Lib.hid ((P8.out.grow st9).set (.pointer q9) C16)
        have TU := Lib.hid ((T8.out.grow st9).set (.pointer q9) C16)
        have BU := Lib.hid (show Below w.heap.size w (v9.setCell ⟨z, 0, none⟩ (.pointer q9)) from (B8.out.trans (st9.mono B8.out.size)).setCell (show w.heap.size ≤ (⟨z, 0, none⟩ : Addr).block from zle.out) (.pointer q9))
        have WB' : (v9.setCell ⟨z, 0, none⟩ (.pointer q9)).cell? ⟨B, 0, none⟩ = some (.pointer ep) := cell_st BZ.out WB
        clear a9 g9 st9 v7 P7 P8 T8 B8
        go_wp2_with fail
        generalize v9.setCell ⟨z, 0, none⟩ (.pointer q9) = V8 at *
        replace WB := WB'
        clear WB'
        have CJ := Join_any q9 q8 t9 hi V8 X9.out X8.out VL.out G7.out.ah (by rw [JJ.out]; exact TA.out) (by have h1 := SZ7.out; have h2 := SZ.out; have h3 := VZ.out; omega)
        clear X9 X8 G7 zle VL VZ SZ7 C16 C19 F16
        refine CJ.mono ?_
        rintro e5 v5 ⟨q5, t5, rfl, a5, g5, st5⟩
        have R5 := Lib.hid (show t5.rows = encL e.L by rw [← RW.out, ← JJ.out]; exact g5.1)
        have A5 := Lib.hid a5
        have T5 := Lib.hid (TU.out.grow st5)
        have B5 := Lib.hid (BU.out.trans (st5.mono BU.out.size))
        replace WB := cell_gr st5 WB
        clear CJ a5 g5 st5 TU BU
        go_wp2_with fail
        obtain ⟨z2, hz2⟩ : ∃ z2, z2 = v5.heap.size := ⟨_, rfl⟩
        have C20 : (v5.alloc (Obj.cells #[Value.pointer q5] 35)).cell? ⟨z2, 0, none⟩ = some (.pointer q5) := by rw [hz2]; simp [go_sem]
        replace WB := cell_al (Obj.cells #[Value.pointer q5] 35) WB
        have b9 : Below v5.heap.size v5 (v5.alloc (Obj.cells #[Value.pointer q5] 35)) := (Below.refl _ v5).alloc (Nat.le_refl _) _
        have T9 := Lib.hid (T5.out.grow b9)
        have A9 := Lib.hid (A5.out.grow b9)
        have B9 := Lib.hid (B5.out.trans (b9.mono B5.out.size))
        rw [← hz2]
        clear b9 hz2 T5 A5 B5
        generalize v5.alloc (Obj.cells #[Value.pointer q5] 35) = V9 at *
        have LN := Lib.hid (show e.L.length ≤ 1000000 by have h1 := SZ.out; have h2 := sz_enc RW.out; omega)
        have CLi := Lib.hid (fun W (b : Below V9.heap.size V9 W) => list_any ep e.t e.L W (T9.out.grow b) RW.out LN.out)
        have CS1 := Lib.hid (fun W (b : Below V9.heap.size V9 W) s' c' (h : RowsR W s' e.L) => same_any q5 t5 s' c' e.L W (A9.out.grow b) R5.out h LN.out)
        have CUn := Lib.hid (fun W (b : Below V9.heap.size V9 W) => Union_any ep ep e.t e.t W (T9.out.grow b) (T9.out.grow b) AV.out AV.out TA.out TA.out (by have := SZ.out; omega))
        have CS2 := Lib.hid (fun W q t s' c' (a : At W q t) (g : UniQ e.t e.t t) (h : RowsR W s' e.L) => same_any q t s' c' e.L W a ((uni_self TA.out g.v).trans RW.out) h LN.out)
        have CSu := Lib.hid (fun W (b : Below V9.heap.size V9 W) => Subtract_any ep ep e.t e.t W (T9.out.grow b) (T9.out.grow b) AV.out AV.out TA.out TA.out (by have := SZ.out; omega))
        have CL0 := Lib.hid (fun W q t (a : At W q t) (g : SubQ e.t e.t t) => Len_any q t 0 W a (by
          have h9 := sub_self g.v
          rw [← t.sz_eq, h9]; rfl))
        have BW : Below V9.heap.size V9 V9.drew := (Below.refl _ V9).drew
        clear T9 A9 R5
        go_region_held3 (fun w' => w'.cell? ⟨B, 0, none⟩ = some (.pointer ep) ∧ w'.cell? ⟨z2, 0, none⟩ = some (.pointer q5)) (first | exact ⟨WB, C20⟩ | exact ⟨cell_dr WB, cell_dr C20⟩) (first
          | (go_at_call 38; (with_reducible refine (CLi.out _ BW).mono ?_); rintro e6 w6 ⟨v6, rfl, ho, st⟩; obtain ⟨s6, c6, rfl, rr⟩ := ownRows ho; have RR := Lib.hid rr; (try replace A6 := Lib.hid (A6.out.grow st)); replace WB := cell_gr st WB; replace C20 := cell_gr st C20; replace BW := BW.trans (st.mono BW.size); clear ho rr st)
          | (go_at_call 16; (with_reducible refine (CS1.out _ BW _ _ RR.out).mono ?_); rintro e6 w6 ⟨rfl, st⟩; replace WB := cell_gr st WB; replace C20 := cell_gr st C20; replace BW := BW.trans (st.mono BW.size); clear st)
          | (go_at_call 33; (with_reducible refine (CUn.out _ BW).mono ?_); rintro e6 w6 ⟨q6, t6, rfl, a6, g6, st⟩; have A6 := Lib.hid a6; have G6 := Lib.hid g6; replace WB := cell_gr st WB; replace C20 := cell_gr st C20; replace BW := BW.trans (st.mono BW.size); clear a6 g6 st)
          | (go_at_call 16; (with_reducible refine (CS2.out _ _ _ _ _ A6.out G6.out RR.out).mono ?_); rintro e6 w6 ⟨rfl, st⟩; replace WB := cell_gr st WB; replace C20 := cell_gr st C20; replace BW := BW.trans (st.mono BW.size); clear st)
          | (go_at_call 34; (with_reducible refine (CSu.out _ BW).mono ?_); rintro e6 w6 ⟨q6, t6, rfl, a6, g6, st⟩; have AS := Lib.hid a6; have GS := Lib.hid g6; replace WB := cell_gr st WB; replace C20 := cell_gr st C20; replace BW := BW.trans (st.mono BW.size); clear a6 g6 st)
          | (go_at_call 25; (with_reducible refine (CL0.out _ _ _ AS.out GS.out).mono ?_); rintro e6 w6 ⟨rfl, st⟩; replace WB := cell_gr st WB; replace C20 := cell_gr st C20; replace BW := BW.trans (st.mono BW.size); clear st)
          | (go_at_call 14; (with_reducible refine (AL.out _).mono ?_); rintro e6 w6 ⟨rfl, st⟩; replace WB := cell_gr st WB; replace C20 := cell_gr st C20; replace BW := BW.trans (st.mono BW.size); clear st))
        go_wp2_with fail
        go_ret
        exact ⟨rfl, B9.out.trans (BW.mono B9.out.size)⟩
end Go.Proofs.Ytbphmcjjanchlaa
