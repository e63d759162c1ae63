/- TreeLooks, walked. -/
import Derived.Test.YtgbhddiligdemaaTWK
import Derived.Deep.Cut
import Derived.Deep.CutRange
namespace Go.Proofs.Ytgbhddiligdemaa
open Go.RowKit Go.Proofs.Ytgbhddiligdemaa.Mii
set_option linter.unusedVariables false
set_option linter.unusedSimpArgs false

set_option maxRecDepth 100000 in
set_option maxHeartbeats 20000000 in
theorem treeLooks_walk (p : Option Addr) (c : Nat) (S : List OpV) (w : World) (r : OpsR w p S) (ln : S.length ≤ 9223372036854775807) (k : Int) (hk0 : -9223372036854775808 ≤ k ∧ k ≤ 9223372036854775807) (at' : Int) (ha0 : -9223372036854775808 ≤ at' ∧ at' ≤ 9223372036854775807) :
    Calls Try.prog 4 #[.slice p S.length c, .int .i64 k, .int .i64 at'] w fun e w' => e = .returned (.bool true) ∧ Below w.heap.size w w' := by
  have AL := Lib.hid Go.Proofs.Ytgbhddiligdemaa.Mis.alive_any
  have CF := Lib.hid (fun W => few_any p S.length c W ln)
  by_cases hlen : S.length ≤ 200
  case neg =>
    rw [decide_eq_false hlen] at CF
    generalize hx : S.length = x at *
    clear hx r hlen
    go_enter Try.func4, Try.ntmps4
    go_wp2_with fail
    refine (CF.out _).mono ?_
    rintro e w0 ⟨rfl, rfl⟩
    go_wp2_with fail
    refine (AL.out _).mono ?_
    rintro e w1 ⟨rfl, st⟩
    go_wp2_with fail
    go_ret
    exact ⟨rfl, st⟩
  rw [decide_eq_true hlen] at CF
  have CP := Lib.hid (played_any p c S w r hlen)
  have KR := Lib.hid hk0
  have AR := Lib.hid ha0
  generalize hx : S.length = x at *
  clear hx r ln hk0 ha0
  go_enter Try.func4, Try.ntmps4
  go_wp2_with fail
  refine (CF.out _).mono ?_
  rintro e w0 ⟨rfl, rfl⟩
  go_wp2_with fail
  refine CP.out.mono ?_
  rintro e w1 ⟨bw, KS, ms, vm, vl, rfl, hW, hB, hk, hm⟩
  obtain ⟨gm, cm, gl, cl, rfl, rfl, -, -, -⟩ := hW.entry
  have HW := Lib.hid hW
  have HB := Lib.hid hB
  have HK := Lib.hid hk
  have HP := Lib.hid hW.ne
  obtain ⟨n, hn⟩ : ∃ n, n = ms.length := ⟨_, rfl⟩
  have HN := Lib.hid hn
  rw [← hn] at hm
  clear hW hB hk CF CP hn
  go_wp2_with fail
  go_loopw [8, 9] (fun ov kv wr => ∃ i : Nat, i ≤ n ∧ ov = .bool true ∧ kv = .int .i64 i ∧ Hid (Wld w.heap.size wr bw KS ms (.slice (some ⟨gm, 0, none⟩) ms.length cm) (.slice (some ⟨gl, 0, none⟩) ms.length cl)) ∧ Below w.heap.size w wr) (fun _ kv _ => n - (intOf kv).toNat)
  case atStart => exact ⟨0, Nat.zero_le _, rfl, rfl, HW, HB.out⟩
  case round =>
    obtain ⟨i, hi, rfl, rfl, HW2, hb⟩ := hrel
    obtain ⟨c0, c1, -, -, -⟩ := HW2.out.cells
    rw [← HN.out] at c0 c1
    by_cases t1 : i < n
    · obtain ⟨gm2, cm2, gl2, cl2, em, el, -, -, hE⟩ := HW2.out.entry
      cases em
      cases el
      obtain ⟨e, s, d, -, -, O, -, rr, mi, ni⟩ := hE i (by rw [← HN.out]; exact t1)
      have i1 : (0 : Int) ≤ (i : Int) := by omega
      have i2 : (i : Int) < (n : Int) := by omega
      have ll : e.L.length ≤ 1000000 := by have := O.len; have := HK.out; omega
      have C1 := Lib.hid (fun W' h1 h2 => looks_any e.p e.t e.L k s d W' h1 O.rows O.asc h2 ll)
      have C2 := Lib.hid (fun W' h1 h2 => looks_any e.p e.t e.L at' s d W' h1 O.rows O.asc h2 ll)
      have C3 := Lib.hid (fun W' h1 h2 => stands_any e.p e.t e.L at' s d W' h1 O.rows h2 ll AR.out.1 AR.out.2)
      have TE := Lib.hid O.at_
      have RE := Lib.hid rr
      have BB := Lib.hid hb
      clear hE O rr hb HW HB
      generalize e.L.length = l at *
      generalize e.p = ep at *
      go_wp2_with fail
      go_region_held3 (fun w' => w'.cell? ⟨bw, 0, none⟩ = some (.slice (some ⟨gm, 0, none⟩) n cm) ∧ w'.cell? ⟨bw, 1, none⟩ = some (.slice (some ⟨gl, 0, none⟩) n cl) ∧ w'.cell? ⟨gm, i, none⟩ = some (.pointer ep) ∧ w'.cell? ⟨gl, i, none⟩ = some (.slice s l d))
        (first | exact ⟨c0, c1, mi, ni⟩ | exact ⟨cell_dr c0, cell_dr c1, cell_dr mi, cell_dr ni⟩)
        (first
          | (go_at_call 17; (with_reducible refine (C1.out _ (by first | exact TE.out | exact TE.out.drew) (by first | exact RE.out | exact RE.out.drew)).mono ?_); rintro e w2 ⟨rfl, st0⟩; have st : Below wr.heap.size wr w2 := (by first | exact st0 | exact Below.of_dr st0); replace c0 := cell_gr st c0; replace c1 := cell_gr st c1; replace mi := cell_gr st mi; replace ni := cell_gr st ni; replace TE := Lib.hid (TE.out.grow st); replace RE := Lib.hid (RE.out.grow st); have W3 := Lib.hid (HW2.out.grow st); have B3 := Lib.hid (BB.out.trans (st.mono BB.out.size)); clear st st0)
          | (go_at_call 17; (with_reducible refine (C2.out _ (by first | exact TE.out | exact TE.out.drew) (by first | exact RE.out | exact RE.out.drew)).mono ?_); rintro e w3 ⟨rfl, st⟩; replace c0 := cell_gr st c0; replace c1 := cell_gr st c1; replace mi := cell_gr st mi; replace ni := cell_gr st ni; replace TE := Lib.hid (TE.out.grow st); replace RE := Lib.hid (RE.out.grow st); have W4 := Lib.hid (W3.out.grow st); have B4 := Lib.hid (B3.out.trans (st.mono B3.out.size)); clear st)
          | (go_at_call 18; (with_reducible refine (C3.out _ (by first | exact TE.out | exact TE.out.drew) (by first | exact RE.out | exact RE.out.drew)).mono ?_); rintro e w4 ⟨rfl, st⟩; replace c0 := cell_gr st c0; replace c1 := cell_gr st c1; replace mi := cell_gr st mi; replace ni := cell_gr st ni; have W5 := Lib.hid (W4.out.grow st); have B5 := Lib.hid (B4.out.trans (st.mono B4.out.size)); clear st))
      clear TE RE C1 C2 C3 HW2 BB W3 W4 B3 B4
      go_wp2_with fail
      go_roundw
      case rel => exact ⟨i + 1, by omega, rfl, by go_num, W5, B5.out⟩
      case measure => simp [intOf]; omega
    · obtain ⟨gm2, cm2, gl2, cl2, em, el, -, -, hE⟩ := HW2.out.entry
      cases em
      cases el
      obtain ⟨j, hj⟩ : ∃ j, n = j + 1 := ⟨n - 1, by have := HP.out; have := HN.out; omega⟩
      obtain ⟨e, s, d, -, -, O, -, rr, mj, nj⟩ := hE j (by rw [← HN.out]; omega)
      have q1 : IntKind.i64.wrap ((n : Int) - 1) = (j : Int) := by rw [show (n : Int) - 1 = j by omega]; exact IntWalk.i64_in _ (by omega)
      have j1 : (0 : Int) ≤ (j : Int) := by omega
      have q7 : IntKind.i64.wrap (-1 + (n : Int)) = (j : Int) := by rw [show -1 + (n : Int) = j by omega]; exact IntWalk.i64_in _ (by omega)
      have q8 : IntKind.i64.wrap ((n : Int) + -1) = (j : Int) := by rw [show (n : Int) + -1 = j by omega]; exact IntWalk.i64_in _ (by omega)
      have j3 : j < n := by omega
      have j2 : (j : Int) < (n : Int) := by omega
      have ll : e.L.length ≤ 1000000 := by have := O.len; have := HK.out; omega
      obtain ⟨L, hL⟩ : ∃ L, L = e.L := ⟨_, rfl⟩
      have C1 := Lib.hid (fun q W' h1 h2 => looks_any e.p e.t L q s d W' h1 (by rw [hL]; exact O.rows) (by rw [hL]; exact O.asc) h2 (by rw [hL]; exact ll))
      have C3 := Lib.hid (fun q W' h1 h2 h3 h4 => stands_any e.p e.t L q s d W' h1 (by rw [hL]; exact O.rows) h2 (by rw [hL]; exact ll) h3 h4)
      have TE := Lib.hid O.at_
      have RE := Lib.hid rr
      have BB := Lib.hid hb
      rw [← hL] at RE nj ll
      obtain ⟨l, hl⟩ : ∃ l, l = L.length := ⟨_, rfl⟩
      have HL := Lib.hid hl
      rw [← hl] at nj ll C1 C3
      generalize e.p = ep at *
      generalize e.t = et at *
      clear hE O rr hb HW HB hL hl HW2 hj
      go_wp2_with fail
      go_cut [11, 12] from 93 to 106 (fun v11 v12 wx => ∃ B, v11 = .pointer (some ⟨B, 0, none⟩) ∧ v12 = .slice s l d ∧ wx.cell? ⟨B, 0, none⟩ = some (.pointer ep) ∧ Below wr.heap.size wr wx)
      case first =>
        go_region_held3 (fun w' => w'.cell? ⟨bw, 0, none⟩ = some (.slice (some ⟨gm, 0, none⟩) n cm) ∧ w'.cell? ⟨bw, 1, none⟩ = some (.slice (some ⟨gl, 0, none⟩) n cl) ∧ w'.cell? ⟨gm, j, none⟩ = some (.pointer ep) ∧ w'.cell? ⟨gl, j, none⟩ = some (.slice s l d))
          (first | exact ⟨c0, c1, mj, nj⟩ | exact ⟨cell_dr c0, cell_dr c1, cell_dr mj, cell_dr nj⟩ | exact ⟨cell_al _ (cell_dr c0), cell_al _ (cell_dr c1), cell_al _ (cell_dr mj), cell_al _ (cell_dr nj)⟩ | exact ⟨cell_al _ c0, cell_al _ c1, cell_al _ mj, cell_al _ nj⟩)
          (fail)
        all_goals
          go_wp2_with fail
          go_meet
          exact ⟨_, rfl, rfl, cell_dr (by simp [go_sem]), Below.dr ((Below.refl _ wr).alloc (Nat.le_refl _) _)⟩
      case rest =>
        obtain ⟨B, rfl, rfl, x5, st⟩ := hcut
        have RX := Lib.hid (RE.out.grow st)
        have TX := Lib.hid (TE.out.grow st)
        have BX := Lib.hid (BB.out.trans (st.mono BB.out.size))
        clear TE RE BB c0 c1 mj nj st q1 q7 q8 j1 j2 j3
        go_wp2_with fail
        go_loopw [8, 13] (fun ov kv wy => ∃ i : Nat, i ≤ l ∧ ov = .bool true ∧ kv = .int .i64 i ∧ wy.cell? ⟨B, 0, none⟩ = some (.pointer ep) ∧ Hid (At wy ep et) ∧ Hid (RowsR wy s L) ∧ Below w.heap.size w wy) (fun _ kv _ => l - (intOf kv).toNat)
        case atStart => exact ⟨0, Nat.zero_le _, rfl, rfl, x5, TX, RX, BX.out⟩
        case round =>
          obtain ⟨i5, hi5, rfl, rfl, y5, TY, RY, bY⟩ := hrel
          by_cases t5 : i5 < l
          · obtain ⟨xa, rfl, kx, cx, dx⟩ := RY.out i5 (by have := HL.out; omega)
            have p1 : (0 : Int) ≤ (i5 : Int) := by omega
            have p2 : (i5 : Int) < (l : Int) := by omega
            have p3 := IntWalk.i64_in ((i5 : Int) - 1) (by omega)
            have p4 := IntWalk.i64_in ((i5 : Int) + 1) (by omega)
            have D1 := Lib.hid (fun W' h1 h2 => C1.out (kd L i5) W' h1 h2)
            have D2 := Lib.hid (fun W' h1 h2 => C3.out ((i5 : Int) - 1) W' h1 h2 (by omega) (by omega))
            have D3 := Lib.hid (fun W' h1 h2 => C3.out ((i5 : Int) + 1) W' h1 h2 (by omega) (by omega))
            have BY := Lib.hid bY
            generalize kd L i5 = u at *
            clear bY dx
            go_wp2_with fail
            go_region_held3 (fun w' => w'.cell? ⟨B, 0, none⟩ = some (.pointer ep) ∧ w'.cell? (xa.add (i5 * 2)) = some (.int .i64 u))
              (first | exact ⟨y5, cx⟩ | exact ⟨cell_dr y5, cell_dr cx⟩)
              (first
                | (go_at_call 17; (with_reducible refine (D1.out _ (by first | exact TY.out | exact TY.out.drew) (by first | exact RY.out | exact RY.out.drew)).mono ?_); rintro e w2 ⟨rfl, st0⟩; have st : Below wr.heap.size wr w2 := (by first | exact st0 | exact Below.of_dr st0); replace y5 := cell_gr st y5; replace cx := cell_gr st cx; replace TY := Lib.hid (TY.out.grow st); replace RY := Lib.hid (RY.out.grow st); replace BY := Lib.hid (BY.out.trans (st.mono BY.out.size)); clear st st0)
                | (go_at_call 18; (with_reducible refine (D2.out _ (by first | exact TY.out | exact TY.out.drew) (by first | exact RY.out | exact RY.out.drew)).mono ?_); rintro e w3 ⟨rfl, st⟩; replace y5 := cell_gr st y5; replace cx := cell_gr st cx; replace TY := Lib.hid (TY.out.grow st); replace RY := Lib.hid (RY.out.grow st); replace BY := Lib.hid (BY.out.trans (st.mono BY.out.size)); clear st)
                | (go_at_call 18; (with_reducible refine (D3.out _ (by first | exact TY.out | exact TY.out.drew) (by first | exact RY.out | exact RY.out.drew)).mono ?_); rintro e w4 ⟨rfl, st⟩; replace y5 := cell_gr st y5; replace cx := cell_gr st cx; replace TY := Lib.hid (TY.out.grow st); replace RY := Lib.hid (RY.out.grow st); replace BY := Lib.hid (BY.out.trans (st.mono BY.out.size)); clear st))
            clear D1 D2 D3
            go_wp2_with fail
            go_roundw
            case rel => exact ⟨i5 + 1, by omega, rfl, by go_num, y5, TY, RY, BY.out⟩
            case measure => simp [intOf]; omega
          · have BY := Lib.hid bY
            clear bY TY RY C1 C3 TX RX BX
            go_wp2_with fail
            refine (AL.out _).mono ?_
            rintro e w2 ⟨rfl, st⟩
            have B3 := BY.out.trans (st.mono BY.out.size)
            go_wp2_with fail
            go_ret
            exact ⟨rfl, B3⟩
end Go.Proofs.Ytgbhddiligdemaa
