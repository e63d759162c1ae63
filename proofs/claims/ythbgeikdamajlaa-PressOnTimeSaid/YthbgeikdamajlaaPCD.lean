/- PressMirror, walked. -/
import Derived.Test.YthbgeikdamajlaaPCC
namespace Go.Proofs.Ythbgeikdamajlaa
open Go.RowKit Go.Proofs.Ythbgeikdamajlaa.Prs Go.Proofs.Ythbgeikdamajlaa.Stb
set_option linter.unusedVariables false
set_option linter.unusedSimpArgs false

theorem cellAl {W : World} {a : Addr} {x : Value} (o : Obj) (h : W.cell? a = some x) : (W.alloc o).cell? a = some x := cellGr ((Below.refl _ W).alloc (Nat.le_refl _) o) h

set_option maxRecDepth 100000 in
set_option maxHeartbeats 8000000 in
theorem pressMirror_walk (p : Option Addr) (c : Nat) (D : List (Int × Int)) (w : World) (r : DmpR w p D) (ln : D.length ≤ 9223372036854775807) (q : Option Addr) (d : Nat) (O : List Int) (ro : NumR w q O) (lo : O.length ≤ 9223372036854775807) :
    Calls Try.prog 14 #[.slice p D.length c, .slice q O.length d] w fun e w' => e = .returned (.bool true) ∧ Below w.heap.size w w' := by
  have AL := Lib.hid alive_any
  by_cases big : 64 < D.length ∨ 64 < O.length
  · generalize D.length = n at *
    generalize O.length = m at *
    by_cases b1 : 64 < n
    · have b2 : decide (64 < n) = true := decide_eq_true b1
      clear big r ro
      go_enter Try.func14, Try.ntmps14
      go_wp2_with fail
      refine (AL.out _).mono ?_
      rintro e w1 ⟨rfl, st⟩
      go_wp2_with fail
      go_ret
      exact ⟨rfl, st⟩
    · have b2 : decide (64 < n) = false := decide_eq_false b1
      have b3 : 64 < m := by omega
      have b4 : decide (64 < m) = true := decide_eq_true b3
      clear big r ro
      go_enter Try.func14, Try.ntmps14
      go_wp2_with fail
      refine (AL.out _).mono ?_
      rintro e w1 ⟨rfl, st⟩
      go_wp2_with fail
      go_ret
      exact ⟨rfl, st⟩
  have lD : D.length ≤ 64 := by omega
  have lO : O.length ≤ 64 := by omega
  obtain ⟨i0, hi, hz0, hz1, hz2⟩ := info_parts dumpInfo
  obtain ⟨j0, hj, hy0, hy1, hy2⟩ := info_parts intInfo
  have R := Lib.hid r
  have RO := Lib.hid ro
  have CM := Lib.hid (fun W (st : Below w.heap.size w W) => Makespan_any p c D q d O W (r.below st) (ro.below st) (by omega) (by omega))
  have CS := Lib.hid (fun W (st : Below w.heap.size w W) => Sequence_any p c D W (r.below st) (by omega))
  have CN := Lib.hid (fun W p' c' q' d' (h1 : DmpR W p' (swD D)) (h2 : NumR W q' O.reverse) => Makespan_any p' c' (swD D) q' d' O.reverse W h1 h2 (by rw [swD_len]; omega) (by simp; omega))
  have CT := Lib.hid (fun W p' c' (h1 : DmpR W p' (swD D)) => Sequence_any p' c' (swD D) W h1 (by rw [swD_len]; omega))
  obtain ⟨n, hn⟩ : ∃ n, n = D.length := ⟨_, rfl⟩
  obtain ⟨m, hm⟩ : ∃ m, m = O.length := ⟨_, rfl⟩
  rw [show O.reverse.length = m by simp [hm], swD_len] at CN
  rw [swD_len] at CT
  rw [← hn] at lD CM CS CN CT ⊢
  rw [← hm] at lO CM ⊢
  have HN := Lib.hid (show n = D.length ∧ m = O.length ∧ n ≤ 64 ∧ m ≤ 64 from ⟨hn, hm, lD, lO⟩)
  have l1 : decide (64 < n) = false := decide_eq_false (by omega)
  have l2 : decide (64 < m) = false := decide_eq_false (by omega)
  have l3 : ¬ 64 < n := by omega
  have l4 : ¬ 64 < m := by omega
  clear hn hm lD lO r ro ln lo big
  go_enter Try.func14, Try.ntmps14
  go_wp2_with fail
  clear l1 l2 l3 l4
  go_loopw [5, 6] (fun ov kv wr => ∃ (i : Nat), i ≤ n ∧ kv = .int .i64 i ∧ wr.ownsRow w.heap.size 68 2 ov i (rowsV ((swD D).take i)) ∧ Below w.heap.size w wr) (fun _ kv _ => n - (intOf kv).toNat)
  case atStart => exact ⟨0, Nat.zero_le _, rfl, World.ownsRow_nil _ _ _ _, Below.refl _ _⟩
  case round =>
    obtain ⟨i, hi', rfl, hown, hbel⟩ := hrel
    by_cases t1 : i < n
    · have l1 : i < D.length := by have := HN.out; omega
      obtain ⟨xa, rfl, kx, cx, dx⟩ := (R.out.below hbel) i l1
      have i1 : (0 : Int) ≤ (i : Int) := by omega
      have i2 : (i : Int) < (n : Int) := by omega
      have n64 := HN.out.2.2.1
      have KX := Lib.hid (show ∀ W, Below w.heap.size w W → W.cell? (xa.add (i * 2)) = some (.int .i64 (pd D i)) ∧ W.cell? ⟨(xa.add (i * 2)).block, (xa.add (i * 2)).off + 1, none⟩ = some (.int .i64 (sd D i)) from fun W B => by
        obtain ⟨x', e, _, c', d'⟩ := (R.out.below B) i l1
        cases e
        exact ⟨c', d'⟩)
      have ST := Lib.hid (fun v' w1 W (bW : Below w.heap.size w W) (ho : w1.ownsRow w.heap.size 68 2 v' (i + 1) (rowsV ((swD D).take i) ++ [.int .i64 (sd D i), .int .i64 (pd D i)])) (hg : W.grownBy w1 (u5).ownBlock) =>
        ((show w1.ownsRow w.heap.size 68 2 v' (i + 1) (rowsV ((swD D).take (i + 1))) ∧ Below w.heap.size w w1 from ⟨by rw [take_swD l1, rowsV_snoc]; exact ho, bW.grown hg bW.size fun k ek => (World.ownsRow.lt hown k ek).1⟩)))
      generalize pd D i = k at *
      generalize sd D i = y at *
      go_wp2_with fail
      go_region_held3 (fun w' => w'.cell? (xa.add (i * 2)) = some (.int .i64 k) ∧ w'.cell? ⟨(xa.add (i * 2)).block, (xa.add (i * 2)).off + 1, none⟩ = some (.int .i64 y))
        (first | exact ⟨cx, dx⟩ | exact ⟨cellDr cx, cellDr dx⟩ | exact ⟨cellAl _ cx, cellAl _ dx⟩ | exact ⟨cellAl _ (cellDr cx), cellAl _ (cellDr dx)⟩)
        ((refine step_append_lies _ (by rfl) _ _ _ (by rfl) w.heap.size 68 i0 (.agg #[.int .i64 0, .int .i64 0]) 2 16 Try.underlying51 hi hz0 hz1 hz2 rfl (by omega) u5 i (rowsV ((swD D).take i)) (by rfl) (hown.drew.alloc _) ⟨wr.heap.size, 0, none⟩ 1 1 [.int .i64 y, .int .i64 k] (by rfl) (by rfl) (World.news_of_block (cs := #[.int .i64 y, .int .i64 k]) (t := 68) (fr := (0, 0)) (heap_alloc_new _ _)) (by simp [Value.oneCell']) (by omega) (by unfold maxLen; omega) (by omega) (by have := hbel.size; simp; omega) (wr.heap.size + 1) (by simp) ?_; intro gg cap w1 hown1 hgrow hat hlt; obtain ⟨O1, B1⟩ := ST.out _ w1 _ ((hbel.trans ((Below.refl _ wr).drew)).alloc hbel.size _) hown1 hgrow; obtain ⟨cx9, dx9⟩ := KX.out w1 B1; replace cx := cx9; replace dx := dx9; clear hown1 hgrow hown hbel ST hat hlt cx9 dx9))
      clear cx dx KX
      go_wp2_with fail
      go_roundw
      case rel => exact ⟨i + 1, by omega, by go_num, O1, B1⟩
      case measure => simp [intOf]; omega
    · obtain rfl : i = n := by omega
      rw [List.take_of_length_le (by rw [swD_len, ← HN.out.1]; exact Nat.le_refl _)] at hown
      have HO := Lib.hid hown
      have HB := Lib.hid hbel
      clear hown hbel
      obtain ⟨k0, hk0⟩ : ∃ k0 : Int, k0 = (m : Int) - 1 := ⟨_, rfl⟩
      have ek : IntKind.i64.wrap ((m : Int) - 1) = k0 := wI hk0.symm (by omega) (by have := HN.out; omega)
      have HK := Lib.hid hk0
      clear hk0
      go_wp2_with fail
      go_loopw [7, 8] (fun ov kv wx => ∃ (j : Nat), j ≤ m ∧ kv = .int .i64 ((j : Int) - 1) ∧ wx.ownsRow w.heap.size 3 1 ov (m - j) ((O.drop j).reverse.map (Value.int .i64)) ∧ Below w.heap.size w wx ∧ Hid (wx.ownsRow w.heap.size 68 2 u5 i (rowsV (swD D)))) (fun _ kv _ => (intOf kv + 1).toNat)
      case atStart => exact ⟨m, Nat.le_refl _, by rw [HK.out], by rw [Nat.sub_self, List.drop_of_length_le (by rw [HN.out.2.1]; exact Nat.le_refl _)]; exact World.ownsRow_nil _ _ _ _, HB.out, HO⟩
      case round =>
        obtain ⟨j, hj', rfl, hown, hbel, HD⟩ := hrel
        clear HO HB
        rcases j with _ | j
        · have e1 : ((0 : Nat) : Int) - 1 = -1 := by omega
          rw [e1]
          rw [Nat.sub_zero, List.drop_zero] at hown
          have lr : O.reverse.length = m := by rw [HN.out.2.1]; simp
          have ls : (swD D).length = i := by rw [swD_len, HN.out.1]
          obtain ⟨q', d', rfl, nr⟩ := ownNums (M := O.reverse) (by rw [lr]; exact hown)
          obtain ⟨p', c', e5, dr⟩ := ownDumps (M := swD D) (by rw [ls]; exact HD.out)
          rw [ls] at e5
          rw [lr]
          subst e5
          have NR := Lib.hid nr
          have DR := Lib.hid dr
          have B0 := Lib.hid hbel
          clear nr dr hbel hown HD lr ls hj' e1
          go_wp2_with fail
          refine (CM.out _ B0.out).mono ?_
          rintro e w1 ⟨x1, m1, rfl, Q1, st1⟩
          have Q1 := Lib.hid Q1
          have B1 := Lib.hid (B0.out.trans (st1.mono B0.out.size))
          have NR1 := Lib.hid (NR.out.below st1)
          have DR1 := Lib.hid (DR.out.below st1)
          clear CM st1 B0 NR DR
          go_wp2_with fail
          refine (CN.out _ p' c' q' d' DR1.out NR1.out).mono ?_
          rintro e w2 ⟨x2, m2, rfl, Q2, st2⟩
          obtain rfl : x2 = x1 := Q2.1.fn Q1.out.1.sw
          obtain rfl : m2 = m1 := by
            by_cases x0 : x2 = 0
            · subst x0
              rw [Q2.2.2 rfl, Q1.out.2.2 rfl, swD_len]
              exact mks_sw Q1.out.1.good.2.1.all Q1.out.1.len
            · rw [Q2.2.1 x0, Q1.out.2.1 x0]
          have B2 := Lib.hid (B1.out.trans (st2.mono B1.out.size))
          have DR2 := Lib.hid (DR1.out.below st2)
          clear CN st2 B1 NR1 DR1 Q1 Q2
          go_wp2_with fail
          refine (CS.out _ B2.out).mono ?_
          rintro e w3 ⟨x3, v3, m3, rfl, de3, st3, bad3, good3⟩
          have DE := Lib.hid de3
          have B3 := Lib.hid (B2.out.trans (st3.mono B2.out.size))
          have DR3 := Lib.hid (DR2.out.below st3)
          have BD := Lib.hid bad3
          have GD := Lib.hid good3
          clear CS st3 B2 DR2 bad3 good3 de3
          go_wp2_with fail
          refine (CT.out _ p' c' DR3.out).mono ?_
          rintro e w4 ⟨x4, v4, m4, rfl, de4, st4, bad4, good4⟩
          obtain rfl : x4 = x3 := de4.fn DE.out.sw
          obtain rfl : m4 = m3 := by
            by_cases x0 : x4 = 0
            · obtain ⟨b, U, -, -, -, iU, eU, rU⟩ := GD.out x0
              obtain ⟨b', U', -, -, -, iU', eU', rU'⟩ := good4 x0
              rw [eU, eU']
              exact (least_sw (DE.out.good x0).2.all iU iU' rU rU').symm
            · rw [(bad4 x0).2, (BD.out x0).2]
          have B4 := Lib.hid (B3.out.trans (st4.mono B3.out.size))
          clear CT st4 B3 DR3 BD GD bad4 good4 de4 DE
          have z1 : (m2 == m2) = true := by simp
          have z2 : (x2 == x2) = true := by simp
          have z3 : (m4 == m4) = true := by simp
          have z4 : (x4 == x4) = true := by simp
          go_wp2_with fail
          refine (AL.out _).mono ?_
          rintro e w5 ⟨rfl, st5⟩
          go_wp2_with fail
          go_ret
          exact ⟨rfl, B4.out.trans (st5.mono B4.out.size)⟩
        · have e1 : ((j + 1 : Nat) : Int) - 1 = (j : Int) := by omega
          rw [e1]
          obtain ⟨y, rfl, ky, cy⟩ := (RO.out.below hbel) j (by have := HN.out; omega)
          have j1 : (0 : Int) ≤ (j : Int) := by omega
          have j2 : (j : Int) < (m : Int) := by omega
          have ej : IntKind.i64.wrap ((j : Int) - 1) = (j : Int) - 1 := wI rfl (by omega) (by have := HN.out; omega)
          have hbs : ∀ o, w.heap.size ≤ (wr.alloc o).heap.size := fun o => by have := hbel.size; simp; omega
          have m64 := HN.out.2.2.2
          have ED := Lib.hid (show (O.drop j).reverse.map (Value.int .i64) = (O.drop (j + 1)).reverse.map (Value.int .i64) ++ [.int .i64 (gi O j)] by
            have lj : j < O.length := by have := HN.out; omega
            rw [List.drop_eq_getElem_cons lj, List.reverse_cons, List.map_append]
            simp [gi, lj])
          generalize gi O j = z at *
          generalize (O.drop (j + 1)).reverse.map (Value.int .i64) = xs at *
          go_wp2_with (first
            | (at_builtin; refine wpList_append_own _ rfl _ _ 39 rfl w.heap.size 3 j0 (.int .i64 0) 1 8 Try.underlying39 hj hy0 hy1 hy2 rfl (by decide) _ _ _ rfl (hown.alloc _) ⟨wr.heap.size, 0, none⟩ 1 1 [.int .i64 z] rfl rfl (one_cell _) one_one (by unfold maxLen; omega) (by omega) (hbs _) ?_))
          intro v' w1 hown' hgrow _
          have HD2 := Lib.hid (own_apart (by decide) (HD.out.alloc _) (hown.alloc _) hgrow)
          have B1 : Below w.heap.size w w1 := (hbel.alloc hbel.size _).grown hgrow (hbs _) (fun k ek => (World.ownsRow.lt hown k ek).1)
          rw [← ED.out] at hown'
          have lm : m - (j + 1) + 1 = m - j := by omega
          rw [lm] at hown'
          clear hown hgrow hbel HD hbs lm ED cy ky m64
          go_wp2_with fail
          clear ej
          go_roundw
          case rel => exact ⟨j, by omega, rfl, hown', B1, HD2⟩
          case measure => simp [intOf]; try omega
end Go.Proofs.Ythbgeikdamajlaa
