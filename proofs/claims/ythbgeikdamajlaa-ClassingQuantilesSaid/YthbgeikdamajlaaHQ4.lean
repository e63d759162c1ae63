/- The law ClassingQuantiles: its walk. -/
import Derived.Test.YthbgeikdamajlaaHQ3
import Derived.Test.YthbgeikdamajlaaCAA
namespace Go.Proofs.Ythbgeikdamajlaa
open Go.RowKit
set_option linter.unusedVariables false
set_option linter.unusedSimpArgs false

theorem hff_new (w : World) (H : Nat → Int) (a b c d : Int) : HB (((w.alloc (Obj.cells (hC H) 23)).alloc (Obj.cells #[Value.int .i64 a, Value.int .i64 b] 32)).alloc (Obj.cells #[Value.int .i64 c, Value.int .i64 d] 32)) w.heap.size H ∧ FB (((w.alloc (Obj.cells (hC H) 23)).alloc (Obj.cells #[Value.int .i64 a, Value.int .i64 b] 32)).alloc (Obj.cells #[Value.int .i64 c, Value.int .i64 d] 32)) (w.heap.size + 1) a b ∧ FB (((w.alloc (Obj.cells (hC H) 23)).alloc (Obj.cells #[Value.int .i64 a, Value.int .i64 b] 32)).alloc (Obj.cells #[Value.int .i64 c, Value.int .i64 d] 32)) (w.heap.size + 1 + 1) c d ∧ Below w.heap.size w (((w.alloc (Obj.cells (hC H) 23)).alloc (Obj.cells #[Value.int .i64 a, Value.int .i64 b] 32)).alloc (Obj.cells #[Value.int .i64 c, Value.int .i64 d] 32)) := by
  have h0 := heap_alloc_new w (Obj.cells (hC H) 23)
  have b0 : Below w.heap.size w (w.alloc (Obj.cells (hC H) 23)) := (Below.refl _ w).alloc (Nat.le_refl _) _
  generalize hv0 : w.alloc (Obj.cells (hC H) 23) = v0 at *
  have s0 : v0.heap.size = w.heap.size + 1 := by rw [← hv0]; simp
  obtain ⟨f1, b1⟩ := FB.new v0 a b
  have s1 : (v0.alloc (Obj.cells #[Value.int .i64 a, Value.int .i64 b] 32)).heap.size = v0.heap.size + 1 := by simp
  generalize v0.alloc (Obj.cells #[Value.int .i64 a, Value.int .i64 b] 32) = v1 at *
  obtain ⟨f2, b2⟩ := FB.new v1 c d
  have hb : HB v0 w.heap.size H := h0
  rw [← s0, ← s1]
  refine ⟨(hb.below b1).below b2, f1.below b2, f2, (b0.trans (b1.mono (by omega))).trans (b2.mono (by omega))⟩
set_option maxRecDepth 100000 in
set_option maxHeartbeats 16000000 in
theorem classingQuantiles_walk (H : Nat → Int) (fn fd : Int) (bf : -9223372036854775808 ≤ fn ∧ fn ≤ 9223372036854775807) (gn gd : Int) (bg : -9223372036854775808 ≤ gn ∧ gn ≤ 9223372036854775807) (w : World) :
    Calls Try.prog 4 #[hV H, .agg #[.int .i64 fn, .int .i64 fd], .agg #[.int .i64 gn, .int .i64 gd]] w fun e w' => e = .returned (.bool true) ∧ Below w.heap.size w w' := by
  have AL := Lib.hid alive_any
  have CT := Lib.hid (fun W => Total_any H W)
  have CQ := Lib.hid (fun a b (h : -9223372036854775808 ≤ a ∧ a ≤ 9223372036854775807) W => Quantile_any H a b h W)
  have CS := Lib.hid (fun b W => Share_any H b W)
  have CC := Lib.hid (fun a b c d h k W => Cmp_ok a b c d h k W)
  have CB := Lib.hid (fun h W => Cmp_bad fn fd gn gd bf.1 bf.2 bg.1 bg.2 h W)
  have BF := Lib.hid bf
  have BG := Lib.hid bg
  have N3 := Lib.hid (hff_new w H fn fd gn gd)
  clear bf bg
  go_enter Try.func4, Try.ntmps4
  go_upto_region 1 with fail
  generalize ((w.alloc (Obj.cells (hC H) 23)).alloc (Obj.cells #[Value.int .i64 fn, Value.int .i64 fd] 32)).alloc (Obj.cells #[Value.int .i64 gn, Value.int .i64 gd] 32) = w1 at *
  obtain ⟨gh, hgh⟩ : ∃ g, g = w.heap.size := ⟨_, rfl⟩
  obtain ⟨gf, hgf⟩ : ∃ g, g = w.heap.size + 1 := ⟨_, rfl⟩
  obtain ⟨gg, hgg⟩ : ∃ g, g = w.heap.size + 1 + 1 := ⟨_, rfl⟩
  have KH := Lib.hid (show HB w1 gh H from by rw [hgh]; exact N3.out.1)
  have Kf := Lib.hid (show FB w1 gf fn fd from by rw [hgf]; exact N3.out.2.1)
  have Kg := Lib.hid (show FB w1 gg gn gd from by rw [hgg]; exact N3.out.2.2.1)
  have KB := Lib.hid N3.out.2.2.2
  rw [← hgg, ← hgf, ← hgh]
  clear hgg hgf hgh N3
  -- steps
  go_wp2_with (refine wpList_load_row rfl _ _ rfl gh rfl _ (hC H) (0, 0) _ KH.out Try.underlying23 rfl (histSize' H) ?_)
  refine (CT.out w1).mono ?_
  rintro e w2 ⟨t, te, rfl, tq, st⟩
  have TQ := Lib.hid tq
  replace KH := Lib.hid (KH.out.below st)
  replace Kf := Lib.hid (Kf.out.below st)
  replace Kg := Lib.hid (Kg.out.below st)
  replace KB := Lib.hid (KB.out.trans ((st).mono KB.out.size))
  clear st tq CT
  obtain ⟨f0, f1, -⟩ := Kf.out
  go_wp2_with (refine wpList_load_row rfl _ _ rfl gh rfl _ (hC H) (0, 0) _ KH.out Try.underlying23 rfl (histSize' H) ?_)
  refine (CQ.out fn fd BF.out w2).mono ?_
  rintro e w3 ⟨q, qe, rfl, qq, st⟩
  have QQ := Lib.hid qq
  replace KH := Lib.hid (KH.out.below st)
  replace Kf := Lib.hid (Kf.out.below st)
  replace Kg := Lib.hid (Kg.out.below st)
  replace KB := Lib.hid (KB.out.trans ((st).mono KB.out.size))
  clear st f0 f1 qq
  by_cases good : te = 0 ∧ qe = 0 ∧ t ≠ 0
  case neg =>
    have q0 := qua_err TQ.out QQ.out good
    have q1 : (qe != 0) = true := by simpa using q0
    have WAY : (te != 0) = true ∨ ((te != 0) = false ∧ (qe != 0) = true) := by
      by_cases h : te = 0
      · exact .inr ⟨by simpa using h, q1⟩
      · exact .inl (by simpa using h)
    clear q0 good TQ QQ CQ CS CC CB
    rcases WAY with y | ⟨y, y2⟩
    · go_wp2_with fail
      refine (AL.out _).mono ?_
      rintro e w20 ⟨rfl, st⟩
      go_wp2_with fail
      go_ret
      exact ⟨rfl, KB.out.trans (st.mono KB.out.size)⟩
    · go_wp2_with fail
      refine (AL.out _).mono ?_
      rintro e w20 ⟨rfl, st⟩
      go_wp2_with fail
      go_ret
      exact ⟨rfl, KB.out.trans (st.mono KB.out.size)⟩
  obtain ⟨rfl, rfl, t0⟩ := good
  have z0 : ((0 : Int) != 0) = false := by decide
  have t1 : (t == 0) = false := by simpa using t0
  have qb : 0 ≤ q ∧ q < 64 := by
    obtain ⟨_, _, _, i, rfl, h, _⟩ := QQ.out.good
    omega
  have wq : IntKind.i64.wrap (q + 1) = q + 1 := hwI (by omega) (by omega)
  clear TQ t0
  go_upto_region 5 with fail
  clear t1
  go_wp2_with (refine wpList_load_row rfl _ _ rfl gh rfl _ (hC H) (0, 0) _ KH.out Try.underlying23 rfl (histSize' H) ?_)
  refine (CS.out (q + 1) w3).mono ?_
  rintro e w4 ⟨V1, D1, x1, rfl, sq, st⟩
  have S1 := Lib.hid sq
  replace KH := Lib.hid (KH.out.below st)
  replace Kf := Lib.hid (Kf.out.below st)
  replace Kg := Lib.hid (Kg.out.below st)
  replace KB := Lib.hid (KB.out.trans ((st).mono KB.out.size))
  have PT := Lib.hid (FB.new w4 V1 D1)
  unfold fracV
  clear st sq wq
  go_upto_region 6 with fail
  generalize w4.alloc (Obj.cells #[Value.int .i64 V1, Value.int .i64 D1] 32) = w5 at *
  replace KH := Lib.hid (KH.out.below PT.out.2)
  replace Kf := Lib.hid (Kf.out.below PT.out.2)
  replace Kg := Lib.hid (Kg.out.below PT.out.2)
  replace KB := Lib.hid (KB.out.trans ((PT.out.2).mono KB.out.size))
  obtain ⟨gu, hg⟩ : ∃ g, g = w4.heap.size := ⟨_, rfl⟩
  have Ku := Lib.hid (show FB w5 gu V1 D1 from by rw [hg]; exact PT.out.1)
  rw [← hg]
  clear hg PT
  go_wp2_with (refine wpList_load_row rfl _ _ rfl gh rfl _ (hC H) (0, 0) _ KH.out Try.underlying23 rfl (histSize' H) ?_)
  refine (CS.out q w5).mono ?_
  rintro e w6 ⟨V2, D2, x2, rfl, sq, st⟩
  have S2 := Lib.hid sq
  replace KH := Lib.hid (KH.out.below st)
  replace Kf := Lib.hid (Kf.out.below st)
  replace Kg := Lib.hid (Kg.out.below st)
  replace Ku := Lib.hid (Ku.out.below st)
  replace KB := Lib.hid (KB.out.trans ((st).mono KB.out.size))
  have PT := Lib.hid (FB.new w6 V2 D2)
  unfold fracV
  clear st sq CS
  go_upto_region 7 with fail
  generalize w6.alloc (Obj.cells #[Value.int .i64 V2, Value.int .i64 D2] 32) = w7 at *
  replace KH := Lib.hid (KH.out.below PT.out.2)
  replace Kf := Lib.hid (Kf.out.below PT.out.2)
  replace Kg := Lib.hid (Kg.out.below PT.out.2)
  replace Ku := Lib.hid (Ku.out.below PT.out.2)
  replace KB := Lib.hid (KB.out.trans ((PT.out.2).mono KB.out.size))
  obtain ⟨gl, hg⟩ : ∃ g, g = w6.heap.size := ⟨_, rfl⟩
  have Kl := Lib.hid (show FB w7 gl V2 D2 from by rw [hg]; exact PT.out.1)
  rw [← hg]
  clear hg PT
  obtain ⟨rfl, rfl, hv1, hv2, hvf, -, -, c1, c2⟩ := qua_says QQ.out S1.out S2.out
  have HV1 := Lib.hid hv1
  have HV2 := Lib.hid hv2
  have HVF := Lib.hid hvf
  clear S1 S2 hv1 hv2 hvf
  obtain ⟨u0, u1, -⟩ := Ku.out
  obtain ⟨f0, f1, -⟩ := Kf.out
  go_wp2_with fail
  refine (CC.out V1 D1 fn fd HV1.out HVF.out w7).mono ?_
  rintro e w8 ⟨rfl, st⟩
  replace KH := Lib.hid (KH.out.below st)
  replace Kf := Lib.hid (Kf.out.below st)
  replace Kg := Lib.hid (Kg.out.below st)
  replace Ku := Lib.hid (Ku.out.below st)
  replace Kl := Lib.hid (Kl.out.below st)
  replace KB := Lib.hid (KB.out.trans ((st).mono KB.out.size))
  clear st u0 u1 f0 f1
  obtain ⟨l0, l1, -⟩ := Kl.out
  obtain ⟨f0, f1, -⟩ := Kf.out
  go_wp2_with fail
  refine (CC.out V2 D2 fn fd HV2.out HVF.out w8).mono ?_
  rintro e w9 ⟨rfl, st⟩
  replace KH := Lib.hid (KH.out.below st)
  replace Kf := Lib.hid (Kf.out.below st)
  replace Kg := Lib.hid (Kg.out.below st)
  replace Ku := Lib.hid (Ku.out.below st)
  replace Kl := Lib.hid (Kl.out.below st)
  replace KB := Lib.hid (KB.out.trans ((st).mono KB.out.size))
  clear st l0 l1 f0 f1 HV1 HV2
  go_upto_region 9 with fail
  go_cut [99] from 74 to 99 (fun bv wx => bv = .bool false ∧ wx = w9)
  case first =>
    clear CQ CC CB AL QQ
    generalize cmpZ (V1 * fd) (fn * D1) = r1 at *
    generalize cmpZ (V2 * fd) (fn * D2) = r2 at *
    have y1 : decide (r1 < 0) = false := decide_eq_false (by omega)
    by_cases q0 : 0 < q
    · have y2 : decide (0 < q) = true := decide_eq_true q0
      have y3 : decide (0 ≤ r2) = false := decide_eq_false (by have := c2 q0; omega)
      clear c1 c2
      go_wp2_with fail
      go_meet
      exact ⟨rfl, rfl⟩
    · have y2 : decide (0 < q) = false := decide_eq_false q0
      clear c1 c2
      go_wp2_with fail
      go_meet
      exact ⟨rfl, rfl⟩
  case rest =>
  obtain ⟨rfl, rfl⟩ := hcut
  clear c1 c2
  obtain ⟨g0, g1, -⟩ := Kg.out
  go_wp2_with (refine wpList_load_row rfl _ _ rfl gh rfl _ (hC H) (0, 0) _ KH.out Try.underlying23 rfl (histSize' H) ?_)
  refine (CQ.out gn gd BG.out wc).mono ?_
  rintro e w10 ⟨p, pe, rfl, qq, st⟩
  have QG := Lib.hid qq
  replace KH := Lib.hid (KH.out.below st)
  replace Kf := Lib.hid (Kf.out.below st)
  replace Kg := Lib.hid (Kg.out.below st)
  replace Ku := Lib.hid (Ku.out.below st)
  replace Kl := Lib.hid (Kl.out.below st)
  replace KB := Lib.hid (KB.out.trans ((st).mono KB.out.size))
  clear st g0 g1 qq CQ
  by_cases hvg : vldB gn gd = true
  case neg =>
    obtain ⟨f0, f1, -⟩ := Kf.out
    obtain ⟨g0, g1, -⟩ := Kg.out
    go_wp2_with fail
    refine (CB.out (.inr (by simpa using hvg)) w10).mono ?_
    rintro e w11 ⟨rfl, st⟩
    replace KH := Lib.hid (KH.out.below st)
    replace Kf := Lib.hid (Kf.out.below st)
    replace Kg := Lib.hid (Kg.out.below st)
    replace Ku := Lib.hid (Ku.out.below st)
    replace Kl := Lib.hid (Kl.out.below st)
    replace KB := Lib.hid (KB.out.trans ((st).mono KB.out.size))
    clear st f0 f1 g0 g1 CB CC HVF
    have y1 : ((2 : Int) != 0) = true := by decide
    by_cases pe0 : pe = 0
    · have y2 : (pe != 0) = false := by simpa using pe0
      go_wp2_with fail
      refine (AL.out _).mono ?_
      rintro e w20 ⟨rfl, st⟩
      go_wp2_with fail
      go_ret
      exact ⟨rfl, KB.out.trans (st.mono KB.out.size)⟩
    · have y2 : (pe != 0) = true := by simpa using pe0
      go_wp2_with fail
      refine (AL.out _).mono ?_
      rintro e w20 ⟨rfl, st⟩
      go_wp2_with fail
      go_ret
      exact ⟨rfl, KB.out.trans (st.mono KB.out.size)⟩
  obtain ⟨f0, f1, -⟩ := Kf.out
  obtain ⟨g0, g1, -⟩ := Kg.out
  go_wp2_with fail
  refine (CC.out fn fd gn gd HVF.out hvg w10).mono ?_
  rintro e w11 ⟨rfl, st⟩
  replace KH := Lib.hid (KH.out.below st)
  replace Kf := Lib.hid (Kf.out.below st)
  replace Kg := Lib.hid (Kg.out.below st)
  replace Ku := Lib.hid (Ku.out.below st)
  replace Kl := Lib.hid (Kl.out.below st)
  replace KB := Lib.hid (KB.out.trans ((st).mono KB.out.size))
  clear st f0 f1 g0 g1 CB CC HVF hvg
  by_cases pe0 : pe = 0
  case neg =>
    have y2 : (pe != 0) = true := by simpa using pe0
    go_wp2_with fail
    refine (AL.out _).mono ?_
    rintro e w20 ⟨rfl, st⟩
    go_wp2_with fail
    go_ret
    exact ⟨rfl, KB.out.trans (st.mono KB.out.size)⟩
  subst pe0
  have M1 := qua_mono QQ.out QG.out
  have M2 := qua_mono QG.out QQ.out
  have m1 : cmpZ (fn * gd) (gn * fd) ≤ 0 → q ≤ p := fun h => M1 (by
    apply Classical.byContradiction; intro g
    have := cmpZ_gt.2 (show gn * fd < fn * gd by omega)
    omega)
  have m2 : 0 ≤ cmpZ (fn * gd) (gn * fd) → p ≤ q := fun h => M2 (cmpZ_ge.1 h)
  clear M1 M2 QQ QG
  generalize cmpZ (fn * gd) (gn * fd) = r at *
  rcases (by omega : r < 0 ∨ r = 0 ∨ 0 < r) with h | rfl | h
  · have y1 : decide (0 < r) = false := decide_eq_false (by omega)
    have y2 : decide (r < 0) = true := decide_eq_true h
    have y3 : decide (q ≤ p) = true := decide_eq_true (m1 (by omega))
    clear m1 m2
    go_wp2_with fail
    refine (AL.out _).mono ?_
    rintro e w20 ⟨rfl, st⟩
    go_wp2_with fail
    go_ret
    exact ⟨rfl, KB.out.trans (st.mono KB.out.size)⟩
  · have y1 : decide ((0 : Int) < 0) = false := by decide
    have y3 : decide (q ≤ p) = true := decide_eq_true (m1 (by omega))
    have y4 : decide (p ≤ q) = true := decide_eq_true (m2 (by omega))
    clear m1 m2
    go_wp2_with fail
    refine (AL.out _).mono ?_
    rintro e w20 ⟨rfl, st⟩
    go_wp2_with fail
    go_ret
    exact ⟨rfl, KB.out.trans (st.mono KB.out.size)⟩
  · have y1 : decide (0 < r) = true := decide_eq_true h
    have y2 : decide (r < 0) = false := decide_eq_false (by omega)
    have y4 : decide (p ≤ q) = true := decide_eq_true (m2 (by omega))
    clear m1 m2
    go_wp2_with fail
    refine (AL.out _).mono ?_
    rintro e w20 ⟨rfl, st⟩
    go_wp2_with fail
    go_ret
    exact ⟨rfl, KB.out.trans (st.mono KB.out.size)⟩
end Go.Proofs.Ythbgeikdamajlaa
