/- Several texts in one: HV7 HA8. -/
import Derived.Test.YtbcfafihkdddeaaHW7
import Derived.Test.YtbcfafihkdddeaaCAA
import Derived.Test.YtbcfafihkdddeaaHW1
import Derived.OpenShut
import Derived.WideShapes

/- The law ClassingHists: its walk. -/
namespace Go.Proofs.Ytbcfafihkdddeaa
open Go.RowKit
set_option linter.unusedVariables false
set_option linter.unusedSimpArgs false

def FB (v : World) (g : Nat) (x y : Int) : Prop := v.cell? ⟨g, 0, none⟩ = some (.int .i64 x) ∧ v.cell? ⟨g, 1, none⟩ = some (.int .i64 y) ∧ g < v.heap.size
theorem FB.below {v v' : World} {g : Nat} {x y : Int} (h : FB v g x y) (b : Below v.heap.size v v') : FB v' g x y :=
  ⟨(b.cell (p := ⟨g, 0, none⟩) h.2.2).trans h.1, (b.cell (p := ⟨g, 1, none⟩) h.2.2).trans h.2.1, Nat.lt_of_lt_of_le h.2.2 b.size⟩
theorem FB.new (v : World) (x y : Int) : FB (v.alloc (Obj.cells #[Value.int .i64 x, Value.int .i64 y] 25)) v.heap.size x y ∧ Below v.heap.size v (v.alloc (Obj.cells #[Value.int .i64 x, Value.int .i64 y] 25)) :=
  ⟨⟨by simp [go_sem], by simp [go_sem], by simp⟩, (Below.refl _ v).alloc (Nat.le_refl _) _⟩

theorem hhf_new (w : World) (A B : Nat → Int) (a b : Int) : HB (((w.alloc (Obj.cells (hC A) 23)).alloc (Obj.cells (hC B) 23)).alloc (Obj.cells #[Value.int .i64 a, Value.int .i64 b] 25)) w.heap.size A ∧ HB (((w.alloc (Obj.cells (hC A) 23)).alloc (Obj.cells (hC B) 23)).alloc (Obj.cells #[Value.int .i64 a, Value.int .i64 b] 25)) (w.heap.size + 1) B ∧ FB (((w.alloc (Obj.cells (hC A) 23)).alloc (Obj.cells (hC B) 23)).alloc (Obj.cells #[Value.int .i64 a, Value.int .i64 b] 25)) (w.heap.size + 1 + 1) a b ∧ Below w.heap.size w (((w.alloc (Obj.cells (hC A) 23)).alloc (Obj.cells (hC B) 23)).alloc (Obj.cells #[Value.int .i64 a, Value.int .i64 b] 25)) := by
  have h0 := heap_alloc_new w (Obj.cells (hC A) 23)
  have b0 : Below w.heap.size w (w.alloc (Obj.cells (hC A) 23)) := (Below.refl _ w).alloc (Nat.le_refl _) _
  generalize hv0 : w.alloc (Obj.cells (hC A) 23) = v0 at *
  have s0 : v0.heap.size = w.heap.size + 1 := by rw [← hv0]; simp
  have h1 := heap_alloc_new v0 (Obj.cells (hC B) 23)
  have b1 : Below v0.heap.size v0 (v0.alloc (Obj.cells (hC B) 23)) := (Below.refl _ v0).alloc (Nat.le_refl _) _
  generalize hv1 : v0.alloc (Obj.cells (hC B) 23) = v1 at *
  have s1 : v1.heap.size = v0.heap.size + 1 := by rw [← hv1]; simp
  obtain ⟨f2, b2⟩ := FB.new v1 a b
  have hb : HB v0 w.heap.size A := h0
  have hc : HB v1 v0.heap.size B := h1
  rw [← s0, ← s1]
  refine ⟨(hb.below b1).below b2, hc.below b2, f2, (b0.trans (b1.mono (by omega))).trans (b2.mono (by omega))⟩
set_option maxRecDepth 100000 in
set_option maxHeartbeats 16000000 in
theorem classingHists_walk (A B : Nat → Int) (fn fd : Int) (bf : -9223372036854775808 ≤ fn ∧ fn ≤ 9223372036854775807) (be : Int) (w : World) :
    Calls Try.prog 3 #[hV A, hV B, .agg #[.int .i64 fn, .int .i64 fd], .int .i64 be] w fun e w' => e = .returned (.bool true) ∧ Below w.heap.size w w' := by
  have AL := Lib.hid alive_any
  have CT := Lib.hid (fun W => Total_any A W)
  have DT := Lib.hid (fun W => rTotal_any A W)
  have CG := Lib.hid (fun W => Merge_any A B W)
  have DG := Lib.hid (fun W => rMerge_any A B W)
  have CM := Lib.hid (fun W => Micron_any A W)
  have DM := Lib.hid (fun W => rMicron_any A W)
  have CV := Lib.hid (fun W => Variance_any A W)
  have DV := Lib.hid (fun W => rVariance_any A W)
  have CQ := Lib.hid (fun W => Quantile_any A fn fd bf W)
  have DQ := Lib.hid (fun W => rQuantile_any A fn fd bf W)
  have CS := Lib.hid (fun W => Share_any A be W)
  have DS := Lib.hid (fun W => rShare_any A be W)
  have N3 := Lib.hid (hhf_new w A B fn fd)
  clear bf
  go_enter Try.func3, Try.ntmps3
  go_upto_region 1 with fail
  generalize ((w.alloc (Obj.cells (hC A) 23)).alloc (Obj.cells (hC B) 23)).alloc (Obj.cells #[Value.int .i64 fn, Value.int .i64 fd] 25) = w1 at *
  obtain ⟨ga, hga⟩ : ∃ g, g = w.heap.size := ⟨_, rfl⟩
  obtain ⟨gb, hgb⟩ : ∃ g, g = w.heap.size + 1 := ⟨_, rfl⟩
  obtain ⟨gf, hgf⟩ : ∃ g, g = w.heap.size + 1 + 1 := ⟨_, rfl⟩
  have Fa := Lib.hid (show HB w1 ga A from by rw [hga]; exact N3.out.1)
  have Fb := Lib.hid (show HB w1 gb B from by rw [hgb]; exact N3.out.2.1)
  have Kf := Lib.hid (show FB w1 gf fn fd from by rw [hgf]; exact N3.out.2.2.1)
  have KB := Lib.hid N3.out.2.2.2
  rw [← hgf, ← hgb, ← hga]
  clear hga hgb hgf N3
  -- steps
  go_wp2_with (first
    | (refine wpList_load_row rfl _ _ rfl ga rfl _ (hC A) (0, 0) _ Fa.out Try.underlying23 rfl (histSize' _) ?_)
    | (refine wpList_load_row rfl _ _ rfl gb rfl _ (hC B) (0, 0) _ Fb.out Try.underlying23 rfl (histSize' _) ?_))
  refine (CT.out w1).mono ?_
  rintro e w2 ⟨n1, x1, rfl, mq, st⟩
  have T1 := Lib.hid mq
  replace Fa := Lib.hid (Fa.out.below st)
  replace Fb := Lib.hid (Fb.out.below st)
  replace Kf := Lib.hid (Kf.out.below st)
  replace KB := Lib.hid (KB.out.trans ((st).mono KB.out.size))
  clear mq st CT
  go_wp2_with (first
    | (refine wpList_load_row rfl _ _ rfl ga rfl _ (hC A) (0, 0) _ Fa.out Try.underlying23 rfl (histSize' _) ?_)
    | (refine wpList_load_row rfl _ _ rfl gb rfl _ (hC B) (0, 0) _ Fb.out Try.underlying23 rfl (histSize' _) ?_))
  refine (DT.out w2).mono ?_
  rintro e w3 ⟨n2, x2, rfl, mq, st⟩
  have T2 := Lib.hid mq
  replace Fa := Lib.hid (Fa.out.below st)
  replace Fb := Lib.hid (Fb.out.below st)
  replace Kf := Lib.hid (Kf.out.below st)
  replace KB := Lib.hid (KB.out.trans ((st).mono KB.out.size))
  clear mq st DT
  obtain ⟨rfl, rfl⟩ := T1.out.det T2.out
  have dn : (n2 != n2) = false := by simp
  have dx : (x2 != x2) = false := by simp
  clear T1 T2
  go_upto_region 5 with fail
  clear dn dx
  go_wp2_with (first
    | (refine wpList_load_row rfl _ _ rfl ga rfl _ (hC A) (0, 0) _ Fa.out Try.underlying23 rfl (histSize' _) ?_)
    | (refine wpList_load_row rfl _ _ rfl gb rfl _ (hC B) (0, 0) _ Fb.out Try.underlying23 rfl (histSize' _) ?_))
  refine (CG.out w3).mono ?_
  rintro e w4 ⟨X, x, rfl, mq, st⟩
  have M1 := Lib.hid mq
  replace Fa := Lib.hid (Fa.out.below st)
  replace Fb := Lib.hid (Fb.out.below st)
  replace Kf := Lib.hid (Kf.out.below st)
  replace KB := Lib.hid (KB.out.trans ((st).mono KB.out.size))
  have NR := Lib.hid (new_row w4 X)
  clear mq st CG
  go_upto_region 6 with (refine wpList_store_row rfl _ _ _ rfl _ (hC X) rfl rfl 23 (hC (fun _ => 0)) (by rw [hz64]; exact heap_alloc_new _ _) (histSize' _) rfl (hC_one _) ?_)
  rw [hz64]
  generalize (w4.alloc (Obj.cells (hC (fun _ => 0)) 23)).setRow w4.heap.size (hC X) = w5 at *
  replace Fa := Lib.hid (Fa.out.below NR.out.2)
  replace Fb := Lib.hid (Fb.out.below NR.out.2)
  replace Kf := Lib.hid (Kf.out.below NR.out.2)
  replace KB := Lib.hid (KB.out.trans ((NR.out.2).mono KB.out.size))
  obtain ⟨gx, hg⟩ : ∃ g, g = w4.heap.size := ⟨_, rfl⟩
  have Fx := Lib.hid (show HB w5 gx X from by rw [hg]; exact NR.out.1)
  rw [← hg]
  clear hg NR
  go_wp2_with (first
    | (refine wpList_load_row rfl _ _ rfl ga rfl _ (hC A) (0, 0) _ Fa.out Try.underlying23 rfl (histSize' _) ?_)
    | (refine wpList_load_row rfl _ _ rfl gb rfl _ (hC B) (0, 0) _ Fb.out Try.underlying23 rfl (histSize' _) ?_)
    | (refine wpList_load_row rfl _ _ rfl gx rfl _ (hC X) (0, 0) _ Fx.out Try.underlying23 rfl (histSize' _) ?_))
  refine (DG.out w5).mono ?_
  rintro e w6 ⟨Y, y, rfl, mq, st⟩
  have M2 := Lib.hid mq
  replace Fa := Lib.hid (Fa.out.below st)
  replace Fb := Lib.hid (Fb.out.below st)
  replace Fx := Lib.hid (Fx.out.below st)
  replace Kf := Lib.hid (Kf.out.below st)
  replace KB := Lib.hid (KB.out.trans ((st).mono KB.out.size))
  have NR := Lib.hid (new_row w6 Y)
  clear mq st DG
  go_upto_region 7 with (refine wpList_store_row rfl _ _ _ rfl _ (hC Y) rfl rfl 23 (hC (fun _ => 0)) (by rw [hz64]; exact heap_alloc_new _ _) (histSize' _) rfl (hC_one _) ?_)
  rw [hz64]
  generalize (w6.alloc (Obj.cells (hC (fun _ => 0)) 23)).setRow w6.heap.size (hC Y) = w7 at *
  replace Fa := Lib.hid (Fa.out.below NR.out.2)
  replace Fb := Lib.hid (Fb.out.below NR.out.2)
  replace Fx := Lib.hid (Fx.out.below NR.out.2)
  replace Kf := Lib.hid (Kf.out.below NR.out.2)
  replace KB := Lib.hid (KB.out.trans ((NR.out.2).mono KB.out.size))
  obtain ⟨gy, hg⟩ : ∃ g, g = w6.heap.size := ⟨_, rfl⟩
  have Fy := Lib.hid (show HB w7 gy Y from by rw [hg]; exact NR.out.1)
  rw [← hg]
  clear hg NR
  obtain ⟨rfl, hXY⟩ := M1.out.det M2.out
  have Fz := Lib.hid (show HB w7 gy X from by unfold HB; rw [← hXY]; exact Fy.out)
  have EQ : ∀ W, (Op.equalIn 10000 23 (.agg (hC X)) (.agg (hC X))).run Try.prog W = .ok true W := fun W => eq_hist X W
  have dx : (y != y) = false := by simp
  clear M1 M2 hXY Fy
  go_upto_region 9 with (first
    | (refine wpList_load_row rfl _ _ rfl ga rfl _ (hC A) (0, 0) _ Fa.out Try.underlying23 rfl (histSize' _) ?_)
    | (refine wpList_load_row rfl _ _ rfl gb rfl _ (hC B) (0, 0) _ Fb.out Try.underlying23 rfl (histSize' _) ?_)
    | (refine wpList_load_row rfl _ _ rfl gx rfl _ (hC X) (0, 0) _ Fx.out Try.underlying23 rfl (histSize' _) ?_)
    | (refine wpList_load_row rfl _ _ rfl gy rfl _ (hC X) (0, 0) _ Fz.out Try.underlying23 rfl (histSize' _) ?_))
  clear EQ dx Fx Fz
  go_wp2_with (first
    | (refine wpList_load_row rfl _ _ rfl ga rfl _ (hC A) (0, 0) _ Fa.out Try.underlying23 rfl (histSize' _) ?_)
    | (refine wpList_load_row rfl _ _ rfl gb rfl _ (hC B) (0, 0) _ Fb.out Try.underlying23 rfl (histSize' _) ?_))
  refine (CM.out w7).mono ?_
  rintro e w8 ⟨n3, x3, rfl, mq, st⟩
  have T1 := Lib.hid mq
  replace Fa := Lib.hid (Fa.out.below st)
  replace Fb := Lib.hid (Fb.out.below st)
  replace Kf := Lib.hid (Kf.out.below st)
  replace KB := Lib.hid (KB.out.trans ((st).mono KB.out.size))
  clear mq st CM
  go_wp2_with (first
    | (refine wpList_load_row rfl _ _ rfl ga rfl _ (hC A) (0, 0) _ Fa.out Try.underlying23 rfl (histSize' _) ?_)
    | (refine wpList_load_row rfl _ _ rfl gb rfl _ (hC B) (0, 0) _ Fb.out Try.underlying23 rfl (histSize' _) ?_))
  refine (DM.out w8).mono ?_
  rintro e w9 ⟨n4, x4, rfl, mq, st⟩
  have T2 := Lib.hid mq
  replace Fa := Lib.hid (Fa.out.below st)
  replace Fb := Lib.hid (Fb.out.below st)
  replace Kf := Lib.hid (Kf.out.below st)
  replace KB := Lib.hid (KB.out.trans ((st).mono KB.out.size))
  clear mq st DM
  obtain ⟨rfl, rfl⟩ := T1.out.det T2.out
  have dn : (n4 != n4) = false := by simp
  have dx : (x4 != x4) = false := by simp
  clear T1 T2
  go_upto_region 13 with fail
  clear dn dx
  go_wp2_with (first
    | (refine wpList_load_row rfl _ _ rfl ga rfl _ (hC A) (0, 0) _ Fa.out Try.underlying23 rfl (histSize' _) ?_)
    | (refine wpList_load_row rfl _ _ rfl gb rfl _ (hC B) (0, 0) _ Fb.out Try.underlying23 rfl (histSize' _) ?_))
  refine (CV.out w9).mono ?_
  rintro e w10 ⟨n5, x5, rfl, mq, st⟩
  have T1 := Lib.hid mq
  replace Fa := Lib.hid (Fa.out.below st)
  replace Fb := Lib.hid (Fb.out.below st)
  replace Kf := Lib.hid (Kf.out.below st)
  replace KB := Lib.hid (KB.out.trans ((st).mono KB.out.size))
  clear mq st CV
  go_wp2_with (first
    | (refine wpList_load_row rfl _ _ rfl ga rfl _ (hC A) (0, 0) _ Fa.out Try.underlying23 rfl (histSize' _) ?_)
    | (refine wpList_load_row rfl _ _ rfl gb rfl _ (hC B) (0, 0) _ Fb.out Try.underlying23 rfl (histSize' _) ?_))
  refine (DV.out w10).mono ?_
  rintro e w11 ⟨n6, x6, rfl, mq, st⟩
  have T2 := Lib.hid mq
  replace Fa := Lib.hid (Fa.out.below st)
  replace Fb := Lib.hid (Fb.out.below st)
  replace Kf := Lib.hid (Kf.out.below st)
  replace KB := Lib.hid (KB.out.trans ((st).mono KB.out.size))
  clear mq st DV
  obtain ⟨rfl, rfl⟩ := T1.out.det T2.out
  have dn : (n6 != n6) = false := by simp
  have dx : (x6 != x6) = false := by simp
  clear T1 T2
  go_upto_region 17 with fail
  clear dn dx
  obtain ⟨f0, f1, -⟩ := Kf.out
  go_wp2_with (first
    | (refine wpList_load_row rfl _ _ rfl ga rfl _ (hC A) (0, 0) _ Fa.out Try.underlying23 rfl (histSize' _) ?_)
    | (refine wpList_load_row rfl _ _ rfl gb rfl _ (hC B) (0, 0) _ Fb.out Try.underlying23 rfl (histSize' _) ?_))
  refine (CQ.out w11).mono ?_
  rintro e w12 ⟨n7, x7, rfl, mq, st⟩
  have T1 := Lib.hid mq
  replace Fa := Lib.hid (Fa.out.below st)
  replace Fb := Lib.hid (Fb.out.below st)
  replace Kf := Lib.hid (Kf.out.below st)
  replace KB := Lib.hid (KB.out.trans ((st).mono KB.out.size))
  clear mq st CQ f0 f1
  obtain ⟨f0, f1, -⟩ := Kf.out
  go_wp2_with (first
    | (refine wpList_load_row rfl _ _ rfl ga rfl _ (hC A) (0, 0) _ Fa.out Try.underlying23 rfl (histSize' _) ?_)
    | (refine wpList_load_row rfl _ _ rfl gb rfl _ (hC B) (0, 0) _ Fb.out Try.underlying23 rfl (histSize' _) ?_))
  refine (DQ.out w12).mono ?_
  rintro e w13 ⟨n8, x8, rfl, mq, st⟩
  have T2 := Lib.hid mq
  replace Fa := Lib.hid (Fa.out.below st)
  replace Fb := Lib.hid (Fb.out.below st)
  replace Kf := Lib.hid (Kf.out.below st)
  replace KB := Lib.hid (KB.out.trans ((st).mono KB.out.size))
  clear mq st DQ f0 f1
  obtain ⟨rfl, rfl⟩ := T1.out.det T2.out
  have dn : (n8 != n8) = false := by simp
  have dx : (x8 != x8) = false := by simp
  clear T1 T2
  go_upto_region 21 with fail
  clear dn dx
  go_wp2_with (first
    | (refine wpList_load_row rfl _ _ rfl ga rfl _ (hC A) (0, 0) _ Fa.out Try.underlying23 rfl (histSize' _) ?_)
    | (refine wpList_load_row rfl _ _ rfl gb rfl _ (hC B) (0, 0) _ Fb.out Try.underlying23 rfl (histSize' _) ?_))
  refine (CS.out w13).mono ?_
  rintro e w14 ⟨V1, D1, E1, rfl, mq, st⟩
  have S1 := Lib.hid mq
  replace Fa := Lib.hid (Fa.out.below st)
  replace Fb := Lib.hid (Fb.out.below st)
  replace Kf := Lib.hid (Kf.out.below st)
  replace KB := Lib.hid (KB.out.trans ((st).mono KB.out.size))
  have PT := Lib.hid (FB.new w14 V1 D1)
  unfold fracV
  clear st mq CS
  go_upto_region 22 with fail
  generalize w14.alloc (Obj.cells #[Value.int .i64 V1, Value.int .i64 D1] 25) = w15 at *
  replace Fa := Lib.hid (Fa.out.below PT.out.2)
  replace Fb := Lib.hid (Fb.out.below PT.out.2)
  replace Kf := Lib.hid (Kf.out.below PT.out.2)
  replace KB := Lib.hid (KB.out.trans ((PT.out.2).mono KB.out.size))
  obtain ⟨gu, hg⟩ : ∃ g, g = w14.heap.size := ⟨_, rfl⟩
  have Ku := Lib.hid (show FB w15 gu V1 D1 from by rw [hg]; exact PT.out.1)
  rw [← hg]
  clear hg PT
  go_wp2_with (first
    | (refine wpList_load_row rfl _ _ rfl ga rfl _ (hC A) (0, 0) _ Fa.out Try.underlying23 rfl (histSize' _) ?_)
    | (refine wpList_load_row rfl _ _ rfl gb rfl _ (hC B) (0, 0) _ Fb.out Try.underlying23 rfl (histSize' _) ?_))
  refine (DS.out w15).mono ?_
  rintro e w16 ⟨V2, D2, E2, rfl, mq, st⟩
  have S2 := Lib.hid mq
  replace Fa := Lib.hid (Fa.out.below st)
  replace Fb := Lib.hid (Fb.out.below st)
  replace Kf := Lib.hid (Kf.out.below st)
  replace Ku := Lib.hid (Ku.out.below st)
  replace KB := Lib.hid (KB.out.trans ((st).mono KB.out.size))
  have PT := Lib.hid (FB.new w16 V2 D2)
  unfold fracV
  clear st mq DS
  go_upto_region 23 with fail
  generalize w16.alloc (Obj.cells #[Value.int .i64 V2, Value.int .i64 D2] 25) = w17 at *
  replace Fa := Lib.hid (Fa.out.below PT.out.2)
  replace Fb := Lib.hid (Fb.out.below PT.out.2)
  replace Kf := Lib.hid (Kf.out.below PT.out.2)
  replace Ku := Lib.hid (Ku.out.below PT.out.2)
  replace KB := Lib.hid (KB.out.trans ((PT.out.2).mono KB.out.size))
  obtain ⟨gv, hg⟩ : ∃ g, g = w16.heap.size := ⟨_, rfl⟩
  have Kv := Lib.hid (show FB w17 gv V2 D2 from by rw [hg]; exact PT.out.1)
  rw [← hg]
  clear hg PT
  obtain ⟨rfl, rfl, rfl⟩ := S1.out.det S2.out
  obtain ⟨u0, u1, -⟩ := Ku.out
  obtain ⟨v0, v1, -⟩ := Kv.out
  clear S1 S2
  go_wp2_with fail
  refine (AL.out _).mono ?_
  rintro e w20 ⟨rfl, st⟩
  go_wp2_with fail
  go_ret
  exact ⟨rfl, (by first | exact KB.out.trans (st.mono KB.out.size) | exact KB.out.trans ((((Below.refl _ _).drew).trans st).mono KB.out.size))⟩
end Go.Proofs.Ytbcfafihkdddeaa

/- Classing: a histogram that came in. -/
namespace Go.Proofs.Ytbcfafihkdddeaa
open Go.RowKit

theorem okWide_arr {P : Program} {w : World} {r : Reach} {base : Nat} {t e : TypeId} {n : Nat} {v : Value} (ht : P.underlying t = some (.array n e)) (h : Value.okWide P w r base t v) : ∃ cs, v = .agg cs ∧ cs.size = P.cellsOf t := by
  simp only [Value.okWide, ht] at h
  obtain ⟨cs, h1, h2, _⟩ := h
  exact ⟨cs, h1, h2⟩
theorem cells_hist : Try.prog.cellsOf 23 = 64 := by unfold Program.cellsOf; rw [histSize]; rfl
theorem cells_int : Try.prog.cellsOf 3 = 1 := by unfold Program.cellsOf; rw [intSize]; rfl
set_option maxRecDepth 100000 in
theorem open_hist {H : Type} {enc : TypeId × Value → H} {w : World} {r : Reach} {b0 base : Nat} {spare : Nat → Bool} {held : Bool} {v : Value} {d : DataW H} {p : List MemPlace} (hv : Value.okWide Try.prog w r b0 23 v) (h : DataW.Trod enc Try.prog w base spare held 23 v d p) : ∃ G : Nat → Int, v = hV G := by
  obtain ⟨cs, rfl, hsz⟩ := okWide_arr Try.underlying23 hv
  rw [cells_hist] at hsz
  obtain ⟨fuel, hf⟩ := h
  obtain ⟨xs, m, rfl, -, hl, hx, ha⟩ := DataW.trod_array Try.underlying23 hf
  have each : ∀ i, i < 64 → ∃ x : Int, cs[i]? = some (.int .i64 x) := fun i hi => by
    have e := ha i hi
    rw [cells_int, Nat.mul_one] at e
    have hc : i < cs.size := by omega
    have e2 : (((Value.agg cs).cells.toList).drop i).take 1 = [cs[i]] := by
      show (cs.toList.drop i).take 1 = _
      rw [List.drop_eq_getElem_cons (by simpa using hc)]
      simp
    rw [e2] at e
    have : xs[i]? = some (xs[i]'(by omega)) := List.getElem?_eq_getElem (by omega)
    rw [this] at e
    obtain ⟨x, hx, _⟩ := DataW.trod_int Try.underlying3 e
    simp at hx
    exact ⟨x, by rw [Array.getElem?_eq_getElem hc, hx]⟩
  refine ⟨fun i => match cs[i]? with | some (.int _ x) => x | _ => 0, ?_⟩
  congr 1
  apply Array.ext
  · rw [hC_size, hsz]
  · intro i h1 h2
    obtain ⟨x, hx⟩ := each i (by omega)
    have e := hC_at (fun i => match cs[i]? with | some (.int _ x) => x | _ => 0) (k := i) (by omega)
    rw [hx] at e
    rw [Array.getElem?_eq_getElem h1] at hx
    rw [Array.getElem?_eq_getElem h2] at e
    rw [Option.some.inj hx, Option.some.inj e]
end Go.Proofs.Ytbcfafihkdddeaa
