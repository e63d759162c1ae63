/- The law ClassingMerges: its walk. -/
import Derived.Test.YthbgeikdamajlaaHA6
import Derived.Test.YthbgeikdamajlaaCAA
namespace Go.Proofs.Ythbgeikdamajlaa
open Go.RowKit
set_option linter.unusedVariables false
set_option linter.unusedSimpArgs false

set_option maxRecDepth 100000 in
set_option maxHeartbeats 16000000 in
theorem classingMerges_walk (A B C : Nat → Int) (w : World) :
    Calls Try.prog 3 #[hV A, hV B, hV C] w fun e w' => e = .returned (.bool true) ∧ Below w.heap.size w w' := by
  have AL := Lib.hid alive_any
  have CG := Lib.hid (fun X Y W => Merge_any X Y W)
  have CT := Lib.hid (fun X W => Total_any X W)
  have CM := Lib.hid (fun X W => Micron_any X W)
  have T3 := Lib.hid (threeH w (Obj.cells (hC A) 23) (Obj.cells (hC B) 23) (Obj.cells (hC C) 23))
  go_enter Try.func3, Try.ntmps3
  go_upto_region 1 with fail
  generalize ((w.alloc (Obj.cells (hC A) 23)).alloc (Obj.cells (hC B) 23)).alloc (Obj.cells (hC C) 23) = w1 at *
  obtain ⟨ga, hga⟩ : ∃ g, g = w.heap.size := ⟨_, rfl⟩
  obtain ⟨gb, hgb⟩ : ∃ g, g = w.heap.size + 1 := ⟨_, rfl⟩
  obtain ⟨gc, hgc⟩ : ∃ g, g = w.heap.size + 1 + 1 := ⟨_, rfl⟩
  have Fa := Lib.hid (show HB w1 ga A from by rw [hga]; exact T3.out.1)
  have Fb := Lib.hid (show HB w1 gb B from by rw [hgb]; exact T3.out.2.1)
  have Fc := Lib.hid (show HB w1 gc C from by rw [hgc]; exact T3.out.2.2.1)
  have KB := Lib.hid T3.out.2.2.2
  rw [← hgc, ← hgb, ← hga]
  clear hga hgb hgc T3
  -- steps
  go_wp2_with (first
    | (refine wpList_load_row rfl _ _ rfl ga rfl _ (hC A) (0, 0) _ Fa.out Try.underlying23 rfl (histSize' _) ?_)
    | (refine wpList_load_row rfl _ _ rfl gb rfl _ (hC B) (0, 0) _ Fb.out Try.underlying23 rfl (histSize' _) ?_)
    | (refine wpList_load_row rfl _ _ rfl gc rfl _ (hC C) (0, 0) _ Fc.out Try.underlying23 rfl (histSize' _) ?_))
  refine (CG.out A B w1).mono ?_
  rintro e w2 ⟨X, x, rfl, mq, st⟩
  have M1 := Lib.hid mq
  replace Fa := Lib.hid (Fa.out.below st)
  replace Fb := Lib.hid (Fb.out.below st)
  replace Fc := Lib.hid (Fc.out.below st)
  replace KB := Lib.hid (KB.out.trans ((st).mono KB.out.size))
  have NR := Lib.hid (new_row w2 X)
  clear mq st
  go_upto_region 2 with (refine wpList_store_row rfl _ _ _ rfl _ (hC X) rfl rfl 23 (hC (fun _ => 0)) (by rw [hz64]; exact heap_alloc_new _ _) (histSize' _) rfl (hC_one _) ?_)
  rw [hz64]
  generalize (w2.alloc (Obj.cells (hC (fun _ => 0)) 23)).setRow w2.heap.size (hC X) = w3 at *
  replace Fa := Lib.hid (Fa.out.below NR.out.2)
  replace Fb := Lib.hid (Fb.out.below NR.out.2)
  replace Fc := Lib.hid (Fc.out.below NR.out.2)
  replace KB := Lib.hid (KB.out.trans ((NR.out.2).mono KB.out.size))
  obtain ⟨gx, hg⟩ : ∃ g, g = w2.heap.size := ⟨_, rfl⟩
  have Fx := Lib.hid (show HB w3 gx X from by rw [hg]; exact NR.out.1)
  rw [← hg]
  clear hg NR
  go_wp2_with (first
    | (refine wpList_load_row rfl _ _ rfl ga rfl _ (hC A) (0, 0) _ Fa.out Try.underlying23 rfl (histSize' _) ?_)
    | (refine wpList_load_row rfl _ _ rfl gb rfl _ (hC B) (0, 0) _ Fb.out Try.underlying23 rfl (histSize' _) ?_)
    | (refine wpList_load_row rfl _ _ rfl gc rfl _ (hC C) (0, 0) _ Fc.out Try.underlying23 rfl (histSize' _) ?_)
    | (refine wpList_load_row rfl _ _ rfl gx rfl _ (hC X) (0, 0) _ Fx.out Try.underlying23 rfl (histSize' _) ?_))
  refine (CG.out B A w3).mono ?_
  rintro e w4 ⟨Y, y, rfl, mq, st⟩
  have M2 := Lib.hid mq
  replace Fa := Lib.hid (Fa.out.below st)
  replace Fb := Lib.hid (Fb.out.below st)
  replace Fc := Lib.hid (Fc.out.below st)
  replace Fx := Lib.hid (Fx.out.below st)
  replace KB := Lib.hid (KB.out.trans ((st).mono KB.out.size))
  have NR := Lib.hid (new_row w4 Y)
  clear mq st
  go_upto_region 3 with (refine wpList_store_row rfl _ _ _ rfl _ (hC Y) rfl rfl 23 (hC (fun _ => 0)) (by rw [hz64]; exact heap_alloc_new _ _) (histSize' _) rfl (hC_one _) ?_)
  rw [hz64]
  generalize (w4.alloc (Obj.cells (hC (fun _ => 0)) 23)).setRow w4.heap.size (hC Y) = w5 at *
  replace Fa := Lib.hid (Fa.out.below NR.out.2)
  replace Fb := Lib.hid (Fb.out.below NR.out.2)
  replace Fc := Lib.hid (Fc.out.below NR.out.2)
  replace Fx := Lib.hid (Fx.out.below NR.out.2)
  replace KB := Lib.hid (KB.out.trans ((NR.out.2).mono KB.out.size))
  obtain ⟨gy, hg⟩ : ∃ g, g = w4.heap.size := ⟨_, rfl⟩
  have Fy := Lib.hid (show HB w5 gy Y from by rw [hg]; exact NR.out.1)
  rw [← hg]
  clear hg NR
  obtain ⟨xy, hXY⟩ := mrg_comm M1.out M2.out
  subst xy
  replace Fy := Lib.hid (show HB w5 gy X from by unfold HB; rw [hXY]; exact Fy.out)
  have EQ : ∀ W, (Op.equalIn 10000 23 (.agg (hC X)) (.agg (hC X))).run Try.prog W = .ok true W := fun W => eq_hist X W
  have xx : (x != x) = false := by simp
  clear M2 hXY
  go_upto_region 5 with (first
    | (refine wpList_load_row rfl _ _ rfl ga rfl _ (hC A) (0, 0) _ Fa.out Try.underlying23 rfl (histSize' _) ?_)
    | (refine wpList_load_row rfl _ _ rfl gb rfl _ (hC B) (0, 0) _ Fb.out Try.underlying23 rfl (histSize' _) ?_)
    | (refine wpList_load_row rfl _ _ rfl gc rfl _ (hC C) (0, 0) _ Fc.out Try.underlying23 rfl (histSize' _) ?_)
    | (refine wpList_load_row rfl _ _ rfl gx rfl _ (hC X) (0, 0) _ Fx.out Try.underlying23 rfl (histSize' _) ?_)
    | (refine wpList_load_row rfl _ _ rfl gy rfl _ (hC X) (0, 0) _ Fy.out Try.underlying23 rfl (histSize' _) ?_))
  clear EQ xx
  by_cases x0 : x = 0
  case neg =>
    have x1 : (x == 0) = false := by simpa using x0
    have x2 : (x != 0) = true := by simpa using x0
    have EZ : ∀ W, (Op.equalIn 10000 23 (.agg (hC X)) (.agg #[Value.int .i64 0, Value.int .i64 0, Value.int .i64 0, Value.int .i64 0, Value.int .i64 0, Value.int .i64 0, Value.int .i64 0, Value.int .i64 0, Value.int .i64 0, Value.int .i64 0, Value.int .i64 0, Value.int .i64 0, Value.int .i64 0, Value.int .i64 0, Value.int .i64 0, Value.int .i64 0, Value.int .i64 0, Value.int .i64 0, Value.int .i64 0, Value.int .i64 0, Value.int .i64 0, Value.int .i64 0, Value.int .i64 0, Value.int .i64 0, Value.int .i64 0, Value.int .i64 0, Value.int .i64 0, Value.int .i64 0, Value.int .i64 0, Value.int .i64 0, Value.int .i64 0, Value.int .i64 0, Value.int .i64 0, Value.int .i64 0, Value.int .i64 0, Value.int .i64 0, Value.int .i64 0, Value.int .i64 0, Value.int .i64 0, Value.int .i64 0, Value.int .i64 0, Value.int .i64 0, Value.int .i64 0, Value.int .i64 0, Value.int .i64 0, Value.int .i64 0, Value.int .i64 0, Value.int .i64 0, Value.int .i64 0, Value.int .i64 0, Value.int .i64 0, Value.int .i64 0, Value.int .i64 0, Value.int .i64 0, Value.int .i64 0, Value.int .i64 0, Value.int .i64 0, Value.int .i64 0, Value.int .i64 0, Value.int .i64 0, Value.int .i64 0, Value.int .i64 0, Value.int .i64 0, Value.int .i64 0])).run Try.prog W = .ok true W := fun W => by rw [hz64, M1.out.bad x0]; exact eq_hist _ W
    clear x0 M1 CG CT CM
    go_wp2_with (first
    | (refine wpList_load_row rfl _ _ rfl ga rfl _ (hC A) (0, 0) _ Fa.out Try.underlying23 rfl (histSize' _) ?_)
    | (refine wpList_load_row rfl _ _ rfl gb rfl _ (hC B) (0, 0) _ Fb.out Try.underlying23 rfl (histSize' _) ?_)
    | (refine wpList_load_row rfl _ _ rfl gc rfl _ (hC C) (0, 0) _ Fc.out Try.underlying23 rfl (histSize' _) ?_)
    | (refine wpList_load_row rfl _ _ rfl gx rfl _ (hC X) (0, 0) _ Fx.out Try.underlying23 rfl (histSize' _) ?_)
    | (refine wpList_load_row rfl _ _ rfl gy rfl _ (hC X) (0, 0) _ Fy.out Try.underlying23 rfl (histSize' _) ?_))
    refine (AL.out _).mono ?_
    rintro e w20 ⟨rfl, st⟩
    go_wp2_with fail
    go_ret
    exact ⟨rfl, KB.out.trans (st.mono KB.out.size)⟩
  subst x0
  have x1 : ((0 : Int) == 0) = true := by decide
  have x2 : ((0 : Int) != 0) = false := by decide
  go_wp2_with (first
    | (refine wpList_load_row rfl _ _ rfl ga rfl _ (hC A) (0, 0) _ Fa.out Try.underlying23 rfl (histSize' _) ?_)
    | (refine wpList_load_row rfl _ _ rfl gb rfl _ (hC B) (0, 0) _ Fb.out Try.underlying23 rfl (histSize' _) ?_)
    | (refine wpList_load_row rfl _ _ rfl gc rfl _ (hC C) (0, 0) _ Fc.out Try.underlying23 rfl (histSize' _) ?_)
    | (refine wpList_load_row rfl _ _ rfl gx rfl _ (hC X) (0, 0) _ Fx.out Try.underlying23 rfl (histSize' _) ?_)
    | (refine wpList_load_row rfl _ _ rfl gy rfl _ (hC X) (0, 0) _ Fy.out Try.underlying23 rfl (histSize' _) ?_))
  refine (CT.out A w5).mono ?_
  rintro e w6 ⟨n, t1, rfl, mq, st⟩
  have T1 := Lib.hid mq
  replace Fa := Lib.hid (Fa.out.below st)
  replace Fb := Lib.hid (Fb.out.below st)
  replace Fc := Lib.hid (Fc.out.below st)
  replace Fx := Lib.hid (Fx.out.below st)
  replace Fy := Lib.hid (Fy.out.below st)
  replace KB := Lib.hid (KB.out.trans ((st).mono KB.out.size))
  clear mq st
  go_wp2_with (first
    | (refine wpList_load_row rfl _ _ rfl ga rfl _ (hC A) (0, 0) _ Fa.out Try.underlying23 rfl (histSize' _) ?_)
    | (refine wpList_load_row rfl _ _ rfl gb rfl _ (hC B) (0, 0) _ Fb.out Try.underlying23 rfl (histSize' _) ?_)
    | (refine wpList_load_row rfl _ _ rfl gc rfl _ (hC C) (0, 0) _ Fc.out Try.underlying23 rfl (histSize' _) ?_)
    | (refine wpList_load_row rfl _ _ rfl gx rfl _ (hC X) (0, 0) _ Fx.out Try.underlying23 rfl (histSize' _) ?_)
    | (refine wpList_load_row rfl _ _ rfl gy rfl _ (hC X) (0, 0) _ Fy.out Try.underlying23 rfl (histSize' _) ?_))
  refine (CT.out B w6).mono ?_
  rintro e w7 ⟨m, t2, rfl, mq, st⟩
  have T2 := Lib.hid mq
  replace Fa := Lib.hid (Fa.out.below st)
  replace Fb := Lib.hid (Fb.out.below st)
  replace Fc := Lib.hid (Fc.out.below st)
  replace Fx := Lib.hid (Fx.out.below st)
  replace Fy := Lib.hid (Fy.out.below st)
  replace KB := Lib.hid (KB.out.trans ((st).mono KB.out.size))
  clear mq st
  go_wp2_with (first
    | (refine wpList_load_row rfl _ _ rfl ga rfl _ (hC A) (0, 0) _ Fa.out Try.underlying23 rfl (histSize' _) ?_)
    | (refine wpList_load_row rfl _ _ rfl gb rfl _ (hC B) (0, 0) _ Fb.out Try.underlying23 rfl (histSize' _) ?_)
    | (refine wpList_load_row rfl _ _ rfl gc rfl _ (hC C) (0, 0) _ Fc.out Try.underlying23 rfl (histSize' _) ?_)
    | (refine wpList_load_row rfl _ _ rfl gx rfl _ (hC X) (0, 0) _ Fx.out Try.underlying23 rfl (histSize' _) ?_)
    | (refine wpList_load_row rfl _ _ rfl gy rfl _ (hC X) (0, 0) _ Fy.out Try.underlying23 rfl (histSize' _) ?_))
  refine (CT.out X w7).mono ?_
  rintro e w8 ⟨s, t3, rfl, mq, st⟩
  have T3 := Lib.hid mq
  replace Fa := Lib.hid (Fa.out.below st)
  replace Fb := Lib.hid (Fb.out.below st)
  replace Fc := Lib.hid (Fc.out.below st)
  replace Fx := Lib.hid (Fx.out.below st)
  replace Fy := Lib.hid (Fy.out.below st)
  replace KB := Lib.hid (KB.out.trans ((st).mono KB.out.size))
  clear mq st
  obtain ⟨rfl, rfl, rfl, sm, ss⟩ := tot_says M1.out T1.out T2.out T3.out
  have nb : 0 ≤ n ∧ n ≤ 1048576 ∧ 0 ≤ m ∧ m ≤ 1048576 := by
    have g := M1.out.good
    have h1 := hsum_nonneg g.1
    have h2 := hsum_nonneg g.2.1
    have h3 := g.2.2.1
    rcases T1.out with ⟨_, _, e1⟩ | ⟨_, e1, _⟩
    · rcases T2.out with ⟨_, _, e2⟩ | ⟨_, e2, _⟩
      · omega
      · omega
    · omega
  have SH := Lib.hid ss
  have wN : IntKind.i64.wrap (n + m) = s := by rw [sm]; exact hwI (by omega) (by omega)
  have sx : (s != s) = false := by simp
  clear T1 T2 T3 CT sm ss nb
  go_upto_region 12 with fail
  clear wN sx
  go_wp2_with (first
    | (refine wpList_load_row rfl _ _ rfl ga rfl _ (hC A) (0, 0) _ Fa.out Try.underlying23 rfl (histSize' _) ?_)
    | (refine wpList_load_row rfl _ _ rfl gb rfl _ (hC B) (0, 0) _ Fb.out Try.underlying23 rfl (histSize' _) ?_)
    | (refine wpList_load_row rfl _ _ rfl gc rfl _ (hC C) (0, 0) _ Fc.out Try.underlying23 rfl (histSize' _) ?_)
    | (refine wpList_load_row rfl _ _ rfl gx rfl _ (hC X) (0, 0) _ Fx.out Try.underlying23 rfl (histSize' _) ?_)
    | (refine wpList_load_row rfl _ _ rfl gy rfl _ (hC X) (0, 0) _ Fy.out Try.underlying23 rfl (histSize' _) ?_))
  refine (CG.out X C w8).mono ?_
  rintro e w9 ⟨L, l, rfl, mq, st⟩
  have M3 := Lib.hid mq
  replace Fa := Lib.hid (Fa.out.below st)
  replace Fb := Lib.hid (Fb.out.below st)
  replace Fc := Lib.hid (Fc.out.below st)
  replace Fx := Lib.hid (Fx.out.below st)
  replace Fy := Lib.hid (Fy.out.below st)
  replace KB := Lib.hid (KB.out.trans ((st).mono KB.out.size))
  have NR := Lib.hid (new_row w9 L)
  clear mq st
  go_upto_region 13 with (refine wpList_store_row rfl _ _ _ rfl _ (hC L) rfl rfl 23 (hC (fun _ => 0)) (by rw [hz64]; exact heap_alloc_new _ _) (histSize' _) rfl (hC_one _) ?_)
  rw [hz64]
  generalize (w9.alloc (Obj.cells (hC (fun _ => 0)) 23)).setRow w9.heap.size (hC L) = w10 at *
  replace Fa := Lib.hid (Fa.out.below NR.out.2)
  replace Fb := Lib.hid (Fb.out.below NR.out.2)
  replace Fc := Lib.hid (Fc.out.below NR.out.2)
  replace Fx := Lib.hid (Fx.out.below NR.out.2)
  replace Fy := Lib.hid (Fy.out.below NR.out.2)
  replace KB := Lib.hid (KB.out.trans ((NR.out.2).mono KB.out.size))
  obtain ⟨gl, hg⟩ : ∃ g, g = w9.heap.size := ⟨_, rfl⟩
  have Fl := Lib.hid (show HB w10 gl L from by rw [hg]; exact NR.out.1)
  rw [← hg]
  clear hg NR
  go_wp2_with (first
    | (refine wpList_load_row rfl _ _ rfl ga rfl _ (hC A) (0, 0) _ Fa.out Try.underlying23 rfl (histSize' _) ?_)
    | (refine wpList_load_row rfl _ _ rfl gb rfl _ (hC B) (0, 0) _ Fb.out Try.underlying23 rfl (histSize' _) ?_)
    | (refine wpList_load_row rfl _ _ rfl gc rfl _ (hC C) (0, 0) _ Fc.out Try.underlying23 rfl (histSize' _) ?_)
    | (refine wpList_load_row rfl _ _ rfl gx rfl _ (hC X) (0, 0) _ Fx.out Try.underlying23 rfl (histSize' _) ?_)
    | (refine wpList_load_row rfl _ _ rfl gy rfl _ (hC X) (0, 0) _ Fy.out Try.underlying23 rfl (histSize' _) ?_)
    | (refine wpList_load_row rfl _ _ rfl gl rfl _ (hC L) (0, 0) _ Fl.out Try.underlying23 rfl (histSize' _) ?_))
  refine (CG.out B C w10).mono ?_
  rintro e w11 ⟨Y, y, rfl, mq, st⟩
  have M4 := Lib.hid mq
  replace Fa := Lib.hid (Fa.out.below st)
  replace Fb := Lib.hid (Fb.out.below st)
  replace Fc := Lib.hid (Fc.out.below st)
  replace Fx := Lib.hid (Fx.out.below st)
  replace Fy := Lib.hid (Fy.out.below st)
  replace Fl := Lib.hid (Fl.out.below st)
  replace KB := Lib.hid (KB.out.trans ((st).mono KB.out.size))
  have NR := Lib.hid (new_row w11 Y)
  clear mq st
  go_upto_region 14 with (refine wpList_store_row rfl _ _ _ rfl _ (hC Y) rfl rfl 23 (hC (fun _ => 0)) (by rw [hz64]; exact heap_alloc_new _ _) (histSize' _) rfl (hC_one _) ?_)
  rw [hz64]
  generalize (w11.alloc (Obj.cells (hC (fun _ => 0)) 23)).setRow w11.heap.size (hC Y) = w12 at *
  replace Fa := Lib.hid (Fa.out.below NR.out.2)
  replace Fb := Lib.hid (Fb.out.below NR.out.2)
  replace Fc := Lib.hid (Fc.out.below NR.out.2)
  replace Fx := Lib.hid (Fx.out.below NR.out.2)
  replace Fy := Lib.hid (Fy.out.below NR.out.2)
  replace Fl := Lib.hid (Fl.out.below NR.out.2)
  replace KB := Lib.hid (KB.out.trans ((NR.out.2).mono KB.out.size))
  obtain ⟨gd, hg⟩ : ∃ g, g = w11.heap.size := ⟨_, rfl⟩
  have Fd := Lib.hid (show HB w12 gd Y from by rw [hg]; exact NR.out.1)
  rw [← hg]
  clear hg NR
  go_wp2_with (first
    | (refine wpList_load_row rfl _ _ rfl ga rfl _ (hC A) (0, 0) _ Fa.out Try.underlying23 rfl (histSize' _) ?_)
    | (refine wpList_load_row rfl _ _ rfl gb rfl _ (hC B) (0, 0) _ Fb.out Try.underlying23 rfl (histSize' _) ?_)
    | (refine wpList_load_row rfl _ _ rfl gc rfl _ (hC C) (0, 0) _ Fc.out Try.underlying23 rfl (histSize' _) ?_)
    | (refine wpList_load_row rfl _ _ rfl gx rfl _ (hC X) (0, 0) _ Fx.out Try.underlying23 rfl (histSize' _) ?_)
    | (refine wpList_load_row rfl _ _ rfl gy rfl _ (hC X) (0, 0) _ Fy.out Try.underlying23 rfl (histSize' _) ?_)
    | (refine wpList_load_row rfl _ _ rfl gl rfl _ (hC L) (0, 0) _ Fl.out Try.underlying23 rfl (histSize' _) ?_)
    | (refine wpList_load_row rfl _ _ rfl gd rfl _ (hC Y) (0, 0) _ Fd.out Try.underlying23 rfl (histSize' _) ?_))
  refine (CG.out A Y w12).mono ?_
  rintro e w13 ⟨R, r, rfl, mq, st⟩
  have M5 := Lib.hid mq
  replace Fa := Lib.hid (Fa.out.below st)
  replace Fb := Lib.hid (Fb.out.below st)
  replace Fc := Lib.hid (Fc.out.below st)
  replace Fx := Lib.hid (Fx.out.below st)
  replace Fy := Lib.hid (Fy.out.below st)
  replace Fl := Lib.hid (Fl.out.below st)
  replace Fd := Lib.hid (Fd.out.below st)
  replace KB := Lib.hid (KB.out.trans ((st).mono KB.out.size))
  have NR := Lib.hid (new_row w13 R)
  clear mq st
  go_upto_region 15 with (refine wpList_store_row rfl _ _ _ rfl _ (hC R) rfl rfl 23 (hC (fun _ => 0)) (by rw [hz64]; exact heap_alloc_new _ _) (histSize' _) rfl (hC_one _) ?_)
  rw [hz64]
  generalize (w13.alloc (Obj.cells (hC (fun _ => 0)) 23)).setRow w13.heap.size (hC R) = w14 at *
  replace Fa := Lib.hid (Fa.out.below NR.out.2)
  replace Fb := Lib.hid (Fb.out.below NR.out.2)
  replace Fc := Lib.hid (Fc.out.below NR.out.2)
  replace Fx := Lib.hid (Fx.out.below NR.out.2)
  replace Fy := Lib.hid (Fy.out.below NR.out.2)
  replace Fl := Lib.hid (Fl.out.below NR.out.2)
  replace Fd := Lib.hid (Fd.out.below NR.out.2)
  replace KB := Lib.hid (KB.out.trans ((NR.out.2).mono KB.out.size))
  obtain ⟨gr, hg⟩ : ∃ g, g = w13.heap.size := ⟨_, rfl⟩
  have Fr := Lib.hid (show HB w14 gr R from by rw [hg]; exact NR.out.1)
  rw [← hg]
  clear hg NR
  go_cut [115] from 101 to 115 (fun bv wx => bv = .bool false ∧ wx = w14)
  case first =>
    clear CG CM AL
    by_cases l0 : l = 0
    · subst l0
      obtain ⟨rfl, rfl, hLR⟩ := mrg_assoc M1.out M3.out M4.out M5.out
      have FR2 := Lib.hid (show HB w14 gr L from by unfold HB; rw [hLR]; exact Fr.out)
      have EQ : ∀ W, (Op.equalIn 10000 23 (.agg (hC L)) (.agg (hC L))).run Try.prog W = .ok true W := fun W => eq_hist L W
      clear M1 M3 M4 M5 hLR
      go_wp2_with (first
        | (refine wpList_load_want (by rfl) _ rfl gl L rfl Fl.out ?_)
        | (refine wpList_load_want (by rfl) _ rfl gr L rfl FR2.out ?_))
      go_meet
      exact ⟨rfl, rfl⟩
    · have l1 : (l == 0) = false := by simpa using l0
      clear M1 M3 M4 M5 l0
      go_wp2_with fail
      go_meet
      exact ⟨rfl, rfl⟩
  case rest =>
  obtain ⟨rfl, rfl⟩ := hcut
  clear M3 M4 M5 CG
  go_wp2_with (first
    | (refine wpList_load_row rfl _ _ rfl ga rfl _ (hC A) (0, 0) _ Fa.out Try.underlying23 rfl (histSize' _) ?_)
    | (refine wpList_load_row rfl _ _ rfl gb rfl _ (hC B) (0, 0) _ Fb.out Try.underlying23 rfl (histSize' _) ?_)
    | (refine wpList_load_row rfl _ _ rfl gc rfl _ (hC C) (0, 0) _ Fc.out Try.underlying23 rfl (histSize' _) ?_)
    | (refine wpList_load_row rfl _ _ rfl gx rfl _ (hC X) (0, 0) _ Fx.out Try.underlying23 rfl (histSize' _) ?_)
    | (refine wpList_load_row rfl _ _ rfl gy rfl _ (hC X) (0, 0) _ Fy.out Try.underlying23 rfl (histSize' _) ?_)
    | (refine wpList_load_row rfl _ _ rfl gl rfl _ (hC L) (0, 0) _ Fl.out Try.underlying23 rfl (histSize' _) ?_)
    | (refine wpList_load_row rfl _ _ rfl gd rfl _ (hC Y) (0, 0) _ Fd.out Try.underlying23 rfl (histSize' _) ?_)
    | (refine wpList_load_row rfl _ _ rfl gr rfl _ (hC R) (0, 0) _ Fr.out Try.underlying23 rfl (histSize' _) ?_))
  refine (CM.out A wc).mono ?_
  rintro e w15 ⟨z1, e1, rfl, mq, st⟩
  have Q1 := Lib.hid mq
  replace Fa := Lib.hid (Fa.out.below st)
  replace Fb := Lib.hid (Fb.out.below st)
  replace Fc := Lib.hid (Fc.out.below st)
  replace Fx := Lib.hid (Fx.out.below st)
  replace Fy := Lib.hid (Fy.out.below st)
  replace Fl := Lib.hid (Fl.out.below st)
  replace Fd := Lib.hid (Fd.out.below st)
  replace Fr := Lib.hid (Fr.out.below st)
  replace KB := Lib.hid (KB.out.trans ((st).mono KB.out.size))
  clear mq st
  go_wp2_with (first
    | (refine wpList_load_row rfl _ _ rfl ga rfl _ (hC A) (0, 0) _ Fa.out Try.underlying23 rfl (histSize' _) ?_)
    | (refine wpList_load_row rfl _ _ rfl gb rfl _ (hC B) (0, 0) _ Fb.out Try.underlying23 rfl (histSize' _) ?_)
    | (refine wpList_load_row rfl _ _ rfl gc rfl _ (hC C) (0, 0) _ Fc.out Try.underlying23 rfl (histSize' _) ?_)
    | (refine wpList_load_row rfl _ _ rfl gx rfl _ (hC X) (0, 0) _ Fx.out Try.underlying23 rfl (histSize' _) ?_)
    | (refine wpList_load_row rfl _ _ rfl gy rfl _ (hC X) (0, 0) _ Fy.out Try.underlying23 rfl (histSize' _) ?_)
    | (refine wpList_load_row rfl _ _ rfl gl rfl _ (hC L) (0, 0) _ Fl.out Try.underlying23 rfl (histSize' _) ?_)
    | (refine wpList_load_row rfl _ _ rfl gd rfl _ (hC Y) (0, 0) _ Fd.out Try.underlying23 rfl (histSize' _) ?_)
    | (refine wpList_load_row rfl _ _ rfl gr rfl _ (hC R) (0, 0) _ Fr.out Try.underlying23 rfl (histSize' _) ?_))
  refine (CM.out B w15).mono ?_
  rintro e w16 ⟨z2, e2, rfl, mq, st⟩
  have Q2 := Lib.hid mq
  replace Fa := Lib.hid (Fa.out.below st)
  replace Fb := Lib.hid (Fb.out.below st)
  replace Fc := Lib.hid (Fc.out.below st)
  replace Fx := Lib.hid (Fx.out.below st)
  replace Fy := Lib.hid (Fy.out.below st)
  replace Fl := Lib.hid (Fl.out.below st)
  replace Fd := Lib.hid (Fd.out.below st)
  replace Fr := Lib.hid (Fr.out.below st)
  replace KB := Lib.hid (KB.out.trans ((st).mono KB.out.size))
  clear mq st
  go_wp2_with (first
    | (refine wpList_load_row rfl _ _ rfl ga rfl _ (hC A) (0, 0) _ Fa.out Try.underlying23 rfl (histSize' _) ?_)
    | (refine wpList_load_row rfl _ _ rfl gb rfl _ (hC B) (0, 0) _ Fb.out Try.underlying23 rfl (histSize' _) ?_)
    | (refine wpList_load_row rfl _ _ rfl gc rfl _ (hC C) (0, 0) _ Fc.out Try.underlying23 rfl (histSize' _) ?_)
    | (refine wpList_load_row rfl _ _ rfl gx rfl _ (hC X) (0, 0) _ Fx.out Try.underlying23 rfl (histSize' _) ?_)
    | (refine wpList_load_row rfl _ _ rfl gy rfl _ (hC X) (0, 0) _ Fy.out Try.underlying23 rfl (histSize' _) ?_)
    | (refine wpList_load_row rfl _ _ rfl gl rfl _ (hC L) (0, 0) _ Fl.out Try.underlying23 rfl (histSize' _) ?_)
    | (refine wpList_load_row rfl _ _ rfl gd rfl _ (hC Y) (0, 0) _ Fd.out Try.underlying23 rfl (histSize' _) ?_)
    | (refine wpList_load_row rfl _ _ rfl gr rfl _ (hC R) (0, 0) _ Fr.out Try.underlying23 rfl (histSize' _) ?_))
  refine (CM.out X w16).mono ?_
  rintro e w17 ⟨z3, e3, rfl, mq, st⟩
  have Q3 := Lib.hid mq
  replace Fa := Lib.hid (Fa.out.below st)
  replace Fb := Lib.hid (Fb.out.below st)
  replace Fc := Lib.hid (Fc.out.below st)
  replace Fx := Lib.hid (Fx.out.below st)
  replace Fy := Lib.hid (Fy.out.below st)
  replace Fl := Lib.hid (Fl.out.below st)
  replace Fd := Lib.hid (Fd.out.below st)
  replace Fr := Lib.hid (Fr.out.below st)
  replace KB := Lib.hid (KB.out.trans ((st).mono KB.out.size))
  clear mq st
  obtain ⟨S1, S2⟩ := mic_says M1.out Q1.out Q2.out Q3.out
  rw [← SH.out] at S1
  have S1 := Lib.hid S1
  have S2 := Lib.hid S2
  clear Q1 Q2 Q3 M1 CM
  by_cases ok : e1 = 0 ∧ e2 = 0
  case neg =>
    have S3 := Lib.hid (S1.out ok)
    have AN := Lib.hid (show e1 ≠ 0 ∨ (e1 = 0 ∧ e2 ≠ 0) from by
      by_cases h : e1 = 0
      · exact .inr ⟨h, fun g => ok ⟨h, g⟩⟩
      · exact .inl h)
    have WAY := Lib.hid (show (e3 = 0 ∧ (e3 == 0) = true ∧ decide (0 < s) = true) ∨ (e3 ≠ 0 ∧ (e3 == 0) = false ∧ decide (0 < s) = false) from by
      by_cases h : e3 = 0
      · exact .inl ⟨h, by simpa using h, decide_eq_true (S3.out.1 h)⟩
      · exact .inr ⟨h, by simpa using h, decide_eq_false (fun g => h (S3.out.2 g))⟩)
    clear S1 S2 S3 ok
    rcases AN.out with n1 | ⟨rfl, n1⟩ <;> rcases WAY.out with ⟨-, v1, v2⟩ | ⟨-, v1, v2⟩
    · have y1 : (e1 == 0) = false := by simpa using n1
      clear AN WAY n1
      go_wp2_with fail
      refine (AL.out _).mono ?_
      rintro e w20 ⟨rfl, st⟩
      go_wp2_with fail
      go_ret
      exact ⟨rfl, KB.out.trans (st.mono KB.out.size)⟩
    · have y1 : (e1 == 0) = false := by simpa using n1
      clear AN WAY n1
      go_wp2_with fail
      refine (AL.out _).mono ?_
      rintro e w20 ⟨rfl, st⟩
      go_wp2_with fail
      go_ret
      exact ⟨rfl, KB.out.trans (st.mono KB.out.size)⟩
    · have y1 : (e2 == 0) = false := by simpa using n1
      clear AN WAY n1
      go_wp2_with fail
      refine (AL.out _).mono ?_
      rintro e w20 ⟨rfl, st⟩
      go_wp2_with fail
      go_ret
      exact ⟨rfl, KB.out.trans (st.mono KB.out.size)⟩
    · have y1 : (e2 == 0) = false := by simpa using n1
      clear AN WAY n1
      go_wp2_with fail
      refine (AL.out _).mono ?_
      rintro e w20 ⟨rfl, st⟩
      go_wp2_with fail
      go_ret
      exact ⟨rfl, KB.out.trans (st.mono KB.out.size)⟩
  obtain ⟨rfl, rfl⟩ := ok
  obtain ⟨rfl, le1, le2⟩ := S2.out rfl rfl
  have CASE : (z1 < z2 ∧ z1 ≤ z3 ∧ z3 ≤ z2) ∨ (z1 = z2 ∧ z1 = z3) ∨ (z2 < z1 ∧ z2 ≤ z3 ∧ z3 ≤ z1) := by omega
  clear S1 S2 le1 le2
  rcases CASE with ⟨c1, c2, c3⟩ | ⟨rfl, rfl⟩ | ⟨c1, c2, c3⟩
  · have y1 : decide (z1 < z2) = true := decide_eq_true c1
    have y2 : decide (z2 < z1) = false := decide_eq_false (by omega)
    have y3 : decide (z1 ≤ z3) = true := decide_eq_true c2
    have y4 : decide (z3 ≤ z2) = true := decide_eq_true c3
    have y5 : min z1 z2 = z1 := by omega
    have y6 : max z1 z2 = z2 := by omega
    go_wp2_with fail
    refine (AL.out _).mono ?_
    rintro e w20 ⟨rfl, st⟩
    go_wp2_with fail
    go_ret
    exact ⟨rfl, KB.out.trans (st.mono KB.out.size)⟩
  · have y1 : decide (z1 < z1) = false := by simp
    have y3 : decide (z1 ≤ z1) = true := by simp
    have y5 : min z1 z1 = z1 := by omega
    have y6 : max z1 z1 = z1 := by omega
    go_wp2_with fail
    refine (AL.out _).mono ?_
    rintro e w20 ⟨rfl, st⟩
    go_wp2_with fail
    go_ret
    exact ⟨rfl, KB.out.trans (st.mono KB.out.size)⟩
  · have y1 : decide (z1 < z2) = false := decide_eq_false (by omega)
    have y2 : decide (z2 < z1) = true := decide_eq_true c1
    have y3 : decide (z2 ≤ z3) = true := decide_eq_true c2
    have y4 : decide (z3 ≤ z1) = true := decide_eq_true c3
    have y5 : min z1 z2 = z2 := by omega
    have y6 : max z1 z2 = z1 := by omega
    go_wp2_with fail
    refine (AL.out _).mono ?_
    rintro e w20 ⟨rfl, st⟩
    go_wp2_with fail
    go_ret
    exact ⟨rfl, KB.out.trans (st.mono KB.out.size)⟩
end Go.Proofs.Ythbgeikdamajlaa
