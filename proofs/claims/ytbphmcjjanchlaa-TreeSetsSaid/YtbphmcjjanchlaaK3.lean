/- level: a rotation. -/
import Derived.Test.YtbphmcjjanchlaaK2
namespace Go.Proofs.Ytbphmcjjanchlaa.Mii
open Go.RowKit
set_option linter.unusedVariables false
set_option linter.unusedSimpArgs false

set_option maxRecDepth 100000 in
set_option maxHeartbeats 1000000 in
theorem level_t (p q : Option Addr) (l r : Tr Int Value) (k : Int) (kx v : Value) (w : World) (hk : IsKV k kx v) (hl : At w p l) (hr : At w q r) (al : l.Avl) (ar : r.Avl) (h1 : l.dep ≤ r.dep + 1) (h2 : r.dep ≤ l.dep + 1) (hz : l.sz + 1 + r.sz ≤ 2 ^ 59) :
    Calls Try.prog 95 #[.agg #[.pointer p], .agg #[kx, v], .agg #[.pointer q]] w (MapR w (LvQ l k v r)) := by
  have HQ := Lib.hid (lv_tie (k := k) (v := v) al ar h1 h2)
  have dl := l.dep_le
  have dr := r.dep_le
  obtain ⟨c, hc⟩ : ∃ n : Int, (l.dep : Int) = n := ⟨_, rfl⟩
  obtain ⟨d, hd⟩ : ∃ n : Int, (r.dep : Int) = n := ⟨_, rfl⟩
  have q1 := IntWalk.i64_in (c + 1) (by omega)
  have q2 := IntWalk.i64_in (d + 1) (by omega)
  have t1 : decide (d + 1 < c) = false := decide_eq_false (by omega)
  have t2 : decide (c + 1 < d) = false := decide_eq_false (by omega)
  have HZ := Lib.hid hz
  have HK := Lib.hid hk
  have TL := Lib.hid hl
  have TR := Lib.hid hr
  have Hc := Lib.hid hc
  have Hd := Lib.hid hd
  clear hl hr al ar h1 h2 hz hc hd dl dr hk
  have HB := Lib.hid (box4 w p q kx v)
  go_enter Try.func95, Try.ntmps95
  go_wp2_with fail
  generalize e4 : ((((w.alloc (Obj.cells #[Value.pointer p] 35)).alloc (Obj.cells #[kx, v] 52)).alloc (Obj.cells #[Value.pointer q] 35)).alloc (Obj.cells #[Value.pointer none] 35)) = w0
  obtain ⟨k1, k2, k3, k4, k5, f5, sz, bel⟩ := HB.out w0 e4
  have BL := Lib.hid bel
  replace TL := Lib.hid (TL.out.below bel (Nat.le_refl _))
  replace TR := Lib.hid (TR.out.below bel (Nat.le_refl _))
  clear HB e4 bel
  go_region_held3 (fun w' => w'.cell? ⟨w.heap.size, 0, none⟩ = some (.pointer p) ∧ w'.cell? ⟨w.heap.size + 1 + 1, 0, none⟩ = some (.pointer q))
    (first | exact ⟨k1, k4⟩ | exact ⟨cell_dr k1, cell_dr k4⟩ | exact ⟨cell_al _ k1, cell_al _ k4⟩ | exact ⟨cell_al _ (cell_dr k1), cell_al _ (cell_dr k4)⟩ | exact ⟨cell_al _ (cell_al _ k1), cell_al _ (cell_al _ k4)⟩ | exact ⟨cell_st (by dsimp only; omega) k1, cell_st (by dsimp only; omega) k4⟩ | exact ⟨cell_st (by dsimp only; omega) (cell_dr k1), cell_st (by dsimp only; omega) (cell_dr k4)⟩ | exact ⟨cell_al _ (cell_st (by dsimp only; omega) k1), cell_al _ (cell_st (by dsimp only; omega) k4)⟩ | exact ⟨cell_st (by dsimp only; omega) (cell_st (by dsimp only; omega) k1), cell_st (by dsimp only; omega) (cell_st (by dsimp only; omega) k4)⟩)
    (first
      | (go_at_call 70; (with_reducible refine (Depth_any p _ c _ (by first | exact TL.out | exact TL.out.drew) Hc.out).mono ?_); rintro e w1 ⟨rfl, st0⟩; have st : Below w0.heap.size w0 w1 := (by first | exact st0 | exact Below.of_dr st0); replace f5 := fro_gr st k5 f5; replace k1 := cell_gr st k1; replace k2 := cell_gr st k2; replace k3 := cell_gr st k3; replace k4 := cell_gr st k4; replace k5 := cell_gr st k5; replace TL := Lib.hid (TL.out.grow st); replace TR := Lib.hid (TR.out.grow st); replace BL := Lib.hid (BL.out.trans (st.mono BL.out.size)); replace sz := Nat.lt_of_lt_of_le sz st.size; clear st st0)
      | (go_at_call 70; (with_reducible refine (Depth_any q _ d _ (by first | exact TR.out | exact TR.out.drew) Hd.out).mono ?_); rintro e w2 ⟨rfl, st0⟩; have st : Below w1.heap.size w1 w2 := (by first | exact st0 | exact Below.of_dr st0); replace f5 := fro_gr st k5 f5; replace k1 := cell_gr st k1; replace k2 := cell_gr st k2; replace k3 := cell_gr st k3; replace k4 := cell_gr st k4; replace k5 := cell_gr st k5; replace TL := Lib.hid (TL.out.grow st); replace TR := Lib.hid (TR.out.grow st); replace BL := Lib.hid (BL.out.trans (st.mono BL.out.size)); replace sz := Nat.lt_of_lt_of_le sz st.size; clear st st0))
  go_wp2_with fail
  go_region_held3 (fun w' => w'.cell? ⟨w.heap.size, 0, none⟩ = some (.pointer p) ∧ w'.cell? ⟨w.heap.size + 1 + 1, 0, none⟩ = some (.pointer q))
    (first | exact ⟨k1, k4⟩ | exact ⟨cell_dr k1, cell_dr k4⟩ | exact ⟨cell_al _ k1, cell_al _ k4⟩ | exact ⟨cell_al _ (cell_dr k1), cell_al _ (cell_dr k4)⟩ | exact ⟨cell_al _ (cell_al _ k1), cell_al _ (cell_al _ k4)⟩ | exact ⟨cell_st (by dsimp only; omega) k1, cell_st (by dsimp only; omega) k4⟩ | exact ⟨cell_st (by dsimp only; omega) (cell_dr k1), cell_st (by dsimp only; omega) (cell_dr k4)⟩ | exact ⟨cell_al _ (cell_st (by dsimp only; omega) k1), cell_al _ (cell_st (by dsimp only; omega) k4)⟩ | exact ⟨cell_st (by dsimp only; omega) (cell_st (by dsimp only; omega) k1), cell_st (by dsimp only; omega) (cell_st (by dsimp only; omega) k4)⟩)
    (first
      | (go_at_call 70; (with_reducible refine (Depth_any q _ d _ (by first | exact TR.out | exact TR.out.drew) Hd.out).mono ?_); rintro e w3 ⟨rfl, st0⟩; have st : Below w2.heap.size w2 w3 := (by first | exact st0 | exact Below.of_dr st0); replace f5 := fro_gr st k5 f5; replace k1 := cell_gr st k1; replace k2 := cell_gr st k2; replace k3 := cell_gr st k3; replace k4 := cell_gr st k4; replace k5 := cell_gr st k5; replace TL := Lib.hid (TL.out.grow st); replace TR := Lib.hid (TR.out.grow st); replace BL := Lib.hid (BL.out.trans (st.mono BL.out.size)); replace sz := Nat.lt_of_lt_of_le sz st.size; clear st st0)
      | (go_at_call 70; (with_reducible refine (Depth_any p _ c _ (by first | exact TL.out | exact TL.out.drew) Hc.out).mono ?_); rintro e w4 ⟨rfl, st0⟩; have st : Below w3.heap.size w3 w4 := (by first | exact st0 | exact Below.of_dr st0); replace f5 := fro_gr st k5 f5; replace k1 := cell_gr st k1; replace k2 := cell_gr st k2; replace k3 := cell_gr st k3; replace k4 := cell_gr st k4; replace k5 := cell_gr st k5; replace TL := Lib.hid (TL.out.grow st); replace TR := Lib.hid (TR.out.grow st); replace BL := Lib.hid (BL.out.trans (st.mono BL.out.size)); replace sz := Nat.lt_of_lt_of_le sz st.size; clear st st0))
  go_wp2_with fail
  refine (tie_any p q _ _ k kx v _ HK.out TL.out TR.out (by have z := HZ.out; first | omega | (simp only [Tr.sz] at z ⊢; omega)) (by have z := HZ.out; first | omega | (simp only [Tr.sz] at z ⊢; omega))).mono ?_
  rintro e w5 ⟨q1, t1, rfl, a1, rfl, st0⟩
  have st : Below w4.heap.size w4 w5 := (by first | exact st0 | exact Below.of_dr st0)
  replace f5 := fro_gr st k5 f5
  replace k1 := cell_gr st k1
  replace k2 := cell_gr st k2
  replace k3 := cell_gr st k3
  replace k4 := cell_gr st k4
  replace k5 := cell_gr st k5
  replace TL := Lib.hid (TL.out.grow st)
  replace TR := Lib.hid (TR.out.grow st)
  replace BL := Lib.hid (BL.out.trans (st.mono BL.out.size))
  replace sz := Nat.lt_of_lt_of_le sz st.size
  clear st st0
  have T1 := Lib.hid a1
  clear a1 HK HZ Hc Hd
  have FIN := Lib.hid (MapR.set (c := w.heap.size + 1 + 1 + 1) (.pointer q1) k5 T1.out HQ.out BL.out (by omega))
  clear BL
  go_wp2_with fail
  exact bodyPost_ret (v := .agg #[.pointer q1]) (by simp [results, Try.results95, go_sem, k5, sz]) rfl FIN.out
set_option maxRecDepth 100000 in
set_option maxHeartbeats 1000000 in
theorem level_l1 (b : Nat) (g : Nat) (ki : Int) (kix vi : Value) (pc pd : Option Addr) (c d : Tr Int Value) (q po : Option Addr) (r o : Tr Int Value) (k kn : Int) (kx v knx vn : Value) (w : World) (hk : IsKV k kx v) (hkn : IsKV kn knx vn) (m1 : w.cell? ⟨b, 0, none⟩ = some knx) (m2 : w.cell? ⟨b, 1, none⟩ = some vn) (m3 : w.cell? ⟨b, 2, none⟩ = some (.pointer po)) (m4 : w.cell? ⟨b, 3, none⟩ = some (.pointer (some ⟨g, 0, none⟩))) (hn : At w (some ⟨b, 0, none⟩) (.node kn vn o (.node ki vi c d))) (ho : At w po o) (hki : IsKV ki kix vi) (j1 : w.cell? ⟨g, 0, none⟩ = some kix) (j2 : w.cell? ⟨g, 1, none⟩ = some vi) (j3 : w.cell? ⟨g, 2, none⟩ = some (.pointer pc)) (j4 : w.cell? ⟨g, 3, none⟩ = some (.pointer pd)) (hi : At w (some ⟨g, 0, none⟩) (.node ki vi c d)) (hc : At w pc c) (hd : At w pd d) (hr : At w q r) (an : Tr.Avl (.node kn vn o (.node ki vi c d))) (ar : r.Avl) (h1 : r.dep + 1 < Tr.dep (.node kn vn o (.node ki vi c d))) (h2 : Tr.dep (.node kn vn o (.node ki vi c d)) ≤ r.dep + 2) (h3 : o.dep < Tr.dep (.node ki vi c d)) (hz : Tr.sz (.node kn vn o (.node ki vi c d)) + 1 + r.sz ≤ 2 ^ 59) :
    Calls Try.prog 95 #[.agg #[.pointer (some ⟨b, 0, none⟩)], .agg #[kx, v], .agg #[.pointer q]] w (MapR w (LvQ (.node kn vn o (.node ki vi c d)) k v r)) := by
  have HQ := Lib.hid (lv_l1 (k := k) (v := v) an ar h1 h2 h3)
  have dl := Tr.dep_le (.node kn vn o (.node ki vi c d))
  have dr := r.dep_le
  have do' := o.dep_le
  have di := Tr.dep_le (.node ki vi c d)
  obtain ⟨e1, he1⟩ : ∃ n : Int, ((Tr.dep (.node kn vn o (.node ki vi c d)) : Nat) : Int) = n := ⟨_, rfl⟩
  obtain ⟨e2, he2⟩ : ∃ n : Int, (r.dep : Int) = n := ⟨_, rfl⟩
  obtain ⟨e3, he3⟩ : ∃ n : Int, (o.dep : Int) = n := ⟨_, rfl⟩
  obtain ⟨e4, he4⟩ : ∃ n : Int, ((Tr.dep (.node ki vi c d) : Nat) : Int) = n := ⟨_, rfl⟩
  have q1 := IntWalk.i64_in (e1 + 1) (by omega)
  have q2 := IntWalk.i64_in (e2 + 1) (by omega)
  have t1 : decide (e2 + 1 < e1) = true := decide_eq_true (by omega)
  have t2 : decide (e1 + 1 < e2) = false := decide_eq_false (by omega)
  have t3 : decide (e3 < e4) = true := decide_eq_true (by omega)
  have hb : b < w.heap.size := World.block_lt_of_cell? w _ m1
  have hg : g < w.heap.size := World.block_lt_of_cell? w _ j1
  have HZ := Lib.hid hz
  have HK := Lib.hid hk
  have HN := Lib.hid hkn
  have TN := Lib.hid hn
  have TO := Lib.hid ho
  have TI := Lib.hid hi
  have TR := Lib.hid hr
  have H1 := Lib.hid he1
  have H2 := Lib.hid he2
  have H3 := Lib.hid he3
  have H4 := Lib.hid he4
  have HI := Lib.hid hki
  have TC := Lib.hid hc
  have TD := Lib.hid hd
  clear an ar h1 h2 h3 dl dr do' di hz hk hkn hn ho hi hr he1 he2 he3 he4 hki hc hd
  have HB := Lib.hid (box4 w (some ⟨b, 0, none⟩) q kx v)
  go_enter Try.func95, Try.ntmps95
  go_wp2_with fail
  generalize e4 : ((((w.alloc (Obj.cells #[Value.pointer (some ⟨b, 0, none⟩)] 35)).alloc (Obj.cells #[kx, v] 52)).alloc (Obj.cells #[Value.pointer q] 35)).alloc (Obj.cells #[Value.pointer none] 35)) = w0
  obtain ⟨k1, k2, k3, k4, k5, f5, sz, bel⟩ := HB.out w0 e4
  have BL := Lib.hid bel
  replace TN := Lib.hid (TN.out.below bel (Nat.le_refl _))
  replace TO := Lib.hid (TO.out.below bel (Nat.le_refl _))
  replace TI := Lib.hid (TI.out.below bel (Nat.le_refl _))
  replace TR := Lib.hid (TR.out.below bel (Nat.le_refl _))
  replace TC := Lib.hid (TC.out.below bel (Nat.le_refl _))
  replace TD := Lib.hid (TD.out.below bel (Nat.le_refl _))
  replace m1 := cell_gr bel m1
  replace m2 := cell_gr bel m2
  replace m3 := cell_gr bel m3
  replace m4 := cell_gr bel m4
  replace j1 := cell_gr bel j1
  replace j2 := cell_gr bel j2
  replace j3 := cell_gr bel j3
  replace j4 := cell_gr bel j4
  clear HB e4 bel
  go_region_held3 (fun w' => w'.cell? ⟨w.heap.size, 0, none⟩ = some (.pointer (some ⟨b, 0, none⟩)) ∧ w'.cell? ⟨w.heap.size + 1 + 1, 0, none⟩ = some (.pointer q))
    (first | exact ⟨k1, k4⟩ | exact ⟨cell_dr k1, cell_dr k4⟩ | exact ⟨cell_al _ k1, cell_al _ k4⟩ | exact ⟨cell_al _ (cell_dr k1), cell_al _ (cell_dr k4)⟩ | exact ⟨cell_al _ (cell_al _ k1), cell_al _ (cell_al _ k4)⟩ | exact ⟨cell_st (by dsimp only; omega) k1, cell_st (by dsimp only; omega) k4⟩ | exact ⟨cell_st (by dsimp only; omega) (cell_dr k1), cell_st (by dsimp only; omega) (cell_dr k4)⟩ | exact ⟨cell_al _ (cell_st (by dsimp only; omega) k1), cell_al _ (cell_st (by dsimp only; omega) k4)⟩ | exact ⟨cell_st (by dsimp only; omega) (cell_st (by dsimp only; omega) k1), cell_st (by dsimp only; omega) (cell_st (by dsimp only; omega) k4)⟩)
    (first
      | (go_at_call 70; (with_reducible refine (Depth_any (some ⟨b, 0, none⟩) _ e1 _ (by first | exact TN.out | exact TN.out.drew) H1.out).mono ?_); rintro e w1 ⟨rfl, st0⟩; have st : Below w0.heap.size w0 w1 := (by first | exact st0 | exact Below.of_dr st0); replace f5 := fro_gr st k5 f5; replace k1 := cell_gr st k1; replace k2 := cell_gr st k2; replace k3 := cell_gr st k3; replace k4 := cell_gr st k4; replace k5 := cell_gr st k5; replace m1 := cell_gr st m1; replace m2 := cell_gr st m2; replace m3 := cell_gr st m3; replace m4 := cell_gr st m4; replace j1 := cell_gr st j1; replace j2 := cell_gr st j2; replace j3 := cell_gr st j3; replace j4 := cell_gr st j4; replace TN := Lib.hid (TN.out.grow st); replace TO := Lib.hid (TO.out.grow st); replace TI := Lib.hid (TI.out.grow st); replace TR := Lib.hid (TR.out.grow st); replace TC := Lib.hid (TC.out.grow st); replace TD := Lib.hid (TD.out.grow st); replace BL := Lib.hid (BL.out.trans (st.mono BL.out.size)); replace sz := Nat.lt_of_lt_of_le sz st.size; clear st st0)
      | (go_at_call 70; (with_reducible refine (Depth_any q _ e2 _ (by first | exact TR.out | exact TR.out.drew) H2.out).mono ?_); rintro e w2 ⟨rfl, st0⟩; have st : Below w1.heap.size w1 w2 := (by first | exact st0 | exact Below.of_dr st0); replace f5 := fro_gr st k5 f5; replace k1 := cell_gr st k1; replace k2 := cell_gr st k2; replace k3 := cell_gr st k3; replace k4 := cell_gr st k4; replace k5 := cell_gr st k5; replace m1 := cell_gr st m1; replace m2 := cell_gr st m2; replace m3 := cell_gr st m3; replace m4 := cell_gr st m4; replace j1 := cell_gr st j1; replace j2 := cell_gr st j2; replace j3 := cell_gr st j3; replace j4 := cell_gr st j4; replace TN := Lib.hid (TN.out.grow st); replace TO := Lib.hid (TO.out.grow st); replace TI := Lib.hid (TI.out.grow st); replace TR := Lib.hid (TR.out.grow st); replace TC := Lib.hid (TC.out.grow st); replace TD := Lib.hid (TD.out.grow st); replace BL := Lib.hid (BL.out.trans (st.mono BL.out.size)); replace sz := Nat.lt_of_lt_of_le sz st.size; clear st st0))
  go_wp2_with fail
  go_region_held3 (fun w' => w'.cell? ⟨b, 2, none⟩ = some (.pointer po) ∧ w'.cell? ⟨b, 3, none⟩ = some (.pointer (some ⟨g, 0, none⟩)))
    (first | exact ⟨m3, m4⟩ | exact ⟨cell_dr m3, cell_dr m4⟩ | exact ⟨cell_al _ m3, cell_al _ m4⟩ | exact ⟨cell_al _ (cell_dr m3), cell_al _ (cell_dr m4)⟩ | exact ⟨cell_al _ (cell_al _ m3), cell_al _ (cell_al _ m4)⟩ | exact ⟨cell_st (by dsimp only; omega) m3, cell_st (by dsimp only; omega) m4⟩ | exact ⟨cell_st (by dsimp only; omega) (cell_dr m3), cell_st (by dsimp only; omega) (cell_dr m4)⟩ | exact ⟨cell_al _ (cell_st (by dsimp only; omega) m3), cell_al _ (cell_st (by dsimp only; omega) m4)⟩ | exact ⟨cell_st (by dsimp only; omega) (cell_st (by dsimp only; omega) m3), cell_st (by dsimp only; omega) (cell_st (by dsimp only; omega) m4)⟩)
    (first
      | (go_at_call 70; (with_reducible refine (Depth_any (some ⟨g, 0, none⟩) _ e4 _ (by first | exact TI.out | exact TI.out.drew) H4.out).mono ?_); rintro e w3 ⟨rfl, st0⟩; have st : Below w2.heap.size w2 w3 := (by first | exact st0 | exact Below.of_dr st0); replace f5 := fro_gr st k5 f5; replace k1 := cell_gr st k1; replace k2 := cell_gr st k2; replace k3 := cell_gr st k3; replace k4 := cell_gr st k4; replace k5 := cell_gr st k5; replace m1 := cell_gr st m1; replace m2 := cell_gr st m2; replace m3 := cell_gr st m3; replace m4 := cell_gr st m4; replace j1 := cell_gr st j1; replace j2 := cell_gr st j2; replace j3 := cell_gr st j3; replace j4 := cell_gr st j4; replace TN := Lib.hid (TN.out.grow st); replace TO := Lib.hid (TO.out.grow st); replace TI := Lib.hid (TI.out.grow st); replace TR := Lib.hid (TR.out.grow st); replace TC := Lib.hid (TC.out.grow st); replace TD := Lib.hid (TD.out.grow st); replace BL := Lib.hid (BL.out.trans (st.mono BL.out.size)); replace sz := Nat.lt_of_lt_of_le sz st.size; clear st st0)
      | (go_at_call 70; (with_reducible refine (Depth_any po _ e3 _ (by first | exact TO.out | exact TO.out.drew) H3.out).mono ?_); rintro e w4 ⟨rfl, st0⟩; have st : Below w3.heap.size w3 w4 := (by first | exact st0 | exact Below.of_dr st0); replace f5 := fro_gr st k5 f5; replace k1 := cell_gr st k1; replace k2 := cell_gr st k2; replace k3 := cell_gr st k3; replace k4 := cell_gr st k4; replace k5 := cell_gr st k5; replace m1 := cell_gr st m1; replace m2 := cell_gr st m2; replace m3 := cell_gr st m3; replace m4 := cell_gr st m4; replace j1 := cell_gr st j1; replace j2 := cell_gr st j2; replace j3 := cell_gr st j3; replace j4 := cell_gr st j4; replace TN := Lib.hid (TN.out.grow st); replace TO := Lib.hid (TO.out.grow st); replace TI := Lib.hid (TI.out.grow st); replace TR := Lib.hid (TR.out.grow st); replace TC := Lib.hid (TC.out.grow st); replace TD := Lib.hid (TD.out.grow st); replace BL := Lib.hid (BL.out.trans (st.mono BL.out.size)); replace sz := Nat.lt_of_lt_of_le sz st.size; clear st st0))
  go_wp2_with fail
  go_region_held3 (fun w' => w'.cell? ⟨w.heap.size + 1, 0, none⟩ = some (kx) ∧ w'.cell? ⟨w.heap.size + 1, 1, none⟩ = some (v) ∧ w'.cell? ⟨w.heap.size + 1 + 1, 0, none⟩ = some (.pointer q) ∧ w'.cell? ⟨b, 0, none⟩ = some (knx) ∧ w'.cell? ⟨b, 1, none⟩ = some (vn) ∧ w'.cell? ⟨b, 2, none⟩ = some (.pointer po) ∧ w'.cell? ⟨g, 0, none⟩ = some (kix) ∧ w'.cell? ⟨g, 1, none⟩ = some (vi) ∧ w'.cell? ⟨g, 2, none⟩ = some (.pointer pc) ∧ w'.cell? ⟨g, 3, none⟩ = some (.pointer pd))
    (first | exact ⟨k2, k3, k4, m1, m2, m3, j1, j2, j3, j4⟩ | exact ⟨cell_dr k2, cell_dr k3, cell_dr k4, cell_dr m1, cell_dr m2, cell_dr m3, cell_dr j1, cell_dr j2, cell_dr j3, cell_dr j4⟩ | exact ⟨cell_al _ k2, cell_al _ k3, cell_al _ k4, cell_al _ m1, cell_al _ m2, cell_al _ m3, cell_al _ j1, cell_al _ j2, cell_al _ j3, cell_al _ j4⟩ | exact ⟨cell_al _ (cell_dr k2), cell_al _ (cell_dr k3), cell_al _ (cell_dr k4), cell_al _ (cell_dr m1), cell_al _ (cell_dr m2), cell_al _ (cell_dr m3), cell_al _ (cell_dr j1), cell_al _ (cell_dr j2), cell_al _ (cell_dr j3), cell_al _ (cell_dr j4)⟩ | exact ⟨cell_al _ (cell_al _ k2), cell_al _ (cell_al _ k3), cell_al _ (cell_al _ k4), cell_al _ (cell_al _ m1), cell_al _ (cell_al _ m2), cell_al _ (cell_al _ m3), cell_al _ (cell_al _ j1), cell_al _ (cell_al _ j2), cell_al _ (cell_al _ j3), cell_al _ (cell_al _ j4)⟩ | exact ⟨cell_st (by dsimp only; omega) k2, cell_st (by dsimp only; omega) k3, cell_st (by dsimp only; omega) k4, cell_st (by dsimp only; omega) m1, cell_st (by dsimp only; omega) m2, cell_st (by dsimp only; omega) m3, cell_st (by dsimp only; omega) j1, cell_st (by dsimp only; omega) j2, cell_st (by dsimp only; omega) j3, cell_st (by dsimp only; omega) j4⟩ | exact ⟨cell_st (by dsimp only; omega) (cell_dr k2), cell_st (by dsimp only; omega) (cell_dr k3), cell_st (by dsimp only; omega) (cell_dr k4), cell_st (by dsimp only; omega) (cell_dr m1), cell_st (by dsimp only; omega) (cell_dr m2), cell_st (by dsimp only; omega) (cell_dr m3), cell_st (by dsimp only; omega) (cell_dr j1), cell_st (by dsimp only; omega) (cell_dr j2), cell_st (by dsimp only; omega) (cell_dr j3), cell_st (by dsimp only; omega) (cell_dr j4)⟩ | exact ⟨cell_al _ (cell_st (by dsimp only; omega) k2), cell_al _ (cell_st (by dsimp only; omega) k3), cell_al _ (cell_st (by dsimp only; omega) k4), cell_al _ (cell_st (by dsimp only; omega) m1), cell_al _ (cell_st (by dsimp only; omega) m2), cell_al _ (cell_st (by dsimp only; omega) m3), cell_al _ (cell_st (by dsimp only; omega) j1), cell_al _ (cell_st (by dsimp only; omega) j2), cell_al _ (cell_st (by dsimp only; omega) j3), cell_al _ (cell_st (by dsimp only; omega) j4)⟩ | exact ⟨cell_st (by dsimp only; omega) (cell_st (by dsimp only; omega) k2), cell_st (by dsimp only; omega) (cell_st (by dsimp only; omega) k3), cell_st (by dsimp only; omega) (cell_st (by dsimp only; omega) k4), cell_st (by dsimp only; omega) (cell_st (by dsimp only; omega) m1), cell_st (by dsimp only; omega) (cell_st (by dsimp only; omega) m2), cell_st (by dsimp only; omega) (cell_st (by dsimp only; omega) m3), cell_st (by dsimp only; omega) (cell_st (by dsimp only; omega) j1), cell_st (by dsimp only; omega) (cell_st (by dsimp only; omega) j2), cell_st (by dsimp only; omega) (cell_st (by dsimp only; omega) j3), cell_st (by dsimp only; omega) (cell_st (by dsimp only; omega) j4)⟩)
    (first
      | (go_at_call 68; (with_reducible refine (tie_any po pc _ _ kn knx vn _ HN.out (by first | exact TO.out | exact TO.out.drew) (by first | exact TC.out | exact TC.out.drew) (by have z := HZ.out; first | omega | (simp only [Tr.sz] at z ⊢; omega)) (by have z := HZ.out; first | omega | (simp only [Tr.sz] at z ⊢; omega))).mono ?_); rintro e w5 ⟨x1, tx1, rfl, ax1, rfl, st0⟩; have st : Below w4.heap.size w4 w5 := (by first | exact st0 | exact Below.of_dr st0); replace f5 := fro_gr st k5 f5; replace k1 := cell_gr st k1; replace k2 := cell_gr st k2; replace k3 := cell_gr st k3; replace k4 := cell_gr st k4; replace k5 := cell_gr st k5; replace m1 := cell_gr st m1; replace m2 := cell_gr st m2; replace m3 := cell_gr st m3; replace m4 := cell_gr st m4; replace j1 := cell_gr st j1; replace j2 := cell_gr st j2; replace j3 := cell_gr st j3; replace j4 := cell_gr st j4; replace TN := Lib.hid (TN.out.grow st); replace TO := Lib.hid (TO.out.grow st); replace TI := Lib.hid (TI.out.grow st); replace TR := Lib.hid (TR.out.grow st); replace TC := Lib.hid (TC.out.grow st); replace TD := Lib.hid (TD.out.grow st); replace BL := Lib.hid (BL.out.trans (st.mono BL.out.size)); replace sz := Nat.lt_of_lt_of_le sz st.size; clear st st0; have X1 := Lib.hid ax1; clear ax1)
      | (go_at_call 68; (with_reducible refine (tie_any pd q _ _ k kx v _ HK.out (by first | exact TD.out | exact TD.out.drew) (by first | exact TR.out | exact TR.out.drew) (by have z := HZ.out; first | omega | (simp only [Tr.sz] at z ⊢; omega)) (by have z := HZ.out; first | omega | (simp only [Tr.sz] at z ⊢; omega))).mono ?_); rintro e w6 ⟨x2, tx2, rfl, ax2, rfl, st0⟩; have st : Below w5.heap.size w5 w6 := (by first | exact st0 | exact Below.of_dr st0); replace f5 := fro_gr st k5 f5; replace k1 := cell_gr st k1; replace k2 := cell_gr st k2; replace k3 := cell_gr st k3; replace k4 := cell_gr st k4; replace k5 := cell_gr st k5; replace m1 := cell_gr st m1; replace m2 := cell_gr st m2; replace m3 := cell_gr st m3; replace m4 := cell_gr st m4; replace j1 := cell_gr st j1; replace j2 := cell_gr st j2; replace j3 := cell_gr st j3; replace j4 := cell_gr st j4; replace TN := Lib.hid (TN.out.grow st); replace TO := Lib.hid (TO.out.grow st); replace TI := Lib.hid (TI.out.grow st); replace TR := Lib.hid (TR.out.grow st); replace TC := Lib.hid (TC.out.grow st); replace TD := Lib.hid (TD.out.grow st); replace X1 := Lib.hid (X1.out.grow st); replace BL := Lib.hid (BL.out.trans (st.mono BL.out.size)); replace sz := Nat.lt_of_lt_of_le sz st.size; clear st st0; have X2 := Lib.hid ax2; clear ax2)
      | (go_at_call 68; (with_reducible refine (tie_any x1 x2 _ _ ki kix vi _ HI.out (by first | exact X1.out | exact X1.out.drew) (by first | exact X2.out | exact X2.out.drew) (by have z := HZ.out; first | omega | (simp only [Tr.sz] at z ⊢; omega)) (by have z := HZ.out; first | omega | (simp only [Tr.sz] at z ⊢; omega))).mono ?_); rintro e w7 ⟨x3, tx3, rfl, ax3, rfl, st0⟩; have st : Below w6.heap.size w6 w7 := (by first | exact st0 | exact Below.of_dr st0); replace f5 := fro_gr st k5 f5; replace k1 := cell_gr st k1; replace k2 := cell_gr st k2; replace k3 := cell_gr st k3; replace k4 := cell_gr st k4; replace k5 := cell_gr st k5; replace m1 := cell_gr st m1; replace m2 := cell_gr st m2; replace m3 := cell_gr st m3; replace m4 := cell_gr st m4; replace j1 := cell_gr st j1; replace j2 := cell_gr st j2; replace j3 := cell_gr st j3; replace j4 := cell_gr st j4; replace TN := Lib.hid (TN.out.grow st); replace TO := Lib.hid (TO.out.grow st); replace TI := Lib.hid (TI.out.grow st); replace TR := Lib.hid (TR.out.grow st); replace TC := Lib.hid (TC.out.grow st); replace TD := Lib.hid (TD.out.grow st); replace X1 := Lib.hid (X1.out.grow st); replace X2 := Lib.hid (X2.out.grow st); replace BL := Lib.hid (BL.out.trans (st.mono BL.out.size)); replace sz := Nat.lt_of_lt_of_le sz st.size; clear st st0; have X3 := Lib.hid ax3; clear ax3))
  clear HK HN HZ H1 H2 H3 H4 TN TO TI TR HI TC TD
  have FIN := Lib.hid (MapR.set (c := w.heap.size + 1 + 1 + 1) (.pointer x3) k5 X3.out HQ.out BL.out (by omega))
  clear BL
  go_wp2_with fail
  exact bodyPost_ret (v := .agg #[.pointer x3]) (by simp [results, Try.results95, go_sem, k5, sz]) rfl FIN.out
set_option maxRecDepth 100000 in
set_option maxHeartbeats 1000000 in
theorem level_l2 (b : Nat) (pi : Option Addr) (i : Tr Int Value) (q po : Option Addr) (r o : Tr Int Value) (k kn : Int) (kx v knx vn : Value) (w : World) (hk : IsKV k kx v) (hkn : IsKV kn knx vn) (m1 : w.cell? ⟨b, 0, none⟩ = some knx) (m2 : w.cell? ⟨b, 1, none⟩ = some vn) (m3 : w.cell? ⟨b, 2, none⟩ = some (.pointer po)) (m4 : w.cell? ⟨b, 3, none⟩ = some (.pointer pi)) (hn : At w (some ⟨b, 0, none⟩) (.node kn vn o i)) (ho : At w po o) (hi : At w pi i) (hr : At w q r) (an : Tr.Avl (.node kn vn o i)) (ar : r.Avl) (h1 : r.dep + 1 < Tr.dep (.node kn vn o i)) (h2 : Tr.dep (.node kn vn o i) ≤ r.dep + 2) (h3 : ¬ o.dep < Tr.dep i) (hz : Tr.sz (.node kn vn o i) + 1 + r.sz ≤ 2 ^ 59) :
    Calls Try.prog 95 #[.agg #[.pointer (some ⟨b, 0, none⟩)], .agg #[kx, v], .agg #[.pointer q]] w (MapR w (LvQ (.node kn vn o i) k v r)) := by
  have HQ := Lib.hid (lv_l2 (k := k) (v := v) an ar h1 h2 h3)
  have dl := Tr.dep_le (.node kn vn o i)
  have dr := r.dep_le
  have do' := o.dep_le
  have di := Tr.dep_le i
  obtain ⟨e1, he1⟩ : ∃ n : Int, ((Tr.dep (.node kn vn o i) : Nat) : Int) = n := ⟨_, rfl⟩
  obtain ⟨e2, he2⟩ : ∃ n : Int, (r.dep : Int) = n := ⟨_, rfl⟩
  obtain ⟨e3, he3⟩ : ∃ n : Int, (o.dep : Int) = n := ⟨_, rfl⟩
  obtain ⟨e4, he4⟩ : ∃ n : Int, ((Tr.dep i : Nat) : Int) = n := ⟨_, rfl⟩
  have q1 := IntWalk.i64_in (e1 + 1) (by omega)
  have q2 := IntWalk.i64_in (e2 + 1) (by omega)
  have t1 : decide (e2 + 1 < e1) = true := decide_eq_true (by omega)
  have t2 : decide (e1 + 1 < e2) = false := decide_eq_false (by omega)
  have t3 : decide (e3 < e4) = false := decide_eq_false (by omega)
  have hb : b < w.heap.size := World.block_lt_of_cell? w _ m1
  have HZ := Lib.hid hz
  have HK := Lib.hid hk
  have HN := Lib.hid hkn
  have TN := Lib.hid hn
  have TO := Lib.hid ho
  have TI := Lib.hid hi
  have TR := Lib.hid hr
  have H1 := Lib.hid he1
  have H2 := Lib.hid he2
  have H3 := Lib.hid he3
  have H4 := Lib.hid he4
  clear an ar h1 h2 h3 dl dr do' di hz hk hkn hn ho hi hr he1 he2 he3 he4
  have HB := Lib.hid (box4 w (some ⟨b, 0, none⟩) q kx v)
  go_enter Try.func95, Try.ntmps95
  go_wp2_with fail
  generalize e4 : ((((w.alloc (Obj.cells #[Value.pointer (some ⟨b, 0, none⟩)] 35)).alloc (Obj.cells #[kx, v] 52)).alloc (Obj.cells #[Value.pointer q] 35)).alloc (Obj.cells #[Value.pointer none] 35)) = w0
  obtain ⟨k1, k2, k3, k4, k5, f5, sz, bel⟩ := HB.out w0 e4
  have BL := Lib.hid bel
  replace TN := Lib.hid (TN.out.below bel (Nat.le_refl _))
  replace TO := Lib.hid (TO.out.below bel (Nat.le_refl _))
  replace TI := Lib.hid (TI.out.below bel (Nat.le_refl _))
  replace TR := Lib.hid (TR.out.below bel (Nat.le_refl _))
  replace m1 := cell_gr bel m1
  replace m2 := cell_gr bel m2
  replace m3 := cell_gr bel m3
  replace m4 := cell_gr bel m4
  clear HB e4 bel
  go_region_held3 (fun w' => w'.cell? ⟨w.heap.size, 0, none⟩ = some (.pointer (some ⟨b, 0, none⟩)) ∧ w'.cell? ⟨w.heap.size + 1 + 1, 0, none⟩ = some (.pointer q))
    (first | exact ⟨k1, k4⟩ | exact ⟨cell_dr k1, cell_dr k4⟩ | exact ⟨cell_al _ k1, cell_al _ k4⟩ | exact ⟨cell_al _ (cell_dr k1), cell_al _ (cell_dr k4)⟩ | exact ⟨cell_al _ (cell_al _ k1), cell_al _ (cell_al _ k4)⟩ | exact ⟨cell_st (by dsimp only; omega) k1, cell_st (by dsimp only; omega) k4⟩ | exact ⟨cell_st (by dsimp only; omega) (cell_dr k1), cell_st (by dsimp only; omega) (cell_dr k4)⟩ | exact ⟨cell_al _ (cell_st (by dsimp only; omega) k1), cell_al _ (cell_st (by dsimp only; omega) k4)⟩ | exact ⟨cell_st (by dsimp only; omega) (cell_st (by dsimp only; omega) k1), cell_st (by dsimp only; omega) (cell_st (by dsimp only; omega) k4)⟩)
    (first
      | (go_at_call 70; (with_reducible refine (Depth_any (some ⟨b, 0, none⟩) _ e1 _ (by first | exact TN.out | exact TN.out.drew) H1.out).mono ?_); rintro e w1 ⟨rfl, st0⟩; have st : Below w0.heap.size w0 w1 := (by first | exact st0 | exact Below.of_dr st0); replace f5 := fro_gr st k5 f5; replace k1 := cell_gr st k1; replace k2 := cell_gr st k2; replace k3 := cell_gr st k3; replace k4 := cell_gr st k4; replace k5 := cell_gr st k5; replace m1 := cell_gr st m1; replace m2 := cell_gr st m2; replace m3 := cell_gr st m3; replace m4 := cell_gr st m4; replace TN := Lib.hid (TN.out.grow st); replace TO := Lib.hid (TO.out.grow st); replace TI := Lib.hid (TI.out.grow st); replace TR := Lib.hid (TR.out.grow st); replace BL := Lib.hid (BL.out.trans (st.mono BL.out.size)); replace sz := Nat.lt_of_lt_of_le sz st.size; clear st st0)
      | (go_at_call 70; (with_reducible refine (Depth_any q _ e2 _ (by first | exact TR.out | exact TR.out.drew) H2.out).mono ?_); rintro e w2 ⟨rfl, st0⟩; have st : Below w1.heap.size w1 w2 := (by first | exact st0 | exact Below.of_dr st0); replace f5 := fro_gr st k5 f5; replace k1 := cell_gr st k1; replace k2 := cell_gr st k2; replace k3 := cell_gr st k3; replace k4 := cell_gr st k4; replace k5 := cell_gr st k5; replace m1 := cell_gr st m1; replace m2 := cell_gr st m2; replace m3 := cell_gr st m3; replace m4 := cell_gr st m4; replace TN := Lib.hid (TN.out.grow st); replace TO := Lib.hid (TO.out.grow st); replace TI := Lib.hid (TI.out.grow st); replace TR := Lib.hid (TR.out.grow st); replace BL := Lib.hid (BL.out.trans (st.mono BL.out.size)); replace sz := Nat.lt_of_lt_of_le sz st.size; clear st st0))
  go_wp2_with fail
  go_region_held3 (fun w' => w'.cell? ⟨b, 2, none⟩ = some (.pointer po) ∧ w'.cell? ⟨b, 3, none⟩ = some (.pointer pi))
    (first | exact ⟨m3, m4⟩ | exact ⟨cell_dr m3, cell_dr m4⟩ | exact ⟨cell_al _ m3, cell_al _ m4⟩ | exact ⟨cell_al _ (cell_dr m3), cell_al _ (cell_dr m4)⟩ | exact ⟨cell_al _ (cell_al _ m3), cell_al _ (cell_al _ m4)⟩ | exact ⟨cell_st (by dsimp only; omega) m3, cell_st (by dsimp only; omega) m4⟩ | exact ⟨cell_st (by dsimp only; omega) (cell_dr m3), cell_st (by dsimp only; omega) (cell_dr m4)⟩ | exact ⟨cell_al _ (cell_st (by dsimp only; omega) m3), cell_al _ (cell_st (by dsimp only; omega) m4)⟩ | exact ⟨cell_st (by dsimp only; omega) (cell_st (by dsimp only; omega) m3), cell_st (by dsimp only; omega) (cell_st (by dsimp only; omega) m4)⟩)
    (first
      | (go_at_call 70; (with_reducible refine (Depth_any pi _ e4 _ (by first | exact TI.out | exact TI.out.drew) H4.out).mono ?_); rintro e w3 ⟨rfl, st0⟩; have st : Below w2.heap.size w2 w3 := (by first | exact st0 | exact Below.of_dr st0); replace f5 := fro_gr st k5 f5; replace k1 := cell_gr st k1; replace k2 := cell_gr st k2; replace k3 := cell_gr st k3; replace k4 := cell_gr st k4; replace k5 := cell_gr st k5; replace m1 := cell_gr st m1; replace m2 := cell_gr st m2; replace m3 := cell_gr st m3; replace m4 := cell_gr st m4; replace TN := Lib.hid (TN.out.grow st); replace TO := Lib.hid (TO.out.grow st); replace TI := Lib.hid (TI.out.grow st); replace TR := Lib.hid (TR.out.grow st); replace BL := Lib.hid (BL.out.trans (st.mono BL.out.size)); replace sz := Nat.lt_of_lt_of_le sz st.size; clear st st0)
      | (go_at_call 70; (with_reducible refine (Depth_any po _ e3 _ (by first | exact TO.out | exact TO.out.drew) H3.out).mono ?_); rintro e w4 ⟨rfl, st0⟩; have st : Below w3.heap.size w3 w4 := (by first | exact st0 | exact Below.of_dr st0); replace f5 := fro_gr st k5 f5; replace k1 := cell_gr st k1; replace k2 := cell_gr st k2; replace k3 := cell_gr st k3; replace k4 := cell_gr st k4; replace k5 := cell_gr st k5; replace m1 := cell_gr st m1; replace m2 := cell_gr st m2; replace m3 := cell_gr st m3; replace m4 := cell_gr st m4; replace TN := Lib.hid (TN.out.grow st); replace TO := Lib.hid (TO.out.grow st); replace TI := Lib.hid (TI.out.grow st); replace TR := Lib.hid (TR.out.grow st); replace BL := Lib.hid (BL.out.trans (st.mono BL.out.size)); replace sz := Nat.lt_of_lt_of_le sz st.size; clear st st0))
  go_wp2_with fail
  go_region_held3 (fun w' => w'.cell? ⟨w.heap.size + 1, 0, none⟩ = some (kx) ∧ w'.cell? ⟨w.heap.size + 1, 1, none⟩ = some (v) ∧ w'.cell? ⟨w.heap.size + 1 + 1, 0, none⟩ = some (.pointer q) ∧ w'.cell? ⟨b, 0, none⟩ = some (knx) ∧ w'.cell? ⟨b, 1, none⟩ = some (vn) ∧ w'.cell? ⟨b, 2, none⟩ = some (.pointer po) ∧ w'.cell? ⟨b, 3, none⟩ = some (.pointer pi))
    (first | exact ⟨k2, k3, k4, m1, m2, m3, m4⟩ | exact ⟨cell_dr k2, cell_dr k3, cell_dr k4, cell_dr m1, cell_dr m2, cell_dr m3, cell_dr m4⟩ | exact ⟨cell_al _ k2, cell_al _ k3, cell_al _ k4, cell_al _ m1, cell_al _ m2, cell_al _ m3, cell_al _ m4⟩ | exact ⟨cell_al _ (cell_dr k2), cell_al _ (cell_dr k3), cell_al _ (cell_dr k4), cell_al _ (cell_dr m1), cell_al _ (cell_dr m2), cell_al _ (cell_dr m3), cell_al _ (cell_dr m4)⟩ | exact ⟨cell_al _ (cell_al _ k2), cell_al _ (cell_al _ k3), cell_al _ (cell_al _ k4), cell_al _ (cell_al _ m1), cell_al _ (cell_al _ m2), cell_al _ (cell_al _ m3), cell_al _ (cell_al _ m4)⟩ | exact ⟨cell_st (by dsimp only; omega) k2, cell_st (by dsimp only; omega) k3, cell_st (by dsimp only; omega) k4, cell_st (by dsimp only; omega) m1, cell_st (by dsimp only; omega) m2, cell_st (by dsimp only; omega) m3, cell_st (by dsimp only; omega) m4⟩ | exact ⟨cell_st (by dsimp only; omega) (cell_dr k2), cell_st (by dsimp only; omega) (cell_dr k3), cell_st (by dsimp only; omega) (cell_dr k4), cell_st (by dsimp only; omega) (cell_dr m1), cell_st (by dsimp only; omega) (cell_dr m2), cell_st (by dsimp only; omega) (cell_dr m3), cell_st (by dsimp only; omega) (cell_dr m4)⟩ | exact ⟨cell_al _ (cell_st (by dsimp only; omega) k2), cell_al _ (cell_st (by dsimp only; omega) k3), cell_al _ (cell_st (by dsimp only; omega) k4), cell_al _ (cell_st (by dsimp only; omega) m1), cell_al _ (cell_st (by dsimp only; omega) m2), cell_al _ (cell_st (by dsimp only; omega) m3), cell_al _ (cell_st (by dsimp only; omega) m4)⟩ | exact ⟨cell_st (by dsimp only; omega) (cell_st (by dsimp only; omega) k2), cell_st (by dsimp only; omega) (cell_st (by dsimp only; omega) k3), cell_st (by dsimp only; omega) (cell_st (by dsimp only; omega) k4), cell_st (by dsimp only; omega) (cell_st (by dsimp only; omega) m1), cell_st (by dsimp only; omega) (cell_st (by dsimp only; omega) m2), cell_st (by dsimp only; omega) (cell_st (by dsimp only; omega) m3), cell_st (by dsimp only; omega) (cell_st (by dsimp only; omega) m4)⟩)
    (first
      | (go_at_call 68; (with_reducible refine (tie_any pi q _ _ k kx v _ HK.out (by first | exact TI.out | exact TI.out.drew) (by first | exact TR.out | exact TR.out.drew) (by have z := HZ.out; first | omega | (simp only [Tr.sz] at z ⊢; omega)) (by have z := HZ.out; first | omega | (simp only [Tr.sz] at z ⊢; omega))).mono ?_); rintro e w5 ⟨x1, tx1, rfl, ax1, rfl, st0⟩; have st : Below w4.heap.size w4 w5 := (by first | exact st0 | exact Below.of_dr st0); replace f5 := fro_gr st k5 f5; replace k1 := cell_gr st k1; replace k2 := cell_gr st k2; replace k3 := cell_gr st k3; replace k4 := cell_gr st k4; replace k5 := cell_gr st k5; replace m1 := cell_gr st m1; replace m2 := cell_gr st m2; replace m3 := cell_gr st m3; replace m4 := cell_gr st m4; replace TN := Lib.hid (TN.out.grow st); replace TO := Lib.hid (TO.out.grow st); replace TI := Lib.hid (TI.out.grow st); replace TR := Lib.hid (TR.out.grow st); replace BL := Lib.hid (BL.out.trans (st.mono BL.out.size)); replace sz := Nat.lt_of_lt_of_le sz st.size; clear st st0; have X1 := Lib.hid ax1; clear ax1)
      | (go_at_call 68; (with_reducible refine (tie_any po x1 _ _ kn knx vn _ HN.out (by first | exact TO.out | exact TO.out.drew) (by first | exact X1.out | exact X1.out.drew) (by have z := HZ.out; first | omega | (simp only [Tr.sz] at z ⊢; omega)) (by have z := HZ.out; first | omega | (simp only [Tr.sz] at z ⊢; omega))).mono ?_); rintro e w6 ⟨x2, tx2, rfl, ax2, rfl, st0⟩; have st : Below w5.heap.size w5 w6 := (by first | exact st0 | exact Below.of_dr st0); replace f5 := fro_gr st k5 f5; replace k1 := cell_gr st k1; replace k2 := cell_gr st k2; replace k3 := cell_gr st k3; replace k4 := cell_gr st k4; replace k5 := cell_gr st k5; replace m1 := cell_gr st m1; replace m2 := cell_gr st m2; replace m3 := cell_gr st m3; replace m4 := cell_gr st m4; replace TN := Lib.hid (TN.out.grow st); replace TO := Lib.hid (TO.out.grow st); replace TI := Lib.hid (TI.out.grow st); replace TR := Lib.hid (TR.out.grow st); replace X1 := Lib.hid (X1.out.grow st); replace BL := Lib.hid (BL.out.trans (st.mono BL.out.size)); replace sz := Nat.lt_of_lt_of_le sz st.size; clear st st0; have X2 := Lib.hid ax2; clear ax2))
  clear HK HN HZ H1 H2 H3 H4 TN TO TI TR
  have FIN := Lib.hid (MapR.set (c := w.heap.size + 1 + 1 + 1) (.pointer x2) k5 X2.out HQ.out BL.out (by omega))
  clear BL
  go_wp2_with fail
  exact bodyPost_ret (v := .agg #[.pointer x2]) (by simp [results, Try.results95, go_sem, k5, sz]) rfl FIN.out
set_option maxRecDepth 100000 in
set_option maxHeartbeats 1000000 in
theorem level_r1 (b : Nat) (g : Nat) (ki : Int) (kix vi : Value) (pc pd : Option Addr) (c d : Tr Int Value) (p po : Option Addr) (l o : Tr Int Value) (k kn : Int) (kx v knx vn : Value) (w : World) (hk : IsKV k kx v) (hkn : IsKV kn knx vn) (m1 : w.cell? ⟨b, 0, none⟩ = some knx) (m2 : w.cell? ⟨b, 1, none⟩ = some vn) (m3 : w.cell? ⟨b, 2, none⟩ = some (.pointer (some ⟨g, 0, none⟩))) (m4 : w.cell? ⟨b, 3, none⟩ = some (.pointer po)) (hn : At w (some ⟨b, 0, none⟩) (.node kn vn (.node ki vi c d) o)) (ho : At w po o) (hki : IsKV ki kix vi) (j1 : w.cell? ⟨g, 0, none⟩ = some kix) (j2 : w.cell? ⟨g, 1, none⟩ = some vi) (j3 : w.cell? ⟨g, 2, none⟩ = some (.pointer pc)) (j4 : w.cell? ⟨g, 3, none⟩ = some (.pointer pd)) (hi : At w (some ⟨g, 0, none⟩) (.node ki vi c d)) (hc : At w pc c) (hd : At w pd d) (hr : At w p l) (an : Tr.Avl (.node kn vn (.node ki vi c d) o)) (ar : l.Avl) (h1 : l.dep + 1 < Tr.dep (.node kn vn (.node ki vi c d) o)) (h2 : Tr.dep (.node kn vn (.node ki vi c d) o) ≤ l.dep + 2) (h3 : o.dep < Tr.dep (.node ki vi c d)) (hz : Tr.sz (.node kn vn (.node ki vi c d) o) + 1 + l.sz ≤ 2 ^ 59) :
    Calls Try.prog 95 #[.agg #[.pointer p], .agg #[kx, v], .agg #[.pointer (some ⟨b, 0, none⟩)]] w (MapR w (LvQ l k v (.node kn vn (.node ki vi c d) o))) := by
  have HQ := Lib.hid (lv_r1 (k := k) (v := v) ar an h1 h2 h3)
  have dl := Tr.dep_le (.node kn vn (.node ki vi c d) o)
  have dr := l.dep_le
  have do' := o.dep_le
  have di := Tr.dep_le (.node ki vi c d)
  obtain ⟨e1, he1⟩ : ∃ n : Int, ((Tr.dep (.node kn vn (.node ki vi c d) o) : Nat) : Int) = n := ⟨_, rfl⟩
  obtain ⟨e2, he2⟩ : ∃ n : Int, (l.dep : Int) = n := ⟨_, rfl⟩
  obtain ⟨e3, he3⟩ : ∃ n : Int, (o.dep : Int) = n := ⟨_, rfl⟩
  obtain ⟨e4, he4⟩ : ∃ n : Int, ((Tr.dep (.node ki vi c d) : Nat) : Int) = n := ⟨_, rfl⟩
  have q1 := IntWalk.i64_in (e1 + 1) (by omega)
  have q2 := IntWalk.i64_in (e2 + 1) (by omega)
  have t1 : decide (e2 + 1 < e1) = true := decide_eq_true (by omega)
  have t2 : decide (e1 + 1 < e2) = false := decide_eq_false (by omega)
  have t3 : decide (e3 < e4) = true := decide_eq_true (by omega)
  have hb : b < w.heap.size := World.block_lt_of_cell? w _ m1
  have hg : g < w.heap.size := World.block_lt_of_cell? w _ j1
  have HZ := Lib.hid hz
  have HK := Lib.hid hk
  have HN := Lib.hid hkn
  have TN := Lib.hid hn
  have TO := Lib.hid ho
  have TI := Lib.hid hi
  have TR := Lib.hid hr
  have H1 := Lib.hid he1
  have H2 := Lib.hid he2
  have H3 := Lib.hid he3
  have H4 := Lib.hid he4
  have HI := Lib.hid hki
  have TC := Lib.hid hc
  have TD := Lib.hid hd
  clear an ar h1 h2 h3 dl dr do' di hz hk hkn hn ho hi hr he1 he2 he3 he4 hki hc hd
  have HB := Lib.hid (box4 w p (some ⟨b, 0, none⟩) kx v)
  go_enter Try.func95, Try.ntmps95
  go_wp2_with fail
  generalize e4 : ((((w.alloc (Obj.cells #[Value.pointer p] 35)).alloc (Obj.cells #[kx, v] 52)).alloc (Obj.cells #[Value.pointer (some ⟨b, 0, none⟩)] 35)).alloc (Obj.cells #[Value.pointer none] 35)) = w0
  obtain ⟨k1, k2, k3, k4, k5, f5, sz, bel⟩ := HB.out w0 e4
  have BL := Lib.hid bel
  replace TN := Lib.hid (TN.out.below bel (Nat.le_refl _))
  replace TO := Lib.hid (TO.out.below bel (Nat.le_refl _))
  replace TI := Lib.hid (TI.out.below bel (Nat.le_refl _))
  replace TR := Lib.hid (TR.out.below bel (Nat.le_refl _))
  replace TC := Lib.hid (TC.out.below bel (Nat.le_refl _))
  replace TD := Lib.hid (TD.out.below bel (Nat.le_refl _))
  replace m1 := cell_gr bel m1
  replace m2 := cell_gr bel m2
  replace m3 := cell_gr bel m3
  replace m4 := cell_gr bel m4
  replace j1 := cell_gr bel j1
  replace j2 := cell_gr bel j2
  replace j3 := cell_gr bel j3
  replace j4 := cell_gr bel j4
  clear HB e4 bel
  go_region_held3 (fun w' => w'.cell? ⟨w.heap.size, 0, none⟩ = some (.pointer p) ∧ w'.cell? ⟨w.heap.size + 1 + 1, 0, none⟩ = some (.pointer (some ⟨b, 0, none⟩)))
    (first | exact ⟨k1, k4⟩ | exact ⟨cell_dr k1, cell_dr k4⟩ | exact ⟨cell_al _ k1, cell_al _ k4⟩ | exact ⟨cell_al _ (cell_dr k1), cell_al _ (cell_dr k4)⟩ | exact ⟨cell_al _ (cell_al _ k1), cell_al _ (cell_al _ k4)⟩ | exact ⟨cell_st (by dsimp only; omega) k1, cell_st (by dsimp only; omega) k4⟩ | exact ⟨cell_st (by dsimp only; omega) (cell_dr k1), cell_st (by dsimp only; omega) (cell_dr k4)⟩ | exact ⟨cell_al _ (cell_st (by dsimp only; omega) k1), cell_al _ (cell_st (by dsimp only; omega) k4)⟩ | exact ⟨cell_st (by dsimp only; omega) (cell_st (by dsimp only; omega) k1), cell_st (by dsimp only; omega) (cell_st (by dsimp only; omega) k4)⟩)
    (first
      | (go_at_call 70; (with_reducible refine (Depth_any p _ e2 _ (by first | exact TR.out | exact TR.out.drew) H2.out).mono ?_); rintro e w1 ⟨rfl, st0⟩; have st : Below w0.heap.size w0 w1 := (by first | exact st0 | exact Below.of_dr st0); replace f5 := fro_gr st k5 f5; replace k1 := cell_gr st k1; replace k2 := cell_gr st k2; replace k3 := cell_gr st k3; replace k4 := cell_gr st k4; replace k5 := cell_gr st k5; replace m1 := cell_gr st m1; replace m2 := cell_gr st m2; replace m3 := cell_gr st m3; replace m4 := cell_gr st m4; replace j1 := cell_gr st j1; replace j2 := cell_gr st j2; replace j3 := cell_gr st j3; replace j4 := cell_gr st j4; replace TN := Lib.hid (TN.out.grow st); replace TO := Lib.hid (TO.out.grow st); replace TI := Lib.hid (TI.out.grow st); replace TR := Lib.hid (TR.out.grow st); replace TC := Lib.hid (TC.out.grow st); replace TD := Lib.hid (TD.out.grow st); replace BL := Lib.hid (BL.out.trans (st.mono BL.out.size)); replace sz := Nat.lt_of_lt_of_le sz st.size; clear st st0)
      | (go_at_call 70; (with_reducible refine (Depth_any (some ⟨b, 0, none⟩) _ e1 _ (by first | exact TN.out | exact TN.out.drew) H1.out).mono ?_); rintro e w2 ⟨rfl, st0⟩; have st : Below w1.heap.size w1 w2 := (by first | exact st0 | exact Below.of_dr st0); replace f5 := fro_gr st k5 f5; replace k1 := cell_gr st k1; replace k2 := cell_gr st k2; replace k3 := cell_gr st k3; replace k4 := cell_gr st k4; replace k5 := cell_gr st k5; replace m1 := cell_gr st m1; replace m2 := cell_gr st m2; replace m3 := cell_gr st m3; replace m4 := cell_gr st m4; replace j1 := cell_gr st j1; replace j2 := cell_gr st j2; replace j3 := cell_gr st j3; replace j4 := cell_gr st j4; replace TN := Lib.hid (TN.out.grow st); replace TO := Lib.hid (TO.out.grow st); replace TI := Lib.hid (TI.out.grow st); replace TR := Lib.hid (TR.out.grow st); replace TC := Lib.hid (TC.out.grow st); replace TD := Lib.hid (TD.out.grow st); replace BL := Lib.hid (BL.out.trans (st.mono BL.out.size)); replace sz := Nat.lt_of_lt_of_le sz st.size; clear st st0))
  go_wp2_with fail
  go_region_held3 (fun w' => w'.cell? ⟨w.heap.size, 0, none⟩ = some (.pointer p) ∧ w'.cell? ⟨w.heap.size + 1 + 1, 0, none⟩ = some (.pointer (some ⟨b, 0, none⟩)))
    (first | exact ⟨k1, k4⟩ | exact ⟨cell_dr k1, cell_dr k4⟩ | exact ⟨cell_al _ k1, cell_al _ k4⟩ | exact ⟨cell_al _ (cell_dr k1), cell_al _ (cell_dr k4)⟩ | exact ⟨cell_al _ (cell_al _ k1), cell_al _ (cell_al _ k4)⟩ | exact ⟨cell_st (by dsimp only; omega) k1, cell_st (by dsimp only; omega) k4⟩ | exact ⟨cell_st (by dsimp only; omega) (cell_dr k1), cell_st (by dsimp only; omega) (cell_dr k4)⟩ | exact ⟨cell_al _ (cell_st (by dsimp only; omega) k1), cell_al _ (cell_st (by dsimp only; omega) k4)⟩ | exact ⟨cell_st (by dsimp only; omega) (cell_st (by dsimp only; omega) k1), cell_st (by dsimp only; omega) (cell_st (by dsimp only; omega) k4)⟩)
    (first
      | (go_at_call 70; (with_reducible refine (Depth_any (some ⟨b, 0, none⟩) _ e1 _ (by first | exact TN.out | exact TN.out.drew) H1.out).mono ?_); rintro e w3 ⟨rfl, st0⟩; have st : Below w2.heap.size w2 w3 := (by first | exact st0 | exact Below.of_dr st0); replace f5 := fro_gr st k5 f5; replace k1 := cell_gr st k1; replace k2 := cell_gr st k2; replace k3 := cell_gr st k3; replace k4 := cell_gr st k4; replace k5 := cell_gr st k5; replace m1 := cell_gr st m1; replace m2 := cell_gr st m2; replace m3 := cell_gr st m3; replace m4 := cell_gr st m4; replace j1 := cell_gr st j1; replace j2 := cell_gr st j2; replace j3 := cell_gr st j3; replace j4 := cell_gr st j4; replace TN := Lib.hid (TN.out.grow st); replace TO := Lib.hid (TO.out.grow st); replace TI := Lib.hid (TI.out.grow st); replace TR := Lib.hid (TR.out.grow st); replace TC := Lib.hid (TC.out.grow st); replace TD := Lib.hid (TD.out.grow st); replace BL := Lib.hid (BL.out.trans (st.mono BL.out.size)); replace sz := Nat.lt_of_lt_of_le sz st.size; clear st st0)
      | (go_at_call 70; (with_reducible refine (Depth_any p _ e2 _ (by first | exact TR.out | exact TR.out.drew) H2.out).mono ?_); rintro e w4 ⟨rfl, st0⟩; have st : Below w3.heap.size w3 w4 := (by first | exact st0 | exact Below.of_dr st0); replace f5 := fro_gr st k5 f5; replace k1 := cell_gr st k1; replace k2 := cell_gr st k2; replace k3 := cell_gr st k3; replace k4 := cell_gr st k4; replace k5 := cell_gr st k5; replace m1 := cell_gr st m1; replace m2 := cell_gr st m2; replace m3 := cell_gr st m3; replace m4 := cell_gr st m4; replace j1 := cell_gr st j1; replace j2 := cell_gr st j2; replace j3 := cell_gr st j3; replace j4 := cell_gr st j4; replace TN := Lib.hid (TN.out.grow st); replace TO := Lib.hid (TO.out.grow st); replace TI := Lib.hid (TI.out.grow st); replace TR := Lib.hid (TR.out.grow st); replace TC := Lib.hid (TC.out.grow st); replace TD := Lib.hid (TD.out.grow st); replace BL := Lib.hid (BL.out.trans (st.mono BL.out.size)); replace sz := Nat.lt_of_lt_of_le sz st.size; clear st st0))
  go_wp2_with fail
  go_region_held3 (fun w' => w'.cell? ⟨b, 2, none⟩ = some (.pointer (some ⟨g, 0, none⟩)) ∧ w'.cell? ⟨b, 3, none⟩ = some (.pointer po))
    (first | exact ⟨m3, m4⟩ | exact ⟨cell_dr m3, cell_dr m4⟩ | exact ⟨cell_al _ m3, cell_al _ m4⟩ | exact ⟨cell_al _ (cell_dr m3), cell_al _ (cell_dr m4)⟩ | exact ⟨cell_al _ (cell_al _ m3), cell_al _ (cell_al _ m4)⟩ | exact ⟨cell_st (by dsimp only; omega) m3, cell_st (by dsimp only; omega) m4⟩ | exact ⟨cell_st (by dsimp only; omega) (cell_dr m3), cell_st (by dsimp only; omega) (cell_dr m4)⟩ | exact ⟨cell_al _ (cell_st (by dsimp only; omega) m3), cell_al _ (cell_st (by dsimp only; omega) m4)⟩ | exact ⟨cell_st (by dsimp only; omega) (cell_st (by dsimp only; omega) m3), cell_st (by dsimp only; omega) (cell_st (by dsimp only; omega) m4)⟩)
    (first
      | (go_at_call 70; (with_reducible refine (Depth_any (some ⟨g, 0, none⟩) _ e4 _ (by first | exact TI.out | exact TI.out.drew) H4.out).mono ?_); rintro e w5 ⟨rfl, st0⟩; have st : Below w4.heap.size w4 w5 := (by first | exact st0 | exact Below.of_dr st0); replace f5 := fro_gr st k5 f5; replace k1 := cell_gr st k1; replace k2 := cell_gr st k2; replace k3 := cell_gr st k3; replace k4 := cell_gr st k4; replace k5 := cell_gr st k5; replace m1 := cell_gr st m1; replace m2 := cell_gr st m2; replace m3 := cell_gr st m3; replace m4 := cell_gr st m4; replace j1 := cell_gr st j1; replace j2 := cell_gr st j2; replace j3 := cell_gr st j3; replace j4 := cell_gr st j4; replace TN := Lib.hid (TN.out.grow st); replace TO := Lib.hid (TO.out.grow st); replace TI := Lib.hid (TI.out.grow st); replace TR := Lib.hid (TR.out.grow st); replace TC := Lib.hid (TC.out.grow st); replace TD := Lib.hid (TD.out.grow st); replace BL := Lib.hid (BL.out.trans (st.mono BL.out.size)); replace sz := Nat.lt_of_lt_of_le sz st.size; clear st st0)
      | (go_at_call 70; (with_reducible refine (Depth_any po _ e3 _ (by first | exact TO.out | exact TO.out.drew) H3.out).mono ?_); rintro e w6 ⟨rfl, st0⟩; have st : Below w5.heap.size w5 w6 := (by first | exact st0 | exact Below.of_dr st0); replace f5 := fro_gr st k5 f5; replace k1 := cell_gr st k1; replace k2 := cell_gr st k2; replace k3 := cell_gr st k3; replace k4 := cell_gr st k4; replace k5 := cell_gr st k5; replace m1 := cell_gr st m1; replace m2 := cell_gr st m2; replace m3 := cell_gr st m3; replace m4 := cell_gr st m4; replace j1 := cell_gr st j1; replace j2 := cell_gr st j2; replace j3 := cell_gr st j3; replace j4 := cell_gr st j4; replace TN := Lib.hid (TN.out.grow st); replace TO := Lib.hid (TO.out.grow st); replace TI := Lib.hid (TI.out.grow st); replace TR := Lib.hid (TR.out.grow st); replace TC := Lib.hid (TC.out.grow st); replace TD := Lib.hid (TD.out.grow st); replace BL := Lib.hid (BL.out.trans (st.mono BL.out.size)); replace sz := Nat.lt_of_lt_of_le sz st.size; clear st st0))
  go_wp2_with fail
  go_region_held3 (fun w' => w'.cell? ⟨w.heap.size, 0, none⟩ = some (.pointer p) ∧ w'.cell? ⟨w.heap.size + 1, 0, none⟩ = some (kx) ∧ w'.cell? ⟨w.heap.size + 1, 1, none⟩ = some (v) ∧ w'.cell? ⟨b, 0, none⟩ = some (knx) ∧ w'.cell? ⟨b, 1, none⟩ = some (vn) ∧ w'.cell? ⟨b, 3, none⟩ = some (.pointer po) ∧ w'.cell? ⟨g, 0, none⟩ = some (kix) ∧ w'.cell? ⟨g, 1, none⟩ = some (vi) ∧ w'.cell? ⟨g, 2, none⟩ = some (.pointer pc) ∧ w'.cell? ⟨g, 3, none⟩ = some (.pointer pd))
    (first | exact ⟨k1, k2, k3, m1, m2, m4, j1, j2, j3, j4⟩ | exact ⟨cell_dr k1, cell_dr k2, cell_dr k3, cell_dr m1, cell_dr m2, cell_dr m4, cell_dr j1, cell_dr j2, cell_dr j3, cell_dr j4⟩ | exact ⟨cell_al _ k1, cell_al _ k2, cell_al _ k3, cell_al _ m1, cell_al _ m2, cell_al _ m4, cell_al _ j1, cell_al _ j2, cell_al _ j3, cell_al _ j4⟩ | exact ⟨cell_al _ (cell_dr k1), cell_al _ (cell_dr k2), cell_al _ (cell_dr k3), cell_al _ (cell_dr m1), cell_al _ (cell_dr m2), cell_al _ (cell_dr m4), cell_al _ (cell_dr j1), cell_al _ (cell_dr j2), cell_al _ (cell_dr j3), cell_al _ (cell_dr j4)⟩ | exact ⟨cell_al _ (cell_al _ k1), cell_al _ (cell_al _ k2), cell_al _ (cell_al _ k3), cell_al _ (cell_al _ m1), cell_al _ (cell_al _ m2), cell_al _ (cell_al _ m4), cell_al _ (cell_al _ j1), cell_al _ (cell_al _ j2), cell_al _ (cell_al _ j3), cell_al _ (cell_al _ j4)⟩ | exact ⟨cell_st (by dsimp only; omega) k1, cell_st (by dsimp only; omega) k2, cell_st (by dsimp only; omega) k3, cell_st (by dsimp only; omega) m1, cell_st (by dsimp only; omega) m2, cell_st (by dsimp only; omega) m4, cell_st (by dsimp only; omega) j1, cell_st (by dsimp only; omega) j2, cell_st (by dsimp only; omega) j3, cell_st (by dsimp only; omega) j4⟩ | exact ⟨cell_st (by dsimp only; omega) (cell_dr k1), cell_st (by dsimp only; omega) (cell_dr k2), cell_st (by dsimp only; omega) (cell_dr k3), cell_st (by dsimp only; omega) (cell_dr m1), cell_st (by dsimp only; omega) (cell_dr m2), cell_st (by dsimp only; omega) (cell_dr m4), cell_st (by dsimp only; omega) (cell_dr j1), cell_st (by dsimp only; omega) (cell_dr j2), cell_st (by dsimp only; omega) (cell_dr j3), cell_st (by dsimp only; omega) (cell_dr j4)⟩ | exact ⟨cell_al _ (cell_st (by dsimp only; omega) k1), cell_al _ (cell_st (by dsimp only; omega) k2), cell_al _ (cell_st (by dsimp only; omega) k3), cell_al _ (cell_st (by dsimp only; omega) m1), cell_al _ (cell_st (by dsimp only; omega) m2), cell_al _ (cell_st (by dsimp only; omega) m4), cell_al _ (cell_st (by dsimp only; omega) j1), cell_al _ (cell_st (by dsimp only; omega) j2), cell_al _ (cell_st (by dsimp only; omega) j3), cell_al _ (cell_st (by dsimp only; omega) j4)⟩ | exact ⟨cell_st (by dsimp only; omega) (cell_st (by dsimp only; omega) k1), cell_st (by dsimp only; omega) (cell_st (by dsimp only; omega) k2), cell_st (by dsimp only; omega) (cell_st (by dsimp only; omega) k3), cell_st (by dsimp only; omega) (cell_st (by dsimp only; omega) m1), cell_st (by dsimp only; omega) (cell_st (by dsimp only; omega) m2), cell_st (by dsimp only; omega) (cell_st (by dsimp only; omega) m4), cell_st (by dsimp only; omega) (cell_st (by dsimp only; omega) j1), cell_st (by dsimp only; omega) (cell_st (by dsimp only; omega) j2), cell_st (by dsimp only; omega) (cell_st (by dsimp only; omega) j3), cell_st (by dsimp only; omega) (cell_st (by dsimp only; omega) j4)⟩)
    (first
      | (go_at_call 68; (with_reducible refine (tie_any p pc _ _ k kx v _ HK.out (by first | exact TR.out | exact TR.out.drew) (by first | exact TC.out | exact TC.out.drew) (by have z := HZ.out; first | omega | (simp only [Tr.sz] at z ⊢; omega)) (by have z := HZ.out; first | omega | (simp only [Tr.sz] at z ⊢; omega))).mono ?_); rintro e w7 ⟨x1, tx1, rfl, ax1, rfl, st0⟩; have st : Below w6.heap.size w6 w7 := (by first | exact st0 | exact Below.of_dr st0); replace f5 := fro_gr st k5 f5; replace k1 := cell_gr st k1; replace k2 := cell_gr st k2; replace k3 := cell_gr st k3; replace k4 := cell_gr st k4; replace k5 := cell_gr st k5; replace m1 := cell_gr st m1; replace m2 := cell_gr st m2; replace m3 := cell_gr st m3; replace m4 := cell_gr st m4; replace j1 := cell_gr st j1; replace j2 := cell_gr st j2; replace j3 := cell_gr st j3; replace j4 := cell_gr st j4; replace TN := Lib.hid (TN.out.grow st); replace TO := Lib.hid (TO.out.grow st); replace TI := Lib.hid (TI.out.grow st); replace TR := Lib.hid (TR.out.grow st); replace TC := Lib.hid (TC.out.grow st); replace TD := Lib.hid (TD.out.grow st); replace BL := Lib.hid (BL.out.trans (st.mono BL.out.size)); replace sz := Nat.lt_of_lt_of_le sz st.size; clear st st0; have X1 := Lib.hid ax1; clear ax1)
      | (go_at_call 68; (with_reducible refine (tie_any pd po _ _ kn knx vn _ HN.out (by first | exact TD.out | exact TD.out.drew) (by first | exact TO.out | exact TO.out.drew) (by have z := HZ.out; first | omega | (simp only [Tr.sz] at z ⊢; omega)) (by have z := HZ.out; first | omega | (simp only [Tr.sz] at z ⊢; omega))).mono ?_); rintro e w8 ⟨x2, tx2, rfl, ax2, rfl, st0⟩; have st : Below w7.heap.size w7 w8 := (by first | exact st0 | exact Below.of_dr st0); replace f5 := fro_gr st k5 f5; replace k1 := cell_gr st k1; replace k2 := cell_gr st k2; replace k3 := cell_gr st k3; replace k4 := cell_gr st k4; replace k5 := cell_gr st k5; replace m1 := cell_gr st m1; replace m2 := cell_gr st m2; replace m3 := cell_gr st m3; replace m4 := cell_gr st m4; replace j1 := cell_gr st j1; replace j2 := cell_gr st j2; replace j3 := cell_gr st j3; replace j4 := cell_gr st j4; replace TN := Lib.hid (TN.out.grow st); replace TO := Lib.hid (TO.out.grow st); replace TI := Lib.hid (TI.out.grow st); replace TR := Lib.hid (TR.out.grow st); replace TC := Lib.hid (TC.out.grow st); replace TD := Lib.hid (TD.out.grow st); replace X1 := Lib.hid (X1.out.grow st); replace BL := Lib.hid (BL.out.trans (st.mono BL.out.size)); replace sz := Nat.lt_of_lt_of_le sz st.size; clear st st0; have X2 := Lib.hid ax2; clear ax2)
      | (go_at_call 68; (with_reducible refine (tie_any x1 x2 _ _ ki kix vi _ HI.out (by first | exact X1.out | exact X1.out.drew) (by first | exact X2.out | exact X2.out.drew) (by have z := HZ.out; first | omega | (simp only [Tr.sz] at z ⊢; omega)) (by have z := HZ.out; first | omega | (simp only [Tr.sz] at z ⊢; omega))).mono ?_); rintro e w9 ⟨x3, tx3, rfl, ax3, rfl, st0⟩; have st : Below w8.heap.size w8 w9 := (by first | exact st0 | exact Below.of_dr st0); replace f5 := fro_gr st k5 f5; replace k1 := cell_gr st k1; replace k2 := cell_gr st k2; replace k3 := cell_gr st k3; replace k4 := cell_gr st k4; replace k5 := cell_gr st k5; replace m1 := cell_gr st m1; replace m2 := cell_gr st m2; replace m3 := cell_gr st m3; replace m4 := cell_gr st m4; replace j1 := cell_gr st j1; replace j2 := cell_gr st j2; replace j3 := cell_gr st j3; replace j4 := cell_gr st j4; replace TN := Lib.hid (TN.out.grow st); replace TO := Lib.hid (TO.out.grow st); replace TI := Lib.hid (TI.out.grow st); replace TR := Lib.hid (TR.out.grow st); replace TC := Lib.hid (TC.out.grow st); replace TD := Lib.hid (TD.out.grow st); replace X1 := Lib.hid (X1.out.grow st); replace X2 := Lib.hid (X2.out.grow st); replace BL := Lib.hid (BL.out.trans (st.mono BL.out.size)); replace sz := Nat.lt_of_lt_of_le sz st.size; clear st st0; have X3 := Lib.hid ax3; clear ax3))
  clear HK HN HZ H1 H2 H3 H4 TN TO TI TR HI TC TD
  have FIN := Lib.hid (MapR.set (c := w.heap.size + 1 + 1 + 1) (.pointer x3) k5 X3.out HQ.out BL.out (by omega))
  clear BL
  go_wp2_with fail
  exact bodyPost_ret (v := .agg #[.pointer x3]) (by simp [results, Try.results95, go_sem, k5, sz]) rfl FIN.out
set_option maxRecDepth 100000 in
set_option maxHeartbeats 1000000 in
theorem level_r2 (b : Nat) (pi : Option Addr) (i : Tr Int Value) (p po : Option Addr) (l o : Tr Int Value) (k kn : Int) (kx v knx vn : Value) (w : World) (hk : IsKV k kx v) (hkn : IsKV kn knx vn) (m1 : w.cell? ⟨b, 0, none⟩ = some knx) (m2 : w.cell? ⟨b, 1, none⟩ = some vn) (m3 : w.cell? ⟨b, 2, none⟩ = some (.pointer pi)) (m4 : w.cell? ⟨b, 3, none⟩ = some (.pointer po)) (hn : At w (some ⟨b, 0, none⟩) (.node kn vn i o)) (ho : At w po o) (hi : At w pi i) (hr : At w p l) (an : Tr.Avl (.node kn vn i o)) (ar : l.Avl) (h1 : l.dep + 1 < Tr.dep (.node kn vn i o)) (h2 : Tr.dep (.node kn vn i o) ≤ l.dep + 2) (h3 : ¬ o.dep < Tr.dep i) (hz : Tr.sz (.node kn vn i o) + 1 + l.sz ≤ 2 ^ 59) :
    Calls Try.prog 95 #[.agg #[.pointer p], .agg #[kx, v], .agg #[.pointer (some ⟨b, 0, none⟩)]] w (MapR w (LvQ l k v (.node kn vn i o))) := by
  have HQ := Lib.hid (lv_r2 (k := k) (v := v) ar an h1 h2 h3)
  have dl := Tr.dep_le (.node kn vn i o)
  have dr := l.dep_le
  have do' := o.dep_le
  have di := Tr.dep_le i
  obtain ⟨e1, he1⟩ : ∃ n : Int, ((Tr.dep (.node kn vn i o) : Nat) : Int) = n := ⟨_, rfl⟩
  obtain ⟨e2, he2⟩ : ∃ n : Int, (l.dep : Int) = n := ⟨_, rfl⟩
  obtain ⟨e3, he3⟩ : ∃ n : Int, (o.dep : Int) = n := ⟨_, rfl⟩
  obtain ⟨e4, he4⟩ : ∃ n : Int, ((Tr.dep i : Nat) : Int) = n := ⟨_, rfl⟩
  have q1 := IntWalk.i64_in (e1 + 1) (by omega)
  have q2 := IntWalk.i64_in (e2 + 1) (by omega)
  have t1 : decide (e2 + 1 < e1) = true := decide_eq_true (by omega)
  have t2 : decide (e1 + 1 < e2) = false := decide_eq_false (by omega)
  have t3 : decide (e3 < e4) = false := decide_eq_false (by omega)
  have hb : b < w.heap.size := World.block_lt_of_cell? w _ m1
  have HZ := Lib.hid hz
  have HK := Lib.hid hk
  have HN := Lib.hid hkn
  have TN := Lib.hid hn
  have TO := Lib.hid ho
  have TI := Lib.hid hi
  have TR := Lib.hid hr
  have H1 := Lib.hid he1
  have H2 := Lib.hid he2
  have H3 := Lib.hid he3
  have H4 := Lib.hid he4
  clear an ar h1 h2 h3 dl dr do' di hz hk hkn hn ho hi hr he1 he2 he3 he4
  have HB := Lib.hid (box4 w p (some ⟨b, 0, none⟩) kx v)
  go_enter Try.func95, Try.ntmps95
  go_wp2_with fail
  generalize e4 : ((((w.alloc (Obj.cells #[Value.pointer p] 35)).alloc (Obj.cells #[kx, v] 52)).alloc (Obj.cells #[Value.pointer (some ⟨b, 0, none⟩)] 35)).alloc (Obj.cells #[Value.pointer none] 35)) = w0
  obtain ⟨k1, k2, k3, k4, k5, f5, sz, bel⟩ := HB.out w0 e4
  have BL := Lib.hid bel
  replace TN := Lib.hid (TN.out.below bel (Nat.le_refl _))
  replace TO := Lib.hid (TO.out.below bel (Nat.le_refl _))
  replace TI := Lib.hid (TI.out.below bel (Nat.le_refl _))
  replace TR := Lib.hid (TR.out.below bel (Nat.le_refl _))
  replace m1 := cell_gr bel m1
  replace m2 := cell_gr bel m2
  replace m3 := cell_gr bel m3
  replace m4 := cell_gr bel m4
  clear HB e4 bel
  go_region_held3 (fun w' => w'.cell? ⟨w.heap.size, 0, none⟩ = some (.pointer p) ∧ w'.cell? ⟨w.heap.size + 1 + 1, 0, none⟩ = some (.pointer (some ⟨b, 0, none⟩)))
    (first | exact ⟨k1, k4⟩ | exact ⟨cell_dr k1, cell_dr k4⟩ | exact ⟨cell_al _ k1, cell_al _ k4⟩ | exact ⟨cell_al _ (cell_dr k1), cell_al _ (cell_dr k4)⟩ | exact ⟨cell_al _ (cell_al _ k1), cell_al _ (cell_al _ k4)⟩ | exact ⟨cell_st (by dsimp only; omega) k1, cell_st (by dsimp only; omega) k4⟩ | exact ⟨cell_st (by dsimp only; omega) (cell_dr k1), cell_st (by dsimp only; omega) (cell_dr k4)⟩ | exact ⟨cell_al _ (cell_st (by dsimp only; omega) k1), cell_al _ (cell_st (by dsimp only; omega) k4)⟩ | exact ⟨cell_st (by dsimp only; omega) (cell_st (by dsimp only; omega) k1), cell_st (by dsimp only; omega) (cell_st (by dsimp only; omega) k4)⟩)
    (first
      | (go_at_call 70; (with_reducible refine (Depth_any p _ e2 _ (by first | exact TR.out | exact TR.out.drew) H2.out).mono ?_); rintro e w1 ⟨rfl, st0⟩; have st : Below w0.heap.size w0 w1 := (by first | exact st0 | exact Below.of_dr st0); replace f5 := fro_gr st k5 f5; replace k1 := cell_gr st k1; replace k2 := cell_gr st k2; replace k3 := cell_gr st k3; replace k4 := cell_gr st k4; replace k5 := cell_gr st k5; replace m1 := cell_gr st m1; replace m2 := cell_gr st m2; replace m3 := cell_gr st m3; replace m4 := cell_gr st m4; replace TN := Lib.hid (TN.out.grow st); replace TO := Lib.hid (TO.out.grow st); replace TI := Lib.hid (TI.out.grow st); replace TR := Lib.hid (TR.out.grow st); replace BL := Lib.hid (BL.out.trans (st.mono BL.out.size)); replace sz := Nat.lt_of_lt_of_le sz st.size; clear st st0)
      | (go_at_call 70; (with_reducible refine (Depth_any (some ⟨b, 0, none⟩) _ e1 _ (by first | exact TN.out | exact TN.out.drew) H1.out).mono ?_); rintro e w2 ⟨rfl, st0⟩; have st : Below w1.heap.size w1 w2 := (by first | exact st0 | exact Below.of_dr st0); replace f5 := fro_gr st k5 f5; replace k1 := cell_gr st k1; replace k2 := cell_gr st k2; replace k3 := cell_gr st k3; replace k4 := cell_gr st k4; replace k5 := cell_gr st k5; replace m1 := cell_gr st m1; replace m2 := cell_gr st m2; replace m3 := cell_gr st m3; replace m4 := cell_gr st m4; replace TN := Lib.hid (TN.out.grow st); replace TO := Lib.hid (TO.out.grow st); replace TI := Lib.hid (TI.out.grow st); replace TR := Lib.hid (TR.out.grow st); replace BL := Lib.hid (BL.out.trans (st.mono BL.out.size)); replace sz := Nat.lt_of_lt_of_le sz st.size; clear st st0))
  go_wp2_with fail
  go_region_held3 (fun w' => w'.cell? ⟨w.heap.size, 0, none⟩ = some (.pointer p) ∧ w'.cell? ⟨w.heap.size + 1 + 1, 0, none⟩ = some (.pointer (some ⟨b, 0, none⟩)))
    (first | exact ⟨k1, k4⟩ | exact ⟨cell_dr k1, cell_dr k4⟩ | exact ⟨cell_al _ k1, cell_al _ k4⟩ | exact ⟨cell_al _ (cell_dr k1), cell_al _ (cell_dr k4)⟩ | exact ⟨cell_al _ (cell_al _ k1), cell_al _ (cell_al _ k4)⟩ | exact ⟨cell_st (by dsimp only; omega) k1, cell_st (by dsimp only; omega) k4⟩ | exact ⟨cell_st (by dsimp only; omega) (cell_dr k1), cell_st (by dsimp only; omega) (cell_dr k4)⟩ | exact ⟨cell_al _ (cell_st (by dsimp only; omega) k1), cell_al _ (cell_st (by dsimp only; omega) k4)⟩ | exact ⟨cell_st (by dsimp only; omega) (cell_st (by dsimp only; omega) k1), cell_st (by dsimp only; omega) (cell_st (by dsimp only; omega) k4)⟩)
    (first
      | (go_at_call 70; (with_reducible refine (Depth_any (some ⟨b, 0, none⟩) _ e1 _ (by first | exact TN.out | exact TN.out.drew) H1.out).mono ?_); rintro e w3 ⟨rfl, st0⟩; have st : Below w2.heap.size w2 w3 := (by first | exact st0 | exact Below.of_dr st0); replace f5 := fro_gr st k5 f5; replace k1 := cell_gr st k1; replace k2 := cell_gr st k2; replace k3 := cell_gr st k3; replace k4 := cell_gr st k4; replace k5 := cell_gr st k5; replace m1 := cell_gr st m1; replace m2 := cell_gr st m2; replace m3 := cell_gr st m3; replace m4 := cell_gr st m4; replace TN := Lib.hid (TN.out.grow st); replace TO := Lib.hid (TO.out.grow st); replace TI := Lib.hid (TI.out.grow st); replace TR := Lib.hid (TR.out.grow st); replace BL := Lib.hid (BL.out.trans (st.mono BL.out.size)); replace sz := Nat.lt_of_lt_of_le sz st.size; clear st st0)
      | (go_at_call 70; (with_reducible refine (Depth_any p _ e2 _ (by first | exact TR.out | exact TR.out.drew) H2.out).mono ?_); rintro e w4 ⟨rfl, st0⟩; have st : Below w3.heap.size w3 w4 := (by first | exact st0 | exact Below.of_dr st0); replace f5 := fro_gr st k5 f5; replace k1 := cell_gr st k1; replace k2 := cell_gr st k2; replace k3 := cell_gr st k3; replace k4 := cell_gr st k4; replace k5 := cell_gr st k5; replace m1 := cell_gr st m1; replace m2 := cell_gr st m2; replace m3 := cell_gr st m3; replace m4 := cell_gr st m4; replace TN := Lib.hid (TN.out.grow st); replace TO := Lib.hid (TO.out.grow st); replace TI := Lib.hid (TI.out.grow st); replace TR := Lib.hid (TR.out.grow st); replace BL := Lib.hid (BL.out.trans (st.mono BL.out.size)); replace sz := Nat.lt_of_lt_of_le sz st.size; clear st st0))
  go_wp2_with fail
  go_region_held3 (fun w' => w'.cell? ⟨b, 2, none⟩ = some (.pointer pi) ∧ w'.cell? ⟨b, 3, none⟩ = some (.pointer po))
    (first | exact ⟨m3, m4⟩ | exact ⟨cell_dr m3, cell_dr m4⟩ | exact ⟨cell_al _ m3, cell_al _ m4⟩ | exact ⟨cell_al _ (cell_dr m3), cell_al _ (cell_dr m4)⟩ | exact ⟨cell_al _ (cell_al _ m3), cell_al _ (cell_al _ m4)⟩ | exact ⟨cell_st (by dsimp only; omega) m3, cell_st (by dsimp only; omega) m4⟩ | exact ⟨cell_st (by dsimp only; omega) (cell_dr m3), cell_st (by dsimp only; omega) (cell_dr m4)⟩ | exact ⟨cell_al _ (cell_st (by dsimp only; omega) m3), cell_al _ (cell_st (by dsimp only; omega) m4)⟩ | exact ⟨cell_st (by dsimp only; omega) (cell_st (by dsimp only; omega) m3), cell_st (by dsimp only; omega) (cell_st (by dsimp only; omega) m4)⟩)
    (first
      | (go_at_call 70; (with_reducible refine (Depth_any pi _ e4 _ (by first | exact TI.out | exact TI.out.drew) H4.out).mono ?_); rintro e w5 ⟨rfl, st0⟩; have st : Below w4.heap.size w4 w5 := (by first | exact st0 | exact Below.of_dr st0); replace f5 := fro_gr st k5 f5; replace k1 := cell_gr st k1; replace k2 := cell_gr st k2; replace k3 := cell_gr st k3; replace k4 := cell_gr st k4; replace k5 := cell_gr st k5; replace m1 := cell_gr st m1; replace m2 := cell_gr st m2; replace m3 := cell_gr st m3; replace m4 := cell_gr st m4; replace TN := Lib.hid (TN.out.grow st); replace TO := Lib.hid (TO.out.grow st); replace TI := Lib.hid (TI.out.grow st); replace TR := Lib.hid (TR.out.grow st); replace BL := Lib.hid (BL.out.trans (st.mono BL.out.size)); replace sz := Nat.lt_of_lt_of_le sz st.size; clear st st0)
      | (go_at_call 70; (with_reducible refine (Depth_any po _ e3 _ (by first | exact TO.out | exact TO.out.drew) H3.out).mono ?_); rintro e w6 ⟨rfl, st0⟩; have st : Below w5.heap.size w5 w6 := (by first | exact st0 | exact Below.of_dr st0); replace f5 := fro_gr st k5 f5; replace k1 := cell_gr st k1; replace k2 := cell_gr st k2; replace k3 := cell_gr st k3; replace k4 := cell_gr st k4; replace k5 := cell_gr st k5; replace m1 := cell_gr st m1; replace m2 := cell_gr st m2; replace m3 := cell_gr st m3; replace m4 := cell_gr st m4; replace TN := Lib.hid (TN.out.grow st); replace TO := Lib.hid (TO.out.grow st); replace TI := Lib.hid (TI.out.grow st); replace TR := Lib.hid (TR.out.grow st); replace BL := Lib.hid (BL.out.trans (st.mono BL.out.size)); replace sz := Nat.lt_of_lt_of_le sz st.size; clear st st0))
  go_wp2_with fail
  go_region_held3 (fun w' => w'.cell? ⟨w.heap.size, 0, none⟩ = some (.pointer p) ∧ w'.cell? ⟨w.heap.size + 1, 0, none⟩ = some (kx) ∧ w'.cell? ⟨w.heap.size + 1, 1, none⟩ = some (v) ∧ w'.cell? ⟨b, 0, none⟩ = some (knx) ∧ w'.cell? ⟨b, 1, none⟩ = some (vn) ∧ w'.cell? ⟨b, 2, none⟩ = some (.pointer pi) ∧ w'.cell? ⟨b, 3, none⟩ = some (.pointer po))
    (first | exact ⟨k1, k2, k3, m1, m2, m3, m4⟩ | exact ⟨cell_dr k1, cell_dr k2, cell_dr k3, cell_dr m1, cell_dr m2, cell_dr m3, cell_dr m4⟩ | exact ⟨cell_al _ k1, cell_al _ k2, cell_al _ k3, cell_al _ m1, cell_al _ m2, cell_al _ m3, cell_al _ m4⟩ | exact ⟨cell_al _ (cell_dr k1), cell_al _ (cell_dr k2), cell_al _ (cell_dr k3), cell_al _ (cell_dr m1), cell_al _ (cell_dr m2), cell_al _ (cell_dr m3), cell_al _ (cell_dr m4)⟩ | exact ⟨cell_al _ (cell_al _ k1), cell_al _ (cell_al _ k2), cell_al _ (cell_al _ k3), cell_al _ (cell_al _ m1), cell_al _ (cell_al _ m2), cell_al _ (cell_al _ m3), cell_al _ (cell_al _ m4)⟩ | exact ⟨cell_st (by dsimp only; omega) k1, cell_st (by dsimp only; omega) k2, cell_st (by dsimp only; omega) k3, cell_st (by dsimp only; omega) m1, cell_st (by dsimp only; omega) m2, cell_st (by dsimp only; omega) m3, cell_st (by dsimp only; omega) m4⟩ | exact ⟨cell_st (by dsimp only; omega) (cell_dr k1), cell_st (by dsimp only; omega) (cell_dr k2), cell_st (by dsimp only; omega) (cell_dr k3), cell_st (by dsimp only; omega) (cell_dr m1), cell_st (by dsimp only; omega) (cell_dr m2), cell_st (by dsimp only; omega) (cell_dr m3), cell_st (by dsimp only; omega) (cell_dr m4)⟩ | exact ⟨cell_al _ (cell_st (by dsimp only; omega) k1), cell_al _ (cell_st (by dsimp only; omega) k2), cell_al _ (cell_st (by dsimp only; omega) k3), cell_al _ (cell_st (by dsimp only; omega) m1), cell_al _ (cell_st (by dsimp only; omega) m2), cell_al _ (cell_st (by dsimp only; omega) m3), cell_al _ (cell_st (by dsimp only; omega) m4)⟩ | exact ⟨cell_st (by dsimp only; omega) (cell_st (by dsimp only; omega) k1), cell_st (by dsimp only; omega) (cell_st (by dsimp only; omega) k2), cell_st (by dsimp only; omega) (cell_st (by dsimp only; omega) k3), cell_st (by dsimp only; omega) (cell_st (by dsimp only; omega) m1), cell_st (by dsimp only; omega) (cell_st (by dsimp only; omega) m2), cell_st (by dsimp only; omega) (cell_st (by dsimp only; omega) m3), cell_st (by dsimp only; omega) (cell_st (by dsimp only; omega) m4)⟩)
    (first
      | (go_at_call 68; (with_reducible refine (tie_any p pi _ _ k kx v _ HK.out (by first | exact TR.out | exact TR.out.drew) (by first | exact TI.out | exact TI.out.drew) (by have z := HZ.out; first | omega | (simp only [Tr.sz] at z ⊢; omega)) (by have z := HZ.out; first | omega | (simp only [Tr.sz] at z ⊢; omega))).mono ?_); rintro e w7 ⟨x1, tx1, rfl, ax1, rfl, st0⟩; have st : Below w6.heap.size w6 w7 := (by first | exact st0 | exact Below.of_dr st0); replace f5 := fro_gr st k5 f5; replace k1 := cell_gr st k1; replace k2 := cell_gr st k2; replace k3 := cell_gr st k3; replace k4 := cell_gr st k4; replace k5 := cell_gr st k5; replace m1 := cell_gr st m1; replace m2 := cell_gr st m2; replace m3 := cell_gr st m3; replace m4 := cell_gr st m4; replace TN := Lib.hid (TN.out.grow st); replace TO := Lib.hid (TO.out.grow st); replace TI := Lib.hid (TI.out.grow st); replace TR := Lib.hid (TR.out.grow st); replace BL := Lib.hid (BL.out.trans (st.mono BL.out.size)); replace sz := Nat.lt_of_lt_of_le sz st.size; clear st st0; have X1 := Lib.hid ax1; clear ax1)
      | (go_at_call 68; (with_reducible refine (tie_any x1 po _ _ kn knx vn _ HN.out (by first | exact X1.out | exact X1.out.drew) (by first | exact TO.out | exact TO.out.drew) (by have z := HZ.out; first | omega | (simp only [Tr.sz] at z ⊢; omega)) (by have z := HZ.out; first | omega | (simp only [Tr.sz] at z ⊢; omega))).mono ?_); rintro e w8 ⟨x2, tx2, rfl, ax2, rfl, st0⟩; have st : Below w7.heap.size w7 w8 := (by first | exact st0 | exact Below.of_dr st0); replace f5 := fro_gr st k5 f5; replace k1 := cell_gr st k1; replace k2 := cell_gr st k2; replace k3 := cell_gr st k3; replace k4 := cell_gr st k4; replace k5 := cell_gr st k5; replace m1 := cell_gr st m1; replace m2 := cell_gr st m2; replace m3 := cell_gr st m3; replace m4 := cell_gr st m4; replace TN := Lib.hid (TN.out.grow st); replace TO := Lib.hid (TO.out.grow st); replace TI := Lib.hid (TI.out.grow st); replace TR := Lib.hid (TR.out.grow st); replace X1 := Lib.hid (X1.out.grow st); replace BL := Lib.hid (BL.out.trans (st.mono BL.out.size)); replace sz := Nat.lt_of_lt_of_le sz st.size; clear st st0; have X2 := Lib.hid ax2; clear ax2))
  clear HK HN HZ H1 H2 H3 H4 TN TO TI TR
  have FIN := Lib.hid (MapR.set (c := w.heap.size + 1 + 1 + 1) (.pointer x2) k5 X2.out HQ.out BL.out (by omega))
  clear BL
  go_wp2_with fail
  exact bodyPost_ret (v := .agg #[.pointer x2]) (by simp [results, Try.results95, go_sem, k5, sz]) rfl FIN.out
theorem level_any (p q : Option Addr) (l r : Tr Int Value) (k : Int) (kx v : Value) (w : World) (hk : IsKV k kx v) (hl : At w p l) (hr : At w q r) (al : l.Avl) (ar : r.Avl) (h1 : l.dep ≤ r.dep + 2) (h2 : r.dep ≤ l.dep + 2) (hz : l.sz + 1 + r.sz ≤ 2 ^ 59) :
    Calls Try.prog 95 #[.agg #[.pointer p], .agg #[kx, v], .agg #[.pointer q]] w (MapR w (LvQ l k v r)) := by
  by_cases g1 : r.dep + 1 < l.dep
  · obtain ⟨b, kn, vn, po, pi, o, i, rfl, rfl, ov, m1, m2, m3, m4, ho, hi⟩ := hl.nonnil (by omega)
    by_cases g2 : o.dep < i.dep
    · obtain ⟨g, ki, vi, pc, pd, c, d, rfl, rfl, oi, j1, j2, j3, j4, hc, hd⟩ := hi.nonnil (by omega)
      exact level_l1 b g ki (KV.kv ki) vi pc pd c d q po r o k kn kx v (KV.kv kn) vn w hk ⟨rfl, ov⟩ m1 m2 m3 m4 hl ho ⟨rfl, oi⟩ j1 j2 j3 j4 hi hc hd hr al ar g1 h1 g2 hz
    · exact level_l2 b pi i q po r o k kn kx v (KV.kv kn) vn w hk ⟨rfl, ov⟩ m1 m2 m3 m4 hl ho hi hr al ar g1 h1 g2 hz
  · by_cases g2 : l.dep + 1 < r.dep
    · obtain ⟨b, kn, vn, pi, po, i, o, rfl, rfl, ov, m1, m2, m3, m4, hi, ho⟩ := hr.nonnil (by omega)
      by_cases g3 : o.dep < i.dep
      · obtain ⟨g, ki, vi, pc, pd, c, d, rfl, rfl, oi, j1, j2, j3, j4, hc, hd⟩ := hi.nonnil (by omega)
        exact level_r1 b g ki (KV.kv ki) vi pc pd c d p po l o k kn kx v (KV.kv kn) vn w hk ⟨rfl, ov⟩ m1 m2 m3 m4 hr ho ⟨rfl, oi⟩ j1 j2 j3 j4 hi hc hd hl ar al g2 h2 g3 (by omega)
      · exact level_r2 b pi i p po l o k kn kx v (KV.kv kn) vn w hk ⟨rfl, ov⟩ m1 m2 m3 m4 hr ho hi hl ar al g2 h2 g3 (by omega)
    · exact level_t p q l r k kx v w hk hl hr al ar (by omega) (by omega) hz
end Go.Proofs.Ytbphmcjjanchlaa.Mii
