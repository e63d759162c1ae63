/- link: two trees and a pair between. -/
import Derived.Test.YtbphmcjjanchlaaK3
namespace Go.Proofs.Ytbphmcjjanchlaa.Mii
open Go.RowKit
set_option linter.unusedVariables false
set_option linter.unusedSimpArgs false

set_option maxRecDepth 100000 in
set_option maxHeartbeats 1000000 in
theorem link_t (p q : Option Addr) (l r : Tr Int Value) (k : Int) (kx v : Value) (w : World) (hk : IsKV k kx v) (hl : At w p l) (hr : At w q r) (al : l.Avl) (ar : r.Avl) (h1 : l.dep ≤ r.dep + 1) (h2 : r.dep ≤ l.dep + 1) (hz : l.sz + 1 + r.sz ≤ 2 ^ 59) :
    Calls Try.prog 69 #[.agg #[.pointer p], .agg #[kx, v], .agg #[.pointer q]] w (MapR w (LkQ l k v r)) := by
  have HQ := Lib.hid (lk_tie (k := k) (v := v) al ar h1 h2)
  have dl := l.dep_le
  have dr := r.dep_le
  obtain ⟨c, hc⟩ : ∃ n : Int, (l.dep : Int) = n := ⟨_, rfl⟩
  obtain ⟨d, hd⟩ : ∃ n : Int, (r.dep : Int) = n := ⟨_, rfl⟩
  have q1 := IntWalk.i64_in (c + 1) (by omega)
  have q2 := IntWalk.i64_in (d + 1) (by omega)
  have t1 : decide (d + 1 < c) = false := decide_eq_false (by omega)
  have t2 : decide (c + 1 < d) = false := decide_eq_false (by omega)
  have HZ := Lib.hid hz
  have HK := Lib.hid hk
  have TL := Lib.hid hl
  have TR := Lib.hid hr
  have Hc := Lib.hid hc
  have Hd := Lib.hid hd
  clear hl hr al ar h1 h2 hz hc hd dl dr hk
  have HB := Lib.hid (box4 w p q kx v)
  go_enter Try.func69, Try.ntmps69
  go_wp2_with fail
  generalize e4 : ((((w.alloc (Obj.cells #[Value.pointer p] 35)).alloc (Obj.cells #[kx, v] 52)).alloc (Obj.cells #[Value.pointer q] 35)).alloc (Obj.cells #[Value.pointer none] 35)) = w0
  obtain ⟨k1, k2, k3, k4, k5, f5, sz, bel⟩ := HB.out w0 e4
  have BL := Lib.hid bel
  replace TL := Lib.hid (TL.out.below bel (Nat.le_refl _))
  replace TR := Lib.hid (TR.out.below bel (Nat.le_refl _))
  clear HB e4 bel
  go_region_held3 (fun w' => w'.cell? ⟨w.heap.size, 0, none⟩ = some (.pointer p) ∧ w'.cell? ⟨w.heap.size + 1 + 1, 0, none⟩ = some (.pointer q))
    (first | exact ⟨k1, k4⟩ | exact ⟨cell_dr k1, cell_dr k4⟩ | exact ⟨cell_al _ k1, cell_al _ k4⟩ | exact ⟨cell_al _ (cell_dr k1), cell_al _ (cell_dr k4)⟩ | exact ⟨cell_al _ (cell_al _ k1), cell_al _ (cell_al _ k4)⟩ | exact ⟨cell_st (by dsimp only; omega) k1, cell_st (by dsimp only; omega) k4⟩ | exact ⟨cell_st (by dsimp only; omega) (cell_dr k1), cell_st (by dsimp only; omega) (cell_dr k4)⟩ | exact ⟨cell_al _ (cell_st (by dsimp only; omega) k1), cell_al _ (cell_st (by dsimp only; omega) k4)⟩ | exact ⟨cell_st (by dsimp only; omega) (cell_st (by dsimp only; omega) k1), cell_st (by dsimp only; omega) (cell_st (by dsimp only; omega) k4)⟩)
    (first
      | (go_at_call 70; (with_reducible refine (Depth_any p _ c _ (by first | exact TL.out | exact TL.out.drew) Hc.out).mono ?_); rintro e w1 ⟨rfl, st0⟩; have st : Below w0.heap.size w0 w1 := (by first | exact st0 | exact Below.of_dr st0); replace f5 := fro_gr st k5 f5; replace k1 := cell_gr st k1; replace k2 := cell_gr st k2; replace k3 := cell_gr st k3; replace k4 := cell_gr st k4; replace k5 := cell_gr st k5; replace TL := Lib.hid (TL.out.grow st); replace TR := Lib.hid (TR.out.grow st); replace BL := Lib.hid (BL.out.trans (st.mono BL.out.size)); replace sz := Nat.lt_of_lt_of_le sz st.size; clear st st0)
      | (go_at_call 70; (with_reducible refine (Depth_any q _ d _ (by first | exact TR.out | exact TR.out.drew) Hd.out).mono ?_); rintro e w2 ⟨rfl, st0⟩; have st : Below w1.heap.size w1 w2 := (by first | exact st0 | exact Below.of_dr st0); replace f5 := fro_gr st k5 f5; replace k1 := cell_gr st k1; replace k2 := cell_gr st k2; replace k3 := cell_gr st k3; replace k4 := cell_gr st k4; replace k5 := cell_gr st k5; replace TL := Lib.hid (TL.out.grow st); replace TR := Lib.hid (TR.out.grow st); replace BL := Lib.hid (BL.out.trans (st.mono BL.out.size)); replace sz := Nat.lt_of_lt_of_le sz st.size; clear st st0))
  go_wp2_with fail
  go_region_held3 (fun w' => w'.cell? ⟨w.heap.size, 0, none⟩ = some (.pointer p) ∧ w'.cell? ⟨w.heap.size + 1 + 1, 0, none⟩ = some (.pointer q))
    (first | exact ⟨k1, k4⟩ | exact ⟨cell_dr k1, cell_dr k4⟩ | exact ⟨cell_al _ k1, cell_al _ k4⟩ | exact ⟨cell_al _ (cell_dr k1), cell_al _ (cell_dr k4)⟩ | exact ⟨cell_al _ (cell_al _ k1), cell_al _ (cell_al _ k4)⟩ | exact ⟨cell_st (by dsimp only; omega) k1, cell_st (by dsimp only; omega) k4⟩ | exact ⟨cell_st (by dsimp only; omega) (cell_dr k1), cell_st (by dsimp only; omega) (cell_dr k4)⟩ | exact ⟨cell_al _ (cell_st (by dsimp only; omega) k1), cell_al _ (cell_st (by dsimp only; omega) k4)⟩ | exact ⟨cell_st (by dsimp only; omega) (cell_st (by dsimp only; omega) k1), cell_st (by dsimp only; omega) (cell_st (by dsimp only; omega) k4)⟩)
    (first
      | (go_at_call 70; (with_reducible refine (Depth_any q _ d _ (by first | exact TR.out | exact TR.out.drew) Hd.out).mono ?_); rintro e w3 ⟨rfl, st0⟩; have st : Below w2.heap.size w2 w3 := (by first | exact st0 | exact Below.of_dr st0); replace f5 := fro_gr st k5 f5; replace k1 := cell_gr st k1; replace k2 := cell_gr st k2; replace k3 := cell_gr st k3; replace k4 := cell_gr st k4; replace k5 := cell_gr st k5; replace TL := Lib.hid (TL.out.grow st); replace TR := Lib.hid (TR.out.grow st); replace BL := Lib.hid (BL.out.trans (st.mono BL.out.size)); replace sz := Nat.lt_of_lt_of_le sz st.size; clear st st0)
      | (go_at_call 70; (with_reducible refine (Depth_any p _ c _ (by first | exact TL.out | exact TL.out.drew) Hc.out).mono ?_); rintro e w4 ⟨rfl, st0⟩; have st : Below w3.heap.size w3 w4 := (by first | exact st0 | exact Below.of_dr st0); replace f5 := fro_gr st k5 f5; replace k1 := cell_gr st k1; replace k2 := cell_gr st k2; replace k3 := cell_gr st k3; replace k4 := cell_gr st k4; replace k5 := cell_gr st k5; replace TL := Lib.hid (TL.out.grow st); replace TR := Lib.hid (TR.out.grow st); replace BL := Lib.hid (BL.out.trans (st.mono BL.out.size)); replace sz := Nat.lt_of_lt_of_le sz st.size; clear st st0))
  go_wp2_with fail
  refine (tie_any p q _ _ k kx v _ HK.out TL.out TR.out (by have z := HZ.out; first | omega | (simp only [Tr.sz] at z ⊢; omega)) (by have z := HZ.out; first | omega | (simp only [Tr.sz] at z ⊢; omega))).mono ?_
  rintro e w5 ⟨q1, t1, rfl, a1, rfl, st0⟩
  have st : Below w4.heap.size w4 w5 := (by first | exact st0 | exact Below.of_dr st0)
  replace f5 := fro_gr st k5 f5
  replace k1 := cell_gr st k1
  replace k2 := cell_gr st k2
  replace k3 := cell_gr st k3
  replace k4 := cell_gr st k4
  replace k5 := cell_gr st k5
  replace TL := Lib.hid (TL.out.grow st)
  replace TR := Lib.hid (TR.out.grow st)
  replace BL := Lib.hid (BL.out.trans (st.mono BL.out.size))
  replace sz := Nat.lt_of_lt_of_le sz st.size
  clear st st0
  have T1 := Lib.hid a1
  clear a1 HK HZ Hc Hd
  have FIN := Lib.hid (MapR.set (c := w.heap.size + 1 + 1 + 1) (.pointer q1) k5 T1.out HQ.out BL.out (by omega))
  clear BL
  go_wp2_with fail
  exact bodyPost_ret (v := .agg #[.pointer q1]) (by simp [results, Try.results69, go_sem, k5, sz]) rfl FIN.out
set_option maxRecDepth 100000 in
set_option maxHeartbeats 1000000 in
theorem link_l (b : Nat) (pa pc : Option Addr) (q : Option Addr) (a c r : Tr Int Value) (k kn : Int) (kx v knx vn : Value) (w : World) (hk : IsKV k kx v) (hkn : IsKV kn knx vn) (IH : Hid (∀ (x y : Option Addr) (W : World), At W x c → At W y r → Calls Try.prog 69 #[.agg #[.pointer x], .agg #[kx, v], .agg #[.pointer y]] W (MapR W (LkQ c k v r)))) (m1 : w.cell? ⟨b, 0, none⟩ = some knx) (m2 : w.cell? ⟨b, 1, none⟩ = some vn) (m3 : w.cell? ⟨b, 2, none⟩ = some (.pointer pa)) (m4 : w.cell? ⟨b, 3, none⟩ = some (.pointer pc)) (hn : At w (some ⟨b, 0, none⟩) (.node kn vn a c)) (ha : At w pa a) (hc : At w pc c) (hr : At w q r) (an : Tr.Avl (.node kn vn a c)) (ar : r.Avl) (h1 : r.dep + 1 < Tr.dep (.node kn vn a c)) (hz : Tr.sz (.node kn vn a c) + 1 + r.sz ≤ 2 ^ 59) :
    Calls Try.prog 69 #[.agg #[.pointer (some ⟨b, 0, none⟩)], .agg #[kx, v], .agg #[.pointer q]] w (MapR w (LkQ (.node kn vn a c) k v r)) := by
  have dl := Tr.dep_le (.node kn vn a c)
  have dr := r.dep_le
  obtain ⟨e1, he1⟩ : ∃ n : Int, ((Tr.dep (.node kn vn a c) : Nat) : Int) = n := ⟨_, rfl⟩
  obtain ⟨e2, he2⟩ : ∃ n : Int, (r.dep : Int) = n := ⟨_, rfl⟩
  have q1 := IntWalk.i64_in (e1 + 1) (by omega)
  have q2 := IntWalk.i64_in (e2 + 1) (by omega)
  have t1 : decide (e2 + 1 < e1) = true := decide_eq_true (by omega)
  have t2 : decide (e1 + 1 < e2) = false := decide_eq_false (by omega)
  have hb : b < w.heap.size := World.block_lt_of_cell? w _ m1
  have HZ := Lib.hid hz
  have HK := Lib.hid hk
  have HN := Lib.hid hkn
  have TN := Lib.hid hn
  have TA := Lib.hid ha
  have TC := Lib.hid hc
  have TR := Lib.hid hr
  have H1 := Lib.hid he1
  have H2 := Lib.hid he2
  have AN := Lib.hid an
  have AR := Lib.hid ar
  have D1 := Lib.hid h1
  clear dl dr hz hk hkn hn ha hc hr he1 he2 an ar h1
  have HB := Lib.hid (box4 w (some ⟨b, 0, none⟩) q kx v)
  go_enter Try.func69, Try.ntmps69
  go_wp2_with fail
  generalize e4 : ((((w.alloc (Obj.cells #[Value.pointer (some ⟨b, 0, none⟩)] 35)).alloc (Obj.cells #[kx, v] 52)).alloc (Obj.cells #[Value.pointer q] 35)).alloc (Obj.cells #[Value.pointer none] 35)) = w0
  obtain ⟨k1, k2, k3, k4, k5, f5, sz, bel⟩ := HB.out w0 e4
  have BL := Lib.hid bel
  replace TN := Lib.hid (TN.out.below bel (Nat.le_refl _))
  replace TA := Lib.hid (TA.out.below bel (Nat.le_refl _))
  replace TC := Lib.hid (TC.out.below bel (Nat.le_refl _))
  replace TR := Lib.hid (TR.out.below bel (Nat.le_refl _))
  replace m1 := cell_gr bel m1
  replace m2 := cell_gr bel m2
  replace m3 := cell_gr bel m3
  replace m4 := cell_gr bel m4
  clear HB e4 bel
  go_region_held3 (fun w' => w'.cell? ⟨w.heap.size, 0, none⟩ = some (.pointer (some ⟨b, 0, none⟩)) ∧ w'.cell? ⟨w.heap.size + 1 + 1, 0, none⟩ = some (.pointer q))
    (first | exact ⟨k1, k4⟩ | exact ⟨cell_dr k1, cell_dr k4⟩ | exact ⟨cell_al _ k1, cell_al _ k4⟩ | exact ⟨cell_al _ (cell_dr k1), cell_al _ (cell_dr k4)⟩ | exact ⟨cell_al _ (cell_al _ k1), cell_al _ (cell_al _ k4)⟩ | exact ⟨cell_st (by dsimp only; omega) k1, cell_st (by dsimp only; omega) k4⟩ | exact ⟨cell_st (by dsimp only; omega) (cell_dr k1), cell_st (by dsimp only; omega) (cell_dr k4)⟩ | exact ⟨cell_al _ (cell_st (by dsimp only; omega) k1), cell_al _ (cell_st (by dsimp only; omega) k4)⟩ | exact ⟨cell_st (by dsimp only; omega) (cell_st (by dsimp only; omega) k1), cell_st (by dsimp only; omega) (cell_st (by dsimp only; omega) k4)⟩)
    (first
      | (go_at_call 70; (with_reducible refine (Depth_any (some ⟨b, 0, none⟩) _ e1 _ (by first | exact TN.out | exact TN.out.drew) H1.out).mono ?_); rintro e w1 ⟨rfl, st0⟩; have st : Below w0.heap.size w0 w1 := (by first | exact st0 | exact Below.of_dr st0); replace f5 := fro_gr st k5 f5; replace k1 := cell_gr st k1; replace k2 := cell_gr st k2; replace k3 := cell_gr st k3; replace k4 := cell_gr st k4; replace k5 := cell_gr st k5; replace m1 := cell_gr st m1; replace m2 := cell_gr st m2; replace m3 := cell_gr st m3; replace m4 := cell_gr st m4; replace TN := Lib.hid (TN.out.grow st); replace TA := Lib.hid (TA.out.grow st); replace TC := Lib.hid (TC.out.grow st); replace TR := Lib.hid (TR.out.grow st); replace BL := Lib.hid (BL.out.trans (st.mono BL.out.size)); replace sz := Nat.lt_of_lt_of_le sz st.size; clear st st0)
      | (go_at_call 70; (with_reducible refine (Depth_any q _ e2 _ (by first | exact TR.out | exact TR.out.drew) H2.out).mono ?_); rintro e w2 ⟨rfl, st0⟩; have st : Below w1.heap.size w1 w2 := (by first | exact st0 | exact Below.of_dr st0); replace f5 := fro_gr st k5 f5; replace k1 := cell_gr st k1; replace k2 := cell_gr st k2; replace k3 := cell_gr st k3; replace k4 := cell_gr st k4; replace k5 := cell_gr st k5; replace m1 := cell_gr st m1; replace m2 := cell_gr st m2; replace m3 := cell_gr st m3; replace m4 := cell_gr st m4; replace TN := Lib.hid (TN.out.grow st); replace TA := Lib.hid (TA.out.grow st); replace TC := Lib.hid (TC.out.grow st); replace TR := Lib.hid (TR.out.grow st); replace BL := Lib.hid (BL.out.trans (st.mono BL.out.size)); replace sz := Nat.lt_of_lt_of_le sz st.size; clear st st0))
  go_wp2_with fail
  go_region_held3 (fun w' => w'.cell? ⟨w.heap.size + 1, 0, none⟩ = some (kx) ∧ w'.cell? ⟨w.heap.size + 1, 1, none⟩ = some (v) ∧ w'.cell? ⟨w.heap.size + 1 + 1, 0, none⟩ = some (.pointer q) ∧ w'.cell? ⟨b, 0, none⟩ = some (knx) ∧ w'.cell? ⟨b, 1, none⟩ = some (vn) ∧ w'.cell? ⟨b, 2, none⟩ = some (.pointer pa) ∧ w'.cell? ⟨b, 3, none⟩ = some (.pointer pc))
    (first | exact ⟨k2, k3, k4, m1, m2, m3, m4⟩ | exact ⟨cell_dr k2, cell_dr k3, cell_dr k4, cell_dr m1, cell_dr m2, cell_dr m3, cell_dr m4⟩ | exact ⟨cell_al _ k2, cell_al _ k3, cell_al _ k4, cell_al _ m1, cell_al _ m2, cell_al _ m3, cell_al _ m4⟩ | exact ⟨cell_al _ (cell_dr k2), cell_al _ (cell_dr k3), cell_al _ (cell_dr k4), cell_al _ (cell_dr m1), cell_al _ (cell_dr m2), cell_al _ (cell_dr m3), cell_al _ (cell_dr m4)⟩ | exact ⟨cell_al _ (cell_al _ k2), cell_al _ (cell_al _ k3), cell_al _ (cell_al _ k4), cell_al _ (cell_al _ m1), cell_al _ (cell_al _ m2), cell_al _ (cell_al _ m3), cell_al _ (cell_al _ m4)⟩ | exact ⟨cell_st (by dsimp only; omega) k2, cell_st (by dsimp only; omega) k3, cell_st (by dsimp only; omega) k4, cell_st (by dsimp only; omega) m1, cell_st (by dsimp only; omega) m2, cell_st (by dsimp only; omega) m3, cell_st (by dsimp only; omega) m4⟩ | exact ⟨cell_st (by dsimp only; omega) (cell_dr k2), cell_st (by dsimp only; omega) (cell_dr k3), cell_st (by dsimp only; omega) (cell_dr k4), cell_st (by dsimp only; omega) (cell_dr m1), cell_st (by dsimp only; omega) (cell_dr m2), cell_st (by dsimp only; omega) (cell_dr m3), cell_st (by dsimp only; omega) (cell_dr m4)⟩ | exact ⟨cell_al _ (cell_st (by dsimp only; omega) k2), cell_al _ (cell_st (by dsimp only; omega) k3), cell_al _ (cell_st (by dsimp only; omega) k4), cell_al _ (cell_st (by dsimp only; omega) m1), cell_al _ (cell_st (by dsimp only; omega) m2), cell_al _ (cell_st (by dsimp only; omega) m3), cell_al _ (cell_st (by dsimp only; omega) m4)⟩ | exact ⟨cell_st (by dsimp only; omega) (cell_st (by dsimp only; omega) k2), cell_st (by dsimp only; omega) (cell_st (by dsimp only; omega) k3), cell_st (by dsimp only; omega) (cell_st (by dsimp only; omega) k4), cell_st (by dsimp only; omega) (cell_st (by dsimp only; omega) m1), cell_st (by dsimp only; omega) (cell_st (by dsimp only; omega) m2), cell_st (by dsimp only; omega) (cell_st (by dsimp only; omega) m3), cell_st (by dsimp only; omega) (cell_st (by dsimp only; omega) m4)⟩)
    (first
      | (go_at_call 69; (with_reducible refine (IH.out pc q _ (by first | exact TC.out | exact TC.out.drew) (by first | exact TR.out | exact TR.out.drew)).mono ?_); rintro e w3 ⟨x1, u1, rfl, a1, g1, st0⟩; have st : Below w2.heap.size w2 w3 := (by first | exact st0 | exact Below.of_dr st0); replace f5 := fro_gr st k5 f5; replace k1 := cell_gr st k1; replace k2 := cell_gr st k2; replace k3 := cell_gr st k3; replace k4 := cell_gr st k4; replace k5 := cell_gr st k5; replace m1 := cell_gr st m1; replace m2 := cell_gr st m2; replace m3 := cell_gr st m3; replace m4 := cell_gr st m4; replace TN := Lib.hid (TN.out.grow st); replace TA := Lib.hid (TA.out.grow st); replace TC := Lib.hid (TC.out.grow st); replace TR := Lib.hid (TR.out.grow st); replace BL := Lib.hid (BL.out.trans (st.mono BL.out.size)); replace sz := Nat.lt_of_lt_of_le sz st.size; clear st st0; have X1 := Lib.hid a1; clear a1; have G1 := Lib.hid g1; clear g1)
      | (go_at_call 95; (with_reducible refine (level_any pa x1 _ _ kn knx vn _ HN.out (by first | exact TA.out | exact TA.out.drew) (by first | exact X1.out | exact X1.out.drew) (by have z := AN.out; simp only [Tr.Avl] at z; exact z.1) G1.out.avl (by have z := AN.out; have y := D1.out; have g := G1.out; have := g.lo; have := g.hi; simp only [Tr.Avl, Tr.dep] at *; omega) (by have z := AN.out; have y := D1.out; have g := G1.out; have := g.lo; have := g.hi; simp only [Tr.Avl, Tr.dep] at *; omega) (by have z := HZ.out; have g := G1.out.sz; simp only [Tr.sz] at z ⊢; omega)).mono ?_); rintro e w4 ⟨x2, u2, rfl, a2, g2, st0⟩; have st : Below w3.heap.size w3 w4 := (by first | exact st0 | exact Below.of_dr st0); replace f5 := fro_gr st k5 f5; replace k1 := cell_gr st k1; replace k2 := cell_gr st k2; replace k3 := cell_gr st k3; replace k4 := cell_gr st k4; replace k5 := cell_gr st k5; replace m1 := cell_gr st m1; replace m2 := cell_gr st m2; replace m3 := cell_gr st m3; replace m4 := cell_gr st m4; replace TN := Lib.hid (TN.out.grow st); replace TA := Lib.hid (TA.out.grow st); replace TC := Lib.hid (TC.out.grow st); replace TR := Lib.hid (TR.out.grow st); replace X1 := Lib.hid (X1.out.grow st); replace BL := Lib.hid (BL.out.trans (st.mono BL.out.size)); replace sz := Nat.lt_of_lt_of_le sz st.size; clear st st0; have X2 := Lib.hid a2; clear a2; have G2 := Lib.hid g2; clear g2))
  have HQ := Lib.hid (lk_l AN.out D1.out G1.out G2.out)
  clear HK HN HZ H1 H2 TN TA TC TR AN AR D1 IH
  have FIN := Lib.hid (MapR.set (c := w.heap.size + 1 + 1 + 1) (.pointer x2) k5 X2.out HQ.out BL.out (by omega))
  clear BL
  go_wp2_with fail
  exact bodyPost_ret (v := .agg #[.pointer x2]) (by simp [results, Try.results69, go_sem, k5, sz]) rfl FIN.out
set_option maxRecDepth 100000 in
set_option maxHeartbeats 1000000 in
theorem link_r (b : Nat) (pa pc : Option Addr) (p : Option Addr) (a c l : Tr Int Value) (k kn : Int) (kx v knx vn : Value) (w : World) (hk : IsKV k kx v) (hkn : IsKV kn knx vn) (IH : Hid (∀ (x y : Option Addr) (W : World), At W x l → At W y a → Calls Try.prog 69 #[.agg #[.pointer x], .agg #[kx, v], .agg #[.pointer y]] W (MapR W (LkQ l k v a)))) (m1 : w.cell? ⟨b, 0, none⟩ = some knx) (m2 : w.cell? ⟨b, 1, none⟩ = some vn) (m3 : w.cell? ⟨b, 2, none⟩ = some (.pointer pa)) (m4 : w.cell? ⟨b, 3, none⟩ = some (.pointer pc)) (hn : At w (some ⟨b, 0, none⟩) (.node kn vn a c)) (ha : At w pa a) (hc : At w pc c) (hr : At w p l) (an : Tr.Avl (.node kn vn a c)) (ar : l.Avl) (h1 : l.dep + 1 < Tr.dep (.node kn vn a c)) (hz : Tr.sz (.node kn vn a c) + 1 + l.sz ≤ 2 ^ 59) :
    Calls Try.prog 69 #[.agg #[.pointer p], .agg #[kx, v], .agg #[.pointer (some ⟨b, 0, none⟩)]] w (MapR w (LkQ l k v (.node kn vn a c))) := by
  have dl := Tr.dep_le (.node kn vn a c)
  have dr := l.dep_le
  obtain ⟨e1, he1⟩ : ∃ n : Int, ((Tr.dep (.node kn vn a c) : Nat) : Int) = n := ⟨_, rfl⟩
  obtain ⟨e2, he2⟩ : ∃ n : Int, (l.dep : Int) = n := ⟨_, rfl⟩
  have q1 := IntWalk.i64_in (e1 + 1) (by omega)
  have q2 := IntWalk.i64_in (e2 + 1) (by omega)
  have t1 : decide (e2 + 1 < e1) = true := decide_eq_true (by omega)
  have t2 : decide (e1 + 1 < e2) = false := decide_eq_false (by omega)
  have hb : b < w.heap.size := World.block_lt_of_cell? w _ m1
  have HZ := Lib.hid hz
  have HK := Lib.hid hk
  have HN := Lib.hid hkn
  have TN := Lib.hid hn
  have TA := Lib.hid ha
  have TC := Lib.hid hc
  have TR := Lib.hid hr
  have H1 := Lib.hid he1
  have H2 := Lib.hid he2
  have AN := Lib.hid an
  have AR := Lib.hid ar
  have D1 := Lib.hid h1
  clear dl dr hz hk hkn hn ha hc hr he1 he2 an ar h1
  have HB := Lib.hid (box4 w p (some ⟨b, 0, none⟩) kx v)
  go_enter Try.func69, Try.ntmps69
  go_wp2_with fail
  generalize e4 : ((((w.alloc (Obj.cells #[Value.pointer p] 35)).alloc (Obj.cells #[kx, v] 52)).alloc (Obj.cells #[Value.pointer (some ⟨b, 0, none⟩)] 35)).alloc (Obj.cells #[Value.pointer none] 35)) = w0
  obtain ⟨k1, k2, k3, k4, k5, f5, sz, bel⟩ := HB.out w0 e4
  have BL := Lib.hid bel
  replace TN := Lib.hid (TN.out.below bel (Nat.le_refl _))
  replace TA := Lib.hid (TA.out.below bel (Nat.le_refl _))
  replace TC := Lib.hid (TC.out.below bel (Nat.le_refl _))
  replace TR := Lib.hid (TR.out.below bel (Nat.le_refl _))
  replace m1 := cell_gr bel m1
  replace m2 := cell_gr bel m2
  replace m3 := cell_gr bel m3
  replace m4 := cell_gr bel m4
  clear HB e4 bel
  go_region_held3 (fun w' => w'.cell? ⟨w.heap.size, 0, none⟩ = some (.pointer p) ∧ w'.cell? ⟨w.heap.size + 1 + 1, 0, none⟩ = some (.pointer (some ⟨b, 0, none⟩)))
    (first | exact ⟨k1, k4⟩ | exact ⟨cell_dr k1, cell_dr k4⟩ | exact ⟨cell_al _ k1, cell_al _ k4⟩ | exact ⟨cell_al _ (cell_dr k1), cell_al _ (cell_dr k4)⟩ | exact ⟨cell_al _ (cell_al _ k1), cell_al _ (cell_al _ k4)⟩ | exact ⟨cell_st (by dsimp only; omega) k1, cell_st (by dsimp only; omega) k4⟩ | exact ⟨cell_st (by dsimp only; omega) (cell_dr k1), cell_st (by dsimp only; omega) (cell_dr k4)⟩ | exact ⟨cell_al _ (cell_st (by dsimp only; omega) k1), cell_al _ (cell_st (by dsimp only; omega) k4)⟩ | exact ⟨cell_st (by dsimp only; omega) (cell_st (by dsimp only; omega) k1), cell_st (by dsimp only; omega) (cell_st (by dsimp only; omega) k4)⟩)
    (first
      | (go_at_call 70; (with_reducible refine (Depth_any p _ e2 _ (by first | exact TR.out | exact TR.out.drew) H2.out).mono ?_); rintro e w1 ⟨rfl, st0⟩; have st : Below w0.heap.size w0 w1 := (by first | exact st0 | exact Below.of_dr st0); replace f5 := fro_gr st k5 f5; replace k1 := cell_gr st k1; replace k2 := cell_gr st k2; replace k3 := cell_gr st k3; replace k4 := cell_gr st k4; replace k5 := cell_gr st k5; replace m1 := cell_gr st m1; replace m2 := cell_gr st m2; replace m3 := cell_gr st m3; replace m4 := cell_gr st m4; replace TN := Lib.hid (TN.out.grow st); replace TA := Lib.hid (TA.out.grow st); replace TC := Lib.hid (TC.out.grow st); replace TR := Lib.hid (TR.out.grow st); replace BL := Lib.hid (BL.out.trans (st.mono BL.out.size)); replace sz := Nat.lt_of_lt_of_le sz st.size; clear st st0)
      | (go_at_call 70; (with_reducible refine (Depth_any (some ⟨b, 0, none⟩) _ e1 _ (by first | exact TN.out | exact TN.out.drew) H1.out).mono ?_); rintro e w2 ⟨rfl, st0⟩; have st : Below w1.heap.size w1 w2 := (by first | exact st0 | exact Below.of_dr st0); replace f5 := fro_gr st k5 f5; replace k1 := cell_gr st k1; replace k2 := cell_gr st k2; replace k3 := cell_gr st k3; replace k4 := cell_gr st k4; replace k5 := cell_gr st k5; replace m1 := cell_gr st m1; replace m2 := cell_gr st m2; replace m3 := cell_gr st m3; replace m4 := cell_gr st m4; replace TN := Lib.hid (TN.out.grow st); replace TA := Lib.hid (TA.out.grow st); replace TC := Lib.hid (TC.out.grow st); replace TR := Lib.hid (TR.out.grow st); replace BL := Lib.hid (BL.out.trans (st.mono BL.out.size)); replace sz := Nat.lt_of_lt_of_le sz st.size; clear st st0))
  go_wp2_with fail
  go_region_held3 (fun w' => w'.cell? ⟨w.heap.size, 0, none⟩ = some (.pointer p) ∧ w'.cell? ⟨w.heap.size + 1 + 1, 0, none⟩ = some (.pointer (some ⟨b, 0, none⟩)))
    (first | exact ⟨k1, k4⟩ | exact ⟨cell_dr k1, cell_dr k4⟩ | exact ⟨cell_al _ k1, cell_al _ k4⟩ | exact ⟨cell_al _ (cell_dr k1), cell_al _ (cell_dr k4)⟩ | exact ⟨cell_al _ (cell_al _ k1), cell_al _ (cell_al _ k4)⟩ | exact ⟨cell_st (by dsimp only; omega) k1, cell_st (by dsimp only; omega) k4⟩ | exact ⟨cell_st (by dsimp only; omega) (cell_dr k1), cell_st (by dsimp only; omega) (cell_dr k4)⟩ | exact ⟨cell_al _ (cell_st (by dsimp only; omega) k1), cell_al _ (cell_st (by dsimp only; omega) k4)⟩ | exact ⟨cell_st (by dsimp only; omega) (cell_st (by dsimp only; omega) k1), cell_st (by dsimp only; omega) (cell_st (by dsimp only; omega) k4)⟩)
    (first
      | (go_at_call 70; (with_reducible refine (Depth_any (some ⟨b, 0, none⟩) _ e1 _ (by first | exact TN.out | exact TN.out.drew) H1.out).mono ?_); rintro e w3 ⟨rfl, st0⟩; have st : Below w2.heap.size w2 w3 := (by first | exact st0 | exact Below.of_dr st0); replace f5 := fro_gr st k5 f5; replace k1 := cell_gr st k1; replace k2 := cell_gr st k2; replace k3 := cell_gr st k3; replace k4 := cell_gr st k4; replace k5 := cell_gr st k5; replace m1 := cell_gr st m1; replace m2 := cell_gr st m2; replace m3 := cell_gr st m3; replace m4 := cell_gr st m4; replace TN := Lib.hid (TN.out.grow st); replace TA := Lib.hid (TA.out.grow st); replace TC := Lib.hid (TC.out.grow st); replace TR := Lib.hid (TR.out.grow st); replace BL := Lib.hid (BL.out.trans (st.mono BL.out.size)); replace sz := Nat.lt_of_lt_of_le sz st.size; clear st st0)
      | (go_at_call 70; (with_reducible refine (Depth_any p _ e2 _ (by first | exact TR.out | exact TR.out.drew) H2.out).mono ?_); rintro e w4 ⟨rfl, st0⟩; have st : Below w3.heap.size w3 w4 := (by first | exact st0 | exact Below.of_dr st0); replace f5 := fro_gr st k5 f5; replace k1 := cell_gr st k1; replace k2 := cell_gr st k2; replace k3 := cell_gr st k3; replace k4 := cell_gr st k4; replace k5 := cell_gr st k5; replace m1 := cell_gr st m1; replace m2 := cell_gr st m2; replace m3 := cell_gr st m3; replace m4 := cell_gr st m4; replace TN := Lib.hid (TN.out.grow st); replace TA := Lib.hid (TA.out.grow st); replace TC := Lib.hid (TC.out.grow st); replace TR := Lib.hid (TR.out.grow st); replace BL := Lib.hid (BL.out.trans (st.mono BL.out.size)); replace sz := Nat.lt_of_lt_of_le sz st.size; clear st st0))
  go_wp2_with fail
  go_region_held3 (fun w' => w'.cell? ⟨w.heap.size, 0, none⟩ = some (.pointer p) ∧ w'.cell? ⟨w.heap.size + 1, 0, none⟩ = some (kx) ∧ w'.cell? ⟨w.heap.size + 1, 1, none⟩ = some (v) ∧ w'.cell? ⟨b, 0, none⟩ = some (knx) ∧ w'.cell? ⟨b, 1, none⟩ = some (vn) ∧ w'.cell? ⟨b, 2, none⟩ = some (.pointer pa) ∧ w'.cell? ⟨b, 3, none⟩ = some (.pointer pc))
    (first | exact ⟨k1, k2, k3, m1, m2, m3, m4⟩ | exact ⟨cell_dr k1, cell_dr k2, cell_dr k3, cell_dr m1, cell_dr m2, cell_dr m3, cell_dr m4⟩ | exact ⟨cell_al _ k1, cell_al _ k2, cell_al _ k3, cell_al _ m1, cell_al _ m2, cell_al _ m3, cell_al _ m4⟩ | exact ⟨cell_al _ (cell_dr k1), cell_al _ (cell_dr k2), cell_al _ (cell_dr k3), cell_al _ (cell_dr m1), cell_al _ (cell_dr m2), cell_al _ (cell_dr m3), cell_al _ (cell_dr m4)⟩ | exact ⟨cell_al _ (cell_al _ k1), cell_al _ (cell_al _ k2), cell_al _ (cell_al _ k3), cell_al _ (cell_al _ m1), cell_al _ (cell_al _ m2), cell_al _ (cell_al _ m3), cell_al _ (cell_al _ m4)⟩ | exact ⟨cell_st (by dsimp only; omega) k1, cell_st (by dsimp only; omega) k2, cell_st (by dsimp only; omega) k3, cell_st (by dsimp only; omega) m1, cell_st (by dsimp only; omega) m2, cell_st (by dsimp only; omega) m3, cell_st (by dsimp only; omega) m4⟩ | exact ⟨cell_st (by dsimp only; omega) (cell_dr k1), cell_st (by dsimp only; omega) (cell_dr k2), cell_st (by dsimp only; omega) (cell_dr k3), cell_st (by dsimp only; omega) (cell_dr m1), cell_st (by dsimp only; omega) (cell_dr m2), cell_st (by dsimp only; omega) (cell_dr m3), cell_st (by dsimp only; omega) (cell_dr m4)⟩ | exact ⟨cell_al _ (cell_st (by dsimp only; omega) k1), cell_al _ (cell_st (by dsimp only; omega) k2), cell_al _ (cell_st (by dsimp only; omega) k3), cell_al _ (cell_st (by dsimp only; omega) m1), cell_al _ (cell_st (by dsimp only; omega) m2), cell_al _ (cell_st (by dsimp only; omega) m3), cell_al _ (cell_st (by dsimp only; omega) m4)⟩ | exact ⟨cell_st (by dsimp only; omega) (cell_st (by dsimp only; omega) k1), cell_st (by dsimp only; omega) (cell_st (by dsimp only; omega) k2), cell_st (by dsimp only; omega) (cell_st (by dsimp only; omega) k3), cell_st (by dsimp only; omega) (cell_st (by dsimp only; omega) m1), cell_st (by dsimp only; omega) (cell_st (by dsimp only; omega) m2), cell_st (by dsimp only; omega) (cell_st (by dsimp only; omega) m3), cell_st (by dsimp only; omega) (cell_st (by dsimp only; omega) m4)⟩)
    (first
      | (go_at_call 69; (with_reducible refine (IH.out p pa _ (by first | exact TR.out | exact TR.out.drew) (by first | exact TA.out | exact TA.out.drew)).mono ?_); rintro e w5 ⟨x1, u1, rfl, a1, g1, st0⟩; have st : Below w4.heap.size w4 w5 := (by first | exact st0 | exact Below.of_dr st0); replace f5 := fro_gr st k5 f5; replace k1 := cell_gr st k1; replace k2 := cell_gr st k2; replace k3 := cell_gr st k3; replace k4 := cell_gr st k4; replace k5 := cell_gr st k5; replace m1 := cell_gr st m1; replace m2 := cell_gr st m2; replace m3 := cell_gr st m3; replace m4 := cell_gr st m4; replace TN := Lib.hid (TN.out.grow st); replace TA := Lib.hid (TA.out.grow st); replace TC := Lib.hid (TC.out.grow st); replace TR := Lib.hid (TR.out.grow st); replace BL := Lib.hid (BL.out.trans (st.mono BL.out.size)); replace sz := Nat.lt_of_lt_of_le sz st.size; clear st st0; have X1 := Lib.hid a1; clear a1; have G1 := Lib.hid g1; clear g1)
      | (go_at_call 95; (with_reducible refine (level_any x1 pc _ _ kn knx vn _ HN.out (by first | exact X1.out | exact X1.out.drew) (by first | exact TC.out | exact TC.out.drew) G1.out.avl (by have z := AN.out; simp only [Tr.Avl] at z; exact z.2.1) (by have z := AN.out; have y := D1.out; have g := G1.out; have := g.lo; have := g.hi; simp only [Tr.Avl, Tr.dep] at *; omega) (by have z := AN.out; have y := D1.out; have g := G1.out; have := g.lo; have := g.hi; simp only [Tr.Avl, Tr.dep] at *; omega) (by have z := HZ.out; have g := G1.out.sz; simp only [Tr.sz] at z ⊢; omega)).mono ?_); rintro e w6 ⟨x2, u2, rfl, a2, g2, st0⟩; have st : Below w5.heap.size w5 w6 := (by first | exact st0 | exact Below.of_dr st0); replace f5 := fro_gr st k5 f5; replace k1 := cell_gr st k1; replace k2 := cell_gr st k2; replace k3 := cell_gr st k3; replace k4 := cell_gr st k4; replace k5 := cell_gr st k5; replace m1 := cell_gr st m1; replace m2 := cell_gr st m2; replace m3 := cell_gr st m3; replace m4 := cell_gr st m4; replace TN := Lib.hid (TN.out.grow st); replace TA := Lib.hid (TA.out.grow st); replace TC := Lib.hid (TC.out.grow st); replace TR := Lib.hid (TR.out.grow st); replace X1 := Lib.hid (X1.out.grow st); replace BL := Lib.hid (BL.out.trans (st.mono BL.out.size)); replace sz := Nat.lt_of_lt_of_le sz st.size; clear st st0; have X2 := Lib.hid a2; clear a2; have G2 := Lib.hid g2; clear g2))
  have HQ := Lib.hid (lk_r AN.out D1.out G1.out G2.out)
  clear HK HN HZ H1 H2 TN TA TC TR AN AR D1 IH
  have FIN := Lib.hid (MapR.set (c := w.heap.size + 1 + 1 + 1) (.pointer x2) k5 X2.out HQ.out BL.out (by omega))
  clear BL
  go_wp2_with fail
  exact bodyPost_ret (v := .agg #[.pointer x2]) (by simp [results, Try.results69, go_sem, k5, sz]) rfl FIN.out
theorem link_all (k : Int) (kx v : Value) (hk : IsKV k kx v) : ∀ (n : Nat) (l r : Tr Int Value), l.sz + r.sz ≤ n → l.Avl → r.Avl → l.sz + 1 + r.sz ≤ 2 ^ 59 → ∀ (p q : Option Addr) (w : World), At w p l → At w q r →
    Calls Try.prog 69 #[.agg #[.pointer p], .agg #[kx, v], .agg #[.pointer q]] w (MapR w (LkQ l k v r)) := by
  intro n
  induction n with
  | zero =>
    intro l r hn al ar hz p q w hl hr
    have := l.dep_le; have := r.dep_le
    exact link_t p q l r k kx v w hk hl hr al ar (by omega) (by omega) hz
  | succ n ih =>
    intro l r hn al ar hz p q w hl hr
    by_cases g1 : r.dep + 1 < l.dep
    · obtain ⟨b, kn, vn, pa, pc, a, c, rfl, rfl, ov, m1, m2, m3, m4, ha, hc⟩ := hl.nonnil (by omega)
      have IH := Lib.hid (fun x y W hx hy => ih c r (by simp only [Tr.sz] at hn; omega) (by simp only [Tr.Avl] at al; exact al.2.1) ar (by simp only [Tr.sz] at hz; omega) x y W hx hy)
      exact link_l b pa pc q a c r k kn kx v (KV.kv kn) vn w hk ⟨rfl, ov⟩ IH m1 m2 m3 m4 hl ha hc hr al ar g1 hz
    · by_cases g2 : l.dep + 1 < r.dep
      · obtain ⟨b, kn, vn, pa, pc, a, c, rfl, rfl, ov, m1, m2, m3, m4, ha, hc⟩ := hr.nonnil (by omega)
        have IH := Lib.hid (fun x y W hx hy => ih l a (by simp only [Tr.sz] at hn; omega) al (by simp only [Tr.Avl] at ar; exact ar.1) (by simp only [Tr.sz] at hz; omega) x y W hx hy)
        exact link_r b pa pc p a c l k kn kx v (KV.kv kn) vn w hk ⟨rfl, ov⟩ IH m1 m2 m3 m4 hr ha hc hl ar al g2 (by omega)
      · exact link_t p q l r k kx v w hk hl hr al ar (by omega) (by omega) hz
theorem link_any (p q : Option Addr) (l r : Tr Int Value) (k : Int) (kx v : Value) (w : World) (hk : IsKV k kx v) (hl : At w p l) (hr : At w q r) (al : l.Avl) (ar : r.Avl) (hz : l.sz + 1 + r.sz ≤ 2 ^ 59) :
    Calls Try.prog 69 #[.agg #[.pointer p], .agg #[kx, v], .agg #[.pointer q]] w (MapR w (LkQ l k v r)) :=
  link_all k kx v hk _ l r (Nat.le_refl _) al ar hz p q w hl hr
end Go.Proofs.Ytbphmcjjanchlaa.Mii
