/- Delete. -/
import Derived.Test.YtbphmcjjanchlaaK6
namespace Go.Proofs.Ytbphmcjjanchlaa.Mii
open Go.RowKit
set_option linter.unusedVariables false
set_option linter.unusedSimpArgs false

theorem DelR.alloc {w W : World} {t : Tr Int Value} {k : Int} {e : Ending} (o : Obj) (h : DelR w t k e W) : DelR w t k e (W.alloc o) := by
  obtain ⟨q, t', f, he, a, g, b⟩ := h
  exact ⟨q, t', f, he, a.alloc o, g, b.alloc b.size o⟩
/-- A parameter in its box, and the result's. -/
structure Box2 (w : World) (p : Option Addr) (w2 : World) : Prop where
  c1 : w2.cell? ⟨w.heap.size, 0, none⟩ = some (.pointer p)
  c2 : w2.cell? ⟨w.heap.size + 1, 0, none⟩ = some (.pointer none)
  f2 : w2.frozen? ⟨w.heap.size + 1, 0, none⟩ = false
  sz : w.heap.size + 1 < w2.heap.size
  bel : Below w.heap.size w w2
theorem box2 (w : World) (p : Option Addr) : ∀ w2, ((w.alloc (Obj.cells #[Value.pointer p] 35)).alloc (Obj.cells #[Value.pointer none] 35)) = w2 → Box2 w p w2 := fun w2 e => by
  subst e
  exact ⟨by simp [go_sem], by simp [go_sem], by simp [go_sem], by simp, ((Below.refl _ w).alloc (Nat.le_refl _) _).alloc (by simp) _⟩
theorem delete_nil (k : Int) (w : World) : Calls Try.prog 36 #[.agg #[.pointer none], (.int .i64 k : Value)] w (DelR w (.nil : Tr Int Value) k) := by
  have FIN := Lib.hid (fun W (h : Box2 w none W) => (show DelR w (.nil : Tr Int Value) k (.returned (.tuple #[.agg #[.pointer none], .bool false])) W from ⟨none, .nil, false, rfl, rfl, ⟨trivial, ⟨Asc.nil, fun q => by simp [Tr.rows, val_nil]⟩, rfl, rfl⟩, h.bel⟩))
  have HB := Lib.hid (box2 w none)
  go_enter Try.func36, Try.ntmps36
  go_wp2_with fail
  refine bodyPost_ret (v := .tuple #[.agg #[.pointer none], .bool false]) (by simp [results, Try.results36, go_sem]) rfl ?_
  have := FIN.out _ (HB.out _ rfl)
  exact this
set_option maxRecDepth 100000 in
set_option maxHeartbeats 1000000 in
theorem delete_lt (b : Nat) (pl pr : Option Addr) (l r : Tr Int Value) (k kn : Int) (v : Value) (w : World) (hv : v.oneCell' = true)
    (m1 : w.cell? ⟨b, 0, none⟩ = some (.int .i64 kn)) (m2 : w.cell? ⟨b, 1, none⟩ = some v) (m3 : w.cell? ⟨b, 2, none⟩ = some (.pointer pl)) (m4 : w.cell? ⟨b, 3, none⟩ = some (.pointer pr)) (hn : At w (some ⟨b, 0, none⟩) (.node kn v l r)) (hl : At w pl l) (hr : At w pr r)
    (an : Tr.Avl (.node kn v l r)) (sa : Asc (Tr.node kn v l r).rows) (hc : KO.lt k kn) (hz : Tr.sz (.node kn v l r) ≤ 2 ^ 58)
    (IH : Hid (∀ (x : Option Addr) (W : World), At W x l → Calls Try.prog 36 #[.agg #[.pointer x], (.int .i64 k : Value)] W (DelR W l k))) :
    Calls Try.prog 36 #[.agg #[.pointer (some ⟨b, 0, none⟩)], (.int .i64 k : Value)] w (DelR w (.node kn v l r) k) := by
  have hb : b < w.heap.size := World.block_lt_of_cell? w _ m1
  have HK : Hid (IsKV kn (.int .i64 kn : Value) v) := ⟨rfl, hv⟩
  have HV := Lib.hid hv
  have TN := Lib.hid hn
  have TL := Lib.hid hl
  have TR := Lib.hid hr
  have AN := Lib.hid an
  have AS := Lib.hid sa
  have HZ := Lib.hid hz
  have t1 : decide (k < kn) = true := decide_eq_true (hc)
  have HC := Lib.hid hc
  have HB := Lib.hid (box2 w (some ⟨b, 0, none⟩))
  clear hn hl hr an sa hz hv hc
  go_enter Try.func36, Try.ntmps36
  go_wp2_with fail
  generalize e2 : ((w.alloc (Obj.cells #[Value.pointer (some ⟨b, 0, none⟩)] 35)).alloc (Obj.cells #[Value.pointer none] 35)) = w0
  obtain ⟨k1, k2, f2, sz, bel⟩ := HB.out w0 e2
  have BL := Lib.hid bel
  replace TN := Lib.hid (TN.out.below bel (Nat.le_refl _))
  replace TL := Lib.hid (TL.out.below bel (Nat.le_refl _))
  replace TR := Lib.hid (TR.out.below bel (Nat.le_refl _))
  replace m1 := cell_gr bel m1
  replace m2 := cell_gr bel m2
  replace m3 := cell_gr bel m3
  replace m4 := cell_gr bel m4
  clear HB e2 bel
  refine (IH.out pl _ TL.out).mono ?_
  rintro e w1 ⟨x1, u1, f, rfl, a1, g1, st0⟩
  have st : Below w0.heap.size w0 w1 := (by first | exact st0 | exact Below.of_dr st0)
  replace f2 := fro_gr st k2 f2
  replace k1 := cell_gr st k1
  replace k2 := cell_gr st k2
  replace m1 := cell_gr st m1
  replace m2 := cell_gr st m2
  replace m3 := cell_gr st m3
  replace m4 := cell_gr st m4
  replace TN := Lib.hid (TN.out.grow st)
  replace TL := Lib.hid (TL.out.grow st)
  replace TR := Lib.hid (TR.out.grow st)
  replace BL := Lib.hid (BL.out.trans (st.mono BL.out.size))
  replace sz := Nat.lt_of_lt_of_le sz st.size
  clear st st0
  have T1 := Lib.hid a1
  have G1 := Lib.hid g1
  have z0 : w.heap.size < w1.heap.size := by omega
  have zb : b < w1.heap.size := World.block_lt_of_cell? w1 _ m1
  clear a1 g1 IH
  cases f with
  | false =>
    have hnone : val (Tr.node kn v l r).rows k = none := by
      have h := G1.out.2.2.2
      rw [show val (Tr.node kn v l r).rows k = val l.rows k from val_lt AS.out HC.out]
      cases e : val l.rows k <;> simp [e] at h ⊢
    have FIN := Lib.hid ((DelR.set (c := w.heap.size + 1) (k := k) (f := false) (.pointer (some ⟨b, 0, none⟩)) k2 TN.out ⟨AN.out, del_same AS.out hnone, rfl, by rw [hnone]; rfl⟩ BL.out (by omega)).alloc (Obj.cells #[Value.pointer x1] 35))
    clear hnone TN TL TR T1 G1 BL AN AS HC HK HV HZ
    go_wp2_with fail
    exact bodyPost_ret (v := .tuple #[.agg #[.pointer (some ⟨b, 0, none⟩)], .bool false]) (by simp [results, Try.results36, go_sem, k2, sz]) rfl FIN.out
  | true =>
    have st0 := (Below.refl w1.heap.size w1).alloc (Nat.le_refl _) (Obj.cells #[Value.pointer x1] 35)
    have HD : Hid (∀ W, w1.alloc (Obj.cells #[Value.pointer x1] 35) = W → Below w1.heap.size w1 W ∧ W.cell? ⟨w1.heap.size, 0, none⟩ = some (.pointer x1)) := Lib.hid (fun W e => by subst e; exact ⟨st0, by simp [go_sem]⟩)
    clear st0
    go_wp2_with fail
    generalize e4 : w1.alloc (Obj.cells #[Value.pointer x1] 35) = w2
    obtain ⟨st0, c7⟩ := HD.out w2 e4
    have z7 : w.heap.size + 1 < w1.heap.size := sz
    clear HD e4
    have st : Below w1.heap.size w1 w2 := (by first | exact st0 | exact Below.of_dr st0)
    replace f2 := fro_gr st k2 f2
    replace k1 := cell_gr st k1
    replace k2 := cell_gr st k2
    replace m1 := cell_gr st m1
    replace m2 := cell_gr st m2
    replace m3 := cell_gr st m3
    replace m4 := cell_gr st m4
    replace TN := Lib.hid (TN.out.grow st)
    replace TL := Lib.hid (TL.out.grow st)
    replace TR := Lib.hid (TR.out.grow st)
    replace T1 := Lib.hid (T1.out.grow st)
    replace BL := Lib.hid (BL.out.trans (st.mono BL.out.size))
    replace sz := Nat.lt_of_lt_of_le sz st.size
    clear st st0
    go_region_held3 (fun w' => w'.cell? ⟨w1.heap.size, 0, none⟩ = some (.pointer x1) ∧ w'.cell? ⟨b, 0, none⟩ = some (.int .i64 kn) ∧ w'.cell? ⟨b, 1, none⟩ = some (v) ∧ w'.cell? ⟨b, 3, none⟩ = some (.pointer pr))
      (first | exact ⟨c7, m1, m2, m4⟩ | exact ⟨cell_dr c7, cell_dr m1, cell_dr m2, cell_dr m4⟩ | exact ⟨cell_al _ c7, cell_al _ m1, cell_al _ m2, cell_al _ m4⟩ | exact ⟨cell_al _ (cell_dr c7), cell_al _ (cell_dr m1), cell_al _ (cell_dr m2), cell_al _ (cell_dr m4)⟩ | exact ⟨cell_al _ (cell_al _ c7), cell_al _ (cell_al _ m1), cell_al _ (cell_al _ m2), cell_al _ (cell_al _ m4)⟩ | exact ⟨cell_st (by dsimp only; omega) c7, cell_st (by dsimp only; omega) m1, cell_st (by dsimp only; omega) m2, cell_st (by dsimp only; omega) m4⟩ | exact ⟨cell_st (by dsimp only; omega) (cell_dr c7), cell_st (by dsimp only; omega) (cell_dr m1), cell_st (by dsimp only; omega) (cell_dr m2), cell_st (by dsimp only; omega) (cell_dr m4)⟩ | exact ⟨cell_al _ (cell_st (by dsimp only; omega) c7), cell_al _ (cell_st (by dsimp only; omega) m1), cell_al _ (cell_st (by dsimp only; omega) m2), cell_al _ (cell_st (by dsimp only; omega) m4)⟩ | exact ⟨cell_st (by dsimp only; omega) (cell_st (by dsimp only; omega) c7), cell_st (by dsimp only; omega) (cell_st (by dsimp only; omega) m1), cell_st (by dsimp only; omega) (cell_st (by dsimp only; omega) m2), cell_st (by dsimp only; omega) (cell_st (by dsimp only; omega) m4)⟩)
      (first
        | (go_at_call 69; (with_reducible refine (link_any x1 pr u1 r kn (.int .i64 kn) v _ HK.out (by first | exact T1.out | exact T1.out.drew) (by first | exact TR.out | exact TR.out.drew) G1.out.1 (by have z := AN.out; simp only [Tr.Avl] at z; exact z.2.1) (by have z := HZ.out; have g := G1.out.2.2.1; simp only [Tr.sz] at z; simp at g; omega)).mono ?_); rintro e w3 ⟨x3, u3, rfl, a3, g3, st0⟩; have st : Below w2.heap.size w2 w3 := (by first | exact st0 | exact Below.of_dr st0); replace f2 := fro_gr st k2 f2; replace k1 := cell_gr st k1; replace k2 := cell_gr st k2; replace m1 := cell_gr st m1; replace m2 := cell_gr st m2; replace m3 := cell_gr st m3; replace m4 := cell_gr st m4; replace c7 := cell_gr st c7; replace TN := Lib.hid (TN.out.grow st); replace TL := Lib.hid (TL.out.grow st); replace TR := Lib.hid (TR.out.grow st); replace T1 := Lib.hid (T1.out.grow st); replace BL := Lib.hid (BL.out.trans (st.mono BL.out.size)); replace sz := Nat.lt_of_lt_of_le sz st.size; clear st st0; have T3 := Lib.hid a3; clear a3; have G3 := Lib.hid g3; clear g3))
    have FIN := Lib.hid (DelR.set (c := w.heap.size + 1) (k := k) (t := .node kn v l r) (f := true) (.pointer x3) k2 T3.out ⟨G3.out.avl, by rw [G3.out.rows]; exact del_lt AS.out HC.out G1.out.2.1, by have h := G3.out.sz; have g := G1.out.2.2.1; simp only [Tr.sz]; simp at g ⊢; omega, by rw [show val (Tr.node kn v l r).rows k = val l.rows k from val_lt AS.out HC.out]; exact G1.out.2.2.2⟩ BL.out (by omega))
    clear TN TL TR T1 T3 G1 G3 BL AN AS HC HK HV HZ
    go_wp2_with fail
    exact bodyPost_ret (v := .tuple #[.agg #[.pointer x3], .bool true]) (by simp [results, Try.results36, go_sem, k2, sz]) rfl FIN.out
set_option maxRecDepth 100000 in
set_option maxHeartbeats 1000000 in
theorem delete_gt (b : Nat) (pl pr : Option Addr) (l r : Tr Int Value) (k kn : Int) (v : Value) (w : World) (hv : v.oneCell' = true)
    (m1 : w.cell? ⟨b, 0, none⟩ = some (.int .i64 kn)) (m2 : w.cell? ⟨b, 1, none⟩ = some v) (m3 : w.cell? ⟨b, 2, none⟩ = some (.pointer pl)) (m4 : w.cell? ⟨b, 3, none⟩ = some (.pointer pr)) (hn : At w (some ⟨b, 0, none⟩) (.node kn v l r)) (hl : At w pl l) (hr : At w pr r)
    (an : Tr.Avl (.node kn v l r)) (sa : Asc (Tr.node kn v l r).rows) (hc : KO.lt kn k) (hz : Tr.sz (.node kn v l r) ≤ 2 ^ 58)
    (IH : Hid (∀ (x : Option Addr) (W : World), At W x r → Calls Try.prog 36 #[.agg #[.pointer x], (.int .i64 k : Value)] W (DelR W r k))) :
    Calls Try.prog 36 #[.agg #[.pointer (some ⟨b, 0, none⟩)], (.int .i64 k : Value)] w (DelR w (.node kn v l r) k) := by
  have hb : b < w.heap.size := World.block_lt_of_cell? w _ m1
  have HK : Hid (IsKV kn (.int .i64 kn : Value) v) := ⟨rfl, hv⟩
  have HV := Lib.hid hv
  have TN := Lib.hid hn
  have TL := Lib.hid hl
  have TR := Lib.hid hr
  have AN := Lib.hid an
  have AS := Lib.hid sa
  have HZ := Lib.hid hz
  have t1 : decide (k < kn) = false := decide_eq_false (KO.asym hc)
  have t2 : decide (kn < k) = true := decide_eq_true (hc)
  have HC := Lib.hid hc
  have HB := Lib.hid (box2 w (some ⟨b, 0, none⟩))
  clear hn hl hr an sa hz hv hc
  go_enter Try.func36, Try.ntmps36
  go_wp2_with fail
  generalize e2 : ((w.alloc (Obj.cells #[Value.pointer (some ⟨b, 0, none⟩)] 35)).alloc (Obj.cells #[Value.pointer none] 35)) = w0
  obtain ⟨k1, k2, f2, sz, bel⟩ := HB.out w0 e2
  have BL := Lib.hid bel
  replace TN := Lib.hid (TN.out.below bel (Nat.le_refl _))
  replace TL := Lib.hid (TL.out.below bel (Nat.le_refl _))
  replace TR := Lib.hid (TR.out.below bel (Nat.le_refl _))
  replace m1 := cell_gr bel m1
  replace m2 := cell_gr bel m2
  replace m3 := cell_gr bel m3
  replace m4 := cell_gr bel m4
  clear HB e2 bel
  refine (IH.out pr _ TR.out).mono ?_
  rintro e w1 ⟨x1, u1, f, rfl, a1, g1, st0⟩
  have st : Below w0.heap.size w0 w1 := (by first | exact st0 | exact Below.of_dr st0)
  replace f2 := fro_gr st k2 f2
  replace k1 := cell_gr st k1
  replace k2 := cell_gr st k2
  replace m1 := cell_gr st m1
  replace m2 := cell_gr st m2
  replace m3 := cell_gr st m3
  replace m4 := cell_gr st m4
  replace TN := Lib.hid (TN.out.grow st)
  replace TL := Lib.hid (TL.out.grow st)
  replace TR := Lib.hid (TR.out.grow st)
  replace BL := Lib.hid (BL.out.trans (st.mono BL.out.size))
  replace sz := Nat.lt_of_lt_of_le sz st.size
  clear st st0
  have T1 := Lib.hid a1
  have G1 := Lib.hid g1
  have z0 : w.heap.size < w1.heap.size := by omega
  have zb : b < w1.heap.size := World.block_lt_of_cell? w1 _ m1
  clear a1 g1 IH
  cases f with
  | false =>
    have hnone : val (Tr.node kn v l r).rows k = none := by
      have h := G1.out.2.2.2
      rw [show val (Tr.node kn v l r).rows k = val r.rows k from val_gt AS.out HC.out]
      cases e : val r.rows k <;> simp [e] at h ⊢
    have FIN := Lib.hid ((DelR.set (c := w.heap.size + 1) (k := k) (f := false) (.pointer (some ⟨b, 0, none⟩)) k2 TN.out ⟨AN.out, del_same AS.out hnone, rfl, by rw [hnone]; rfl⟩ BL.out (by omega)).alloc (Obj.cells #[Value.pointer x1] 35))
    clear hnone TN TL TR T1 G1 BL AN AS HC HK HV HZ
    go_wp2_with fail
    exact bodyPost_ret (v := .tuple #[.agg #[.pointer (some ⟨b, 0, none⟩)], .bool false]) (by simp [results, Try.results36, go_sem, k2, sz]) rfl FIN.out
  | true =>
    have st0 := (Below.refl w1.heap.size w1).alloc (Nat.le_refl _) (Obj.cells #[Value.pointer x1] 35)
    have HD : Hid (∀ W, w1.alloc (Obj.cells #[Value.pointer x1] 35) = W → Below w1.heap.size w1 W ∧ W.cell? ⟨w1.heap.size, 0, none⟩ = some (.pointer x1)) := Lib.hid (fun W e => by subst e; exact ⟨st0, by simp [go_sem]⟩)
    clear st0
    go_wp2_with fail
    generalize e4 : w1.alloc (Obj.cells #[Value.pointer x1] 35) = w2
    obtain ⟨st0, c7⟩ := HD.out w2 e4
    have z7 : w.heap.size + 1 < w1.heap.size := sz
    clear HD e4
    have st : Below w1.heap.size w1 w2 := (by first | exact st0 | exact Below.of_dr st0)
    replace f2 := fro_gr st k2 f2
    replace k1 := cell_gr st k1
    replace k2 := cell_gr st k2
    replace m1 := cell_gr st m1
    replace m2 := cell_gr st m2
    replace m3 := cell_gr st m3
    replace m4 := cell_gr st m4
    replace TN := Lib.hid (TN.out.grow st)
    replace TL := Lib.hid (TL.out.grow st)
    replace TR := Lib.hid (TR.out.grow st)
    replace T1 := Lib.hid (T1.out.grow st)
    replace BL := Lib.hid (BL.out.trans (st.mono BL.out.size))
    replace sz := Nat.lt_of_lt_of_le sz st.size
    clear st st0
    go_region_held3 (fun w' => w'.cell? ⟨w1.heap.size, 0, none⟩ = some (.pointer x1) ∧ w'.cell? ⟨b, 0, none⟩ = some (.int .i64 kn) ∧ w'.cell? ⟨b, 1, none⟩ = some (v) ∧ w'.cell? ⟨b, 2, none⟩ = some (.pointer pl))
      (first | exact ⟨c7, m1, m2, m3⟩ | exact ⟨cell_dr c7, cell_dr m1, cell_dr m2, cell_dr m3⟩ | exact ⟨cell_al _ c7, cell_al _ m1, cell_al _ m2, cell_al _ m3⟩ | exact ⟨cell_al _ (cell_dr c7), cell_al _ (cell_dr m1), cell_al _ (cell_dr m2), cell_al _ (cell_dr m3)⟩ | exact ⟨cell_al _ (cell_al _ c7), cell_al _ (cell_al _ m1), cell_al _ (cell_al _ m2), cell_al _ (cell_al _ m3)⟩ | exact ⟨cell_st (by dsimp only; omega) c7, cell_st (by dsimp only; omega) m1, cell_st (by dsimp only; omega) m2, cell_st (by dsimp only; omega) m3⟩ | exact ⟨cell_st (by dsimp only; omega) (cell_dr c7), cell_st (by dsimp only; omega) (cell_dr m1), cell_st (by dsimp only; omega) (cell_dr m2), cell_st (by dsimp only; omega) (cell_dr m3)⟩ | exact ⟨cell_al _ (cell_st (by dsimp only; omega) c7), cell_al _ (cell_st (by dsimp only; omega) m1), cell_al _ (cell_st (by dsimp only; omega) m2), cell_al _ (cell_st (by dsimp only; omega) m3)⟩ | exact ⟨cell_st (by dsimp only; omega) (cell_st (by dsimp only; omega) c7), cell_st (by dsimp only; omega) (cell_st (by dsimp only; omega) m1), cell_st (by dsimp only; omega) (cell_st (by dsimp only; omega) m2), cell_st (by dsimp only; omega) (cell_st (by dsimp only; omega) m3)⟩)
      (first
        | (go_at_call 69; (with_reducible refine (link_any pl x1 l u1 kn (.int .i64 kn) v _ HK.out (by first | exact TL.out | exact TL.out.drew) (by first | exact T1.out | exact T1.out.drew) (by have z := AN.out; simp only [Tr.Avl] at z; exact z.1) G1.out.1 (by have z := HZ.out; have g := G1.out.2.2.1; simp only [Tr.sz] at z; simp at g; omega)).mono ?_); rintro e w3 ⟨x3, u3, rfl, a3, g3, st0⟩; have st : Below w2.heap.size w2 w3 := (by first | exact st0 | exact Below.of_dr st0); replace f2 := fro_gr st k2 f2; replace k1 := cell_gr st k1; replace k2 := cell_gr st k2; replace m1 := cell_gr st m1; replace m2 := cell_gr st m2; replace m3 := cell_gr st m3; replace m4 := cell_gr st m4; replace c7 := cell_gr st c7; replace TN := Lib.hid (TN.out.grow st); replace TL := Lib.hid (TL.out.grow st); replace TR := Lib.hid (TR.out.grow st); replace T1 := Lib.hid (T1.out.grow st); replace BL := Lib.hid (BL.out.trans (st.mono BL.out.size)); replace sz := Nat.lt_of_lt_of_le sz st.size; clear st st0; have T3 := Lib.hid a3; clear a3; have G3 := Lib.hid g3; clear g3))
    have FIN := Lib.hid (DelR.set (c := w.heap.size + 1) (k := k) (t := .node kn v l r) (f := true) (.pointer x3) k2 T3.out ⟨G3.out.avl, by rw [G3.out.rows]; exact del_gt AS.out HC.out G1.out.2.1, by have h := G3.out.sz; have g := G1.out.2.2.1; simp only [Tr.sz]; simp at g ⊢; omega, by rw [show val (Tr.node kn v l r).rows k = val r.rows k from val_gt AS.out HC.out]; exact G1.out.2.2.2⟩ BL.out (by omega))
    clear TN TL TR T1 T3 G1 G3 BL AN AS HC HK HV HZ
    go_wp2_with fail
    exact bodyPost_ret (v := .tuple #[.agg #[.pointer x3], .bool true]) (by simp [results, Try.results36, go_sem, k2, sz]) rfl FIN.out
set_option maxRecDepth 100000 in
set_option maxHeartbeats 1000000 in
theorem delete_eq (b : Nat) (pl pr : Option Addr) (l r : Tr Int Value) (k kn : Int) (v : Value) (w : World) (hv : v.oneCell' = true)
    (m1 : w.cell? ⟨b, 0, none⟩ = some (.int .i64 kn)) (m2 : w.cell? ⟨b, 1, none⟩ = some v) (m3 : w.cell? ⟨b, 2, none⟩ = some (.pointer pl)) (m4 : w.cell? ⟨b, 3, none⟩ = some (.pointer pr)) (hn : At w (some ⟨b, 0, none⟩) (.node kn v l r)) (hl : At w pl l) (hr : At w pr r)
    (an : Tr.Avl (.node kn v l r)) (sa : Asc (Tr.node kn v l r).rows) (hc : k = kn) (hz : Tr.sz (.node kn v l r) ≤ 2 ^ 58)
    (IH : Hid (∀ (x : Option Addr) (k : Int) (W : World), At W x r → Calls Try.prog 36 #[.agg #[.pointer x], KV.kv k] W (DelR W r k))) :
    Calls Try.prog 36 #[.agg #[.pointer (some ⟨b, 0, none⟩)], (.int .i64 k : Value)] w (DelR w (.node kn v l r) k) := by
  have hb : b < w.heap.size := World.block_lt_of_cell? w _ m1
  have HK : Hid (IsKV kn (.int .i64 kn : Value) v) := ⟨rfl, hv⟩
  have HV := Lib.hid hv
  have TN := Lib.hid hn
  have TL := Lib.hid hl
  have TR := Lib.hid hr
  have AN := Lib.hid an
  have AS := Lib.hid sa
  have HZ := Lib.hid hz
  have t1 : decide (k < kn) = false := decide_eq_false ((fun h => KO.ne h hc))
  have t2 : decide (kn < k) = false := decide_eq_false ((fun h => KO.ne h hc.symm))
  have HC := Lib.hid hc
  have HB := Lib.hid (box2 w (some ⟨b, 0, none⟩))
  clear hn hl hr an sa hz hv hc
  go_enter Try.func36, Try.ntmps36
  go_wp2_with fail
  generalize e2 : ((w.alloc (Obj.cells #[Value.pointer (some ⟨b, 0, none⟩)] 35)).alloc (Obj.cells #[Value.pointer none] 35)) = w0
  obtain ⟨k1, k2, f2, sz, bel⟩ := HB.out w0 e2
  have BL := Lib.hid bel
  replace TN := Lib.hid (TN.out.below bel (Nat.le_refl _))
  replace TL := Lib.hid (TL.out.below bel (Nat.le_refl _))
  replace TR := Lib.hid (TR.out.below bel (Nat.le_refl _))
  replace m1 := cell_gr bel m1
  replace m2 := cell_gr bel m2
  replace m3 := cell_gr bel m3
  replace m4 := cell_gr bel m4
  clear HB e2 bel
  go_region_held3 (fun w' => w'.cell? ⟨b, 2, none⟩ = some (.pointer pl) ∧ w'.cell? ⟨b, 3, none⟩ = some (.pointer pr))
    (first | exact ⟨m3, m4⟩ | exact ⟨cell_dr m3, cell_dr m4⟩ | exact ⟨cell_al _ m3, cell_al _ m4⟩ | exact ⟨cell_al _ (cell_dr m3), cell_al _ (cell_dr m4)⟩ | exact ⟨cell_al _ (cell_al _ m3), cell_al _ (cell_al _ m4)⟩ | exact ⟨cell_st (by dsimp only; omega) m3, cell_st (by dsimp only; omega) m4⟩ | exact ⟨cell_st (by dsimp only; omega) (cell_dr m3), cell_st (by dsimp only; omega) (cell_dr m4)⟩ | exact ⟨cell_al _ (cell_st (by dsimp only; omega) m3), cell_al _ (cell_st (by dsimp only; omega) m4)⟩ | exact ⟨cell_st (by dsimp only; omega) (cell_st (by dsimp only; omega) m3), cell_st (by dsimp only; omega) (cell_st (by dsimp only; omega) m4)⟩)
    (first
      | (go_at_call 72; (with_reducible refine (chain_ih pl pr l r _ (by first | exact TL.out | exact TL.out.drew) (by first | exact TR.out | exact TR.out.drew) (by have z := AN.out; simp only [Tr.Avl] at z; exact z.1) (asc_node.1 AS.out).2.1 (by have z := HZ.out; simp only [Tr.sz] at z; omega) IH).mono ?_); rintro e w3 ⟨x3, u3, rfl, a3, g3, st0⟩; have st : Below w0.heap.size w0 w3 := (by first | exact st0 | exact Below.of_dr st0); replace f2 := fro_gr st k2 f2; replace k1 := cell_gr st k1; replace k2 := cell_gr st k2; replace m1 := cell_gr st m1; replace m2 := cell_gr st m2; replace m3 := cell_gr st m3; replace m4 := cell_gr st m4; replace TN := Lib.hid (TN.out.grow st); replace TL := Lib.hid (TL.out.grow st); replace TR := Lib.hid (TR.out.grow st); replace BL := Lib.hid (BL.out.trans (st.mono BL.out.size)); replace sz := Nat.lt_of_lt_of_le sz st.size; clear st st0; have T3 := Lib.hid a3; clear a3; have G3 := Lib.hid g3; clear g3))
  have FIN := Lib.hid (DelR.set (c := w.heap.size + 1) (k := k) (t := .node kn v l r) (f := true) (.pointer x3) k2 T3.out ⟨G3.out.2, by rw [G3.out.1, HC.out]; exact del_eq AS.out, by have h := G3.out.sz; simp only [Tr.sz]; simp; omega, by rw [HC.out, show val (Tr.node kn v l r).rows kn = some v from val_at AS.out]; rfl⟩ BL.out (by omega))
  clear TN TL TR T3 G3 BL AN AS HC HK HV HZ IH
  go_wp2_with fail
  exact bodyPost_ret (v := .tuple #[.agg #[.pointer x3], .bool true]) (by simp [results, Try.results36, go_sem, k2, sz]) rfl FIN.out
theorem delete_all : ∀ (n : Nat) (t : Tr Int Value), t.sz ≤ n → t.Avl → Asc t.rows → t.sz ≤ 2 ^ 58 → ∀ (p : Option Addr) (k : Int) (w : World), At w p t → Calls Try.prog 36 #[.agg #[.pointer p], (.int .i64 k : Value)] w (DelR w t k) := by
  intro n
  induction n with
  | zero =>
    intro t hn at' sa hz p k w h
    cases t with
    | nil => obtain rfl : p = none := h; exact delete_nil k w
    | node kn v l r => simp only [Tr.sz] at hn; omega
  | succ n ih =>
    intro t hn at' sa hz p k w h
    cases t with
    | nil => obtain rfl : p = none := h; exact delete_nil k w
    | node kn v l r =>
      have h0 := h
      obtain ⟨b, pl, pr, rfl, c0, c1, c2, c3, c4, c5, ov, hl, hr⟩ := h
      simp only [Tr.sz] at hn
      have hz' := hz
      simp only [Tr.sz] at hz'
      have A := at'
      simp only [Tr.Avl] at A
      have S := asc_node.1 sa
      rcases KO.tot k kn with g | g | g
      · exact delete_lt b pl pr l r k kn v w ov c0 c1 c2 c3 h0 hl hr at' sa g hz (Lib.hid (fun x W hx => ih l (by omega) A.1 S.1 (by omega) x k W hx))
      · exact delete_eq b pl pr l r k kn v w ov c0 c1 c2 c3 h0 hl hr at' sa g hz (Lib.hid (fun x k W hx => ih r (by omega) A.2.1 S.2.1 (by omega) x k W hx))
      · exact delete_gt b pl pr l r k kn v w ov c0 c1 c2 c3 h0 hl hr at' sa g hz (Lib.hid (fun x W hx => ih r (by omega) A.2.1 S.2.1 (by omega) x k W hx))
theorem Delete_any (p : Option Addr) (t : Tr Int Value) (k : Int) (w : World) (h : At w p t) (at' : t.Avl) (sa : Asc t.rows) (hz : t.sz ≤ 2 ^ 58) : Calls Try.prog 36 #[.agg #[.pointer p], (.int .i64 k : Value)] w (DelR w t k) :=
  delete_all _ t (Nat.le_refl _) at' sa hz p k w h
theorem chain_any (p q : Option Addr) (l r : Tr Int Value) (w : World) (hl : At w p l) (hr : At w q r) (al : l.Avl) (at' : r.Avl) (ar : Asc r.rows) (hz : l.sz + 1 + r.sz ≤ 2 ^ 58) :
    Calls Try.prog 72 #[.agg #[.pointer p], .agg #[.pointer q]] w (MapR w (ChQ l r)) :=
  chain_ih p q l r w hl hr al ar (by omega) (Lib.hid (fun x k W hx => Delete_any x r k W hx at' ar (by omega)))
end Go.Proofs.Ytbphmcjjanchlaa.Mii
