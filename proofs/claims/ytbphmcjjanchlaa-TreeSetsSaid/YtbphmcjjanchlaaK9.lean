/- Split. -/
import Derived.Test.YtbphmcjjanchlaaK8
namespace Go.Proofs.Ytbphmcjjanchlaa.Mii
open Go.RowKit
set_option linter.unusedVariables false
set_option linter.unusedSimpArgs false

/-- What splitting answers. -/
structure SplQ (t : Tr Int Value) (k : Int) (lo hi : Tr Int Value) (x : Value) (f : Bool) : Prop where
  al : lo.Avl
  ah : hi.Avl
  slo : LoT t.rows lo.rows k
  shi : HiT t.rows hi.rows k
  sz : lo.sz + hi.sz + f.toNat = t.sz
  hf : f = (val t.rows k).isSome
  hx : x = (val t.rows k).getD (.int .i64 0)
  one : x.oneCell' = true
def SplR (w : World) (t : Tr Int Value) (k : Int) (e : Ending) (w' : World) : Prop := ∃ q1 lo x f q2 hi, e = .returned (.tuple #[.agg #[.pointer q1], x, .bool f, .agg #[.pointer q2]]) ∧ At w' q1 lo ∧ At w' q2 hi ∧ SplQ t k lo hi x f ∧ Below w.heap.size w w'
theorem SplR.set {w W : World} {t lo hi : Tr Int Value} {k : Int} {c1 c2 : Nat} {z1 z2 q1 q2 : Option Addr} {x : Value} {f : Bool} (y1 y2 : Value) (h1 : W.cell? ⟨c1, 0, none⟩ = some (.pointer z1)) (h2 : W.cell? ⟨c2, 0, none⟩ = some (.pointer z2)) (hne : ¬ c2 = c1) (a1 : At W q1 lo) (a2 : At W q2 hi)
    (g : SplQ t k lo hi x f) (hb : Below w.heap.size w W) (n1 : w.heap.size ≤ c1) (n2 : w.heap.size ≤ c2) :
    SplR w t k (.returned (.tuple #[.agg #[.pointer q1], x, .bool f, .agg #[.pointer q2]])) ((W.setCell ⟨c1, 0, none⟩ y1).setCell ⟨c2, 0, none⟩ y2) :=
  ⟨q1, lo, x, f, q2, hi, rfl, (a1.set y1 h1).set y2 (cell_st (by dsimp only; exact hne) h2), (a2.set y1 h1).set y2 (cell_st (by dsimp only; exact hne) h2), g, (hb.setCell n1 y1).setCell n2 y2⟩
theorem SplR.drew {w W : World} {t : Tr Int Value} {k : Int} {e : Ending} (h : SplR w t k e W) : SplR w t k e W.drew := by
  obtain ⟨q1, lo, x, f, q2, hi, he, a1, a2, g, b⟩ := h
  exact ⟨q1, lo, x, f, q2, hi, he, a1.drew, a2.drew, g, Below.dr b⟩
/-- A parameter in its box, and two results'. -/
structure Box3s (w : World) (p : Option Addr) (w2 : World) : Prop where
  c1 : w2.cell? ⟨w.heap.size, 0, none⟩ = some (.pointer p)
  c2 : w2.cell? ⟨w.heap.size + 1, 0, none⟩ = some (.pointer none)
  c3 : w2.cell? ⟨w.heap.size + 1 + 1, 0, none⟩ = some (.pointer none)
  f2 : w2.frozen? ⟨w.heap.size + 1, 0, none⟩ = false
  f3 : w2.frozen? ⟨w.heap.size + 1 + 1, 0, none⟩ = false
  sz : w.heap.size + 1 + 1 < w2.heap.size
  bel : Below w.heap.size w w2
theorem box3s (w : World) (p : Option Addr) : ∀ w2, (((w.alloc (Obj.cells #[Value.pointer p] 35)).alloc (Obj.cells #[Value.pointer none] 35)).alloc (Obj.cells #[Value.pointer none] 35)) = w2 → Box3s w p w2 := fun w2 e => by
  subst e
  exact ⟨by simp [go_sem], by simp [go_sem], by simp [go_sem], by simp [go_sem], by simp [go_sem], by simp, (((Below.refl _ w).alloc (Nat.le_refl _) _).alloc (by simp) _).alloc (by simp; omega) _⟩
set_option maxRecDepth 100000 in
set_option maxHeartbeats 1000000 in
theorem split_nil (k : Int) (w : World) : Calls Try.prog 31 #[.agg #[.pointer none], (.int .i64 k : Value)] w (SplR w (.nil : Tr Int Value) k) := by
  have HB := Lib.hid (box3s w none)
  go_enter Try.func31, Try.ntmps31
  go_wp2_with fail
  generalize e2 : (((w.alloc (Obj.cells #[Value.pointer none] 35)).alloc (Obj.cells #[Value.pointer none] 35)).alloc (Obj.cells #[Value.pointer none] 35)) = w0
  obtain ⟨k1, k2, k3, f2, f3, sz, bel⟩ := HB.out w0 e2
  have FIN := Lib.hid (SplR.set (c1 := w.heap.size + 1) (c2 := w.heap.size + 1 + 1) (t := .nil) (lo := (.nil : Tr Int Value)) (hi := (.nil : Tr Int Value)) (k := k) (x := .int .i64 0) (f := false) (q1 := none) (q2 := none) (.pointer none) (.pointer none) k2 k3 (by omega) rfl rfl ⟨trivial, trivial, lo_nil k, hi_nil k, rfl, rfl, rfl, rfl⟩ bel (by omega) (by omega))
  clear HB e2 bel
  go_region_held3 (fun w' => w'.cell? ⟨w.heap.size, 0, none⟩ = some (.pointer none))
    (first | exact k1 | exact cell_dr k1 | exact cell_al _ k1 | exact cell_al _ (cell_dr k1) | exact cell_al _ (cell_al _ k1) | exact cell_st (by dsimp only; omega) k1 | exact cell_st (by dsimp only; omega) (cell_dr k1) | exact cell_al _ (cell_st (by dsimp only; omega) k1) | exact cell_st (by dsimp only; omega) (cell_st (by dsimp only; omega) k1))
    (first
      | fail)
  go_wp2_with fail
  exact bodyPost_ret (v := .tuple #[.agg #[.pointer none], .int .i64 0, .bool false, .agg #[.pointer none]]) (by simp [results, Try.results31, go_sem, k2, k3, sz]) rfl (by first | exact FIN.out | exact FIN.out.drew)
set_option maxRecDepth 100000 in
set_option maxHeartbeats 1000000 in
theorem split_lt (b : Nat) (pl pr : Option Addr) (l r : Tr Int Value) (k kn : Int) (u : Value) (w : World) (hu : u.oneCell' = true)
    (m1 : w.cell? ⟨b, 0, none⟩ = some (.int .i64 kn)) (m2 : w.cell? ⟨b, 1, none⟩ = some u) (m3 : w.cell? ⟨b, 2, none⟩ = some (.pointer pl)) (m4 : w.cell? ⟨b, 3, none⟩ = some (.pointer pr)) (hl : At w pl l) (hr : At w pr r)
    (an : Tr.Avl (.node kn u l r)) (sa : Asc (Tr.node kn u l r).rows) (hc : KO.lt k kn) (hz : Tr.sz (.node kn u l r) ≤ 2 ^ 58)
    (IH : Hid (∀ (x : Option Addr) (W : World), At W x l → Calls Try.prog 31 #[.agg #[.pointer x], (.int .i64 k : Value)] W (SplR W l k))) :
    Calls Try.prog 31 #[.agg #[.pointer (some ⟨b, 0, none⟩)], (.int .i64 k : Value)] w (SplR w (.node kn u l r) k) := by
  have hb : b < w.heap.size := World.block_lt_of_cell? w _ m1
  have hb1 : b < w.heap.size + 1 := by omega
  have hb2 : b < w.heap.size + 1 + 1 := by omega
  have HN : Hid (IsKV kn (.int .i64 kn : Value) u) := ⟨rfl, hu⟩
  have HU := Lib.hid hu
  have TL := Lib.hid hl
  have TR := Lib.hid hr
  have AN := Lib.hid an
  have AS := Lib.hid sa
  have HZ := Lib.hid hz
  have t1 : decide (k < kn) = true := decide_eq_true (hc)
  have HC := Lib.hid hc
  have HB := Lib.hid (box3s w (some ⟨b, 0, none⟩))
  clear hl hr an sa hz hu hc
  go_enter Try.func31, Try.ntmps31
  go_wp2_with fail
  generalize e2 : (((w.alloc (Obj.cells #[Value.pointer (some ⟨b, 0, none⟩)] 35)).alloc (Obj.cells #[Value.pointer none] 35)).alloc (Obj.cells #[Value.pointer none] 35)) = w0
  obtain ⟨k1, k2, k3, f2, f3, sz, bel⟩ := HB.out w0 e2
  have BL := Lib.hid bel
  replace TL := Lib.hid (TL.out.below bel (Nat.le_refl _))
  replace TR := Lib.hid (TR.out.below bel (Nat.le_refl _))
  replace m1 := cell_gr bel m1
  replace m2 := cell_gr bel m2
  replace m3 := cell_gr bel m3
  replace m4 := cell_gr bel m4
  clear HB e2 bel
  refine (IH.out pl _ TL.out).mono ?_
  rintro e w1 ⟨x1, u1, x, f, x2, u2, rfl, a1, a2, g1, st0⟩
  have st : Below w0.heap.size w0 w1 := (by first | exact st0 | exact Below.of_dr st0)
  replace f2 := fro_gr st k2 f2
  replace f3 := fro_gr st k3 f3
  replace k1 := cell_gr st k1
  replace k2 := cell_gr st k2
  replace k3 := cell_gr st k3
  replace m1 := cell_gr st m1
  replace m2 := cell_gr st m2
  replace m3 := cell_gr st m3
  replace m4 := cell_gr st m4
  replace TL := Lib.hid (TL.out.grow st)
  replace TR := Lib.hid (TR.out.grow st)
  replace BL := Lib.hid (BL.out.trans (st.mono BL.out.size))
  replace sz := Nat.lt_of_lt_of_le sz st.size
  clear st st0
  have T1 := Lib.hid a1
  have T2 := Lib.hid a2
  have G1 := Lib.hid g1
  have z0 : w.heap.size < w1.heap.size := by omega
  have zb : b < w1.heap.size := World.block_lt_of_cell? w1 _ m1
  have z1 : w.heap.size + 1 < w1.heap.size := by omega
  have z2 : w.heap.size + 1 + 1 < w1.heap.size := sz
  have HD : Hid (∀ W, (w1.alloc (Obj.cells #[Value.pointer x1] 35)).alloc (Obj.cells #[Value.pointer x2] 35) = W → Below w1.heap.size w1 W ∧ W.cell? ⟨w1.heap.size, 0, none⟩ = some (.pointer x1) ∧ W.cell? ⟨w1.heap.size + 1, 0, none⟩ = some (.pointer x2)) := Lib.hid (fun W e => by subst e; exact ⟨((Below.refl _ _).alloc (Nat.le_refl _) _).alloc (by simp) _, by simp [go_sem], by simp [go_sem]⟩)
  clear a1 a2 g1 IH
  go_wp2_with fail
  generalize e4 : (w1.alloc (Obj.cells #[Value.pointer x1] 35)).alloc (Obj.cells #[Value.pointer x2] 35) = w2
  obtain ⟨st0, c7, c8⟩ := HD.out w2 e4
  clear HD e4
  have st : Below w1.heap.size w1 w2 := (by first | exact st0 | exact Below.of_dr st0)
  replace f2 := fro_gr st k2 f2
  replace f3 := fro_gr st k3 f3
  replace k1 := cell_gr st k1
  replace k2 := cell_gr st k2
  replace k3 := cell_gr st k3
  replace m1 := cell_gr st m1
  replace m2 := cell_gr st m2
  replace m3 := cell_gr st m3
  replace m4 := cell_gr st m4
  replace TL := Lib.hid (TL.out.grow st)
  replace TR := Lib.hid (TR.out.grow st)
  replace T1 := Lib.hid (T1.out.grow st)
  replace T2 := Lib.hid (T2.out.grow st)
  replace BL := Lib.hid (BL.out.trans (st.mono BL.out.size))
  replace sz := Nat.lt_of_lt_of_le sz st.size
  clear st st0
  go_region_held3 (fun w' => w'.cell? ⟨w1.heap.size, 0, none⟩ = some (.pointer x1) ∧ w'.cell? ⟨w1.heap.size + 1, 0, none⟩ = some (.pointer x2) ∧ w'.cell? ⟨b, 0, none⟩ = some (.int .i64 kn) ∧ w'.cell? ⟨b, 1, none⟩ = some (u) ∧ w'.cell? ⟨b, 2, none⟩ = some (.pointer pl) ∧ w'.cell? ⟨b, 3, none⟩ = some (.pointer pr))
    (first | exact ⟨c7, c8, m1, m2, m3, m4⟩ | exact ⟨cell_dr c7, cell_dr c8, cell_dr m1, cell_dr m2, cell_dr m3, cell_dr m4⟩ | exact ⟨cell_al _ c7, cell_al _ c8, cell_al _ m1, cell_al _ m2, cell_al _ m3, cell_al _ m4⟩ | exact ⟨cell_al _ (cell_dr c7), cell_al _ (cell_dr c8), cell_al _ (cell_dr m1), cell_al _ (cell_dr m2), cell_al _ (cell_dr m3), cell_al _ (cell_dr m4)⟩ | exact ⟨cell_al _ (cell_al _ c7), cell_al _ (cell_al _ c8), cell_al _ (cell_al _ m1), cell_al _ (cell_al _ m2), cell_al _ (cell_al _ m3), cell_al _ (cell_al _ m4)⟩ | exact ⟨cell_st (by dsimp only; omega) c7, cell_st (by dsimp only; omega) c8, cell_st (by dsimp only; omega) m1, cell_st (by dsimp only; omega) m2, cell_st (by dsimp only; omega) m3, cell_st (by dsimp only; omega) m4⟩ | exact ⟨cell_st (by dsimp only; omega) (cell_dr c7), cell_st (by dsimp only; omega) (cell_dr c8), cell_st (by dsimp only; omega) (cell_dr m1), cell_st (by dsimp only; omega) (cell_dr m2), cell_st (by dsimp only; omega) (cell_dr m3), cell_st (by dsimp only; omega) (cell_dr m4)⟩ | exact ⟨cell_al _ (cell_st (by dsimp only; omega) c7), cell_al _ (cell_st (by dsimp only; omega) c8), cell_al _ (cell_st (by dsimp only; omega) m1), cell_al _ (cell_st (by dsimp only; omega) m2), cell_al _ (cell_st (by dsimp only; omega) m3), cell_al _ (cell_st (by dsimp only; omega) m4)⟩ | exact ⟨cell_st (by dsimp only; omega) (cell_st (by dsimp only; omega) c7), cell_st (by dsimp only; omega) (cell_st (by dsimp only; omega) c8), cell_st (by dsimp only; omega) (cell_st (by dsimp only; omega) m1), cell_st (by dsimp only; omega) (cell_st (by dsimp only; omega) m2), cell_st (by dsimp only; omega) (cell_st (by dsimp only; omega) m3), cell_st (by dsimp only; omega) (cell_st (by dsimp only; omega) m4)⟩)
    (first
      | (go_at_call 69; (with_reducible refine (link_any x2 pr u2 r kn (.int .i64 kn) u _ HN.out (by first | exact T2.out | exact T2.out.drew) (by first | exact TR.out | exact TR.out.drew) G1.out.ah (by have z := AN.out; simp only [Tr.Avl] at z; exact z.2.1) (by have z := HZ.out; have g := G1.out.sz; simp only [Tr.sz] at z; omega)).mono ?_); rintro e w3 ⟨x3, u3, rfl, a3, g3, st0⟩; have st : Below w2.heap.size w2 w3 := (by first | exact st0 | exact Below.of_dr st0); replace f2 := fro_gr st k2 f2; replace f3 := fro_gr st k3 f3; replace k1 := cell_gr st k1; replace k2 := cell_gr st k2; replace k3 := cell_gr st k3; replace m1 := cell_gr st m1; replace m2 := cell_gr st m2; replace m3 := cell_gr st m3; replace m4 := cell_gr st m4; replace c7 := cell_gr st c7; replace c8 := cell_gr st c8; replace TL := Lib.hid (TL.out.grow st); replace TR := Lib.hid (TR.out.grow st); replace T1 := Lib.hid (T1.out.grow st); replace T2 := Lib.hid (T2.out.grow st); replace BL := Lib.hid (BL.out.trans (st.mono BL.out.size)); replace sz := Nat.lt_of_lt_of_le sz st.size; clear st st0; have T3 := Lib.hid a3; clear a3; have G3 := Lib.hid g3; clear g3))
  have hval : val (Tr.node kn u l r).rows k = val l.rows k := val_lt AS.out HC.out
  have FIN := Lib.hid (SplR.set (c1 := w.heap.size + 1) (c2 := w.heap.size + 1 + 1) (t := .node kn u l r) (k := k) (x := x) (f := f) (.pointer x1) (.pointer x3) k2 k3 (by omega) T1.out T3.out ⟨G1.out.al, G3.out.avl, lo_lt AS.out HC.out G1.out.slo, by rw [G3.out.rows]; exact hi_lt AS.out HC.out G1.out.shi, by have h := G3.out.sz; have g := G1.out.sz; simp only [Tr.sz]; omega, by rw [hval]; exact G1.out.hf, by rw [hval]; exact G1.out.hx, G1.out.one⟩ BL.out (by omega) (by omega))
  clear TL TR T1 T2 T3 G1 G3 BL AN AS HC HN HZ HU hval
  go_wp2_with fail
  exact bodyPost_ret (v := .tuple #[.agg #[.pointer x1], x, .bool f, .agg #[.pointer x3]]) (by simp [results, Try.results31, go_sem, k2, k3, sz]) rfl FIN.out
set_option maxRecDepth 100000 in
set_option maxHeartbeats 1000000 in
theorem split_gt (b : Nat) (pl pr : Option Addr) (l r : Tr Int Value) (k kn : Int) (u : Value) (w : World) (hu : u.oneCell' = true)
    (m1 : w.cell? ⟨b, 0, none⟩ = some (.int .i64 kn)) (m2 : w.cell? ⟨b, 1, none⟩ = some u) (m3 : w.cell? ⟨b, 2, none⟩ = some (.pointer pl)) (m4 : w.cell? ⟨b, 3, none⟩ = some (.pointer pr)) (hl : At w pl l) (hr : At w pr r)
    (an : Tr.Avl (.node kn u l r)) (sa : Asc (Tr.node kn u l r).rows) (hc : KO.lt kn k) (hz : Tr.sz (.node kn u l r) ≤ 2 ^ 58)
    (IH : Hid (∀ (x : Option Addr) (W : World), At W x r → Calls Try.prog 31 #[.agg #[.pointer x], (.int .i64 k : Value)] W (SplR W r k))) :
    Calls Try.prog 31 #[.agg #[.pointer (some ⟨b, 0, none⟩)], (.int .i64 k : Value)] w (SplR w (.node kn u l r) k) := by
  have hb : b < w.heap.size := World.block_lt_of_cell? w _ m1
  have hb1 : b < w.heap.size + 1 := by omega
  have hb2 : b < w.heap.size + 1 + 1 := by omega
  have HN : Hid (IsKV kn (.int .i64 kn : Value) u) := ⟨rfl, hu⟩
  have HU := Lib.hid hu
  have TL := Lib.hid hl
  have TR := Lib.hid hr
  have AN := Lib.hid an
  have AS := Lib.hid sa
  have HZ := Lib.hid hz
  have t1 : decide (k < kn) = false := decide_eq_false (KO.asym hc)
  have t2 : decide (kn < k) = true := decide_eq_true (hc)
  have HC := Lib.hid hc
  have HB := Lib.hid (box3s w (some ⟨b, 0, none⟩))
  clear hl hr an sa hz hu hc
  go_enter Try.func31, Try.ntmps31
  go_wp2_with fail
  generalize e2 : (((w.alloc (Obj.cells #[Value.pointer (some ⟨b, 0, none⟩)] 35)).alloc (Obj.cells #[Value.pointer none] 35)).alloc (Obj.cells #[Value.pointer none] 35)) = w0
  obtain ⟨k1, k2, k3, f2, f3, sz, bel⟩ := HB.out w0 e2
  have BL := Lib.hid bel
  replace TL := Lib.hid (TL.out.below bel (Nat.le_refl _))
  replace TR := Lib.hid (TR.out.below bel (Nat.le_refl _))
  replace m1 := cell_gr bel m1
  replace m2 := cell_gr bel m2
  replace m3 := cell_gr bel m3
  replace m4 := cell_gr bel m4
  clear HB e2 bel
  refine (IH.out pr _ TR.out).mono ?_
  rintro e w1 ⟨x1, u1, x, f, x2, u2, rfl, a1, a2, g1, st0⟩
  have st : Below w0.heap.size w0 w1 := (by first | exact st0 | exact Below.of_dr st0)
  replace f2 := fro_gr st k2 f2
  replace f3 := fro_gr st k3 f3
  replace k1 := cell_gr st k1
  replace k2 := cell_gr st k2
  replace k3 := cell_gr st k3
  replace m1 := cell_gr st m1
  replace m2 := cell_gr st m2
  replace m3 := cell_gr st m3
  replace m4 := cell_gr st m4
  replace TL := Lib.hid (TL.out.grow st)
  replace TR := Lib.hid (TR.out.grow st)
  replace BL := Lib.hid (BL.out.trans (st.mono BL.out.size))
  replace sz := Nat.lt_of_lt_of_le sz st.size
  clear st st0
  have T1 := Lib.hid a1
  have T2 := Lib.hid a2
  have G1 := Lib.hid g1
  have z0 : w.heap.size < w1.heap.size := by omega
  have zb : b < w1.heap.size := World.block_lt_of_cell? w1 _ m1
  have z1 : w.heap.size + 1 < w1.heap.size := by omega
  have z2 : w.heap.size + 1 + 1 < w1.heap.size := sz
  have HD : Hid (∀ W, (w1.alloc (Obj.cells #[Value.pointer x1] 35)).alloc (Obj.cells #[Value.pointer x2] 35) = W → Below w1.heap.size w1 W ∧ W.cell? ⟨w1.heap.size, 0, none⟩ = some (.pointer x1) ∧ W.cell? ⟨w1.heap.size + 1, 0, none⟩ = some (.pointer x2)) := Lib.hid (fun W e => by subst e; exact ⟨((Below.refl _ _).alloc (Nat.le_refl _) _).alloc (by simp) _, by simp [go_sem], by simp [go_sem]⟩)
  clear a1 a2 g1 IH
  go_wp2_with fail
  generalize e4 : (w1.alloc (Obj.cells #[Value.pointer x1] 35)).alloc (Obj.cells #[Value.pointer x2] 35) = w2
  obtain ⟨st0, c7, c8⟩ := HD.out w2 e4
  clear HD e4
  have st : Below w1.heap.size w1 w2 := (by first | exact st0 | exact Below.of_dr st0)
  replace f2 := fro_gr st k2 f2
  replace f3 := fro_gr st k3 f3
  replace k1 := cell_gr st k1
  replace k2 := cell_gr st k2
  replace k3 := cell_gr st k3
  replace m1 := cell_gr st m1
  replace m2 := cell_gr st m2
  replace m3 := cell_gr st m3
  replace m4 := cell_gr st m4
  replace TL := Lib.hid (TL.out.grow st)
  replace TR := Lib.hid (TR.out.grow st)
  replace T1 := Lib.hid (T1.out.grow st)
  replace T2 := Lib.hid (T2.out.grow st)
  replace BL := Lib.hid (BL.out.trans (st.mono BL.out.size))
  replace sz := Nat.lt_of_lt_of_le sz st.size
  clear st st0
  go_region_held3 (fun w' => w'.cell? ⟨w1.heap.size, 0, none⟩ = some (.pointer x1) ∧ w'.cell? ⟨w1.heap.size + 1, 0, none⟩ = some (.pointer x2) ∧ w'.cell? ⟨b, 0, none⟩ = some (.int .i64 kn) ∧ w'.cell? ⟨b, 1, none⟩ = some (u) ∧ w'.cell? ⟨b, 2, none⟩ = some (.pointer pl) ∧ w'.cell? ⟨b, 3, none⟩ = some (.pointer pr))
    (first | exact ⟨c7, c8, m1, m2, m3, m4⟩ | exact ⟨cell_dr c7, cell_dr c8, cell_dr m1, cell_dr m2, cell_dr m3, cell_dr m4⟩ | exact ⟨cell_al _ c7, cell_al _ c8, cell_al _ m1, cell_al _ m2, cell_al _ m3, cell_al _ m4⟩ | exact ⟨cell_al _ (cell_dr c7), cell_al _ (cell_dr c8), cell_al _ (cell_dr m1), cell_al _ (cell_dr m2), cell_al _ (cell_dr m3), cell_al _ (cell_dr m4)⟩ | exact ⟨cell_al _ (cell_al _ c7), cell_al _ (cell_al _ c8), cell_al _ (cell_al _ m1), cell_al _ (cell_al _ m2), cell_al _ (cell_al _ m3), cell_al _ (cell_al _ m4)⟩ | exact ⟨cell_st (by dsimp only; omega) c7, cell_st (by dsimp only; omega) c8, cell_st (by dsimp only; omega) m1, cell_st (by dsimp only; omega) m2, cell_st (by dsimp only; omega) m3, cell_st (by dsimp only; omega) m4⟩ | exact ⟨cell_st (by dsimp only; omega) (cell_dr c7), cell_st (by dsimp only; omega) (cell_dr c8), cell_st (by dsimp only; omega) (cell_dr m1), cell_st (by dsimp only; omega) (cell_dr m2), cell_st (by dsimp only; omega) (cell_dr m3), cell_st (by dsimp only; omega) (cell_dr m4)⟩ | exact ⟨cell_al _ (cell_st (by dsimp only; omega) c7), cell_al _ (cell_st (by dsimp only; omega) c8), cell_al _ (cell_st (by dsimp only; omega) m1), cell_al _ (cell_st (by dsimp only; omega) m2), cell_al _ (cell_st (by dsimp only; omega) m3), cell_al _ (cell_st (by dsimp only; omega) m4)⟩ | exact ⟨cell_st (by dsimp only; omega) (cell_st (by dsimp only; omega) c7), cell_st (by dsimp only; omega) (cell_st (by dsimp only; omega) c8), cell_st (by dsimp only; omega) (cell_st (by dsimp only; omega) m1), cell_st (by dsimp only; omega) (cell_st (by dsimp only; omega) m2), cell_st (by dsimp only; omega) (cell_st (by dsimp only; omega) m3), cell_st (by dsimp only; omega) (cell_st (by dsimp only; omega) m4)⟩)
    (first
      | (go_at_call 69; (with_reducible refine (link_any pl x1 l u1 kn (.int .i64 kn) u _ HN.out (by first | exact TL.out | exact TL.out.drew) (by first | exact T1.out | exact T1.out.drew) (by have z := AN.out; simp only [Tr.Avl] at z; exact z.1) G1.out.al (by have z := HZ.out; have g := G1.out.sz; simp only [Tr.sz] at z; omega)).mono ?_); rintro e w3 ⟨x3, u3, rfl, a3, g3, st0⟩; have st : Below w2.heap.size w2 w3 := (by first | exact st0 | exact Below.of_dr st0); replace f2 := fro_gr st k2 f2; replace f3 := fro_gr st k3 f3; replace k1 := cell_gr st k1; replace k2 := cell_gr st k2; replace k3 := cell_gr st k3; replace m1 := cell_gr st m1; replace m2 := cell_gr st m2; replace m3 := cell_gr st m3; replace m4 := cell_gr st m4; replace c7 := cell_gr st c7; replace c8 := cell_gr st c8; replace TL := Lib.hid (TL.out.grow st); replace TR := Lib.hid (TR.out.grow st); replace T1 := Lib.hid (T1.out.grow st); replace T2 := Lib.hid (T2.out.grow st); replace BL := Lib.hid (BL.out.trans (st.mono BL.out.size)); replace sz := Nat.lt_of_lt_of_le sz st.size; clear st st0; have T3 := Lib.hid a3; clear a3; have G3 := Lib.hid g3; clear g3))
  have hval : val (Tr.node kn u l r).rows k = val r.rows k := val_gt AS.out HC.out
  have FIN := Lib.hid (SplR.set (c1 := w.heap.size + 1) (c2 := w.heap.size + 1 + 1) (t := .node kn u l r) (k := k) (x := x) (f := f) (.pointer x3) (.pointer x2) k2 k3 (by omega) T3.out T2.out ⟨G3.out.avl, G1.out.ah, by rw [G3.out.rows]; exact lo_gt AS.out HC.out G1.out.slo, hi_gt AS.out HC.out G1.out.shi, by have h := G3.out.sz; have g := G1.out.sz; simp only [Tr.sz]; omega, by rw [hval]; exact G1.out.hf, by rw [hval]; exact G1.out.hx, G1.out.one⟩ BL.out (by omega) (by omega))
  clear TL TR T1 T2 T3 G1 G3 BL AN AS HC HN HZ HU hval
  go_wp2_with fail
  exact bodyPost_ret (v := .tuple #[.agg #[.pointer x3], x, .bool f, .agg #[.pointer x2]]) (by simp [results, Try.results31, go_sem, k2, k3, sz]) rfl FIN.out
set_option maxRecDepth 100000 in
set_option maxHeartbeats 1000000 in
theorem split_eq (b : Nat) (pl pr : Option Addr) (l r : Tr Int Value) (k kn : Int) (u : Value) (w : World) (hu : u.oneCell' = true)
    (m1 : w.cell? ⟨b, 0, none⟩ = some (.int .i64 kn)) (m2 : w.cell? ⟨b, 1, none⟩ = some u) (m3 : w.cell? ⟨b, 2, none⟩ = some (.pointer pl)) (m4 : w.cell? ⟨b, 3, none⟩ = some (.pointer pr)) (hl : At w pl l) (hr : At w pr r)
    (an : Tr.Avl (.node kn u l r)) (sa : Asc (Tr.node kn u l r).rows) (hc : k = kn) (hz : Tr.sz (.node kn u l r) ≤ 2 ^ 58)
    (IH : True) :
    Calls Try.prog 31 #[.agg #[.pointer (some ⟨b, 0, none⟩)], (.int .i64 k : Value)] w (SplR w (.node kn u l r) k) := by
  have hb : b < w.heap.size := World.block_lt_of_cell? w _ m1
  have hb1 : b < w.heap.size + 1 := by omega
  have hb2 : b < w.heap.size + 1 + 1 := by omega
  have HN : Hid (IsKV kn (.int .i64 kn : Value) u) := ⟨rfl, hu⟩
  have HU := Lib.hid hu
  have TL := Lib.hid hl
  have TR := Lib.hid hr
  have AN := Lib.hid an
  have AS := Lib.hid sa
  have HZ := Lib.hid hz
  have t1 : decide (k < kn) = false := decide_eq_false ((fun h => KO.ne h hc))
  have t2 : decide (kn < k) = false := decide_eq_false ((fun h => KO.ne h hc.symm))
  have HC := Lib.hid hc
  have HB := Lib.hid (box3s w (some ⟨b, 0, none⟩))
  clear hl hr an sa hz hu hc
  go_enter Try.func31, Try.ntmps31
  go_wp2_with fail
  generalize e2 : (((w.alloc (Obj.cells #[Value.pointer (some ⟨b, 0, none⟩)] 35)).alloc (Obj.cells #[Value.pointer none] 35)).alloc (Obj.cells #[Value.pointer none] 35)) = w0
  obtain ⟨k1, k2, k3, f2, f3, sz, bel⟩ := HB.out w0 e2
  have BL := Lib.hid bel
  replace TL := Lib.hid (TL.out.below bel (Nat.le_refl _))
  replace TR := Lib.hid (TR.out.below bel (Nat.le_refl _))
  replace m1 := cell_gr bel m1
  replace m2 := cell_gr bel m2
  replace m3 := cell_gr bel m3
  replace m4 := cell_gr bel m4
  clear HB e2 bel
  go_region_held3 (fun w' => w'.cell? ⟨b, 0, none⟩ = some (.int .i64 kn) ∧ w'.cell? ⟨b, 1, none⟩ = some (u) ∧ w'.cell? ⟨b, 2, none⟩ = some (.pointer pl) ∧ w'.cell? ⟨b, 3, none⟩ = some (.pointer pr))
    (first | exact ⟨m1, m2, m3, m4⟩ | exact ⟨cell_dr m1, cell_dr m2, cell_dr m3, cell_dr m4⟩ | exact ⟨cell_al _ m1, cell_al _ m2, cell_al _ m3, cell_al _ m4⟩ | exact ⟨cell_al _ (cell_dr m1), cell_al _ (cell_dr m2), cell_al _ (cell_dr m3), cell_al _ (cell_dr m4)⟩ | exact ⟨cell_al _ (cell_al _ m1), cell_al _ (cell_al _ m2), cell_al _ (cell_al _ m3), cell_al _ (cell_al _ m4)⟩ | exact ⟨cell_st (by dsimp only; omega) m1, cell_st (by dsimp only; omega) m2, cell_st (by dsimp only; omega) m3, cell_st (by dsimp only; omega) m4⟩ | exact ⟨cell_st (by dsimp only; omega) (cell_dr m1), cell_st (by dsimp only; omega) (cell_dr m2), cell_st (by dsimp only; omega) (cell_dr m3), cell_st (by dsimp only; omega) (cell_dr m4)⟩ | exact ⟨cell_al _ (cell_st (by dsimp only; omega) m1), cell_al _ (cell_st (by dsimp only; omega) m2), cell_al _ (cell_st (by dsimp only; omega) m3), cell_al _ (cell_st (by dsimp only; omega) m4)⟩ | exact ⟨cell_st (by dsimp only; omega) (cell_st (by dsimp only; omega) m1), cell_st (by dsimp only; omega) (cell_st (by dsimp only; omega) m2), cell_st (by dsimp only; omega) (cell_st (by dsimp only; omega) m3), cell_st (by dsimp only; omega) (cell_st (by dsimp only; omega) m4)⟩)
    (first
      | fail)
  have hval : val (Tr.node kn u l r).rows kn = some u := val_at AS.out
  have FIN := Lib.hid (SplR.set (c1 := w.heap.size + 1) (c2 := w.heap.size + 1 + 1) (t := .node kn u l r) (k := k) (x := u) (f := true) (.pointer pl) (.pointer pr) k2 k3 (by omega) TL.out TR.out ⟨(by have z := AN.out; simp only [Tr.Avl] at z; exact z.1), (by have z := AN.out; simp only [Tr.Avl] at z; exact z.2.1), by rw [HC.out]; exact lo_eq AS.out, by rw [HC.out]; exact hi_eq AS.out, by simp only [Tr.sz]; simp; omega, by rw [HC.out, hval]; rfl, by rw [HC.out, hval]; rfl, HU.out⟩ BL.out (by omega) (by omega))
  clear TL TR BL AN AS HC HN HZ HU hval
  go_wp2_with fail
  exact bodyPost_ret (v := .tuple #[.agg #[.pointer pl], u, .bool true, .agg #[.pointer pr]]) (by simp [results, Try.results31, go_sem, k2, k3, sz]) rfl (by first | exact FIN.out | exact FIN.out.drew)
theorem split_all (k : Int) : ∀ (t : Tr Int Value), t.Avl → Asc t.rows → t.sz ≤ 2 ^ 58 → ∀ (p : Option Addr) (w : World), At w p t → Calls Try.prog 31 #[.agg #[.pointer p], (.int .i64 k : Value)] w (SplR w t k) := by
  intro t
  induction t with
  | nil => intro _ _ _ p w h; obtain rfl : p = none := h; exact split_nil k w
  | node kn u l r ihl ihr =>
    intro at' sa hz p w h
    obtain ⟨b, pl, pr, rfl, c0, c1, c2, c3, c4, c5, ov, hl, hr⟩ := h
    have hz' := hz
    simp only [Tr.sz] at hz'
    have A := at'
    simp only [Tr.Avl] at A
    have S := asc_node.1 sa
    rcases KO.tot k kn with g | g | g
    · exact split_lt b pl pr l r k kn u w ov c0 c1 c2 c3 hl hr at' sa g hz (Lib.hid (fun x W hx => ihl A.1 S.1 (by omega) x W hx))
    · exact split_eq b pl pr l r k kn u w ov c0 c1 c2 c3 hl hr at' sa g hz trivial
    · exact split_gt b pl pr l r k kn u w ov c0 c1 c2 c3 hl hr at' sa g hz (Lib.hid (fun x W hx => ihr A.2.1 S.2.1 (by omega) x W hx))
theorem Split_any (p : Option Addr) (t : Tr Int Value) (k : Int) (w : World) (h : At w p t) (at' : t.Avl) (sa : Asc t.rows) (hz : t.sz ≤ 2 ^ 58) : Calls Try.prog 31 #[.agg #[.pointer p], (.int .i64 k : Value)] w (SplR w t k) :=
  split_all k t at' sa hz p w h
end Go.Proofs.Ytbphmcjjanchlaa.Mii
