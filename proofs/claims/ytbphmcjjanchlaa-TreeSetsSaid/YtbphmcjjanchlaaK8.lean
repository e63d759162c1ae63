/- Put. -/
import Derived.Test.YtbphmcjjanchlaaK7
namespace Go.Proofs.Ytbphmcjjanchlaa.Mii
open Go.RowKit
set_option linter.unusedVariables false
set_option linter.unusedSimpArgs false

theorem store_one {v : Value} (hv : v.oneCell' = true) (W : World) (a : Addr) (h1 : (W.cell? a).isSome = true) (h2 : W.frozen? a = false) : (store a v .plain).run Try.prog W = .ok () (W.setCell a v) := by
  rw [run_store _ _ _ _ _ hv]
  cases h : W.cell? a with
  | none => rw [h] at h1; cases h1
  | some x => simp [h2]
/-- What putting makes. -/
structure PutQ (t : Tr Int Value) (k : Int) (v : Value) (t' : Tr Int Value) : Prop where
  avl : t'.Avl
  p : PutT t.rows t'.rows k v
  sz : t'.sz ≤ t.sz + 1
/-- A parameter in its box, the result's, and the pair's. -/
structure Box3 (w : World) (p : Option Addr) (kx v : Value) (w2 : World) : Prop where
  c1 : w2.cell? ⟨w.heap.size, 0, none⟩ = some (.pointer p)
  c2 : w2.cell? ⟨w.heap.size + 1, 0, none⟩ = some (.pointer none)
  c3 : w2.cell? ⟨w.heap.size + 1 + 1, 0, none⟩ = some kx
  c4 : w2.cell? ⟨w.heap.size + 1 + 1, 1, none⟩ = some v
  f2 : w2.frozen? ⟨w.heap.size + 1, 0, none⟩ = false
  sz : w.heap.size + 1 + 1 < w2.heap.size
  bel : Below w.heap.size w w2
theorem box3 (w : World) (p : Option Addr) (k : Int) (v : Value) : ∀ w2, (((w.alloc (Obj.cells #[Value.pointer p] 35)).alloc (Obj.cells #[Value.pointer none] 35)).alloc (Obj.cells #[.int .i64 k, v] 52)) = w2 → Box3 w p (.int .i64 k) v w2 := fun w2 e => by
  subst e
  exact ⟨by simp [go_sem], by simp [go_sem], by simp [go_sem], by simp [go_sem], by simp [go_sem], by simp, (((Below.refl _ w).alloc (Nat.le_refl _) _).alloc (by simp) _).alloc (by simp; omega) _⟩
set_option maxRecDepth 100000 in
set_option maxHeartbeats 1000000 in
theorem put_nil' (k : Int) (v : Value) (w : World) (hv : v.oneCell' = true) : Calls Try.prog 29 #[.agg #[.pointer none], (.int .i64 k : Value), v] w (MapR w (PutQ .nil k v)) := by
  have HK : Hid (IsKV k (.int .i64 k : Value) v) := ⟨rfl, hv⟩
  have HB := Lib.hid (box3 w none k v)
  have hm := cells_of_one hv
  unfold Value.cells at hm
  have hst := store_one hv
  go_enter Try.func29, Try.ntmps29
  go_wp2_with fail
  generalize e2 : (((w.alloc (Obj.cells #[Value.pointer none] 35)).alloc (Obj.cells #[Value.pointer none] 35)).alloc (Obj.cells #[.int .i64 k, v] 52)) = w0
  obtain ⟨k1, k2, k3, k4, f2, sz, bel⟩ := HB.out w0 e2
  have BL := Lib.hid bel
  clear HB e2 bel hm hv hst
  refine (tie_any none none .nil .nil k (.int .i64 k) v w0 HK.out rfl rfl (by decide) (by decide)).mono ?_
  rintro e w1 ⟨x1, u1, rfl, a1, rfl, st0⟩
  have st : Below w0.heap.size w0 w1 := (by first | exact st0 | exact Below.of_dr st0)
  replace f2 := fro_gr st k2 f2
  replace k1 := cell_gr st k1
  replace k2 := cell_gr st k2
  replace k3 := cell_gr st k3
  replace k4 := cell_gr st k4
  replace BL := Lib.hid (BL.out.trans (st.mono BL.out.size))
  replace sz := Nat.lt_of_lt_of_le sz st.size
  clear st st0
  have T1 := Lib.hid a1
  have FIN := Lib.hid (MapR.set (c := w.heap.size + 1) (Q := PutQ .nil k v) (.pointer x1) k2 T1.out ⟨⟨trivial, trivial, by simp [Tr.dep], by simp [Tr.dep]⟩, put_nil k v, by simp [Tr.sz]⟩ BL.out (by omega))
  clear a1 T1 BL HK
  go_wp2_with fail
  exact bodyPost_ret (v := .agg #[.pointer x1]) (by simp [results, Try.results29, go_sem, k2]) rfl FIN.out
set_option maxRecDepth 100000 in
set_option maxHeartbeats 1000000 in
theorem put_lt (b : Nat) (pl pr : Option Addr) (l r : Tr Int Value) (k kn : Int) (v u : Value) (w : World) (hv : v.oneCell' = true) (hu : u.oneCell' = true)
    (m1 : w.cell? ⟨b, 0, none⟩ = some (.int .i64 kn)) (m2 : w.cell? ⟨b, 1, none⟩ = some u) (m3 : w.cell? ⟨b, 2, none⟩ = some (.pointer pl)) (m4 : w.cell? ⟨b, 3, none⟩ = some (.pointer pr)) (hl : At w pl l) (hr : At w pr r)
    (an : Tr.Avl (.node kn u l r)) (sa : Asc (Tr.node kn u l r).rows) (hc : KO.lt k kn) (hz : Tr.sz (.node kn u l r) ≤ 2 ^ 58)
    (IH : Hid (∀ (x : Option Addr) (W : World), At W x l → Calls Try.prog 29 #[.agg #[.pointer x], (.int .i64 k : Value), v] W (MapR W (PutQ l k v)))) :
    Calls Try.prog 29 #[.agg #[.pointer (some ⟨b, 0, none⟩)], (.int .i64 k : Value), v] w (MapR w (PutQ (.node kn u l r) k v)) := by
  have hb : b < w.heap.size := World.block_lt_of_cell? w _ m1
  have hb1 : b < w.heap.size + 1 := by omega
  have hb2 : b < w.heap.size + 1 + 1 := by omega
  have HN : Hid (IsKV kn (.int .i64 kn : Value) u) := ⟨rfl, hu⟩
  have HK : Hid (IsKV k (.int .i64 k : Value) v) := ⟨rfl, hv⟩
  have TL := Lib.hid hl
  have TR := Lib.hid hr
  have AN := Lib.hid an
  have AS := Lib.hid sa
  have HZ := Lib.hid hz
  have t1 : decide (k < kn) = true := decide_eq_true (hc)
  have HC := Lib.hid hc
  have HB := Lib.hid (box3 w (some ⟨b, 0, none⟩) k v)
  have hm := cells_of_one hv
  unfold Value.cells at hm
  have hst := store_one hv
  clear hl hr an sa hz hu hc
  go_enter Try.func29, Try.ntmps29
  go_wp2_with fail
  generalize e2 : (((w.alloc (Obj.cells #[Value.pointer (some ⟨b, 0, none⟩)] 35)).alloc (Obj.cells #[Value.pointer none] 35)).alloc (Obj.cells #[.int .i64 k, v] 52)) = w0
  obtain ⟨k1, k2, k3, k4, f2, sz, bel⟩ := HB.out w0 e2
  have BL := Lib.hid bel
  replace TL := Lib.hid (TL.out.below bel (Nat.le_refl _))
  replace TR := Lib.hid (TR.out.below bel (Nat.le_refl _))
  replace m1 := cell_gr bel m1
  replace m2 := cell_gr bel m2
  replace m3 := cell_gr bel m3
  replace m4 := cell_gr bel m4
  clear HB e2 bel hm hv hst
  go_region_held3 (fun w' => w'.cell? ⟨b, 0, none⟩ = some (.int .i64 kn) ∧ w'.cell? ⟨b, 1, none⟩ = some (u) ∧ w'.cell? ⟨b, 2, none⟩ = some (.pointer pl) ∧ w'.cell? ⟨b, 3, none⟩ = some (.pointer pr))
    (first | exact ⟨m1, m2, m3, m4⟩ | exact ⟨cell_dr m1, cell_dr m2, cell_dr m3, cell_dr m4⟩ | exact ⟨cell_al _ m1, cell_al _ m2, cell_al _ m3, cell_al _ m4⟩ | exact ⟨cell_al _ (cell_dr m1), cell_al _ (cell_dr m2), cell_al _ (cell_dr m3), cell_al _ (cell_dr m4)⟩ | exact ⟨cell_al _ (cell_al _ m1), cell_al _ (cell_al _ m2), cell_al _ (cell_al _ m3), cell_al _ (cell_al _ m4)⟩ | exact ⟨cell_st (by dsimp only; omega) m1, cell_st (by dsimp only; omega) m2, cell_st (by dsimp only; omega) m3, cell_st (by dsimp only; omega) m4⟩ | exact ⟨cell_st (by dsimp only; omega) (cell_dr m1), cell_st (by dsimp only; omega) (cell_dr m2), cell_st (by dsimp only; omega) (cell_dr m3), cell_st (by dsimp only; omega) (cell_dr m4)⟩ | exact ⟨cell_al _ (cell_st (by dsimp only; omega) m1), cell_al _ (cell_st (by dsimp only; omega) m2), cell_al _ (cell_st (by dsimp only; omega) m3), cell_al _ (cell_st (by dsimp only; omega) m4)⟩ | exact ⟨cell_st (by dsimp only; omega) (cell_st (by dsimp only; omega) m1), cell_st (by dsimp only; omega) (cell_st (by dsimp only; omega) m2), cell_st (by dsimp only; omega) (cell_st (by dsimp only; omega) m3), cell_st (by dsimp only; omega) (cell_st (by dsimp only; omega) m4)⟩)
    (first
      | (go_at_call 29; (with_reducible refine (IH.out pl _ (by first | exact TL.out | exact TL.out.drew)).mono ?_); rintro e w1 ⟨x1, u1, rfl, a1, g1, st0⟩; have st : Below w0.heap.size w0 w1 := (by first | exact st0 | exact Below.of_dr st0); replace f2 := fro_gr st k2 f2; replace k1 := cell_gr st k1; replace k2 := cell_gr st k2; replace k3 := cell_gr st k3; replace k4 := cell_gr st k4; replace m1 := cell_gr st m1; replace m2 := cell_gr st m2; replace m3 := cell_gr st m3; replace m4 := cell_gr st m4; replace TL := Lib.hid (TL.out.grow st); replace TR := Lib.hid (TR.out.grow st); replace BL := Lib.hid (BL.out.trans (st.mono BL.out.size)); replace sz := Nat.lt_of_lt_of_le sz st.size; clear st st0; have T1 := Lib.hid a1; clear a1; have G1 := Lib.hid g1; clear g1)
      | (go_at_call 69; (with_reducible refine (link_any x1 pr u1 r kn (.int .i64 kn) u _ HN.out (by first | exact T1.out | exact T1.out.drew) (by first | exact TR.out | exact TR.out.drew) G1.out.avl (by have z := AN.out; simp only [Tr.Avl] at z; exact z.2.1) (by have z := HZ.out; have g := G1.out.sz; simp only [Tr.sz] at z; omega)).mono ?_); rintro e w2 ⟨x3, u3, rfl, a3, g3, st0⟩; have st : Below w1.heap.size w1 w2 := (by first | exact st0 | exact Below.of_dr st0); replace f2 := fro_gr st k2 f2; replace k1 := cell_gr st k1; replace k2 := cell_gr st k2; replace k3 := cell_gr st k3; replace k4 := cell_gr st k4; replace m1 := cell_gr st m1; replace m2 := cell_gr st m2; replace m3 := cell_gr st m3; replace m4 := cell_gr st m4; replace TL := Lib.hid (TL.out.grow st); replace TR := Lib.hid (TR.out.grow st); replace T1 := Lib.hid (T1.out.grow st); replace BL := Lib.hid (BL.out.trans (st.mono BL.out.size)); replace sz := Nat.lt_of_lt_of_le sz st.size; clear st st0; have T3 := Lib.hid a3; clear a3; have G3 := Lib.hid g3; clear g3))
  have FIN := Lib.hid (MapR.set (c := w.heap.size + 1) (Q := PutQ (.node kn u l r) k v) (.pointer x3) k2 T3.out ⟨G3.out.avl, by rw [G3.out.rows]; exact Go.Proofs.Ytbphmcjjanchlaa.put_lt AS.out HC.out G1.out.p, by have h := G3.out.sz; have g := G1.out.sz; simp only [Tr.sz]; omega⟩ BL.out (by omega))
  clear TL TR T3 BL AN AS HC HK HN HZ IH
  go_wp2_with fail
  exact bodyPost_ret (v := .agg #[.pointer x3]) (by simp [results, Try.results29, go_sem, k2]) rfl FIN.out
set_option maxRecDepth 100000 in
set_option maxHeartbeats 1000000 in
theorem put_gt (b : Nat) (pl pr : Option Addr) (l r : Tr Int Value) (k kn : Int) (v u : Value) (w : World) (hv : v.oneCell' = true) (hu : u.oneCell' = true)
    (m1 : w.cell? ⟨b, 0, none⟩ = some (.int .i64 kn)) (m2 : w.cell? ⟨b, 1, none⟩ = some u) (m3 : w.cell? ⟨b, 2, none⟩ = some (.pointer pl)) (m4 : w.cell? ⟨b, 3, none⟩ = some (.pointer pr)) (hl : At w pl l) (hr : At w pr r)
    (an : Tr.Avl (.node kn u l r)) (sa : Asc (Tr.node kn u l r).rows) (hc : KO.lt kn k) (hz : Tr.sz (.node kn u l r) ≤ 2 ^ 58)
    (IH : Hid (∀ (x : Option Addr) (W : World), At W x r → Calls Try.prog 29 #[.agg #[.pointer x], (.int .i64 k : Value), v] W (MapR W (PutQ r k v)))) :
    Calls Try.prog 29 #[.agg #[.pointer (some ⟨b, 0, none⟩)], (.int .i64 k : Value), v] w (MapR w (PutQ (.node kn u l r) k v)) := by
  have hb : b < w.heap.size := World.block_lt_of_cell? w _ m1
  have hb1 : b < w.heap.size + 1 := by omega
  have hb2 : b < w.heap.size + 1 + 1 := by omega
  have HN : Hid (IsKV kn (.int .i64 kn : Value) u) := ⟨rfl, hu⟩
  have HK : Hid (IsKV k (.int .i64 k : Value) v) := ⟨rfl, hv⟩
  have TL := Lib.hid hl
  have TR := Lib.hid hr
  have AN := Lib.hid an
  have AS := Lib.hid sa
  have HZ := Lib.hid hz
  have t1 : decide (k < kn) = false := decide_eq_false (KO.asym hc)
  have t2 : decide (kn < k) = true := decide_eq_true (hc)
  have HC := Lib.hid hc
  have HB := Lib.hid (box3 w (some ⟨b, 0, none⟩) k v)
  have hm := cells_of_one hv
  unfold Value.cells at hm
  have hst := store_one hv
  clear hl hr an sa hz hu hc
  go_enter Try.func29, Try.ntmps29
  go_wp2_with fail
  generalize e2 : (((w.alloc (Obj.cells #[Value.pointer (some ⟨b, 0, none⟩)] 35)).alloc (Obj.cells #[Value.pointer none] 35)).alloc (Obj.cells #[.int .i64 k, v] 52)) = w0
  obtain ⟨k1, k2, k3, k4, f2, sz, bel⟩ := HB.out w0 e2
  have BL := Lib.hid bel
  replace TL := Lib.hid (TL.out.below bel (Nat.le_refl _))
  replace TR := Lib.hid (TR.out.below bel (Nat.le_refl _))
  replace m1 := cell_gr bel m1
  replace m2 := cell_gr bel m2
  replace m3 := cell_gr bel m3
  replace m4 := cell_gr bel m4
  clear HB e2 bel hm hv hst
  go_region_held3 (fun w' => w'.cell? ⟨b, 0, none⟩ = some (.int .i64 kn) ∧ w'.cell? ⟨b, 1, none⟩ = some (u) ∧ w'.cell? ⟨b, 2, none⟩ = some (.pointer pl) ∧ w'.cell? ⟨b, 3, none⟩ = some (.pointer pr))
    (first | exact ⟨m1, m2, m3, m4⟩ | exact ⟨cell_dr m1, cell_dr m2, cell_dr m3, cell_dr m4⟩ | exact ⟨cell_al _ m1, cell_al _ m2, cell_al _ m3, cell_al _ m4⟩ | exact ⟨cell_al _ (cell_dr m1), cell_al _ (cell_dr m2), cell_al _ (cell_dr m3), cell_al _ (cell_dr m4)⟩ | exact ⟨cell_al _ (cell_al _ m1), cell_al _ (cell_al _ m2), cell_al _ (cell_al _ m3), cell_al _ (cell_al _ m4)⟩ | exact ⟨cell_st (by dsimp only; omega) m1, cell_st (by dsimp only; omega) m2, cell_st (by dsimp only; omega) m3, cell_st (by dsimp only; omega) m4⟩ | exact ⟨cell_st (by dsimp only; omega) (cell_dr m1), cell_st (by dsimp only; omega) (cell_dr m2), cell_st (by dsimp only; omega) (cell_dr m3), cell_st (by dsimp only; omega) (cell_dr m4)⟩ | exact ⟨cell_al _ (cell_st (by dsimp only; omega) m1), cell_al _ (cell_st (by dsimp only; omega) m2), cell_al _ (cell_st (by dsimp only; omega) m3), cell_al _ (cell_st (by dsimp only; omega) m4)⟩ | exact ⟨cell_st (by dsimp only; omega) (cell_st (by dsimp only; omega) m1), cell_st (by dsimp only; omega) (cell_st (by dsimp only; omega) m2), cell_st (by dsimp only; omega) (cell_st (by dsimp only; omega) m3), cell_st (by dsimp only; omega) (cell_st (by dsimp only; omega) m4)⟩)
    (first
      | (go_at_call 29; (with_reducible refine (IH.out pr _ (by first | exact TR.out | exact TR.out.drew)).mono ?_); rintro e w1 ⟨x1, u1, rfl, a1, g1, st0⟩; have st : Below w0.heap.size w0 w1 := (by first | exact st0 | exact Below.of_dr st0); replace f2 := fro_gr st k2 f2; replace k1 := cell_gr st k1; replace k2 := cell_gr st k2; replace k3 := cell_gr st k3; replace k4 := cell_gr st k4; replace m1 := cell_gr st m1; replace m2 := cell_gr st m2; replace m3 := cell_gr st m3; replace m4 := cell_gr st m4; replace TL := Lib.hid (TL.out.grow st); replace TR := Lib.hid (TR.out.grow st); replace BL := Lib.hid (BL.out.trans (st.mono BL.out.size)); replace sz := Nat.lt_of_lt_of_le sz st.size; clear st st0; have T1 := Lib.hid a1; clear a1; have G1 := Lib.hid g1; clear g1)
      | (go_at_call 69; (with_reducible refine (link_any pl x1 l u1 kn (.int .i64 kn) u _ HN.out (by first | exact TL.out | exact TL.out.drew) (by first | exact T1.out | exact T1.out.drew) (by have z := AN.out; simp only [Tr.Avl] at z; exact z.1) G1.out.avl (by have z := HZ.out; have g := G1.out.sz; simp only [Tr.sz] at z; omega)).mono ?_); rintro e w2 ⟨x3, u3, rfl, a3, g3, st0⟩; have st : Below w1.heap.size w1 w2 := (by first | exact st0 | exact Below.of_dr st0); replace f2 := fro_gr st k2 f2; replace k1 := cell_gr st k1; replace k2 := cell_gr st k2; replace k3 := cell_gr st k3; replace k4 := cell_gr st k4; replace m1 := cell_gr st m1; replace m2 := cell_gr st m2; replace m3 := cell_gr st m3; replace m4 := cell_gr st m4; replace TL := Lib.hid (TL.out.grow st); replace TR := Lib.hid (TR.out.grow st); replace T1 := Lib.hid (T1.out.grow st); replace BL := Lib.hid (BL.out.trans (st.mono BL.out.size)); replace sz := Nat.lt_of_lt_of_le sz st.size; clear st st0; have T3 := Lib.hid a3; clear a3; have G3 := Lib.hid g3; clear g3))
  have FIN := Lib.hid (MapR.set (c := w.heap.size + 1) (Q := PutQ (.node kn u l r) k v) (.pointer x3) k2 T3.out ⟨G3.out.avl, by rw [G3.out.rows]; exact Go.Proofs.Ytbphmcjjanchlaa.put_gt AS.out HC.out G1.out.p, by have h := G3.out.sz; have g := G1.out.sz; simp only [Tr.sz]; omega⟩ BL.out (by omega))
  clear TL TR T3 BL AN AS HC HK HN HZ IH
  go_wp2_with fail
  exact bodyPost_ret (v := .agg #[.pointer x3]) (by simp [results, Try.results29, go_sem, k2]) rfl FIN.out
set_option maxRecDepth 100000 in
set_option maxHeartbeats 1000000 in
theorem put_eq (b : Nat) (pl pr : Option Addr) (l r : Tr Int Value) (k kn : Int) (v u : Value) (w : World) (hv : v.oneCell' = true) (hu : u.oneCell' = true)
    (m1 : w.cell? ⟨b, 0, none⟩ = some (.int .i64 kn)) (m2 : w.cell? ⟨b, 1, none⟩ = some u) (m3 : w.cell? ⟨b, 2, none⟩ = some (.pointer pl)) (m4 : w.cell? ⟨b, 3, none⟩ = some (.pointer pr)) (hl : At w pl l) (hr : At w pr r)
    (an : Tr.Avl (.node kn u l r)) (sa : Asc (Tr.node kn u l r).rows) (hc : k = kn) (hz : Tr.sz (.node kn u l r) ≤ 2 ^ 58)
    (IH : True) :
    Calls Try.prog 29 #[.agg #[.pointer (some ⟨b, 0, none⟩)], (.int .i64 k : Value), v] w (MapR w (PutQ (.node kn u l r) k v)) := by
  have hb : b < w.heap.size := World.block_lt_of_cell? w _ m1
  have hb1 : b < w.heap.size + 1 := by omega
  have hb2 : b < w.heap.size + 1 + 1 := by omega
  have HN : Hid (IsKV kn (.int .i64 kn : Value) u) := ⟨rfl, hu⟩
  have HK : Hid (IsKV k (.int .i64 k : Value) v) := ⟨rfl, hv⟩
  have TL := Lib.hid hl
  have TR := Lib.hid hr
  have AN := Lib.hid an
  have AS := Lib.hid sa
  have HZ := Lib.hid hz
  have t1 : decide (k < kn) = false := decide_eq_false ((fun h => KO.ne h hc))
  have t2 : decide (kn < k) = false := decide_eq_false ((fun h => KO.ne h hc.symm))
  have HC := Lib.hid hc
  have HB := Lib.hid (box3 w (some ⟨b, 0, none⟩) k v)
  have hm := cells_of_one hv
  unfold Value.cells at hm
  have hst := store_one hv
  clear hl hr an sa hz hu hc
  go_enter Try.func29, Try.ntmps29
  go_wp2_with fail
  generalize e2 : (((w.alloc (Obj.cells #[Value.pointer (some ⟨b, 0, none⟩)] 35)).alloc (Obj.cells #[Value.pointer none] 35)).alloc (Obj.cells #[.int .i64 k, v] 52)) = w0
  obtain ⟨k1, k2, k3, k4, f2, sz, bel⟩ := HB.out w0 e2
  have BL := Lib.hid bel
  replace TL := Lib.hid (TL.out.below bel (Nat.le_refl _))
  replace TR := Lib.hid (TR.out.below bel (Nat.le_refl _))
  replace m1 := cell_gr bel m1
  replace m2 := cell_gr bel m2
  replace m3 := cell_gr bel m3
  replace m4 := cell_gr bel m4
  clear HB e2 bel hm hv hst
  go_region_held3 (fun w' => w'.cell? ⟨w.heap.size + 1 + 1, 0, none⟩ = some (.int .i64 k) ∧ w'.cell? ⟨w.heap.size + 1 + 1, 1, none⟩ = some (v) ∧ w'.cell? ⟨b, 2, none⟩ = some (.pointer pl) ∧ w'.cell? ⟨b, 3, none⟩ = some (.pointer pr))
    (first | exact ⟨k3, k4, m3, m4⟩ | exact ⟨cell_dr k3, cell_dr k4, cell_dr m3, cell_dr m4⟩ | exact ⟨cell_al _ k3, cell_al _ k4, cell_al _ m3, cell_al _ m4⟩ | exact ⟨cell_al _ (cell_dr k3), cell_al _ (cell_dr k4), cell_al _ (cell_dr m3), cell_al _ (cell_dr m4)⟩ | exact ⟨cell_al _ (cell_al _ k3), cell_al _ (cell_al _ k4), cell_al _ (cell_al _ m3), cell_al _ (cell_al _ m4)⟩ | exact ⟨cell_st (by dsimp only; omega) k3, cell_st (by dsimp only; omega) k4, cell_st (by dsimp only; omega) m3, cell_st (by dsimp only; omega) m4⟩ | exact ⟨cell_st (by dsimp only; omega) (cell_dr k3), cell_st (by dsimp only; omega) (cell_dr k4), cell_st (by dsimp only; omega) (cell_dr m3), cell_st (by dsimp only; omega) (cell_dr m4)⟩ | exact ⟨cell_al _ (cell_st (by dsimp only; omega) k3), cell_al _ (cell_st (by dsimp only; omega) k4), cell_al _ (cell_st (by dsimp only; omega) m3), cell_al _ (cell_st (by dsimp only; omega) m4)⟩ | exact ⟨cell_st (by dsimp only; omega) (cell_st (by dsimp only; omega) k3), cell_st (by dsimp only; omega) (cell_st (by dsimp only; omega) k4), cell_st (by dsimp only; omega) (cell_st (by dsimp only; omega) m3), cell_st (by dsimp only; omega) (cell_st (by dsimp only; omega) m4)⟩)
    (first
      | (go_at_call 68; (with_reducible refine (tie_any pl pr l r k (.int .i64 k) v _ HK.out (by first | exact TL.out | exact TL.out.drew) (by first | exact TR.out | exact TR.out.drew) (by have z := HZ.out; simp only [Tr.sz] at z; omega) (by have z := HZ.out; simp only [Tr.sz] at z; omega)).mono ?_); rintro e w2 ⟨x3, u3, rfl, a3, rfl, st0⟩; have st : Below w0.heap.size w0 w2 := (by first | exact st0 | exact Below.of_dr st0); replace f2 := fro_gr st k2 f2; replace k1 := cell_gr st k1; replace k2 := cell_gr st k2; replace k3 := cell_gr st k3; replace k4 := cell_gr st k4; replace m1 := cell_gr st m1; replace m2 := cell_gr st m2; replace m3 := cell_gr st m3; replace m4 := cell_gr st m4; replace TL := Lib.hid (TL.out.grow st); replace TR := Lib.hid (TR.out.grow st); replace BL := Lib.hid (BL.out.trans (st.mono BL.out.size)); replace sz := Nat.lt_of_lt_of_le sz st.size; clear st st0; have T3 := Lib.hid a3; clear a3))
  have FIN := Lib.hid (MapR.set (c := w.heap.size + 1) (Q := PutQ (.node kn u l r) k v) (.pointer x3) k2 T3.out ⟨by have z := AN.out; simp only [Tr.Avl] at z ⊢; exact z, by have h := HC.out; subst h; exact Go.Proofs.Ytbphmcjjanchlaa.put_eq AS.out, by simp only [Tr.sz]; omega⟩ BL.out (by omega))
  clear TL TR T3 BL AN AS HC HK HN HZ IH
  go_wp2_with fail
  exact bodyPost_ret (v := .agg #[.pointer x3]) (by simp [results, Try.results29, go_sem, k2]) rfl FIN.out
theorem put_all (k : Int) (v : Value) (hv : v.oneCell' = true) : ∀ (t : Tr Int Value), t.Avl → Asc t.rows → t.sz ≤ 2 ^ 58 → ∀ (p : Option Addr) (w : World), At w p t → Calls Try.prog 29 #[.agg #[.pointer p], (.int .i64 k : Value), v] w (MapR w (PutQ t k v)) := by
  intro t
  induction t with
  | nil => intro _ _ _ p w h; obtain rfl : p = none := h; exact put_nil' k v w hv
  | node kn u l r ihl ihr =>
    intro at' sa hz p w h
    obtain ⟨b, pl, pr, rfl, c0, c1, c2, c3, c4, c5, ov, hl, hr⟩ := h
    have hz' := hz
    simp only [Tr.sz] at hz'
    have A := at'
    simp only [Tr.Avl] at A
    have S := asc_node.1 sa
    rcases KO.tot k kn with g | g | g
    · exact put_lt b pl pr l r k kn v u w hv ov c0 c1 c2 c3 hl hr at' sa g hz (Lib.hid (fun x W hx => ihl A.1 S.1 (by omega) x W hx))
    · exact put_eq b pl pr l r k kn v u w hv ov c0 c1 c2 c3 hl hr at' sa g hz trivial
    · exact put_gt b pl pr l r k kn v u w hv ov c0 c1 c2 c3 hl hr at' sa g hz (Lib.hid (fun x W hx => ihr A.2.1 S.2.1 (by omega) x W hx))
theorem Put_any (p : Option Addr) (t : Tr Int Value) (k : Int) (v : Value) (w : World) (hv : v.oneCell' = true) (h : At w p t) (at' : t.Avl) (sa : Asc t.rows) (hz : t.sz ≤ 2 ^ 58) : Calls Try.prog 29 #[.agg #[.pointer p], (.int .i64 k : Value), v] w (MapR w (PutQ t k v)) :=
  put_all k v hv t at' sa hz p w h
end Go.Proofs.Ytbphmcjjanchlaa.Mii
