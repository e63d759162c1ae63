/- Range. -/
import Derived.Test.YtbphmcjjanchlaaK11
namespace Go.Proofs.Ytbphmcjjanchlaa.Mii
open Go.RowKit
set_option linter.unusedVariables false
set_option linter.unusedSimpArgs false

theorem mr_alloc {w W : World} {Q : Tr Int Value → Prop} {e : Ending} (o : Obj) (h : MapR w Q e W) : MapR w Q e (W.alloc o) := by
  obtain ⟨q, t, he, a, g, b⟩ := h
  exact ⟨q, t, he, a.alloc o, g, b.alloc b.size o⟩
/-- What a range is. -/
structure RngQ (t : Tr Int Value) (x y : Int) (r : Tr Int Value) : Prop where
  avl : r.Avl
  v : RngT t.rows r.rows x y
  sz : r.sz ≤ t.sz
set_option maxRecDepth 100000 in
set_option maxHeartbeats 1000000 in
theorem Range_any (p : Option Addr) (t : Tr Int Value) (x y : Int) (w : World) (h : At w p t) (at' : t.Avl) (sa : Asc t.rows) (hz : t.sz ≤ 2 ^ 57) :
    Calls Try.prog 35 #[.agg #[.pointer p], (.int .i64 x : Value), (.int .i64 y : Value)] w (MapR w (RngQ t x y)) := by
  have LS := Lib.hid (fun W hW => Split_any p t x W hW at' sa (by omega))
  have TA := Lib.hid h
  have HZ := Lib.hid hz
  have HB := Lib.hid (box2 w p)
  clear h at' sa hz
  go_enter Try.func35, Try.ntmps35
  go_wp2_with fail
  generalize e2 : ((w.alloc (Obj.cells #[Value.pointer p] 35)).alloc (Obj.cells #[Value.pointer none] 35)) = w0
  obtain ⟨k1, k2, f2, sz, bel⟩ := HB.out w0 e2
  have BL := Lib.hid bel
  replace TA := Lib.hid (TA.out.below bel (Nat.le_refl _))
  clear HB e2 bel
  refine (LS.out _ TA.out).mono ?_
  rintro e w1 ⟨x1, u1, xv, f, x2, u2, rfl, a1, a2, g1, st0⟩
  have st : Below w0.heap.size w0 w1 := (by first | exact st0 | exact Below.of_dr st0)
  replace f2 := fro_gr st k2 f2
  replace k1 := cell_gr st k1
  replace k2 := cell_gr st k2
  replace TA := Lib.hid (TA.out.grow st)
  replace BL := Lib.hid (BL.out.trans (st.mono BL.out.size))
  replace sz := Nat.lt_of_lt_of_le sz st.size
  clear st st0
  have T2 := Lib.hid a2
  have G1 := Lib.hid g1
  have z0 : w.heap.size < w1.heap.size := by omega
  have hv := g1.one
  have HD : Hid (∀ W, (w1.alloc (Obj.cells #[Value.pointer x1] 35)).alloc (Obj.cells #[Value.pointer x2] 35) = W → Below w1.heap.size w1 W ∧ W.cell? ⟨w1.heap.size + 1, 0, none⟩ = some (.pointer x2) ∧ W.frozen? ⟨w1.heap.size + 1, 0, none⟩ = false ∧ w1.heap.size + 1 < W.heap.size) := Lib.hid (fun W e => by subst e; exact ⟨((Below.refl _ _).alloc (Nat.le_refl _) _).alloc (by simp) _, by simp [go_sem], by simp [go_sem], by simp⟩)
  have z7 : w.heap.size + 1 < w1.heap.size := sz
  clear a1 a2 g1 LS
  cases f with
  | false =>
    go_wp2_with fail
    generalize e4 : (w1.alloc (Obj.cells #[Value.pointer x1] 35)).alloc (Obj.cells #[Value.pointer x2] 35) = w2
    obtain ⟨st0, c8, f8, s8⟩ := HD.out w2 e4
    clear HD e4
    have st : Below w1.heap.size w1 w2 := (by first | exact st0 | exact Below.of_dr st0)
    replace f2 := fro_gr st k2 f2
    replace k1 := cell_gr st k1
    replace k2 := cell_gr st k2
    replace TA := Lib.hid (TA.out.grow st)
    replace T2 := Lib.hid (T2.out.grow st)
    replace BL := Lib.hid (BL.out.trans (st.mono BL.out.size))
    replace sz := Nat.lt_of_lt_of_le sz st.size
    clear st st0
    have hval : val t.rows x = none := by
      have h1 := G1.out.hf
      cases e : val t.rows x with
      | none => rfl
      | some y => rw [e] at h1; cases h1
    refine (Split_any x2 u2 y _ T2.out G1.out.ah G1.out.shi.asc (by have z := HZ.out; have g := G1.out.sz; omega)).mono ?_
    rintro e w6 ⟨x4, u4, xv4, f4, x5, u5, rfl, a4, a5, g4, st0⟩
    have st : Below w2.heap.size w2 w6 := (by first | exact st0 | exact Below.of_dr st0)
    replace f2 := fro_gr st k2 f2
    replace f8 := fro_gr st c8 f8
    replace k1 := cell_gr st k1
    replace k2 := cell_gr st k2
    replace c8 := cell_gr st c8
    replace TA := Lib.hid (TA.out.grow st)
    replace T2 := Lib.hid (T2.out.grow st)
    replace BL := Lib.hid (BL.out.trans (st.mono BL.out.size))
    replace sz := Nat.lt_of_lt_of_le sz st.size
    replace s8 := Nat.lt_of_lt_of_le s8 st.size
    clear st st0
    have z6 : w.heap.size < w6.heap.size := by omega
    have FIN := Lib.hid (mr_alloc (Obj.cells #[Value.pointer x5] 35) (mr_alloc (Obj.cells #[Value.pointer x4] 35) (MapR.set (c := w.heap.size + 1) (Q := RngQ t x y) (.pointer x4) k2 a4 ⟨g4.al, rng_none G1.out.shi hval g4.slo, by have := g4.sz; have := G1.out.sz; omega⟩ BL.out (by omega))))
    clear TA T2 BL G1 HZ a4 a5 g4 hval
    go_wp2_with fail
    exact bodyPost_ret (v := .agg #[.pointer x4]) (by simp [results, Try.results35, go_sem, k2, sz, (show w.heap.size + 1 < w6.heap.size + 1 by omega)]) rfl FIN.out
  | true =>
    go_wp2_with fail
    generalize e4 : (w1.alloc (Obj.cells #[Value.pointer x1] 35)).alloc (Obj.cells #[Value.pointer x2] 35) = w2
    obtain ⟨st0, c8, f8, s8⟩ := HD.out w2 e4
    clear HD e4
    have st : Below w1.heap.size w1 w2 := (by first | exact st0 | exact Below.of_dr st0)
    replace f2 := fro_gr st k2 f2
    replace k1 := cell_gr st k1
    replace k2 := cell_gr st k2
    replace TA := Lib.hid (TA.out.grow st)
    replace T2 := Lib.hid (T2.out.grow st)
    replace BL := Lib.hid (BL.out.trans (st.mono BL.out.size))
    replace sz := Nat.lt_of_lt_of_le sz st.size
    clear st st0
    have hval : val t.rows x = some xv := by
      have h1 := G1.out.hf
      have h2 := G1.out.hx
      cases e : val t.rows x with
      | none => rw [e] at h1; cases h1
      | some y => rw [e] at h2; rw [h2]; rfl
    refine (Put_any x2 u2 x xv _ hv T2.out G1.out.ah G1.out.shi.asc (by have z := HZ.out; have g := G1.out.sz; omega)).mono ?_
    rintro e w3 ⟨x3, u3, rfl, a3, g3, st0⟩
    have st : Below w2.heap.size w2 w3 := (by first | exact st0 | exact Below.of_dr st0)
    replace f2 := fro_gr st k2 f2
    replace f8 := fro_gr st c8 f8
    replace k1 := cell_gr st k1
    replace k2 := cell_gr st k2
    replace c8 := cell_gr st c8
    replace TA := Lib.hid (TA.out.grow st)
    replace T2 := Lib.hid (T2.out.grow st)
    replace BL := Lib.hid (BL.out.trans (st.mono BL.out.size))
    replace sz := Nat.lt_of_lt_of_le sz st.size
    replace s8 := Nat.lt_of_lt_of_le s8 st.size
    clear st st0
    have T3 := Lib.hid a3
    have G3 := Lib.hid g3
    clear a3 g3
    have LS2 := Lib.hid (fun W hW => Split_any x3 u3 y W hW G3.out.avl G3.out.p.asc (by have z := HZ.out; have g := G1.out.sz; have h := G3.out.sz; omega))
    have T3' := Lib.hid (T3.out.set (.pointer x3) c8)
    have hw5 : w3.heap.size = (w3.setCell ⟨w1.heap.size + 1, 0, none⟩ (.pointer x3)).heap.size := by simp
    have HE : Hid (∀ W, w3.setCell ⟨w1.heap.size + 1, 0, none⟩ (.pointer x3) = W → W.cell? ⟨w.heap.size, 0, none⟩ = some (.pointer p) ∧ W.cell? ⟨w.heap.size + 1, 0, none⟩ = some (.pointer none) ∧ W.frozen? ⟨w.heap.size + 1, 0, none⟩ = false ∧ w.heap.size + 1 < W.heap.size ∧ Below w.heap.size w W ∧ At W x3 u3) := Lib.hid (fun W e => by
      subst e
      exact ⟨cell_st (by dsimp only; omega) k1, cell_st (by dsimp only; omega) k2, by rw [World.frozen?_setCell]; exact f2, by rw [← hw5]; exact sz, BL.out.setCell (by dsimp only; omega) _, T3'.out⟩)
    clear T3' hw5 BL T3
    go_wp2_with fail
    generalize e5 : w3.setCell ⟨w1.heap.size + 1, 0, none⟩ (.pointer x3) = w5
    clear k1 k2 f2 sz c8 f8 s8
    obtain ⟨k1, k2, f2, sz, bel, h5⟩ := HE.out w5 e5
    have BL := Lib.hid bel
    have T5 := Lib.hid h5
    clear HE e5 bel h5 TA T2
    refine (LS2.out _ T5.out).mono ?_
    rintro e w6 ⟨x4, u4, xv4, f4, x5, u5, rfl, a4, a5, g4, st0⟩
    have st : Below w5.heap.size w5 w6 := (by first | exact st0 | exact Below.of_dr st0)
    replace f2 := fro_gr st k2 f2
    replace k1 := cell_gr st k1
    replace k2 := cell_gr st k2
    replace BL := Lib.hid (BL.out.trans (st.mono BL.out.size))
    replace sz := Nat.lt_of_lt_of_le sz st.size
    clear st st0
    have st9 := ((Below.refl w6.heap.size w6).alloc (Nat.le_refl _) (Obj.cells #[Value.pointer x4] 35)).alloc (by simp) (Obj.cells #[Value.pointer x5] 35)
    have z6 : w.heap.size < w6.heap.size := by omega
    have T6 := Lib.hid (a4.grow st9)
    have FIN := Lib.hid (mr_alloc (Obj.cells #[Value.pointer x5] 35) (mr_alloc (Obj.cells #[Value.pointer x4] 35) (MapR.set (c := w.heap.size + 1) (Q := RngQ t x y) (.pointer x4) k2 a4 ⟨g4.al, rng_some G1.out.shi hval G3.out.p g4.slo, by have := g4.sz; have := G3.out.sz; have := G1.out.sz; simp at *; omega⟩ BL.out (by omega))))
    clear st9 T6 T5 BL LS2 G1 G3 HZ a4 a5 g4 hval
    go_wp2_with fail
    exact bodyPost_ret (v := .agg #[.pointer x4]) (by simp [results, Try.results35, go_sem, k2, sz, (show w.heap.size + 1 < w6.heap.size + 1 by omega)]) rfl FIN.out
end Go.Proofs.Ytbphmcjjanchlaa.Mii
