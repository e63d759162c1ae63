/- tie: a new node. -/
import Derived.Test.YtbphmcjjanchlaaK1
namespace Go.Proofs.Ytbphmcjjanchlaa.Mii
open Go.RowKit
set_option linter.unusedVariables false
set_option linter.unusedSimpArgs false

/-- Three parameters in their boxes, and the result's. -/
structure Box4 (w : World) (p q : Option Addr) (kx v : Value) (w4 : World) : Prop where
  c1 : w4.cell? ⟨w.heap.size, 0, none⟩ = some (.pointer p)
  c2 : w4.cell? ⟨w.heap.size + 1, 0, none⟩ = some kx
  c3 : w4.cell? ⟨w.heap.size + 1, 1, none⟩ = some v
  c4 : w4.cell? ⟨w.heap.size + 1 + 1, 0, none⟩ = some (.pointer q)
  c5 : w4.cell? ⟨w.heap.size + 1 + 1 + 1, 0, none⟩ = some (.pointer none)
  f5 : w4.frozen? ⟨w.heap.size + 1 + 1 + 1, 0, none⟩ = false
  sz : w.heap.size + 1 + 1 + 1 < w4.heap.size
  bel : Below w.heap.size w w4
theorem box4 (w : World) (p q : Option Addr) (kx v : Value) : ∀ w4, ((((w.alloc (Obj.cells #[Value.pointer p] 35)).alloc (Obj.cells #[kx, v] 52)).alloc (Obj.cells #[Value.pointer q] 35)).alloc (Obj.cells #[Value.pointer none] 35)) = w4 → Box4 w p q kx v w4 := fun w4 e => by
  subst e
  exact ⟨by simp [go_sem], by simp [go_sem], by simp [go_sem], by simp [go_sem], by simp [go_sem], by simp [go_sem], by simp, ((((Below.refl _ w).alloc (Nat.le_refl _) _).alloc (by simp) _).alloc (by simp; omega) _).alloc (by simp; omega) _⟩
/-- The new node at the end of memory. -/
theorem tie_fin (w w4 : World) (p q : Option Addr) (l r : Tr Int Value) (kx : Int) (v : Value) (M x : Int) (X : Value) (t : TypeId) (hl : At w p l) (hr : At w q r) (B : Below w.heap.size w w4) (hv : v.oneCell' = true) (hx : x = ((l.sz + 1 + r.sz : Nat) : Int)) (hM : M = ((max l.dep r.dep : Nat) : Int)) :
    MapR w (· = .node kx v l r) (.returned (.agg #[.pointer (some ⟨w4.heap.size, 0, none⟩)])) ((w4.setCell ⟨w.heap.size + 1 + 1 + 1, 0, none⟩ X).alloc (.cells #[KV.kv kx, v, .pointer p, .pointer q, .int .i64 x, .int .i64 (M + 1)] t)) := by
  have hs := B.size
  have hb : Below w.heap.size w ((w4.setCell ⟨w.heap.size + 1 + 1 + 1, 0, none⟩ X).alloc (.cells #[KV.kv kx, v, .pointer p, .pointer q, .int .i64 x, .int .i64 (M + 1)] t)) :=
    (B.setCell (by dsimp only; omega) _).alloc (by simpa using hs) _
  subst hx hM
  exact ⟨_, .node kx v l r, rfl, ⟨w4.heap.size, p, q, rfl, by simp [go_sem], by simp [go_sem], by simp [go_sem], by simp [go_sem], by simp [go_sem], by simp [go_sem], hv, hl.below hb (Nat.le_refl _), hr.below hb (Nat.le_refl _)⟩, rfl, hb⟩
set_option maxRecDepth 100000 in
set_option maxHeartbeats 1000000 in
theorem tie_any (p q : Option Addr) (l r : Tr Int Value) (kx0 : Int) (kx v : Value) (w : World) (hkx : IsKV kx0 kx v) (hl : At w p l) (hr : At w q r) (sl : l.sz ≤ 2 ^ 60) (sr : r.sz ≤ 2 ^ 60) :
    Calls Try.prog 68 #[.agg #[.pointer p], .agg #[kx, v], .agg #[.pointer q]] w (MapR w (· = .node kx0 v l r)) := by
  have dl := l.dep_le
  have dr := r.dep_le
  obtain ⟨n, hn⟩ : ∃ n : Int, (l.sz : Int) = n := ⟨_, rfl⟩
  obtain ⟨m, hm⟩ : ∃ n : Int, (r.sz : Int) = n := ⟨_, rfl⟩
  obtain ⟨c, hc⟩ : ∃ n : Int, (l.dep : Int) = n := ⟨_, rfl⟩
  obtain ⟨d, hd⟩ : ∃ n : Int, (r.dep : Int) = n := ⟨_, rfl⟩
  have q1 := IntWalk.i64_in (n + 1) (by omega)
  have q2 := IntWalk.i64_in (n + 1 + m) (by omega)
  obtain ⟨M, hM⟩ : ∃ M : Int, (if c < d then d else c) = M := ⟨_, rfl⟩
  have hM2 : M = ((max l.dep r.dep : Nat) : Int) := by rw [← hM]; split <;> omega
  have q3 := IntWalk.i64_in (M + 1) (by omega)
  have HM := Lib.hid hM2
  have Hn := Lib.hid hn
  have Hm := Lib.hid hm
  have Hc := Lib.hid hc
  have Hd := Lib.hid hd
  have TL := Lib.hid hl
  have TR := Lib.hid hr
  have HL := Lib.hid hl
  have HR := Lib.hid hr
  have HB := Lib.hid (box4 w p q kx v)
  have HK := Lib.hid hkx
  clear hM2 hl hr hn hm hc hd dl dr sl sr hkx
  go_enter Try.func68, Try.ntmps68
  go_wp2_with fail
  generalize e4 : ((((w.alloc (Obj.cells #[Value.pointer p] 35)).alloc (Obj.cells #[kx, v] 52)).alloc (Obj.cells #[Value.pointer q] 35)).alloc (Obj.cells #[Value.pointer none] 35)) = w0
  obtain ⟨k1, k2, k3, k4, k5, f5, sz, bel⟩ := HB.out w0 e4
  have BL := Lib.hid bel
  replace TL := Lib.hid (TL.out.below bel (Nat.le_refl _))
  replace TR := Lib.hid (TR.out.below bel (Nat.le_refl _))
  clear HB e4 bel
  go_region_held3 (fun w' => w'.cell? ⟨w.heap.size, 0, none⟩ = some (.pointer p) ∧ w'.cell? ⟨w.heap.size + 1, 0, none⟩ = some (kx) ∧ w'.cell? ⟨w.heap.size + 1, 1, none⟩ = some (v) ∧ w'.cell? ⟨w.heap.size + 1 + 1, 0, none⟩ = some (.pointer q))
    (first | exact ⟨k1, k2, k3, k4⟩ | exact ⟨cell_dr k1, cell_dr k2, cell_dr k3, cell_dr k4⟩ | exact ⟨cell_al _ k1, cell_al _ k2, cell_al _ k3, cell_al _ k4⟩ | exact ⟨cell_al _ (cell_dr k1), cell_al _ (cell_dr k2), cell_al _ (cell_dr k3), cell_al _ (cell_dr k4)⟩ | exact ⟨cell_al _ (cell_al _ k1), cell_al _ (cell_al _ k2), cell_al _ (cell_al _ k3), cell_al _ (cell_al _ k4)⟩ | exact ⟨cell_st (by dsimp only; omega) k1, cell_st (by dsimp only; omega) k2, cell_st (by dsimp only; omega) k3, cell_st (by dsimp only; omega) k4⟩ | exact ⟨cell_st (by dsimp only; omega) (cell_dr k1), cell_st (by dsimp only; omega) (cell_dr k2), cell_st (by dsimp only; omega) (cell_dr k3), cell_st (by dsimp only; omega) (cell_dr k4)⟩ | exact ⟨cell_al _ (cell_st (by dsimp only; omega) k1), cell_al _ (cell_st (by dsimp only; omega) k2), cell_al _ (cell_st (by dsimp only; omega) k3), cell_al _ (cell_st (by dsimp only; omega) k4)⟩ | exact ⟨cell_st (by dsimp only; omega) (cell_st (by dsimp only; omega) k1), cell_st (by dsimp only; omega) (cell_st (by dsimp only; omega) k2), cell_st (by dsimp only; omega) (cell_st (by dsimp only; omega) k3), cell_st (by dsimp only; omega) (cell_st (by dsimp only; omega) k4)⟩)
    (first
      | (go_at_call 25; (with_reducible refine (Len_any p _ n _ (by first | exact TL.out | exact TL.out.drew) Hn.out).mono ?_); rintro e w1 ⟨rfl, st0⟩; have st : Below w0.heap.size w0 w1 := (by first | exact st0 | exact Below.of_dr st0); replace f5 := fro_gr st k5 f5; replace k1 := cell_gr st k1; replace k2 := cell_gr st k2; replace k3 := cell_gr st k3; replace k4 := cell_gr st k4; replace k5 := cell_gr st k5; replace TL := Lib.hid (TL.out.grow st); replace TR := Lib.hid (TR.out.grow st); replace BL := Lib.hid (BL.out.trans (st.mono BL.out.size)); replace sz := Nat.lt_of_lt_of_le sz st.size; clear st st0)
      | (go_at_call 25; (with_reducible refine (Len_any q _ m _ (by first | exact TR.out | exact TR.out.drew) Hm.out).mono ?_); rintro e w2 ⟨rfl, st0⟩; have st : Below w1.heap.size w1 w2 := (by first | exact st0 | exact Below.of_dr st0); replace f5 := fro_gr st k5 f5; replace k1 := cell_gr st k1; replace k2 := cell_gr st k2; replace k3 := cell_gr st k3; replace k4 := cell_gr st k4; replace k5 := cell_gr st k5; replace TL := Lib.hid (TL.out.grow st); replace TR := Lib.hid (TR.out.grow st); replace BL := Lib.hid (BL.out.trans (st.mono BL.out.size)); replace sz := Nat.lt_of_lt_of_le sz st.size; clear st st0)
      | (go_at_call 70; (with_reducible refine (Depth_any p _ c _ (by first | exact TL.out | exact TL.out.drew) Hc.out).mono ?_); rintro e w3 ⟨rfl, st0⟩; have st : Below w2.heap.size w2 w3 := (by first | exact st0 | exact Below.of_dr st0); replace f5 := fro_gr st k5 f5; replace k1 := cell_gr st k1; replace k2 := cell_gr st k2; replace k3 := cell_gr st k3; replace k4 := cell_gr st k4; replace k5 := cell_gr st k5; replace TL := Lib.hid (TL.out.grow st); replace TR := Lib.hid (TR.out.grow st); replace BL := Lib.hid (BL.out.trans (st.mono BL.out.size)); replace sz := Nat.lt_of_lt_of_le sz st.size; clear st st0)
      | (go_at_call 70; (with_reducible refine (Depth_any q _ d _ (by first | exact TR.out | exact TR.out.drew) Hd.out).mono ?_); rintro e w4 ⟨rfl, st0⟩; have st : Below w3.heap.size w3 w4 := (by first | exact st0 | exact Below.of_dr st0); replace f5 := fro_gr st k5 f5; replace k1 := cell_gr st k1; replace k2 := cell_gr st k2; replace k3 := cell_gr st k3; replace k4 := cell_gr st k4; replace k5 := cell_gr st k5; replace TL := Lib.hid (TL.out.grow st); replace TR := Lib.hid (TR.out.grow st); replace BL := Lib.hid (BL.out.trans (st.mono BL.out.size)); replace sz := Nat.lt_of_lt_of_le sz st.size; clear st st0))
  have FIN := Lib.hid (tie_fin w w4 p q l r kx0 v M (n + 1 + m) (.pointer (some ⟨w4.heap.size, 0, none⟩)) 120 HL.out HR.out BL.out HK.out.2 (by have := Hn.out; have := Hm.out; omega) HM.out)
  rw [← HK.out.1] at FIN
  clear HL HR BL hM HM TL TR HK
  go_wp2_with fail
  exact bodyPost_ret (v := .agg #[.pointer (some ⟨w4.heap.size, 0, none⟩)]) (by simp [results, Try.results68, go_sem, k5, sz]) rfl FIN.out
end Go.Proofs.Ytbphmcjjanchlaa.Mii
