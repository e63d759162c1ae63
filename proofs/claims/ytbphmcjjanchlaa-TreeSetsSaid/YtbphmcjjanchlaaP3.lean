/- Two boxes beside a call, in whatever order they were made. -/
import Derived.Test.YtbphmcjjanchlaaP2
namespace Go.Proofs.Ytbphmcjjanchlaa
open Go.RowKit
set_option linter.unusedVariables false
set_option linter.unusedSimpArgs false

/-- Behind a call that gave back two trees: they lie in two boxes. -/
structure TwoB {κ : Type} [KV κ] (w0 : World) (q1 q2 : Option Addr) (lo hi : Tr κ Value) (B1 B2 : Nat) (W : World) : Prop where
  bel : Below w0.heap.size w0 W
  c1 : W.cell? ⟨B1, 0, none⟩ = some (.pointer q1)
  c2 : W.cell? ⟨B2, 0, none⟩ = some (.pointer q2)
  al : At W q1 lo
  ah : At W q2 hi
  z1 : w0.heap.size ≤ B1
  z2 : w0.heap.size ≤ B2
section
variable {κ : Type} [KV κ] {w0 w1 : World} {q1 q2 : Option Addr} {lo hi : Tr κ Value} (t1 t2 : TypeId)
theorem TwoB.drew {B1 B2 : Nat} {W : World} (h : TwoB w0 q1 q2 lo hi B1 B2 W) : TwoB w0 q1 q2 lo hi B1 B2 W.drew :=
  ⟨Below.dr h.bel, h.c1, h.c2, h.al.drew, h.ah.drew, h.z1, h.z2⟩
theorem two_1 (st : Below w0.heap.size w0 w1) (al : At w1 q1 lo) (ah : At w1 q2 hi) : TwoB w0 q1 q2 lo hi w1.heap.size (w1.heap.size + 1) ((w1.alloc (.cells #[.pointer q1] t1)).alloc (.cells #[.pointer q2] t2)) :=
  ⟨(st.alloc st.size _).alloc (by have := st.size; simp; omega) _, by simp [go_sem], by simp [go_sem], (al.alloc _).alloc _, (ah.alloc _).alloc _, by have := st.size; omega, by have := st.size; omega⟩
theorem two_2 (st : Below w0.heap.size w0 w1) (al : At w1 q1 lo) (ah : At w1 q2 hi) : TwoB w0 q1 q2 lo hi (w1.heap.size + 1) w1.heap.size ((w1.alloc (.cells #[.pointer q2] t1)).alloc (.cells #[.pointer q1] t2)) :=
  ⟨(st.alloc st.size _).alloc (by have := st.size; simp; omega) _, by simp [go_sem], by simp [go_sem], (al.alloc _).alloc _, (ah.alloc _).alloc _, by have := st.size; omega, by have := st.size; omega⟩
theorem two_3 {B : Nat} (hB : w0.heap.size ≤ B) (st : Below w0.heap.size w0 w1) (al : At w1 q1 lo) (ah : At w1 q2 hi) (b : w1.cell? ⟨B, 0, none⟩ = some (.pointer none)) :
    TwoB w0 q1 q2 lo hi B w1.heap.size ((w1.setCell ⟨B, 0, none⟩ (.pointer q1)).alloc (.cells #[.pointer q2] t2)) :=
  ⟨(st.setCell hB _).alloc (by have := st.size; simpa using this) _, cell_al _ (World.cell?_setCell_same' _ _ _ (by rw [b]; rfl)), by simp [go_sem], (al.set _ b).alloc _, (ah.set _ b).alloc _, by have := st.size; omega, by have := st.size; omega⟩
theorem two_4 {B : Nat} (hB : w0.heap.size ≤ B) (st : Below w0.heap.size w0 w1) (al : At w1 q1 lo) (ah : At w1 q2 hi) (b : w1.cell? ⟨B, 0, none⟩ = some (.pointer none)) :
    TwoB w0 q1 q2 lo hi w1.heap.size B ((w1.setCell ⟨B, 0, none⟩ (.pointer q2)).alloc (.cells #[.pointer q1] t2)) :=
  ⟨(st.setCell hB _).alloc (by have := st.size; simpa using this) _, by simp [go_sem], cell_al _ (World.cell?_setCell_same' _ _ _ (by rw [b]; rfl)), (al.set _ b).alloc _, (ah.set _ b).alloc _, by have := st.size; omega, by have := st.size; omega⟩
theorem two_5 {B C : Nat} (hB : w0.heap.size ≤ B) (hC : w0.heap.size ≤ C) (hne : ¬ B = C) (st : Below w0.heap.size w0 w1) (al : At w1 q1 lo) (ah : At w1 q2 hi) (b : w1.cell? ⟨B, 0, none⟩ = some (.pointer none)) (c : w1.cell? ⟨C, 0, none⟩ = some (.pointer none)) :
    TwoB w0 q1 q2 lo hi B C ((w1.setCell ⟨B, 0, none⟩ (.pointer q1)).setCell ⟨C, 0, none⟩ (.pointer q2)) :=
  have c' : (w1.setCell ⟨B, 0, none⟩ (.pointer q1)).cell? ⟨C, 0, none⟩ = some (.pointer none) := cell_st (by dsimp only; omega) c
  ⟨(st.setCell hB _).setCell hC _, cell_st (by dsimp only; omega) (World.cell?_setCell_same' _ _ _ (by rw [b]; rfl)), World.cell?_setCell_same' _ _ _ (by rw [c']; rfl), (al.set _ b).set _ c', (ah.set _ b).set _ c', hB, hC⟩
end
/-- Behind a call that was made with no box, one, two made before. -/
theorem beh0 {w0 w1 : World} (st0 : Below w0.heap.size w0 w1) : Below w0.heap.size w0 w1 := st0
theorem beh1 {w0 w1 : World} {t : TypeId} (st0 : Below (w0.alloc (.cells #[.pointer none] t)).heap.size (w0.alloc (.cells #[.pointer none] t)) w1) :
    Below w0.heap.size w0 w1 ∧ w1.cell? ⟨w0.heap.size, 0, none⟩ = some (.pointer none) ∧ w1.frozen? ⟨w0.heap.size, 0, none⟩ = false ∧ w0.heap.size < w1.heap.size := by
  have b0 : w1.cell? ⟨w0.heap.size, 0, none⟩ = some (.pointer none) := cell_gr st0 (by simp [go_sem])
  exact ⟨((Below.refl _ _).alloc (Nat.le_refl _) _).trans (st0.mono (by simp)), b0, fro_gr (a := ⟨w0.heap.size, 0, none⟩) (x := .pointer none) st0 (by simp [go_sem]) (by simp [go_sem]), World.block_lt_of_cell? w1 _ b0⟩
theorem beh2 {w0 w1 : World} {t t' : TypeId} (st0 : Below ((w0.alloc (.cells #[.pointer none] t)).alloc (.cells #[.pointer none] t')).heap.size ((w0.alloc (.cells #[.pointer none] t)).alloc (.cells #[.pointer none] t')) w1) :
    Below w0.heap.size w0 w1 ∧ w1.cell? ⟨w0.heap.size, 0, none⟩ = some (.pointer none) ∧ w1.frozen? ⟨w0.heap.size, 0, none⟩ = false ∧ w0.heap.size < w1.heap.size ∧ w1.cell? ⟨w0.heap.size + 1, 0, none⟩ = some (.pointer none) ∧ w1.frozen? ⟨w0.heap.size + 1, 0, none⟩ = false ∧ w0.heap.size + 1 < w1.heap.size := by
  have b0 : w1.cell? ⟨w0.heap.size, 0, none⟩ = some (.pointer none) := cell_gr st0 (by simp [go_sem])
  have b1 : w1.cell? ⟨w0.heap.size + 1, 0, none⟩ = some (.pointer none) := cell_gr st0 (by simp [go_sem])
  exact ⟨(((Below.refl _ _).alloc (Nat.le_refl _) _).alloc (by simp) _).trans (st0.mono (by simp; omega)), b0, fro_gr (a := ⟨w0.heap.size, 0, none⟩) (x := .pointer none) st0 (by simp [go_sem]) (by simp [go_sem]), World.block_lt_of_cell? w1 _ b0, b1, fro_gr (a := ⟨w0.heap.size + 1, 0, none⟩) (x := .pointer none) st0 (by simp [go_sem]) (by simp [go_sem]), World.block_lt_of_cell? w1 _ b1⟩
end Go.Proofs.Ytbphmcjjanchlaa
