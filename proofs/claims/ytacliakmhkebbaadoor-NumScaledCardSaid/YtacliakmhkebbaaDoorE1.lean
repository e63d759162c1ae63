/- The closed example that every statement of the layer asks: it answers true, whatever the memory. -/
import Derived.Test.YtacliakmhkebbaaDoorD1
import Derived.Test.YtacliakmhkebbaaDoorC3
namespace Go.Proofs.YtacliakmhkebbaaDoor
open Go.RowKit
set_option linter.unusedVariables false
set_option linter.unusedSimpArgs false

set_option maxRecDepth 100000 in
set_option maxHeartbeats 1000000 in
theorem alive_any (w : World) :
    Calls Tryd.prog 8 #[] w fun e w' => e = .returned (.bool true) ∧ Below w.heap.size w w' := by
  go_enter Tryd.func8, Tryd.ntmps8
  go_wp2_with fail
  refine (apportion3 _ _ _ (by simp [go_sem]) (by simp [go_sem]) (by simp [go_sem])).mono ?_
  rintro e w1 ⟨g, cp, rfl, g0, g1, g2, hb1⟩
  have hb := ((Below.refl w.heap.size w).alloc (Nat.le_refl _) _).trans (hb1.mono (by simp))
  clear hb1
  have lg : g < w1.heap.size := World.block_lt_of_cell? w1 _ g0
  go_wp2_with fail
  refine (best3 _).mono ?_
  rintro e w2 ⟨rfl, hb2⟩
  unfold fracV
  replace g0 := (hb2.cell (p := ⟨g, 0, none⟩) lg).trans g0
  replace g1 := (hb2.cell (p := ⟨g, 1, none⟩) lg).trans g1
  replace g2 := (hb2.cell (p := ⟨g, 2, none⟩) lg).trans g2
  replace lg : g < w2.heap.size := Nat.lt_of_lt_of_le lg hb2.size
  replace hb := hb.trans (hb2.mono hb.size)
  clear hb2
  go_wp2_with fail
  refine (decimal3 _).mono ?_
  rintro e w3 ⟨rfl, hb3⟩
  have q0 : w3.cell? ⟨w2.heap.size, 0, none⟩ = some (.int .i64 22) := (hb3.cell (p := ⟨w2.heap.size, 0, none⟩) (by simp)).trans (by simp [go_sem])
  have q1 : w3.cell? ⟨w2.heap.size, 1, none⟩ = some (.int .i64 7) := (hb3.cell (p := ⟨w2.heap.size, 1, none⟩) (by simp)).trans (by simp [go_sem])
  replace hb3 : Below w2.heap.size w2 w3 := ((Below.refl _ w2).alloc (Nat.le_refl _) _).trans (hb3.mono (by simp))
  replace g0 := (hb3.cell (p := ⟨g, 0, none⟩) lg).trans g0
  replace g1 := (hb3.cell (p := ⟨g, 1, none⟩) lg).trans g1
  replace g2 := (hb3.cell (p := ⟨g, 2, none⟩) lg).trans g2
  replace hb := hb.trans (hb3.mono hb.size)
  have lg3 : g < w3.heap.size := Nat.lt_of_lt_of_le lg hb3.size
  have lf3 : w2.heap.size < w3.heap.size := World.block_lt_of_cell? w3 _ q0
  clear hb3 lg
  generalize w2.heap.size = F at q0 q1 lf3 ⊢
  go_wp2_with fail
  refine (same3 g w3.heap.size _ _ 4 4 2 _ (by simp [go_sem, g0, lg3]) (by simp [go_sem, g1, lg3]) (by simp [go_sem, g2, lg3]) (by simp [go_sem]) (by simp [go_sem]) (by simp [go_sem])).mono ?_
  rintro e w4 ⟨rfl, n4, rfl⟩
  go_wp2_with fail
  refine (Valid_any 22 7 (by decide) (by decide) _).mono ?_
  rintro e w5 ⟨rfl, hb5⟩
  rw [show vldB 22 7 = true from by kernel_rfl]
  go_wp2_with fail
  go_ret
  refine ⟨rfl, ?_⟩
  have hb4 := below_drewN (hb.alloc hb.size (Obj.cells #[Value.int IntKind.i64 4, Value.int IntKind.i64 4, Value.int IntKind.i64 2] 3)) n4
  exact hb4.trans (hb5.mono hb4.size)
end Go.Proofs.YtacliakmhkebbaaDoor
