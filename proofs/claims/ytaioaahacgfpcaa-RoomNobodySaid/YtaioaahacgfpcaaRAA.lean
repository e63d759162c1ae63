/- The closed example that every statement of the layer asks: it answers true, whatever the memory. -/
import Derived.Test.YtaioaahacgfpcaaRA2
namespace Go.Proofs.Ytaioaahacgfpcaa
open Go.RowKit

theorem alive_run : Ev.allTrue (Ev.callOf Try.prog rmX (Ev.evM Try.prog rmX (Ev.listQ rmQ) (fun _ => false) [raE14, raE13, raE12, raE11, raE10, raE9, raE8, raE7, raE6, raE5, raE4, raE3, raE2, raE1, raE0] 500) 15 [] .nil 0) = true := by kernel_rfl
theorem alive_any (w : World) : Calls Try.prog 15 #[] w fun e w' => e = .returned (.bool true) ∧ Below w.heap.size w w' :=
  Ev.closedM_true (by kernel_rfl) rmX_ok (Ev.listQ_ok rmQ_ok) (.none _) raT14 (args := []) rfl alive_run ⟨_, _, Try.func15, by kernel_rfl, rfl⟩ w
end Go.Proofs.Ytaioaahacgfpcaa
