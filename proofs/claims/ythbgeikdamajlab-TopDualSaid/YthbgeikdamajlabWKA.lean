/- The closed example that every statement of the layer asks: it answers true, whatever the memory. -/
import Derived.Test.YthbgeikdamajlabWK1
namespace Go.Proofs.Ythbgeikdamajlab
open Go.RowKit

theorem worked_run : Ev.allTrue (Ev.callOf Try.prog wkX (Ev.evM Try.prog wkX ((Ev.listQ wkQ)) (fun _ => false) wkL0 500) 20 [] .nil 0) = true := by kernel_rfl
theorem worked_any (w : World) : Calls Try.prog 20 #[] w fun e w' => e = .returned (.bool true) ∧ Below w.heap.size w w' :=
  Ev.closedM_true (by kernel_rfl) wkX_ok ((Ev.listQ_ok wkQ_ok)) (.none _) wkT0 (args := []) rfl worked_run ⟨_, _, Try.func20, by kernel_rfl, rfl⟩ w
end Go.Proofs.Ythbgeikdamajlab
