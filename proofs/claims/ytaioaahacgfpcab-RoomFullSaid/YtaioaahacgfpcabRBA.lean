/- The closed example that every statement of the layer asks: it answers true, whatever the memory. -/
import Derived.Test.YtaioaahacgfpcabRB2
namespace Go.Proofs.Ytaioaahacgfpcab
open Go.RowKit

theorem alive_run : Ev.allTrue (Ev.callOf Try.prog rmX (Ev.evM Try.prog rmX (Ev.listQ rmQ) (fun _ => false) rbL14 500) 7 [] .nil 0) = true := by kernel_rfl
theorem alive_any (w : World) : Calls Try.prog 7 #[] w fun e w' => e = .returned (.bool true) ∧ Below w.heap.size w w' :=
  Ev.closedM_true (by kernel_rfl) rmX_ok (Ev.listQ_ok rmQ_ok) (.none _) rbT14 (args := []) rfl alive_run ⟨_, _, Try.func7, by kernel_rfl, rfl⟩ w
end Go.Proofs.Ytaioaahacgfpcab
