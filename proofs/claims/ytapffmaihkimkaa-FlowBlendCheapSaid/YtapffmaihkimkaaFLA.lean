/- The closed example that every statement of the layer asks: it answers true, whatever the memory. -/
import Derived.Test.YtapffmaihkimkaaEV15
import Derived.Test.YtapffmaihkimkaaProg
namespace Go.Proofs.Ytapffmaihkimkaa
open Go.RowKit

theorem alive_run : Ev.allTrue (Ev.callOf Try.prog (fun _ => false) (Ev.evN Try.prog (fun _ => false) (fun _ => false) 500) 5 [] .nil 0) = true := by kernel_rfl
theorem alive_any (w : World) : Calls Try.prog 5 #[] w fun e w' => e = .returned (.bool true) ∧ Below w.heap.size w w' :=
  Ev.closed_true (by kernel_rfl) (Ev.ExtOk.none _) (fun _ h => by cases h) (args := []) rfl alive_run ⟨_, _, Try.func5, by kernel_rfl, rfl⟩ w
end Go.Proofs.Ytapffmaihkimkaa
