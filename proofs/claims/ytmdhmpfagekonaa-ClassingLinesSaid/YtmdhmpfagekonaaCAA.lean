/- The closed example that every statement of the layer asks: it answers true, whatever the memory. -/
import Derived.Test.YtmdhmpfagekonaaCA6
namespace Go.Proofs.Ytmdhmpfagekonaa
open Go.RowKit

theorem alive_run : Ev.allTrue (Ev.callOf Try.prog clX (Ev.evM Try.prog clX ((Ev.listQ clQ)) (fun _ => false) caL33 500) 11 [] .nil 0) = true := by kernel_rfl
theorem alive_any (w : World) : Calls Try.prog 11 #[] w fun e w' => e = .returned (.bool true) ∧ Below w.heap.size w w' :=
  Ev.closedM_true (by kernel_rfl) clX_ok ((Ev.listQ_ok clQ_ok)) (.none _) caT33 (args := []) rfl alive_run ⟨_, _, Try.func11, by kernel_rfl, rfl⟩ w
end Go.Proofs.Ytmdhmpfagekonaa
