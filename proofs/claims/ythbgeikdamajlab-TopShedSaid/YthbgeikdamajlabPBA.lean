/- The closed example that every statement of the layer asks: it answers true, whatever the memory. -/
import Derived.Test.YthbgeikdamajlabPB2
namespace Go.Proofs.Ythbgeikdamajlab
open Go.RowKit

theorem alive_run : Ev.allTrue (Ev.callOf Try.prog paX (Ev.evM Try.prog paX ((Ev.listQ paQ)) (fun _ => false) pbL1 500) 9 [] .nil 0) = true := by kernel_rfl
theorem alive_any (w : World) : Calls Try.prog 9 #[] w fun e w' => e = .returned (.bool true) ∧ Below w.heap.size w w' :=
  Ev.closedM_true (by kernel_rfl) paX_ok ((Ev.listQ_ok paQ_ok)) (.none _) pbT1 (args := []) rfl alive_run ⟨_, _, Try.func9, by kernel_rfl, rfl⟩ w
end Go.Proofs.Ythbgeikdamajlab
