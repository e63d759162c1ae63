/- The closed example that every statement of the layer asks: it answers true, whatever the memory. -/
import Derived.Test.YtkhdpmicejmabaaCA6
namespace Go.Proofs.Ytkhdpmicejmabaa
open Go.RowKit

theorem alive_run : Ev.allTrue (Ev.callOf Try.prog clX (Ev.evM Try.prog clX ((Ev.listQ clQ)) (fun _ => false) caL33 500) 5 [] .nil 0) = true := by kernel_rfl
theorem alive_any (w : World) : Calls Try.prog 5 #[] w fun e w' => e = .returned (.bool true) ∧ Below w.heap.size w w' :=
  Ev.closedM_true (by kernel_rfl) clX_ok ((Ev.listQ_ok clQ_ok)) (.none _) caT33 (args := []) rfl alive_run ⟨_, _, Try.func5, by kernel_rfl, rfl⟩ w
end Go.Proofs.Ytkhdpmicejmabaa
