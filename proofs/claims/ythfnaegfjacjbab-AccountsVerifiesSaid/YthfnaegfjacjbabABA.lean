/- The closed example that every statement of the layer asks: it answers true, whatever the memory. -/
import Derived.Test.YthfnaegfjacjbabAB4
namespace Go.Proofs.Ythfnaegfjacjbab
open Go.RowKit

theorem alive_run : Ev.allTrue (Ev.callOf Try.prog aaX (Ev.evM Try.prog aaX ((Ev.listQ aaQ)) (fun _ => false) abL14 500) 15 [] .nil 0) = true := by kernel_rfl
theorem alive_any (w : World) : Calls Try.prog 15 #[] w fun e w' => e = .returned (.bool true) ∧ Below w.heap.size w w' :=
  Ev.closedM_true (by kernel_rfl) aaX_ok ((Ev.listQ_ok aaQ_ok)) (.none _) abT14 (args := []) rfl alive_run ⟨_, _, Try.func15, by kernel_rfl, rfl⟩ w
end Go.Proofs.Ythfnaegfjacjbab
