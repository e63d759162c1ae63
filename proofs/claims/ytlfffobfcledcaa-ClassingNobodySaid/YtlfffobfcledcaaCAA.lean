/- The closed example that every statement of the layer asks: it answers true, whatever the memory. -/
import Derived.Test.YtlfffobfcledcaaCA6
namespace Go.Proofs.Ytlfffobfcledcaa
open Go.RowKit

theorem alive_run : Ev.allTrue (Ev.callOf Try.prog clX (Ev.evM Try.prog clX (Ev.listQ clQ) [caE21, caE20, caE19, caE18, caE17, caE16, caE15, caE14, caE13, caE12, caE11, caE10, caE9, caE8, caE7, caE6, caE5, caE4, caE3, caE2, caE1, caE0] 500) 13 [] .nil 0) = true := by kernel_rfl
theorem alive_any (w : World) : Calls Try.prog 13 #[] w fun e w' => e = .returned (.bool true) ∧ Below w.heap.size w w' :=
  Ev.closedM_true (by kernel_rfl) clX_ok (Ev.listQ_ok clQ_ok) caT21 (args := []) rfl alive_run ⟨_, _, Try.func13, by kernel_rfl, rfl⟩ w
end Go.Proofs.Ytlfffobfcledcaa
