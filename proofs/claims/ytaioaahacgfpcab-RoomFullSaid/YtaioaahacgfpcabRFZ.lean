/-
  The law RoomFull answers true for every input. Conditions: none beside the row's own.
-/
import Derived.Test.YtaioaahacgfpcabRF12
import Derived.Test.YtaioaahacgfpcabRows
import Derived.ProofKit
import Derived.OpenShut
import Derived.Deep.DeepHandedRow
import Derived.Lib.SmallJoins
import Derived.ChangeOld
import Derived.Carry
import Derived.Leaving
import Derived.Conc.Holds
namespace Go.Proofs.Ytaioaahacgfpcab.roomFull
open Go.ChangeShapes Go.WideShapes Go.ChangeAt Go.RowKit Go.Joins Go.Deep
set_option linter.unusedVariables false
set_option linter.unusedSimpArgs false

theorem full_run : Ev.allTrue (Ev.callOf Try.prog rmX (Ev.evM Try.prog rmX (Ev.listQ rmQ) rmK rfL132 500) 4 [.complex .f64 0 1] .nil 0) = true := by kernel_rfl
theorem full_any (z : Int) (h0 : 0 ≤ z) (h1 : z ≤ 65535) (w : World) : Calls Try.prog 4 #[.int .u16 z] w fun e w' => e = .returned (.bool true) ∧ Below w.heap.size w w' :=
  Ev.closedH_true (by kernel_rfl) rmX_ok (Ev.listQ_ok rmQ_ok) rmK_ok rfT132 (args' := [.int .u16 z]) (fun m => .cons (.holeU z h0 h1) .nil) full_run ⟨_, _, Try.func4, by kernel_rfl, rfl⟩ w

theorem own : ownKnob Try.prog.godebug = none := by kernel_rfl
theorem laidOut : laidOutB Try.prog = true := by kernel_rfl
theorem u16_of_wf {x : Int} (h : (Lit.int .u16 x).wf = true) : 0 ≤ x ∧ x ≤ 65535 := by
  simp [Lit.wf, IntKind.min, IntKind.max, IntKind.signed, IntKind.bits] at h
  exact ⟨by omega, by omega⟩

set_option maxRecDepth 100000 in
theorem lifted (os : Os) (started : os.Started) (H : Type) (enc : TypeId × Value → H) :
    ReturnsInHanded {} Try.checked os 4 .any (Rows.roomFullSpec.pre6 enc Try.prog Try.f4 Rows.roomFullRow.domain false) (Rows.roomFullSpec.post enc Try.prog Try.f4 false true false false) := by
  refine returnsInHanded_of_change (C := Try.checked) own started (by kernel_rfl) Try.func4
    (ChangeSpec.witness6 (enc := enc) (C := Try.checked) false ⟨#[], #[.int .u16 0], []⟩ 8 (by kernel_rfl) (by kernel_rfl) (by kernel_rfl) (by kernel_rfl)) ?_
  intro W base args ds gs before hval0 hW hcnd _
  have hval : ∀ (j : Nat) t v, Try.f4.params[j]? = some t → args[j]? = some v → Value.okWide Try.prog W .any base t v := hval0
  have hW' := hW
  obtain ⟨p, q, hA0, hV, rfl, hfz, hnd⟩ := hW
  have hA : DataW.TrodAll enc Try.prog W 0 (fun _ => true) true Try.f4.params.toList args.toList ds p := hA0
  rw [Try.params4] at hA hval
  obtain ⟨v0, vs0, d0, ds0, p0, q0, hargs, rfl, rfl, h0, r0⟩ := trodAll_cons hA
  obtain ⟨rfl, rfl, rfl⟩ := trodAll_nil r0
  obtain rfl : args = #[v0] := by cases args; simp_all
  obtain ⟨rfl, rfl⟩ := trodVars_none hV
  obtain ⟨a0, rfl, rfl, rfl, w0⟩ := open_int Try.underlying41 (hval 0 41 v0 rfl rfl) h0
  obtain ⟨x0, y0⟩ := u16_of_wf w0
  clear hA0 hval0
  refine (full_any a0 x0 y0 W).mono fun e W' ⟨he, hg⟩ => ?_
  subst he
  exact ⟨_, rfl, _, _, _, [], _, [], hW', trodAll_cons_mk (shut_bool Try.underlying4 _) trodAll_mk0, trodAll_cons_mk (shut_int Try.underlying41 w0) trodAll_mk0, rfl, hg.frame _, fun h => by cases h⟩

theorem over : Rows.roomFullRow.holds Try.pinned (OpenSpec.ofChange Rows.roomFullSpec) :=
  OpenClaim.holds_of_wide 4 Try.f4 rfl rfl rfl rfl rfl rfl rfl ⟨rfl, rfl, rfl, rfl, rfl⟩ rfl rfl rfl rfl rfl (by kernel_rfl) Try.func4 (by kernel_rfl)
    (of_decide_eq_true (by kernel_rfl)) (by unfold Func.isWrapper; rw [if_neg (of_decide_eq_false (by kernel_rfl))]; exact ⟨rfl, rfl⟩)
    (fun os started H enc _ => lifted os started H enc)

theorem proved : Rows.RoomFullSaid := over
end Go.Proofs.Ytaioaahacgfpcab.roomFull
