/- A closed run, its pieces from 24 on. -/
import Derived.Test.YtmdhmpfagekonaaCA4
namespace Go.Proofs.Ytmdhmpfagekonaa
open Go.RowKit

theorem caR24 : Ev.comesTo (Ev.callOf Try.prog clX (Ev.evM Try.prog clX ((Ev.listQ clQ)) (fun _ => false) caL23 500) 49 [(.agg #[(.int .i64 (.ofNat 2)), (.int .i64 (.ofNat 0)), (.int .i64 (.ofNat 10000)), (.slice (some ⟨41, 0, none⟩) 3 7), (.slice (some ⟨43, 0, none⟩) 3 7), (.slice (some ⟨45, 0, none⟩) 3 7)]), (.int .i64 (.ofNat 0)), (.int .i64 (.ofNat 2)), (.slice (some ⟨356, 0, none⟩) 4 9)] caH256 410) ((.int .i64 (.ofNat 10)), caH260, 412) = true := by kernel_rfl
noncomputable def caL24 : List Ev.Entry := caE24 :: caL23
theorem caT24 : Ev.TabOk Try.prog ((Ev.listQ clQ)) caL24 := .cons (Ev.entry_ok (by kernel_rfl) clX_ok ((Ev.listQ_ok clQ_ok)) (.none _) caT23 caR24) caT23
theorem caR25 : Ev.comesTo (Ev.callOf Try.prog clX (Ev.evM Try.prog clX ((Ev.listQ clQ)) (fun _ => false) caL24 500) 58 [(.slice (some ⟨43, 0, none⟩) 2 7)] caH272 426) ((.int .i64 (.ofNat 2)), caH277, 434) = true := by kernel_rfl
noncomputable def caL25 : List Ev.Entry := caE25 :: caL24
theorem caT25 : Ev.TabOk Try.prog ((Ev.listQ clQ)) caL25 := .cons (Ev.entry_ok (by kernel_rfl) clX_ok ((Ev.listQ_ok clQ_ok)) (.none _) caT24 caR25) caT24
theorem caR26 : Ev.comesTo (Ev.callOf Try.prog clX (Ev.evM Try.prog clX ((Ev.listQ clQ)) (fun _ => false) caL25 500) 59 [(.slice (some ⟨43, 0, none⟩) 2 7)] caH277 434) ((.int .i64 (.ofNat 1900)), caH282, 442) = true := by kernel_rfl
noncomputable def caL26 : List Ev.Entry := caE26 :: caL25
theorem caT26 : Ev.TabOk Try.prog ((Ev.listQ clQ)) caL26 := .cons (Ev.entry_ok (by kernel_rfl) clX_ok ((Ev.listQ_ok clQ_ok)) (.none _) caT25 caR26) caT25
theorem caR27 : Ev.comesTo (Ev.callOf Try.prog clX (Ev.evM Try.prog clX ((Ev.listQ clQ)) (fun _ => false) caL26 500) 50 [(.agg #[(.int .i64 (.ofNat 2)), (.int .i64 (.ofNat 0)), (.int .i64 (.ofNat 10000)), (.slice (some ⟨41, 0, none⟩) 3 7), (.slice (some ⟨43, 0, none⟩) 3 7), (.slice (some ⟨45, 0, none⟩) 3 7)]), (.int .i64 (.ofNat 0)), (.int .i64 (.ofNat 2))] caH260 420) ((.agg #[(.int .u8 (.ofNat 0)), (.int .u8 (.ofNat 0)), (.int .u8 (.ofNat 0)), (.int .u8 (.ofNat 0)), (.slice (some ⟨424, 0, none⟩) 2 2), (.int .i64 (.ofNat 2)), (.int .i64 (.ofNat 1900)), (.int .i64 (.ofNat 10))]), caH286, 442) = true := by kernel_rfl
noncomputable def caL27 : List Ev.Entry := caE27 :: caL26
theorem caT27 : Ev.TabOk Try.prog ((Ev.listQ clQ)) caL27 := .cons (Ev.entry_ok (by kernel_rfl) clX_ok ((Ev.listQ_ok clQ_ok)) (.none _) caT26 caR27) caT26
theorem caR28 : Ev.comesTo (Ev.callOf Try.prog clX (Ev.evM Try.prog clX ((Ev.listQ clQ)) (fun _ => false) caL27 500) 49 [(.agg #[(.int .i64 (.ofNat 2)), (.int .i64 (.ofNat 0)), (.int .i64 (.ofNat 10000)), (.slice (some ⟨41, 0, none⟩) 3 7), (.slice (some ⟨43, 0, none⟩) 3 7), (.slice (some ⟨45, 0, none⟩) 3 7)]), (.int .i64 (.ofNat 2)), (.int .i64 (.ofNat 3)), (.slice (some ⟨350, 0, none⟩) 4 9)] caH291 442) ((.int .i64 (.ofNat 0)), caH294, 444) = true := by kernel_rfl
noncomputable def caL28 : List Ev.Entry := caE28 :: caL27
theorem caT28 : Ev.TabOk Try.prog ((Ev.listQ clQ)) caL28 := .cons (Ev.entry_ok (by kernel_rfl) clX_ok ((Ev.listQ_ok clQ_ok)) (.none _) caT27 caR28) caT27
theorem caR29 : Ev.comesTo (Ev.callOf Try.prog clX (Ev.evM Try.prog clX ((Ev.listQ clQ)) (fun _ => false) caL28 500) 58 [(.slice (some ⟨43, 12, none⟩) 1 3)] caH301 458) ((.int .i64 (.ofNat 1)), caH303, 462) = true := by kernel_rfl
noncomputable def caL29 : List Ev.Entry := caE29 :: caL28
theorem caT29 : Ev.TabOk Try.prog ((Ev.listQ clQ)) caL29 := .cons (Ev.entry_ok (by kernel_rfl) clX_ok ((Ev.listQ_ok clQ_ok)) (.none _) caT28 caR29) caT28
end Go.Proofs.Ytmdhmpfagekonaa
