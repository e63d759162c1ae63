/- A closed run, its pieces from 12 on. -/
import Derived.Test.YtmdhmpfagekonaaCA2
namespace Go.Proofs.Ytmdhmpfagekonaa
open Go.RowKit

theorem caR12 : Ev.comesTo (Ev.callOf Try.prog clX (Ev.evM Try.prog clX ((Ev.listQ clQ)) (fun _ => false) caL11 500) 49 [(.agg #[(.int .i64 (.ofNat 2)), (.int .i64 (.ofNat 0)), (.int .i64 (.ofNat 10000)), (.slice (some ⟨41, 0, none⟩) 3 7), (.slice (some ⟨43, 0, none⟩) 3 7), (.slice (some ⟨45, 0, none⟩) 3 7)]), (.int .i64 (.ofNat 0)), (.int .i64 (.ofNat 1)), (.slice (some ⟨356, 0, none⟩) 4 9)] caH184 388) ((.int .i64 (.ofNat 390)), caH191, 390) = true := by kernel_rfl
noncomputable def caL12 : List Ev.Entry := caE12 :: caL11
theorem caT12 : Ev.TabOk Try.prog ((Ev.listQ clQ)) caL12 := .cons (Ev.entry_ok (by kernel_rfl) clX_ok ((Ev.listQ_ok clQ_ok)) (.none _) caT11 caR12) caT11
theorem caR13 : Ev.comesTo (Ev.callOf Try.prog clX (Ev.evM Try.prog clX ((Ev.listQ clQ)) (fun _ => false) caL12 500) 49 [(.agg #[(.int .i64 (.ofNat 2)), (.int .i64 (.ofNat 0)), (.int .i64 (.ofNat 10000)), (.slice (some ⟨41, 0, none⟩) 3 7), (.slice (some ⟨43, 0, none⟩) 3 7), (.slice (some ⟨45, 0, none⟩) 3 7)]), (.int .i64 (.ofNat 0)), (.int .i64 (.ofNat 2)), (.slice (some ⟨356, 0, none⟩) 4 9)] caH191 390) ((.int .i64 (.ofNat 10)), caH198, 392) = true := by kernel_rfl
noncomputable def caL13 : List Ev.Entry := caE13 :: caL12
theorem caT13 : Ev.TabOk Try.prog ((Ev.listQ clQ)) caL13 := .cons (Ev.entry_ok (by kernel_rfl) clX_ok ((Ev.listQ_ok clQ_ok)) (.none _) caT12 caR13) caT12
theorem caR14 : Ev.comesTo (Ev.callOf Try.prog clX (Ev.evM Try.prog clX ((Ev.listQ clQ)) (fun _ => false) caL13 500) 49 [(.agg #[(.int .i64 (.ofNat 2)), (.int .i64 (.ofNat 0)), (.int .i64 (.ofNat 10000)), (.slice (some ⟨41, 0, none⟩) 3 7), (.slice (some ⟨43, 0, none⟩) 3 7), (.slice (some ⟨45, 0, none⟩) 3 7)]), (.int .i64 (.ofNat 0)), (.int .i64 (.ofNat 3)), (.slice (some ⟨356, 0, none⟩) 4 9)] caH198 392) ((.int .i64 (.negSucc 0)), caH206, 394) = true := by kernel_rfl
noncomputable def caL14 : List Ev.Entry := caE14 :: caL13
theorem caT14 : Ev.TabOk Try.prog ((Ev.listQ clQ)) caL14 := .cons (Ev.entry_ok (by kernel_rfl) clX_ok ((Ev.listQ_ok clQ_ok)) (.none _) caT13 caR14) caT13
theorem caR15 : Ev.comesTo (Ev.callOf Try.prog clX (Ev.evM Try.prog clX ((Ev.listQ clQ)) (fun _ => false) caL14 500) 38 [(.agg #[(.int .i64 (.ofNat 2)), (.int .i64 (.ofNat 0)), (.int .i64 (.ofNat 10000)), (.slice (some ⟨41, 0, none⟩) 3 7), (.slice (some ⟨43, 0, none⟩) 3 7), (.slice (some ⟨45, 0, none⟩) 3 7)]), (.int .i64 (.ofNat 0)), (.slice (some ⟨356, 0, none⟩) 4 9)] caH207 386) ((.int .i64 (.ofNat 10)), caH206, 394) = true := by kernel_rfl
noncomputable def caL15 : List Ev.Entry := caE15 :: caL14
theorem caT15 : Ev.TabOk Try.prog ((Ev.listQ clQ)) caL15 := .cons (Ev.entry_ok (by kernel_rfl) clX_ok ((Ev.listQ_ok clQ_ok)) (.none _) caT14 caR15) caT14
theorem caR16 : Ev.comesTo (Ev.callOf Try.prog clX (Ev.evM Try.prog clX ((Ev.listQ clQ)) (fun _ => false) caL15 500) 49 [(.agg #[(.int .i64 (.ofNat 2)), (.int .i64 (.ofNat 0)), (.int .i64 (.ofNat 10000)), (.slice (some ⟨41, 0, none⟩) 3 7), (.slice (some ⟨43, 0, none⟩) 3 7), (.slice (some ⟨45, 0, none⟩) 3 7)]), (.int .i64 (.ofNat 1)), (.int .i64 (.ofNat 2)), (.slice (some ⟨356, 0, none⟩) 4 9)] caH213 396) ((.int .i64 (.ofNat 0)), caH219, 398) = true := by kernel_rfl
noncomputable def caL16 : List Ev.Entry := caE16 :: caL15
theorem caT16 : Ev.TabOk Try.prog ((Ev.listQ clQ)) caL16 := .cons (Ev.entry_ok (by kernel_rfl) clX_ok ((Ev.listQ_ok clQ_ok)) (.none _) caT15 caR16) caT15
theorem caR17 : Ev.comesTo (Ev.callOf Try.prog clX (Ev.evM Try.prog clX ((Ev.listQ clQ)) (fun _ => false) caL16 500) 49 [(.agg #[(.int .i64 (.ofNat 2)), (.int .i64 (.ofNat 0)), (.int .i64 (.ofNat 10000)), (.slice (some ⟨41, 0, none⟩) 3 7), (.slice (some ⟨43, 0, none⟩) 3 7), (.slice (some ⟨45, 0, none⟩) 3 7)]), (.int .i64 (.ofNat 1)), (.int .i64 (.ofNat 3)), (.slice (some ⟨356, 0, none⟩) 4 9)] caH219 398) ((.int .i64 (.negSucc 0)), caH223, 400) = true := by kernel_rfl
noncomputable def caL17 : List Ev.Entry := caE17 :: caL16
theorem caT17 : Ev.TabOk Try.prog ((Ev.listQ clQ)) caL17 := .cons (Ev.entry_ok (by kernel_rfl) clX_ok ((Ev.listQ_ok clQ_ok)) (.none _) caT16 caR17) caT16
end Go.Proofs.Ytmdhmpfagekonaa
