/- A closed run, its pieces from 30 on. -/
import Derived.Test.YtmdhmpfagekonaaCA5
namespace Go.Proofs.Ytmdhmpfagekonaa
open Go.RowKit

theorem caR30 : Ev.comesTo (Ev.callOf Try.prog clX (Ev.evM Try.prog clX ((Ev.listQ clQ)) (fun _ => false) caL29 500) 59 [(.slice (some ⟨43, 12, none⟩) 1 3)] caH303 462) ((.int .i64 (.ofNat 2300)), caH306, 466) = true := by kernel_rfl
noncomputable def caL30 : List Ev.Entry := caE30 :: caL29
theorem caT30 : Ev.TabOk Try.prog ((Ev.listQ clQ)) caL30 := .cons (Ev.entry_ok (by kernel_rfl) clX_ok ((Ev.listQ_ok clQ_ok)) (.none _) caT29 caR30) caT29
theorem caR31 : Ev.comesTo (Ev.callOf Try.prog clX (Ev.evM Try.prog clX ((Ev.listQ clQ)) (fun _ => false) caL30 500) 50 [(.agg #[(.int .i64 (.ofNat 2)), (.int .i64 (.ofNat 0)), (.int .i64 (.ofNat 10000)), (.slice (some ⟨41, 0, none⟩) 3 7), (.slice (some ⟨43, 0, none⟩) 3 7), (.slice (some ⟨45, 0, none⟩) 3 7)]), (.int .i64 (.ofNat 2)), (.int .i64 (.ofNat 3))] caH294 452) ((.agg #[(.int .u8 (.ofNat 0)), (.int .u8 (.ofNat 0)), (.int .u8 (.ofNat 0)), (.int .u8 (.ofNat 0)), (.slice (some ⟨456, 0, none⟩) 1 2), (.int .i64 (.ofNat 1)), (.int .i64 (.ofNat 2300)), (.int .i64 (.ofNat 0))]), caH309, 466) = true := by kernel_rfl
noncomputable def caL31 : List Ev.Entry := caE31 :: caL30
theorem caT31 : Ev.TabOk Try.prog ((Ev.listQ clQ)) caL31 := .cons (Ev.entry_ok (by kernel_rfl) clX_ok ((Ev.listQ_ok clQ_ok)) (.none _) caT30 caR31) caT30
theorem caR32 : Ev.comesTo (Ev.callOf Try.prog clX (Ev.evM Try.prog clX ((Ev.listQ clQ)) (fun _ => false) caL31 500) 36 [(.agg #[(.int .i64 (.ofNat 2)), (.int .i64 (.ofNat 0)), (.int .i64 (.ofNat 10000)), (.slice (some ⟨41, 0, none⟩) 3 7), (.slice (some ⟨43, 0, none⟩) 3 7), (.slice (some ⟨45, 0, none⟩) 3 7)]), (.slice (some ⟨339, 0, none⟩) 3 7)] caH248 406) ((.slice (some ⟨450, 0, none⟩) 2 16), caH310, 466) = true := by kernel_rfl
noncomputable def caL32 : List Ev.Entry := caE32 :: caL31
theorem caT32 : Ev.TabOk Try.prog ((Ev.listQ clQ)) caL32 := .cons (Ev.entry_ok (by kernel_rfl) clX_ok ((Ev.listQ_ok clQ_ok)) (.none _) caT31 caR32) caT31
theorem caR33 : Ev.comesTo (Ev.callOf Try.prog clX (Ev.evM Try.prog clX ((Ev.listQ clQ)) (fun _ => false) caL32 500) 14 [(.slice (some ⟨3, 0, none⟩) 3 7), (.agg #[(.int .i64 (.ofNat 2)), (.int .i64 (.ofNat 0)), (.int .i64 (.ofNat 10000))])] caH311 13) ((.tuple #[(.slice (some ⟨450, 0, none⟩) 2 16), (.int .i64 (.ofNat 10)), (.int .i64 (.ofNat 0))]), caH310, 466) = true := by kernel_rfl
noncomputable def caL33 : List Ev.Entry := caE33 :: caL32
theorem caT33 : Ev.TabOk Try.prog ((Ev.listQ clQ)) caL33 := .cons (Ev.entry_ok (by kernel_rfl) clX_ok ((Ev.listQ_ok clQ_ok)) (.none _) caT32 caR33) caT32
end Go.Proofs.Ytmdhmpfagekonaa
