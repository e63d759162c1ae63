/- A closed run, its pieces from 20 on. -/
import Derived.Test.YtlfffobfcledcaaCA5
namespace Go.Proofs.Ytlfffobfcledcaa
open Go.RowKit

theorem caR20 : Ev.comesTo (Ev.callOf Try.prog clX (Ev.evM Try.prog clX (Ev.listQ clQ) (fun _ => false) caL19 500) 94 [(.agg #[(.int .i64 (.ofNat 2)), (.int .i64 (.ofNat 0)), (.int .i64 (.ofNat 10000)), (.slice (some ⟨41, 0, none⟩) 3 7), (.slice (some ⟨43, 0, none⟩) 3 7), (.slice (some ⟨45, 0, none⟩) 3 7)]), (.int .i64 (.ofNat 2)), (.int .i64 (.ofNat 3))] caH335 452) ((.agg #[(.int .u8 (.ofNat 0)), (.int .u8 (.ofNat 0)), (.int .u8 (.ofNat 0)), (.int .u8 (.ofNat 0)), (.slice (some ⟨456, 0, none⟩) 1 2), (.int .i64 (.ofNat 1)), (.int .i64 (.ofNat 2300)), (.int .i64 (.ofNat 0))]), caH340, 466) = true := by kernel_rfl
noncomputable def caL20 : List Ev.Entry := caE20 :: caL19
theorem caT20 : Ev.TabOk Try.prog (Ev.listQ clQ) caL20 := .cons (Ev.entry_ok (by kernel_rfl) clX_ok (Ev.listQ_ok clQ_ok) (.none _) caT19 caR20) caT19
theorem caR21 : Ev.comesTo (Ev.callOf Try.prog clX (Ev.evM Try.prog clX (Ev.listQ clQ) (fun _ => false) caL20 500) 64 [(.agg #[(.int .i64 (.ofNat 2)), (.int .i64 (.ofNat 0)), (.int .i64 (.ofNat 10000)), (.slice (some ⟨41, 0, none⟩) 3 7), (.slice (some ⟨43, 0, none⟩) 3 7), (.slice (some ⟨45, 0, none⟩) 3 7)]), (.slice (some ⟨339, 0, none⟩) 3 7)] caH312 406) ((.slice (some ⟨450, 0, none⟩) 2 16), caH341, 466) = true := by kernel_rfl
noncomputable def caL21 : List Ev.Entry := caE21 :: caL20
theorem caT21 : Ev.TabOk Try.prog (Ev.listQ clQ) caL21 := .cons (Ev.entry_ok (by kernel_rfl) clX_ok (Ev.listQ_ok clQ_ok) (.none _) caT20 caR21) caT20
end Go.Proofs.Ytlfffobfcledcaa
