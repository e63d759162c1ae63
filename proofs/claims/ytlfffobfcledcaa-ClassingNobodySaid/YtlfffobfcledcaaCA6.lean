/- A closed run, its pieces from 20 on. -/
import Derived.Test.YtlfffobfcledcaaCA5
import Derived.Test.YtlfffobfcledcaaCL1
namespace Go.Proofs.Ytlfffobfcledcaa
open Go.RowKit

theorem caR20 : Ev.comesTo (Ev.callOf Try.prog clX (Ev.evM Try.prog clX (Ev.listQ clQ) [caE19, caE18, caE17, caE16, caE15, caE14, caE13, caE12, caE11, caE10, caE9, caE8, caE7, caE6, caE5, caE4, caE3, caE2, caE1, caE0] 500) 94 [(.agg #[(.int .i64 (.ofNat 2)), (.int .i64 (.ofNat 0)), (.int .i64 (.ofNat 10000)), (.slice (some ⟨41, 0, none⟩) 3 7), (.slice (some ⟨43, 0, none⟩) 3 7), (.slice (some ⟨45, 0, none⟩) 3 7)]), (.int .i64 (.ofNat 2)), (.int .i64 (.ofNat 3))] caH33 452) ((.agg #[(.int .u8 (.ofNat 0)), (.int .u8 (.ofNat 0)), (.int .u8 (.ofNat 0)), (.int .u8 (.ofNat 0)), (.slice (some ⟨456, 0, none⟩) 1 2), (.int .i64 (.ofNat 1)), (.int .i64 (.ofNat 2300)), (.int .i64 (.ofNat 0))]), caH34, 466) = true := by kernel_rfl
theorem caT20 : Ev.TabOk Try.prog (Ev.listQ clQ) [caE20, caE19, caE18, caE17, caE16, caE15, caE14, caE13, caE12, caE11, caE10, caE9, caE8, caE7, caE6, caE5, caE4, caE3, caE2, caE1, caE0] := .cons (Ev.entry_ok (by kernel_rfl) clX_ok (Ev.listQ_ok clQ_ok) caT19 caR20) caT19
theorem caR21 : Ev.comesTo (Ev.callOf Try.prog clX (Ev.evM Try.prog clX (Ev.listQ clQ) [caE20, caE19, caE18, caE17, caE16, caE15, caE14, caE13, caE12, caE11, caE10, caE9, caE8, caE7, caE6, caE5, caE4, caE3, caE2, caE1, caE0] 500) 64 [(.agg #[(.int .i64 (.ofNat 2)), (.int .i64 (.ofNat 0)), (.int .i64 (.ofNat 10000)), (.slice (some ⟨41, 0, none⟩) 3 7), (.slice (some ⟨43, 0, none⟩) 3 7), (.slice (some ⟨45, 0, none⟩) 3 7)]), (.slice (some ⟨339, 0, none⟩) 3 7)] caH30 406) ((.slice (some ⟨450, 0, none⟩) 2 16), caH35, 466) = true := by kernel_rfl
theorem caT21 : Ev.TabOk Try.prog (Ev.listQ clQ) [caE21, caE20, caE19, caE18, caE17, caE16, caE15, caE14, caE13, caE12, caE11, caE10, caE9, caE8, caE7, caE6, caE5, caE4, caE3, caE2, caE1, caE0] := .cons (Ev.entry_ok (by kernel_rfl) clX_ok (Ev.listQ_ok clQ_ok) caT20 caR21) caT20
end Go.Proofs.Ytlfffobfcledcaa
