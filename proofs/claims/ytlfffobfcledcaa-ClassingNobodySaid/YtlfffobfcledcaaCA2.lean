/- A closed run, its pieces from 4 on. -/
import Derived.Test.YtlfffobfcledcaaCA1
import Derived.Test.YtlfffobfcledcaaCL1
namespace Go.Proofs.Ytlfffobfcledcaa
open Go.RowKit

theorem caR4 : Ev.comesTo (Ev.callOf Try.prog clX (Ev.evM Try.prog clX (Ev.listQ clQ) [caE3, caE2, caE1, caE0] 500) 90 [(.slice (some ⟨43, 0, none⟩) 2 7), (.agg #[(.int .i64 (.ofNat 2)), (.int .i64 (.ofNat 0)), (.int .i64 (.ofNat 10000))])] caH5 134) ((.int .i64 (.ofNat 10)), caH6, 173) = true := by kernel_rfl
theorem caT4 : Ev.TabOk Try.prog (Ev.listQ clQ) [caE4, caE3, caE2, caE1, caE0] := .cons (Ev.entry_ok (by kernel_rfl) clX_ok (Ev.listQ_ok clQ_ok) caT3 caR4) caT3
theorem caR5 : Ev.comesTo (Ev.callOf Try.prog clX (Ev.evM Try.prog clX (Ev.listQ clQ) [caE4, caE3, caE2, caE1, caE0] 500) 90 [(.slice (some ⟨43, 0, none⟩) 3 7), (.agg #[(.int .i64 (.ofNat 2)), (.int .i64 (.ofNat 0)), (.int .i64 (.ofNat 10000))])] caH7 173) ((.int .i64 (.ofNat 400)), caH8, 224) = true := by kernel_rfl
theorem caT5 : Ev.TabOk Try.prog (Ev.listQ clQ) [caE5, caE4, caE3, caE2, caE1, caE0] := .cons (Ev.entry_ok (by kernel_rfl) clX_ok (Ev.listQ_ok clQ_ok) caT4 caR5) caT4
theorem caR6 : Ev.comesTo (Ev.callOf Try.prog clX (Ev.evM Try.prog clX (Ev.listQ clQ) [caE5, caE4, caE3, caE2, caE1, caE0] 500) 90 [(.slice (some ⟨43, 6, none⟩) 1 5), (.agg #[(.int .i64 (.ofNat 2)), (.int .i64 (.ofNat 0)), (.int .i64 (.ofNat 10000))])] caH9 232) ((.int .i64 (.ofNat 0)), caH10, 259) = true := by kernel_rfl
theorem caT6 : Ev.TabOk Try.prog (Ev.listQ clQ) [caE6, caE5, caE4, caE3, caE2, caE1, caE0] := .cons (Ev.entry_ok (by kernel_rfl) clX_ok (Ev.listQ_ok clQ_ok) caT5 caR6) caT5
theorem caR7 : Ev.comesTo (Ev.callOf Try.prog clX (Ev.evM Try.prog clX (Ev.listQ clQ) [caE6, caE5, caE4, caE3, caE2, caE1, caE0] 500) 90 [(.slice (some ⟨43, 6, none⟩) 2 5), (.agg #[(.int .i64 (.ofNat 2)), (.int .i64 (.ofNat 0)), (.int .i64 (.ofNat 10000))])] caH10 259) ((.int .i64 (.ofNat 390)), caH11, 298) = true := by kernel_rfl
theorem caT7 : Ev.TabOk Try.prog (Ev.listQ clQ) [caE7, caE6, caE5, caE4, caE3, caE2, caE1, caE0] := .cons (Ev.entry_ok (by kernel_rfl) clX_ok (Ev.listQ_ok clQ_ok) caT6 caR7) caT6
end Go.Proofs.Ytlfffobfcledcaa
