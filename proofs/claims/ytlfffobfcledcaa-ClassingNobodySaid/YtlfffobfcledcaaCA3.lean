/- A closed run, its pieces from 8 on. -/
import Derived.Test.YtlfffobfcledcaaCA2
import Derived.Test.YtlfffobfcledcaaCL1
namespace Go.Proofs.Ytlfffobfcledcaa
open Go.RowKit

theorem caR8 : Ev.comesTo (Ev.callOf Try.prog clX (Ev.evM Try.prog clX (Ev.listQ clQ) [caE7, caE6, caE5, caE4, caE3, caE2, caE1, caE0] 500) 90 [(.slice (some ⟨43, 12, none⟩) 1 3), (.agg #[(.int .i64 (.ofNat 2)), (.int .i64 (.ofNat 0)), (.int .i64 (.ofNat 10000))])] caH12 306) ((.int .i64 (.ofNat 0)), caH13, 333) = true := by kernel_rfl
theorem caT8 : Ev.TabOk Try.prog (Ev.listQ clQ) [caE8, caE7, caE6, caE5, caE4, caE3, caE2, caE1, caE0] := .cons (Ev.entry_ok (by kernel_rfl) clX_ok (Ev.listQ_ok clQ_ok) caT7 caR8) caT7
theorem caR9 : Ev.comesTo (Ev.callOf Try.prog clX (Ev.evM Try.prog clX (Ev.listQ clQ) [caE8, caE7, caE6, caE5, caE4, caE3, caE2, caE1, caE0] 500) 61 [(.slice (some ⟨3, 0, none⟩) 3 7), (.agg #[(.int .i64 (.ofNat 2)), (.int .i64 (.ofNat 0)), (.int .i64 (.ofNat 10000))])] caH1 36) ((.agg #[(.int .i64 (.ofNat 2)), (.int .i64 (.ofNat 0)), (.int .i64 (.ofNat 10000)), (.slice (some ⟨41, 0, none⟩) 3 7), (.slice (some ⟨43, 0, none⟩) 3 7), (.slice (some ⟨45, 0, none⟩) 3 7)]), caH14, 333) = true := by kernel_rfl
theorem caT9 : Ev.TabOk Try.prog (Ev.listQ clQ) [caE9, caE8, caE7, caE6, caE5, caE4, caE3, caE2, caE1, caE0] := .cons (Ev.entry_ok (by kernel_rfl) clX_ok (Ev.listQ_ok clQ_ok) caT8 caR9) caT8
theorem caR10 : Ev.comesTo (Ev.callOf Try.prog clX (Ev.evM Try.prog clX (Ev.listQ clQ) [caE9, caE8, caE7, caE6, caE5, caE4, caE3, caE2, caE1, caE0] 500) 92 [(.agg #[(.int .i64 (.ofNat 2)), (.int .i64 (.ofNat 0)), (.int .i64 (.ofNat 10000)), (.slice (some ⟨41, 0, none⟩) 3 7), (.slice (some ⟨43, 0, none⟩) 3 7), (.slice (some ⟨45, 0, none⟩) 3 7)]), (.int .i64 (.ofNat 0)), (.slice (some ⟨350, 0, none⟩) 4 9)] caH15 359) ((.int .i64 (.ofNat 400)), caH16, 367) = true := by kernel_rfl
theorem caT10 : Ev.TabOk Try.prog (Ev.listQ clQ) [caE10, caE9, caE8, caE7, caE6, caE5, caE4, caE3, caE2, caE1, caE0] := .cons (Ev.entry_ok (by kernel_rfl) clX_ok (Ev.listQ_ok clQ_ok) caT9 caR10) caT9
theorem caR11 : Ev.comesTo (Ev.callOf Try.prog clX (Ev.evM Try.prog clX (Ev.listQ clQ) [caE10, caE9, caE8, caE7, caE6, caE5, caE4, caE3, caE2, caE1, caE0] 500) 92 [(.agg #[(.int .i64 (.ofNat 2)), (.int .i64 (.ofNat 0)), (.int .i64 (.ofNat 10000)), (.slice (some ⟨41, 0, none⟩) 3 7), (.slice (some ⟨43, 0, none⟩) 3 7), (.slice (some ⟨45, 0, none⟩) 3 7)]), (.int .i64 (.ofNat 1)), (.slice (some ⟨350, 0, none⟩) 4 9)] caH17 367) ((.int .i64 (.ofNat 390)), caH18, 373) = true := by kernel_rfl
theorem caT11 : Ev.TabOk Try.prog (Ev.listQ clQ) [caE11, caE10, caE9, caE8, caE7, caE6, caE5, caE4, caE3, caE2, caE1, caE0] := .cons (Ev.entry_ok (by kernel_rfl) clX_ok (Ev.listQ_ok clQ_ok) caT10 caR11) caT10
end Go.Proofs.Ytlfffobfcledcaa
