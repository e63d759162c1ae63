/- A closed run, its pieces from 4 on. -/
import Derived.Test.YtlfffobfcledcaaCA1
namespace Go.Proofs.Ytlfffobfcledcaa
open Go.RowKit

theorem caR4 : Ev.comesTo (Ev.callOf Try.prog clX (Ev.evM Try.prog clX (Ev.listQ clQ) (fun _ => false) caL3 500) 90 [(.slice (some ⟨43, 0, none⟩) 2 7), (.agg #[(.int .i64 (.ofNat 2)), (.int .i64 (.ofNat 0)), (.int .i64 (.ofNat 10000))])] caH88 134) ((.int .i64 (.ofNat 10)), caH113, 173) = true := by kernel_rfl
noncomputable def caL4 : List Ev.Entry := caE4 :: caL3
theorem caT4 : Ev.TabOk Try.prog (Ev.listQ clQ) caL4 := .cons (Ev.entry_ok (by kernel_rfl) clX_ok (Ev.listQ_ok clQ_ok) (.none _) caT3 caR4) caT3
theorem caR5 : Ev.comesTo (Ev.callOf Try.prog clX (Ev.evM Try.prog clX (Ev.listQ clQ) (fun _ => false) caL4 500) 90 [(.slice (some ⟨43, 0, none⟩) 3 7), (.agg #[(.int .i64 (.ofNat 2)), (.int .i64 (.ofNat 0)), (.int .i64 (.ofNat 10000))])] caH115 173) ((.int .i64 (.ofNat 400)), caH145, 224) = true := by kernel_rfl
noncomputable def caL5 : List Ev.Entry := caE5 :: caL4
theorem caT5 : Ev.TabOk Try.prog (Ev.listQ clQ) caL5 := .cons (Ev.entry_ok (by kernel_rfl) clX_ok (Ev.listQ_ok clQ_ok) (.none _) caT4 caR5) caT4
theorem caR6 : Ev.comesTo (Ev.callOf Try.prog clX (Ev.evM Try.prog clX (Ev.listQ clQ) (fun _ => false) caL5 500) 90 [(.slice (some ⟨43, 6, none⟩) 1 5), (.agg #[(.int .i64 (.ofNat 2)), (.int .i64 (.ofNat 0)), (.int .i64 (.ofNat 10000))])] caH149 232) ((.int .i64 (.ofNat 0)), caH166, 259) = true := by kernel_rfl
noncomputable def caL6 : List Ev.Entry := caE6 :: caL5
theorem caT6 : Ev.TabOk Try.prog (Ev.listQ clQ) caL6 := .cons (Ev.entry_ok (by kernel_rfl) clX_ok (Ev.listQ_ok clQ_ok) (.none _) caT5 caR6) caT5
theorem caR7 : Ev.comesTo (Ev.callOf Try.prog clX (Ev.evM Try.prog clX (Ev.listQ clQ) (fun _ => false) caL6 500) 90 [(.slice (some ⟨43, 6, none⟩) 2 5), (.agg #[(.int .i64 (.ofNat 2)), (.int .i64 (.ofNat 0)), (.int .i64 (.ofNat 10000))])] caH166 259) ((.int .i64 (.ofNat 390)), caH187, 298) = true := by kernel_rfl
noncomputable def caL7 : List Ev.Entry := caE7 :: caL6
theorem caT7 : Ev.TabOk Try.prog (Ev.listQ clQ) caL7 := .cons (Ev.entry_ok (by kernel_rfl) clX_ok (Ev.listQ_ok clQ_ok) (.none _) caT6 caR7) caT6
end Go.Proofs.Ytlfffobfcledcaa
