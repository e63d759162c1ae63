/- A closed run, its pieces from 12 on. -/
import Derived.Test.YtlfffobfcledcaaCA3
namespace Go.Proofs.Ytlfffobfcledcaa
open Go.RowKit

theorem caR12 : Ev.comesTo (Ev.callOf Try.prog clX (Ev.evM Try.prog clX (Ev.listQ clQ) (fun _ => false) caL11 500) 92 [(.agg #[(.int .i64 (.ofNat 2)), (.int .i64 (.ofNat 0)), (.int .i64 (.ofNat 10000)), (.slice (some ⟨41, 0, none⟩) 3 7), (.slice (some ⟨43, 0, none⟩) 3 7), (.slice (some ⟨45, 0, none⟩) 3 7)]), (.int .i64 (.ofNat 2)), (.slice (some ⟨350, 0, none⟩) 4 9)] caH249 373) ((.int .i64 (.ofNat 0)), caH254, 377) = true := by kernel_rfl
noncomputable def caL12 : List Ev.Entry := caE12 :: caL11
theorem caT12 : Ev.TabOk Try.prog (Ev.listQ clQ) caL12 := .cons (Ev.entry_ok (by kernel_rfl) clX_ok (Ev.listQ_ok clQ_ok) (.none _) caT11 caR12) caT11
theorem caR13 : Ev.comesTo (Ev.callOf Try.prog clX (Ev.evM Try.prog clX (Ev.listQ clQ) (fun _ => false) caL12 500) 92 [(.agg #[(.int .i64 (.ofNat 2)), (.int .i64 (.ofNat 0)), (.int .i64 (.ofNat 10000)), (.slice (some ⟨41, 0, none⟩) 3 7), (.slice (some ⟨43, 0, none⟩) 3 7), (.slice (some ⟨45, 0, none⟩) 3 7)]), (.int .i64 (.ofNat 3)), (.slice (some ⟨350, 0, none⟩) 4 9)] caH254 377) ((.int .i64 (.negSucc 0)), caH258, 379) = true := by kernel_rfl
noncomputable def caL13 : List Ev.Entry := caE13 :: caL12
theorem caT13 : Ev.TabOk Try.prog (Ev.listQ clQ) caL13 := .cons (Ev.entry_ok (by kernel_rfl) clX_ok (Ev.listQ_ok clQ_ok) (.none _) caT12 caR13) caT12
theorem caR14 : Ev.comesTo (Ev.callOf Try.prog clX (Ev.evM Try.prog clX (Ev.listQ clQ) (fun _ => false) caL13 500) 92 [(.agg #[(.int .i64 (.ofNat 2)), (.int .i64 (.ofNat 0)), (.int .i64 (.ofNat 10000)), (.slice (some ⟨41, 0, none⟩) 3 7), (.slice (some ⟨43, 0, none⟩) 3 7), (.slice (some ⟨45, 0, none⟩) 3 7)]), (.int .i64 (.ofNat 0)), (.slice (some ⟨356, 0, none⟩) 4 9)] caH263 386) ((.int .i64 (.ofNat 10)), caH282, 394) = true := by kernel_rfl
noncomputable def caL14 : List Ev.Entry := caE14 :: caL13
theorem caT14 : Ev.TabOk Try.prog (Ev.listQ clQ) caL14 := .cons (Ev.entry_ok (by kernel_rfl) clX_ok (Ev.listQ_ok clQ_ok) (.none _) caT13 caR14) caT13
theorem caR15 : Ev.comesTo (Ev.callOf Try.prog clX (Ev.evM Try.prog clX (Ev.listQ clQ) (fun _ => false) caL14 500) 92 [(.agg #[(.int .i64 (.ofNat 2)), (.int .i64 (.ofNat 0)), (.int .i64 (.ofNat 10000)), (.slice (some ⟨41, 0, none⟩) 3 7), (.slice (some ⟨43, 0, none⟩) 3 7), (.slice (some ⟨45, 0, none⟩) 3 7)]), (.int .i64 (.ofNat 1)), (.slice (some ⟨356, 0, none⟩) 4 9)] caH284 394) ((.int .i64 (.ofNat 0)), caH293, 400) = true := by kernel_rfl
noncomputable def caL15 : List Ev.Entry := caE15 :: caL14
theorem caT15 : Ev.TabOk Try.prog (Ev.listQ clQ) caL15 := .cons (Ev.entry_ok (by kernel_rfl) clX_ok (Ev.listQ_ok clQ_ok) (.none _) caT14 caR15) caT14
end Go.Proofs.Ytlfffobfcledcaa
