/- A closed run, its pieces from 16 on. -/
import Derived.Test.YtlfffobfcledcaaCA4
namespace Go.Proofs.Ytlfffobfcledcaa
open Go.RowKit

theorem caR16 : Ev.comesTo (Ev.callOf Try.prog clX (Ev.evM Try.prog clX (Ev.listQ clQ) (fun _ => false) caL15 500) 92 [(.agg #[(.int .i64 (.ofNat 2)), (.int .i64 (.ofNat 0)), (.int .i64 (.ofNat 10000)), (.slice (some ⟨41, 0, none⟩) 3 7), (.slice (some ⟨43, 0, none⟩) 3 7), (.slice (some ⟨45, 0, none⟩) 3 7)]), (.int .i64 (.ofNat 2)), (.slice (some ⟨356, 0, none⟩) 4 9)] caH293 400) ((.int .i64 (.negSucc 0)), caH302, 404) = true := by kernel_rfl
noncomputable def caL16 : List Ev.Entry := caE16 :: caL15
theorem caT16 : Ev.TabOk Try.prog (Ev.listQ clQ) caL16 := .cons (Ev.entry_ok (by kernel_rfl) clX_ok (Ev.listQ_ok clQ_ok) (.none _) caT15 caR16) caT15
theorem caR17 : Ev.comesTo (Ev.callOf Try.prog clX (Ev.evM Try.prog clX (Ev.listQ clQ) (fun _ => false) caL16 500) 92 [(.agg #[(.int .i64 (.ofNat 2)), (.int .i64 (.ofNat 0)), (.int .i64 (.ofNat 10000)), (.slice (some ⟨41, 0, none⟩) 3 7), (.slice (some ⟨43, 0, none⟩) 3 7), (.slice (some ⟨45, 0, none⟩) 3 7)]), (.int .i64 (.ofNat 3)), (.slice (some ⟨356, 0, none⟩) 4 9)] caH304 404) ((.int .i64 (.negSucc 0)), caH308, 406) = true := by kernel_rfl
noncomputable def caL17 : List Ev.Entry := caE17 :: caL16
theorem caT17 : Ev.TabOk Try.prog (Ev.listQ clQ) caL17 := .cons (Ev.entry_ok (by kernel_rfl) clX_ok (Ev.listQ_ok clQ_ok) (.none _) caT16 caR17) caT16
theorem caR18 : Ev.comesTo (Ev.callOf Try.prog clX (Ev.evM Try.prog clX (Ev.listQ clQ) (fun _ => false) caL17 500) 62 [(.agg #[(.int .i64 (.ofNat 2)), (.int .i64 (.ofNat 0)), (.int .i64 (.ofNat 10000)), (.slice (some ⟨41, 0, none⟩) 3 7), (.slice (some ⟨43, 0, none⟩) 3 7), (.slice (some ⟨45, 0, none⟩) 3 7)])] caH309 333) ((.slice (some ⟨339, 0, none⟩) 3 7), caH312, 406) = true := by kernel_rfl
noncomputable def caL18 : List Ev.Entry := caE18 :: caL17
theorem caT18 : Ev.TabOk Try.prog (Ev.listQ clQ) caL18 := .cons (Ev.entry_ok (by kernel_rfl) clX_ok (Ev.listQ_ok clQ_ok) (.none _) caT17 caR18) caT17
theorem caR19 : Ev.comesTo (Ev.callOf Try.prog clX (Ev.evM Try.prog clX (Ev.listQ clQ) (fun _ => false) caL18 500) 94 [(.agg #[(.int .i64 (.ofNat 2)), (.int .i64 (.ofNat 0)), (.int .i64 (.ofNat 10000)), (.slice (some ⟨41, 0, none⟩) 3 7), (.slice (some ⟨43, 0, none⟩) 3 7), (.slice (some ⟨45, 0, none⟩) 3 7)]), (.int .i64 (.ofNat 0)), (.int .i64 (.ofNat 2))] caH317 420) ((.agg #[(.int .u8 (.ofNat 0)), (.int .u8 (.ofNat 0)), (.int .u8 (.ofNat 0)), (.int .u8 (.ofNat 0)), (.slice (some ⟨424, 0, none⟩) 2 2), (.int .i64 (.ofNat 2)), (.int .i64 (.ofNat 1900)), (.int .i64 (.ofNat 10))]), caH330, 442) = true := by kernel_rfl
noncomputable def caL19 : List Ev.Entry := caE19 :: caL18
theorem caT19 : Ev.TabOk Try.prog (Ev.listQ clQ) caL19 := .cons (Ev.entry_ok (by kernel_rfl) clX_ok (Ev.listQ_ok clQ_ok) (.none _) caT18 caR19) caT18
end Go.Proofs.Ytlfffobfcledcaa
