/- A closed run, its pieces from 8 on. -/
import Derived.Test.YtlfffobfcledcaaCA2
namespace Go.Proofs.Ytlfffobfcledcaa
open Go.RowKit

theorem caR8 : Ev.comesTo (Ev.callOf Try.prog clX (Ev.evM Try.prog clX (Ev.listQ clQ) (fun _ => false) caL7 500) 90 [(.slice (some ⟨43, 12, none⟩) 1 3), (.agg #[(.int .i64 (.ofNat 2)), (.int .i64 (.ofNat 0)), (.int .i64 (.ofNat 10000))])] caH196 306) ((.int .i64 (.ofNat 0)), caH209, 333) = true := by kernel_rfl
noncomputable def caL8 : List Ev.Entry := caE8 :: caL7
theorem caT8 : Ev.TabOk Try.prog (Ev.listQ clQ) caL8 := .cons (Ev.entry_ok (by kernel_rfl) clX_ok (Ev.listQ_ok clQ_ok) (.none _) caT7 caR8) caT7
theorem caR9 : Ev.comesTo (Ev.callOf Try.prog clX (Ev.evM Try.prog clX (Ev.listQ clQ) (fun _ => false) caL8 500) 61 [(.slice (some ⟨3, 0, none⟩) 3 7), (.agg #[(.int .i64 (.ofNat 2)), (.int .i64 (.ofNat 0)), (.int .i64 (.ofNat 10000))])] caH22 36) ((.agg #[(.int .i64 (.ofNat 2)), (.int .i64 (.ofNat 0)), (.int .i64 (.ofNat 10000)), (.slice (some ⟨41, 0, none⟩) 3 7), (.slice (some ⟨43, 0, none⟩) 3 7), (.slice (some ⟨45, 0, none⟩) 3 7)]), caH214, 333) = true := by kernel_rfl
noncomputable def caL9 : List Ev.Entry := caE9 :: caL8
theorem caT9 : Ev.TabOk Try.prog (Ev.listQ clQ) caL9 := .cons (Ev.entry_ok (by kernel_rfl) clX_ok (Ev.listQ_ok clQ_ok) (.none _) caT8 caR9) caT8
theorem caR10 : Ev.comesTo (Ev.callOf Try.prog clX (Ev.evM Try.prog clX (Ev.listQ clQ) (fun _ => false) caL9 500) 92 [(.agg #[(.int .i64 (.ofNat 2)), (.int .i64 (.ofNat 0)), (.int .i64 (.ofNat 10000)), (.slice (some ⟨41, 0, none⟩) 3 7), (.slice (some ⟨43, 0, none⟩) 3 7), (.slice (some ⟨45, 0, none⟩) 3 7)]), (.int .i64 (.ofNat 0)), (.slice (some ⟨350, 0, none⟩) 4 9)] caH227 359) ((.int .i64 (.ofNat 400)), caH236, 367) = true := by kernel_rfl
noncomputable def caL10 : List Ev.Entry := caE10 :: caL9
theorem caT10 : Ev.TabOk Try.prog (Ev.listQ clQ) caL10 := .cons (Ev.entry_ok (by kernel_rfl) clX_ok (Ev.listQ_ok clQ_ok) (.none _) caT9 caR10) caT9
theorem caR11 : Ev.comesTo (Ev.callOf Try.prog clX (Ev.evM Try.prog clX (Ev.listQ clQ) (fun _ => false) caL10 500) 92 [(.agg #[(.int .i64 (.ofNat 2)), (.int .i64 (.ofNat 0)), (.int .i64 (.ofNat 10000)), (.slice (some ⟨41, 0, none⟩) 3 7), (.slice (some ⟨43, 0, none⟩) 3 7), (.slice (some ⟨45, 0, none⟩) 3 7)]), (.int .i64 (.ofNat 1)), (.slice (some ⟨350, 0, none⟩) 4 9)] caH238 367) ((.int .i64 (.ofNat 390)), caH247, 373) = true := by kernel_rfl
noncomputable def caL11 : List Ev.Entry := caE11 :: caL10
theorem caT11 : Ev.TabOk Try.prog (Ev.listQ clQ) caL11 := .cons (Ev.entry_ok (by kernel_rfl) clX_ok (Ev.listQ_ok clQ_ok) (.none _) caT10 caR11) caT10
end Go.Proofs.Ytlfffobfcledcaa
