/- A closed run, its pieces from 6 on. -/
import Derived.Test.YtmdhmpfagekonaaCA1
namespace Go.Proofs.Ytmdhmpfagekonaa
open Go.RowKit

theorem caR6 : Ev.comesTo (Ev.callOf Try.prog clX (Ev.evM Try.prog clX ((Ev.listQ clQ)) (fun _ => false) caL5 500) 49 [(.agg #[(.int .i64 (.ofNat 2)), (.int .i64 (.ofNat 0)), (.int .i64 (.ofNat 10000)), (.slice (some ⟨41, 0, none⟩) 3 7), (.slice (some ⟨43, 0, none⟩) 3 7), (.slice (some ⟨45, 0, none⟩) 3 7)]), (.int .i64 (.ofNat 1)), (.int .i64 (.ofNat 2)), (.slice (some ⟨350, 0, none⟩) 4 9)] caH148 369) ((.int .i64 (.negSucc 0)), caH153, 371) = true := by kernel_rfl
noncomputable def caL6 : List Ev.Entry := caE6 :: caL5
theorem caT6 : Ev.TabOk Try.prog ((Ev.listQ clQ)) caL6 := .cons (Ev.entry_ok (by kernel_rfl) clX_ok ((Ev.listQ_ok clQ_ok)) (.none _) caT5 caR6) caT5
theorem caR7 : Ev.comesTo (Ev.callOf Try.prog clX (Ev.evM Try.prog clX ((Ev.listQ clQ)) (fun _ => false) caL6 500) 49 [(.agg #[(.int .i64 (.ofNat 2)), (.int .i64 (.ofNat 0)), (.int .i64 (.ofNat 10000)), (.slice (some ⟨41, 0, none⟩) 3 7), (.slice (some ⟨43, 0, none⟩) 3 7), (.slice (some ⟨45, 0, none⟩) 3 7)]), (.int .i64 (.ofNat 1)), (.int .i64 (.ofNat 3)), (.slice (some ⟨350, 0, none⟩) 4 9)] caH153 371) ((.int .i64 (.ofNat 390)), caH158, 373) = true := by kernel_rfl
noncomputable def caL7 : List Ev.Entry := caE7 :: caL6
theorem caT7 : Ev.TabOk Try.prog ((Ev.listQ clQ)) caL7 := .cons (Ev.entry_ok (by kernel_rfl) clX_ok ((Ev.listQ_ok clQ_ok)) (.none _) caT6 caR7) caT6
theorem caR8 : Ev.comesTo (Ev.callOf Try.prog clX (Ev.evM Try.prog clX ((Ev.listQ clQ)) (fun _ => false) caL7 500) 38 [(.agg #[(.int .i64 (.ofNat 2)), (.int .i64 (.ofNat 0)), (.int .i64 (.ofNat 10000)), (.slice (some ⟨41, 0, none⟩) 3 7), (.slice (some ⟨43, 0, none⟩) 3 7), (.slice (some ⟨45, 0, none⟩) 3 7)]), (.int .i64 (.ofNat 1)), (.slice (some ⟨350, 0, none⟩) 4 9)] caH159 367) ((.int .i64 (.ofNat 390)), caH158, 373) = true := by kernel_rfl
noncomputable def caL8 : List Ev.Entry := caE8 :: caL7
theorem caT8 : Ev.TabOk Try.prog ((Ev.listQ clQ)) caL8 := .cons (Ev.entry_ok (by kernel_rfl) clX_ok ((Ev.listQ_ok clQ_ok)) (.none _) caT7 caR8) caT7
theorem caR9 : Ev.comesTo (Ev.callOf Try.prog clX (Ev.evM Try.prog clX ((Ev.listQ clQ)) (fun _ => false) caL8 500) 49 [(.agg #[(.int .i64 (.ofNat 2)), (.int .i64 (.ofNat 0)), (.int .i64 (.ofNat 10000)), (.slice (some ⟨41, 0, none⟩) 3 7), (.slice (some ⟨43, 0, none⟩) 3 7), (.slice (some ⟨45, 0, none⟩) 3 7)]), (.int .i64 (.ofNat 2)), (.int .i64 (.ofNat 3)), (.slice (some ⟨350, 0, none⟩) 4 9)] caH164 375) ((.int .i64 (.ofNat 0)), caH167, 377) = true := by kernel_rfl
noncomputable def caL9 : List Ev.Entry := caE9 :: caL8
theorem caT9 : Ev.TabOk Try.prog ((Ev.listQ clQ)) caL9 := .cons (Ev.entry_ok (by kernel_rfl) clX_ok ((Ev.listQ_ok clQ_ok)) (.none _) caT8 caR9) caT8
theorem caR10 : Ev.comesTo (Ev.callOf Try.prog clX (Ev.evM Try.prog clX ((Ev.listQ clQ)) (fun _ => false) caL9 500) 38 [(.agg #[(.int .i64 (.ofNat 2)), (.int .i64 (.ofNat 0)), (.int .i64 (.ofNat 10000)), (.slice (some ⟨41, 0, none⟩) 3 7), (.slice (some ⟨43, 0, none⟩) 3 7), (.slice (some ⟨45, 0, none⟩) 3 7)]), (.int .i64 (.ofNat 2)), (.slice (some ⟨350, 0, none⟩) 4 9)] caH168 373) ((.int .i64 (.ofNat 0)), caH167, 377) = true := by kernel_rfl
noncomputable def caL10 : List Ev.Entry := caE10 :: caL9
theorem caT10 : Ev.TabOk Try.prog ((Ev.listQ clQ)) caL10 := .cons (Ev.entry_ok (by kernel_rfl) clX_ok ((Ev.listQ_ok clQ_ok)) (.none _) caT9 caR10) caT9
theorem caR11 : Ev.comesTo (Ev.callOf Try.prog clX (Ev.evM Try.prog clX ((Ev.listQ clQ)) (fun _ => false) caL10 500) 38 [(.agg #[(.int .i64 (.ofNat 2)), (.int .i64 (.ofNat 0)), (.int .i64 (.ofNat 10000)), (.slice (some ⟨41, 0, none⟩) 3 7), (.slice (some ⟨43, 0, none⟩) 3 7), (.slice (some ⟨45, 0, none⟩) 3 7)]), (.int .i64 (.ofNat 3)), (.slice (some ⟨350, 0, none⟩) 4 9)] caH167 377) ((.int .i64 (.negSucc 0)), caH172, 379) = true := by kernel_rfl
noncomputable def caL11 : List Ev.Entry := caE11 :: caL10
theorem caT11 : Ev.TabOk Try.prog ((Ev.listQ clQ)) caL11 := .cons (Ev.entry_ok (by kernel_rfl) clX_ok ((Ev.listQ_ok clQ_ok)) (.none _) caT10 caR11) caT10
end Go.Proofs.Ytmdhmpfagekonaa
