/- A closed run, its pieces from 0 on. -/
import Derived.Test.YtmdhmpfagekonaaCA0
namespace Go.Proofs.Ytmdhmpfagekonaa
open Go.RowKit

theorem caR0 : Ev.comesTo (Ev.callOf Try.prog clX (Ev.evM Try.prog clX ((Ev.listQ clQ)) (fun _ => false) [] 500) 32 [(.slice (some ⟨3, 0, none⟩) 3 7), (.agg #[(.int .i64 (.ofNat 2)), (.int .i64 (.ofNat 0)), (.int .i64 (.ofNat 10000))])] caH7 17) ((.int .i64 (.ofNat 0)), caH16, 31) = true := by kernel_rfl
noncomputable def caL0 : List Ev.Entry := caE0 :: []
theorem caT0 : Ev.TabOk Try.prog ((Ev.listQ clQ)) caL0 := .cons (Ev.entry_ok (by kernel_rfl) clX_ok ((Ev.listQ_ok clQ_ok)) (.none _) (Ev.TabOk.nil _ _) caR0) (Ev.TabOk.nil _ _)
theorem caR1 : Ev.comesTo (Ev.callOf Try.prog clX (Ev.evM Try.prog clX ((Ev.listQ clQ)) (fun _ => false) caL0 500) 33 [(.slice (some ⟨3, 0, none⟩) 3 7), (.agg #[(.int .i64 (.ofNat 2)), (.int .i64 (.ofNat 0)), (.int .i64 (.ofNat 10000))])] caH16 36) ((.agg #[(.int .i64 (.ofNat 2)), (.int .i64 (.ofNat 0)), (.int .i64 (.ofNat 10000)), (.slice (some ⟨41, 0, none⟩) 3 7), (.slice (some ⟨43, 0, none⟩) 3 7), (.slice (some ⟨45, 0, none⟩) 3 7)]), caH106, 333) = true := by kernel_rfl
noncomputable def caL1 : List Ev.Entry := caE1 :: caL0
theorem caT1 : Ev.TabOk Try.prog ((Ev.listQ clQ)) caL1 := .cons (Ev.entry_ok (by kernel_rfl) clX_ok ((Ev.listQ_ok clQ_ok)) (.none _) caT0 caR1) caT0
theorem caR2 : Ev.comesTo (Ev.callOf Try.prog clX (Ev.evM Try.prog clX ((Ev.listQ clQ)) (fun _ => false) caL1 500) 49 [(.agg #[(.int .i64 (.ofNat 2)), (.int .i64 (.ofNat 0)), (.int .i64 (.ofNat 10000)), (.slice (some ⟨41, 0, none⟩) 3 7), (.slice (some ⟨43, 0, none⟩) 3 7), (.slice (some ⟨45, 0, none⟩) 3 7)]), (.int .i64 (.ofNat 0)), (.int .i64 (.ofNat 1)), (.slice (some ⟨350, 0, none⟩) 4 9)] caH127 361) ((.int .i64 (.negSucc 0)), caH132, 363) = true := by kernel_rfl
noncomputable def caL2 : List Ev.Entry := caE2 :: caL1
theorem caT2 : Ev.TabOk Try.prog ((Ev.listQ clQ)) caL2 := .cons (Ev.entry_ok (by kernel_rfl) clX_ok ((Ev.listQ_ok clQ_ok)) (.none _) caT1 caR2) caT1
theorem caR3 : Ev.comesTo (Ev.callOf Try.prog clX (Ev.evM Try.prog clX ((Ev.listQ clQ)) (fun _ => false) caL2 500) 49 [(.agg #[(.int .i64 (.ofNat 2)), (.int .i64 (.ofNat 0)), (.int .i64 (.ofNat 10000)), (.slice (some ⟨41, 0, none⟩) 3 7), (.slice (some ⟨43, 0, none⟩) 3 7), (.slice (some ⟨45, 0, none⟩) 3 7)]), (.int .i64 (.ofNat 0)), (.int .i64 (.ofNat 2)), (.slice (some ⟨350, 0, none⟩) 4 9)] caH132 363) ((.int .i64 (.negSucc 0)), caH136, 365) = true := by kernel_rfl
noncomputable def caL3 : List Ev.Entry := caE3 :: caL2
theorem caT3 : Ev.TabOk Try.prog ((Ev.listQ clQ)) caL3 := .cons (Ev.entry_ok (by kernel_rfl) clX_ok ((Ev.listQ_ok clQ_ok)) (.none _) caT2 caR3) caT2
theorem caR4 : Ev.comesTo (Ev.callOf Try.prog clX (Ev.evM Try.prog clX ((Ev.listQ clQ)) (fun _ => false) caL3 500) 49 [(.agg #[(.int .i64 (.ofNat 2)), (.int .i64 (.ofNat 0)), (.int .i64 (.ofNat 10000)), (.slice (some ⟨41, 0, none⟩) 3 7), (.slice (some ⟨43, 0, none⟩) 3 7), (.slice (some ⟨45, 0, none⟩) 3 7)]), (.int .i64 (.ofNat 0)), (.int .i64 (.ofNat 3)), (.slice (some ⟨350, 0, none⟩) 4 9)] caH136 365) ((.int .i64 (.ofNat 400)), caH141, 367) = true := by kernel_rfl
noncomputable def caL4 : List Ev.Entry := caE4 :: caL3
theorem caT4 : Ev.TabOk Try.prog ((Ev.listQ clQ)) caL4 := .cons (Ev.entry_ok (by kernel_rfl) clX_ok ((Ev.listQ_ok clQ_ok)) (.none _) caT3 caR4) caT3
theorem caR5 : Ev.comesTo (Ev.callOf Try.prog clX (Ev.evM Try.prog clX ((Ev.listQ clQ)) (fun _ => false) caL4 500) 38 [(.agg #[(.int .i64 (.ofNat 2)), (.int .i64 (.ofNat 0)), (.int .i64 (.ofNat 10000)), (.slice (some ⟨41, 0, none⟩) 3 7), (.slice (some ⟨43, 0, none⟩) 3 7), (.slice (some ⟨45, 0, none⟩) 3 7)]), (.int .i64 (.ofNat 0)), (.slice (some ⟨350, 0, none⟩) 4 9)] caH142 359) ((.int .i64 (.ofNat 400)), caH141, 367) = true := by kernel_rfl
noncomputable def caL5 : List Ev.Entry := caE5 :: caL4
theorem caT5 : Ev.TabOk Try.prog ((Ev.listQ clQ)) caL5 := .cons (Ev.entry_ok (by kernel_rfl) clX_ok ((Ev.listQ_ok clQ_ok)) (.none _) caT4 caR5) caT4
end Go.Proofs.Ytmdhmpfagekonaa
