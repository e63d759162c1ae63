/- A closed run, its pieces from 0 on. -/
import Derived.Test.YthfnaegfjacjbabAB0
namespace Go.Proofs.Ythfnaegfjacjbab
open Go.RowKit

theorem abR0 : Ev.comesTo (Ev.callOf Try.prog aaX (Ev.evM Try.prog aaX ((Ev.listQ aaQ)) (fun _ => false) [] 500) 11 [(.agg #[(.int .i64 (.ofNat 2000)), (.int .i64 (.ofNat 2)), (.int .i64 (.ofNat 29))])] .nil 0) ((.tuple #[(.int .i64 (.ofNat 59)), (.int .i64 (.ofNat 0))]), abH4, 3) = true := by kernel_rfl
noncomputable def abL0 : List Ev.Entry := abE0 :: []
theorem abT0 : Ev.TabOk Try.prog ((Ev.listQ aaQ)) abL0 := .cons (Ev.entry_ok (by kernel_rfl) aaX_ok ((Ev.listQ_ok aaQ_ok)) (.none _) (Ev.TabOk.nil _ _) abR0) (Ev.TabOk.nil _ _)
theorem abR1 : Ev.comesTo (Ev.callOf Try.prog aaX (Ev.evM Try.prog aaX ((Ev.listQ aaQ)) (fun _ => false) abL0 500) 22 [(.int .i64 (.ofNat 1000)), (.slice (some ⟨5, 0, none⟩) 2 5)] abH9 12) ((.tuple #[(.int .i64 (.ofNat 15)), (.int .i64 (.ofNat 0))]), abH15, 20) = true := by kernel_rfl
noncomputable def abL1 : List Ev.Entry := abE1 :: abL0
theorem abT1 : Ev.TabOk Try.prog ((Ev.listQ aaQ)) abL1 := .cons (Ev.entry_ok (by kernel_rfl) aaX_ok ((Ev.listQ_ok aaQ_ok)) (.none _) abT0 abR1) abT0
theorem abR2 : Ev.comesTo (Ev.callOf Try.prog aaX (Ev.evM Try.prog aaX ((Ev.listQ aaQ)) (fun _ => false) abL1 500) 42 [] abH15 20) ((.pointer (some ⟨22, 0, none⟩)), abH19, 24) = true := by kernel_rfl
noncomputable def abL2 : List Ev.Entry := abE2 :: abL1
theorem abT2 : Ev.TabOk Try.prog ((Ev.listQ aaQ)) abL2 := .cons (Ev.entry_ok (by kernel_rfl) aaX_ok ((Ev.listQ_ok aaQ_ok)) (.none _) abT1 abR2) abT1
theorem abR3 : Ev.comesTo (Ev.callOf Try.prog aaX (Ev.evM Try.prog aaX ((Ev.listQ aaQ)) (fun _ => false) abL2 500) 33 [(.pointer (some ⟨22, 0, none⟩)), (.string ⟨#[97]⟩)] abH19 24) ((.int .i64 (.ofNat 0)), abH20, 24) = true := by kernel_rfl
noncomputable def abL3 : List Ev.Entry := abE3 :: abL2
theorem abT3 : Ev.TabOk Try.prog ((Ev.listQ aaQ)) abL3 := .cons (Ev.entry_ok (by kernel_rfl) aaX_ok ((Ev.listQ_ok aaQ_ok)) (.none _) abT2 abR3) abT2
end Go.Proofs.Ythfnaegfjacjbab
