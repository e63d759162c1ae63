/- A closed run, its pieces from 4 on. -/
import Derived.Test.YthfnaegfjacjbabAB1
namespace Go.Proofs.Ythfnaegfjacjbab
open Go.RowKit

theorem abR4 : Ev.comesTo (Ev.callOf Try.prog aaX (Ev.evM Try.prog aaX ((Ev.listQ aaQ)) (fun _ => false) abL3 500) 33 [(.pointer (some ⟨22, 0, none⟩)), (.string ⟨#[98]⟩)] abH20 24) ((.int .i64 (.ofNat 0)), abH25, 24) = true := by kernel_rfl
noncomputable def abL4 : List Ev.Entry := abE4 :: abL3
theorem abT4 : Ev.TabOk Try.prog ((Ev.listQ aaQ)) abL4 := .cons (Ev.entry_ok (by kernel_rfl) aaX_ok ((Ev.listQ_ok aaQ_ok)) (.none _) abT3 abR4) abT3
theorem abR5 : Ev.comesTo (Ev.callOf Try.prog aaX (Ev.evM Try.prog aaX ((Ev.listQ aaQ)) (fun _ => false) abL4 500) 62 [(.pointer (some ⟨22, 0, none⟩)), (.int .i64 (.ofNat 3))] abH43 40) ((.tuple #[]), abH43, 40) = true := by kernel_rfl
noncomputable def abL5 : List Ev.Entry := abE5 :: abL4
theorem abT5 : Ev.TabOk Try.prog ((Ev.listQ aaQ)) abL5 := .cons (Ev.entry_ok (by kernel_rfl) aaX_ok ((Ev.listQ_ok aaQ_ok)) (.none _) abT4 abR5) abT4
theorem abR6 : Ev.comesTo (Ev.callOf Try.prog aaX (Ev.evM Try.prog aaX ((Ev.listQ aaQ)) (fun _ => false) abL5 500) 63 [(.pointer (some ⟨22, 0, none⟩)), (.slice (some ⟨27, 0, none⟩) 2 5)] abH43 40) ((.tuple #[]), abH49, 48) = true := by kernel_rfl
noncomputable def abL6 : List Ev.Entry := abE6 :: abL5
theorem abT6 : Ev.TabOk Try.prog ((Ev.listQ aaQ)) abL6 := .cons (Ev.entry_ok (by kernel_rfl) aaX_ok ((Ev.listQ_ok aaQ_ok)) (.none _) abT5 abR6) abT5
theorem abR7 : Ev.comesTo (Ev.callOf Try.prog aaX (Ev.evM Try.prog aaX ((Ev.listQ aaQ)) (fun _ => false) abL6 500) 65 [(.slice (some ⟨27, 0, none⟩) 2 5)] abH49 48) ((.slice (some ⟨50, 0, none⟩) 2 4), abH54, 52) = true := by kernel_rfl
noncomputable def abL7 : List Ev.Entry := abE7 :: abL6
theorem abT7 : Ev.TabOk Try.prog ((Ev.listQ aaQ)) abL7 := .cons (Ev.entry_ok (by kernel_rfl) aaX_ok ((Ev.listQ_ok aaQ_ok)) (.none _) abT6 abR7) abT6
end Go.Proofs.Ythfnaegfjacjbab
