/- A closed run, its pieces from 8 on. -/
import Derived.Test.YthfnaegfjacjbabAB2
namespace Go.Proofs.Ythfnaegfjacjbab
open Go.RowKit

noncomputable def abL8 : List Ev.Entry := abE8 :: abL7
theorem abT8 : Ev.TabOk Try.prog ((Ev.listQ aaQ)) abL8 := .cons (show Ev.EntryOk Try.prog ((Ev.listQ aaQ)) abE8 from Ev.clone_entry (q := (Ev.listQ aaQ)) (by kernel_rfl) (b := 20) (n := 52) (H := abH54) (H' := abH55) (by kernel_rfl)) abT7
theorem abR9 : Ev.comesTo (Ev.callOf Try.prog aaX (Ev.evM Try.prog aaX ((Ev.listQ aaQ)) (fun _ => false) abL8 500) 101 [(.pointer (some ⟨22, 0, none⟩)), (.int .i64 (.ofNat 3)), (.slice (some ⟨50, 0, none⟩) 2 4), (.int .i64 (.ofNat 0))] abH62 69) ((.int .i64 (.ofNat 1)), abH70, 104) = true := by kernel_rfl
noncomputable def abL9 : List Ev.Entry := abE9 :: abL8
theorem abT9 : Ev.TabOk Try.prog ((Ev.listQ aaQ)) abL9 := .cons (Ev.entry_ok (by kernel_rfl) aaX_ok ((Ev.listQ_ok aaQ_ok)) (.none _) abT8 abR9) abT8
theorem abR10 : Ev.comesTo (Ev.callOf Try.prog aaX (Ev.evM Try.prog aaX ((Ev.listQ aaQ)) (fun _ => false) abL9 500) 64 [(.pointer (some ⟨22, 0, none⟩)), (.int .i64 (.ofNat 3)), (.slice (some ⟨50, 0, none⟩) 2 4), (.int .i64 (.ofNat 0))] abH54 52) ((.int .i64 (.ofNat 1)), abH70, 104) = true := by kernel_rfl
noncomputable def abL10 : List Ev.Entry := abE10 :: abL9
theorem abT10 : Ev.TabOk Try.prog ((Ev.listQ aaQ)) abL10 := .cons (Ev.entry_ok (by kernel_rfl) aaX_ok ((Ev.listQ_ok aaQ_ok)) (.none _) abT9 abR10) abT9
theorem abR11 : Ev.comesTo (Ev.callOf Try.prog aaX (Ev.evM Try.prog aaX ((Ev.listQ aaQ)) (fun _ => false) abL10 500) 61 [(.pointer (some ⟨34, 0, none⟩)), (.pointer (some ⟨35, 0, none⟩)), (.pointer (some ⟨36, 0, none⟩))] abH43 40) ((.int .i64 (.ofNat 1)), abH70, 104) = true := by kernel_rfl
noncomputable def abL11 : List Ev.Entry := abE11 :: abL10
theorem abT11 : Ev.TabOk Try.prog ((Ev.listQ aaQ)) abL11 := .cons (Ev.entry_ok (by kernel_rfl) aaX_ok ((Ev.listQ_ok aaQ_ok)) (.none _) abT10 abR11) abT10
end Go.Proofs.Ythfnaegfjacjbab
