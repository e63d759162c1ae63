/- A closed run, its pieces from 12 on. -/
import Derived.Test.YthfnaegfjacjbabAB3
namespace Go.Proofs.Ythfnaegfjacjbab
open Go.RowKit

noncomputable def abL12 : List Ev.Entry := abE12 :: abL11
theorem abT12 : Ev.TabOk Try.prog ((Ev.listQ aaQ)) abL12 := .cons (show Ev.EntryOk Try.prog ((Ev.listQ aaQ)) abE12 from Ev.att_entry (q := (Ev.listQ aaQ)) (by kernel_rfl) (E := abE11) (abT11 _ List.mem_cons_self) (g := 61) (n := 39) (n2 := 104) (c1 := #[]) (c2 := #[(.pointer (some ⟨34, 0, none⟩)), (.pointer (some ⟨35, 0, none⟩)), (.pointer (some ⟨36, 0, none⟩))]) (H := abH71) (H2 := abH70) (H3 := abH70) (v := (.int .i64 (.ofNat 1))) ⟨_, _, Try.func61, by kernel_rfl, rfl⟩ (by kernel_rfl) (by kernel_rfl) (by kernel_rfl) (by kernel_rfl) (by kernel_rfl) (by kernel_rfl)) abT11
theorem abR13 : Ev.comesTo (Ev.callOf Try.prog aaX (Ev.evM Try.prog aaX ((Ev.listQ aaQ)) (fun _ => false) abL12 500) 28 [(.pointer (some ⟨22, 0, none⟩)), (.int .i64 (.ofNat 3)), (.slice (some ⟨27, 0, none⟩) 2 5)] abH72 34) ((.tuple #[(.int .i64 (.ofNat 1)), (.int .i64 (.ofNat 0))]), abH70, 104) = true := by kernel_rfl
noncomputable def abL13 : List Ev.Entry := abE13 :: abL12
theorem abT13 : Ev.TabOk Try.prog ((Ev.listQ aaQ)) abL13 := .cons (Ev.entry_ok (by kernel_rfl) aaX_ok ((Ev.listQ_ok aaQ_ok)) (.none _) abT12 abR13) abT12
theorem abR14 : Ev.comesTo (Ev.callOf Try.prog aaX (Ev.evM Try.prog aaX ((Ev.listQ aaQ)) (fun _ => false) abL13 500) 30 [(.pointer (some ⟨22, 0, none⟩)), (.string ⟨#[98]⟩), (.int .i64 (.ofNat 3))] abH70 104) ((.tuple #[(.int .i64 (.negSucc 4)), (.int .i64 (.ofNat 0))]), abH73, 122) = true := by kernel_rfl
noncomputable def abL14 : List Ev.Entry := abE14 :: abL13
theorem abT14 : Ev.TabOk Try.prog ((Ev.listQ aaQ)) abL14 := .cons (Ev.entry_ok (by kernel_rfl) aaX_ok ((Ev.listQ_ok aaQ_ok)) (.none _) abT13 abR14) abT13
end Go.Proofs.Ythfnaegfjacjbab
