/- A closed run, its pieces from 18 on. -/
import Derived.Test.YtmdhmpfagekonaaCA3
namespace Go.Proofs.Ytmdhmpfagekonaa
open Go.RowKit

theorem caR18 : Ev.comesTo (Ev.callOf Try.prog clX (Ev.evM Try.prog clX ((Ev.listQ clQ)) (fun _ => false) caL17 500) 38 [(.agg #[(.int .i64 (.ofNat 2)), (.int .i64 (.ofNat 0)), (.int .i64 (.ofNat 10000)), (.slice (some ⟨41, 0, none⟩) 3 7), (.slice (some ⟨43, 0, none⟩) 3 7), (.slice (some ⟨45, 0, none⟩) 3 7)]), (.int .i64 (.ofNat 1)), (.slice (some ⟨356, 0, none⟩) 4 9)] caH224 394) ((.int .i64 (.ofNat 0)), caH223, 400) = true := by kernel_rfl
noncomputable def caL18 : List Ev.Entry := caE18 :: caL17
theorem caT18 : Ev.TabOk Try.prog ((Ev.listQ clQ)) caL18 := .cons (Ev.entry_ok (by kernel_rfl) clX_ok ((Ev.listQ_ok clQ_ok)) (.none _) caT17 caR18) caT17
theorem caR19 : Ev.comesTo (Ev.callOf Try.prog clX (Ev.evM Try.prog clX ((Ev.listQ clQ)) (fun _ => false) caL18 500) 49 [(.agg #[(.int .i64 (.ofNat 2)), (.int .i64 (.ofNat 0)), (.int .i64 (.ofNat 10000)), (.slice (some ⟨41, 0, none⟩) 3 7), (.slice (some ⟨43, 0, none⟩) 3 7), (.slice (some ⟨45, 0, none⟩) 3 7)]), (.int .i64 (.ofNat 2)), (.int .i64 (.ofNat 3)), (.slice (some ⟨356, 0, none⟩) 4 9)] caH230 402) ((.int .i64 (.negSucc 0)), caH236, 404) = true := by kernel_rfl
noncomputable def caL19 : List Ev.Entry := caE19 :: caL18
theorem caT19 : Ev.TabOk Try.prog ((Ev.listQ clQ)) caL19 := .cons (Ev.entry_ok (by kernel_rfl) clX_ok ((Ev.listQ_ok clQ_ok)) (.none _) caT18 caR19) caT18
theorem caR20 : Ev.comesTo (Ev.callOf Try.prog clX (Ev.evM Try.prog clX ((Ev.listQ clQ)) (fun _ => false) caL19 500) 38 [(.agg #[(.int .i64 (.ofNat 2)), (.int .i64 (.ofNat 0)), (.int .i64 (.ofNat 10000)), (.slice (some ⟨41, 0, none⟩) 3 7), (.slice (some ⟨43, 0, none⟩) 3 7), (.slice (some ⟨45, 0, none⟩) 3 7)]), (.int .i64 (.ofNat 2)), (.slice (some ⟨356, 0, none⟩) 4 9)] caH223 400) ((.int .i64 (.negSucc 0)), caH236, 404) = true := by kernel_rfl
noncomputable def caL20 : List Ev.Entry := caE20 :: caL19
theorem caT20 : Ev.TabOk Try.prog ((Ev.listQ clQ)) caL20 := .cons (Ev.entry_ok (by kernel_rfl) clX_ok ((Ev.listQ_ok clQ_ok)) (.none _) caT19 caR20) caT19
theorem caR21 : Ev.comesTo (Ev.callOf Try.prog clX (Ev.evM Try.prog clX ((Ev.listQ clQ)) (fun _ => false) caL20 500) 38 [(.agg #[(.int .i64 (.ofNat 2)), (.int .i64 (.ofNat 0)), (.int .i64 (.ofNat 10000)), (.slice (some ⟨41, 0, none⟩) 3 7), (.slice (some ⟨43, 0, none⟩) 3 7), (.slice (some ⟨45, 0, none⟩) 3 7)]), (.int .i64 (.ofNat 3)), (.slice (some ⟨356, 0, none⟩) 4 9)] caH238 404) ((.int .i64 (.negSucc 0)), caH244, 406) = true := by kernel_rfl
noncomputable def caL21 : List Ev.Entry := caE21 :: caL20
theorem caT21 : Ev.TabOk Try.prog ((Ev.listQ clQ)) caL21 := .cons (Ev.entry_ok (by kernel_rfl) clX_ok ((Ev.listQ_ok clQ_ok)) (.none _) caT20 caR21) caT20
theorem caR22 : Ev.comesTo (Ev.callOf Try.prog clX (Ev.evM Try.prog clX ((Ev.listQ clQ)) (fun _ => false) caL21 500) 34 [(.agg #[(.int .i64 (.ofNat 2)), (.int .i64 (.ofNat 0)), (.int .i64 (.ofNat 10000)), (.slice (some ⟨41, 0, none⟩) 3 7), (.slice (some ⟨43, 0, none⟩) 3 7), (.slice (some ⟨45, 0, none⟩) 3 7)])] caH245 333) ((.slice (some ⟨339, 0, none⟩) 3 7), caH248, 406) = true := by kernel_rfl
noncomputable def caL22 : List Ev.Entry := caE22 :: caL21
theorem caT22 : Ev.TabOk Try.prog ((Ev.listQ clQ)) caL22 := .cons (Ev.entry_ok (by kernel_rfl) clX_ok ((Ev.listQ_ok clQ_ok)) (.none _) caT21 caR22) caT21
theorem caR23 : Ev.comesTo (Ev.callOf Try.prog clX (Ev.evM Try.prog clX ((Ev.listQ clQ)) (fun _ => false) caL22 500) 49 [(.agg #[(.int .i64 (.ofNat 2)), (.int .i64 (.ofNat 0)), (.int .i64 (.ofNat 10000)), (.slice (some ⟨41, 0, none⟩) 3 7), (.slice (some ⟨43, 0, none⟩) 3 7), (.slice (some ⟨45, 0, none⟩) 3 7)]), (.int .i64 (.ofNat 0)), (.int .i64 (.ofNat 1)), (.slice (some ⟨356, 0, none⟩) 4 9)] caH252 408) ((.int .i64 (.ofNat 390)), caH256, 410) = true := by kernel_rfl
noncomputable def caL23 : List Ev.Entry := caE23 :: caL22
theorem caT23 : Ev.TabOk Try.prog ((Ev.listQ clQ)) caL23 := .cons (Ev.entry_ok (by kernel_rfl) clX_ok ((Ev.listQ_ok clQ_ok)) (.none _) caT22 caR23) caT22
end Go.Proofs.Ytmdhmpfagekonaa
