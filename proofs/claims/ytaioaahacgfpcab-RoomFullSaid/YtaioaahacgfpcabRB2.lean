/- A closed run, its pieces from 8 on. -/
import Derived.Test.YtaioaahacgfpcabRB1
namespace Go.Proofs.Ytaioaahacgfpcab
open Go.RowKit

theorem rbR8 : Ev.comesTo (Ev.callOf Try.prog rmX (Ev.evM Try.prog rmX (Ev.listQ rmQ) (fun _ => false) rbL7 500) 46 [(.slice (some ⟨42, 0, none⟩) 1 4), (.func (.func 47) #[] #[(.pointer (some ⟨58, 0, none⟩))])] rbH38 59) ((.slice (some ⟨42, 0, none⟩) 1 4), rbH40, 61) = true := by kernel_rfl
noncomputable def rbL8 : List Ev.Entry := rbE8 :: rbL7
theorem rbT8 : Ev.TabOk Try.prog (Ev.listQ rmQ) rbL8 := .cons (Ev.entry_ok (by kernel_rfl) rmX_ok (Ev.listQ_ok rmQ_ok) (.none _) rbT7 rbR8) rbT7
theorem rbR9 : Ev.comesTo (Ev.callOf Try.prog rmX (Ev.evM Try.prog rmX (Ev.listQ rmQ) (fun _ => false) rbL8 500) 48 [(.slice (some ⟨70, 0, none⟩) 2 4), (.func (.func 49) #[] #[])] rbH47 74) ((.tuple #[]), rbH51, 77) = true := by kernel_rfl
noncomputable def rbL9 : List Ev.Entry := rbE9 :: rbL8
theorem rbT9 : Ev.TabOk Try.prog (Ev.listQ rmQ) rbL9 := .cons (Ev.entry_ok (by kernel_rfl) rmX_ok (Ev.listQ_ok rmQ_ok) (.none _) rbT8 rbR9) rbT8
theorem rbR10 : Ev.comesTo (Ev.callOf Try.prog rmX (Ev.evM Try.prog rmX (Ev.listQ rmQ) (fun _ => false) rbL9 500) 38 [(.pointer (some ⟨27, 0, none⟩)), (.string ⟨#[98]⟩), (.int .i64 (.ofNat 650))] rbH52 58) ((.tuple #[]), rbH51, 77) = true := by kernel_rfl
noncomputable def rbL10 : List Ev.Entry := rbE10 :: rbL9
theorem rbT10 : Ev.TabOk Try.prog (Ev.listQ rmQ) rbL10 := .cons (Ev.entry_ok (by kernel_rfl) rmX_ok (Ev.listQ_ok rmQ_ok) (.none _) rbT9 rbR10) rbT9
theorem rbR11 : Ev.comesTo (Ev.callOf Try.prog rmX (Ev.evM Try.prog rmX (Ev.listQ rmQ) (fun _ => false) rbL10 500) 19 [(.pointer (some ⟨4, 0, none⟩)), (.string ⟨#[98]⟩), (.string ⟨#[108]⟩), (.int .i64 (.ofNat 650))] rbH32 46) ((.int .i64 (.ofNat 0)), rbH51, 77) = true := by kernel_rfl
noncomputable def rbL11 : List Ev.Entry := rbE11 :: rbL10
theorem rbT11 : Ev.TabOk Try.prog (Ev.listQ rmQ) rbL11 := .cons (Ev.entry_ok (by kernel_rfl) rmX_ok (Ev.listQ_ok rmQ_ok) (.none _) rbT10 rbR11) rbT10
theorem rbR12 : Ev.comesTo (Ev.callOf Try.prog rmX (Ev.evM Try.prog rmX (Ev.listQ rmQ) (fun _ => false) rbL11 500) 20 [(.pointer (some ⟨4, 0, none⟩)), (.int .i64 (.ofNat 1))] rbH51 85) ((.tuple #[(.agg #[(.string ⟨#[108]⟩), (.int .i64 (.ofNat 1)), (.int .i64 (.ofNat 2)), (.int .i64 (.ofNat 400)), (.int .i64 (.ofNat 600)), (.int .i64 (.ofNat 1)), (.string ⟨#[]⟩), (.int .i64 (.ofNat 0))]), (.int .i64 (.ofNat 0))]), rbH56, 87) = true := by kernel_rfl
noncomputable def rbL12 : List Ev.Entry := rbE12 :: rbL11
theorem rbT12 : Ev.TabOk Try.prog (Ev.listQ rmQ) rbL12 := .cons (Ev.entry_ok (by kernel_rfl) rmX_ok (Ev.listQ_ok rmQ_ok) (.none _) rbT11 rbR12) rbT11
theorem rbR13 : Ev.comesTo (Ev.callOf Try.prog rmX (Ev.evM Try.prog rmX (Ev.listQ rmQ) (fun _ => false) rbL12 500) 21 [(.pointer (some ⟨4, 0, none⟩)), (.int .i64 (.ofNat 1))] rbH59 95) ((.tuple #[(.agg #[(.string ⟨#[108]⟩), (.int .i64 (.ofNat 1)), (.int .i64 (.ofNat 2)), (.int .i64 (.ofNat 400)), (.int .i64 (.ofNat 600)), (.int .i64 (.ofNat 2)), (.string ⟨#[97]⟩), (.int .i64 (.ofNat 652))]), (.int .i64 (.ofNat 0))]), rbH62, 97) = true := by kernel_rfl
noncomputable def rbL13 : List Ev.Entry := rbE13 :: rbL12
theorem rbT13 : Ev.TabOk Try.prog (Ev.listQ rmQ) rbL13 := .cons (Ev.entry_ok (by kernel_rfl) rmX_ok (Ev.listQ_ok rmQ_ok) (.none _) rbT12 rbR13) rbT12
theorem rbR14 : Ev.comesTo (Ev.callOf Try.prog rmX (Ev.evM Try.prog rmX (Ev.listQ rmQ) (fun _ => false) rbL13 500) 11 [(.pointer (some ⟨4, 0, none⟩)), (.string ⟨#[97]⟩)] rbH63 97) ((.tuple #[(.int .i64 (.ofNat 998696)), (.int .i64 (.ofNat 0))]), rbH63, 97) = true := by kernel_rfl
noncomputable def rbL14 : List Ev.Entry := rbE14 :: rbL13
theorem rbT14 : Ev.TabOk Try.prog (Ev.listQ rmQ) rbL14 := .cons (Ev.entry_ok (by kernel_rfl) rmX_ok (Ev.listQ_ok rmQ_ok) (.none _) rbT13 rbR14) rbT13
end Go.Proofs.Ytaioaahacgfpcab
