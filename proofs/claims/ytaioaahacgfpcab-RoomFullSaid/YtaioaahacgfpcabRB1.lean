/- A closed run, its pieces from 0 on. -/
import Derived.Test.YtaioaahacgfpcabRB0
namespace Go.Proofs.Ytaioaahacgfpcab
open Go.RowKit

theorem rbR0 : Ev.comesTo (Ev.callOf Try.prog rmX (Ev.evM Try.prog rmX (Ev.listQ rmQ) (fun _ => false) [] 500) 14 [(.int .i64 (.ofNat 1))] .nil 0) ((.tuple #[(.pointer (some ⟨4, 0, none⟩)), (.int .i64 (.ofNat 0))]), rbH4, 7) = true := by kernel_rfl
noncomputable def rbL0 : List Ev.Entry := rbE0 :: []
theorem rbT0 : Ev.TabOk Try.prog (Ev.listQ rmQ) rbL0 := .cons (Ev.entry_ok (by kernel_rfl) rmX_ok (Ev.listQ_ok rmQ_ok) (.none _) (Ev.TabOk.nil _ _) rbR0) (Ev.TabOk.nil _ _)
theorem rbR1 : Ev.comesTo (Ev.callOf Try.prog rmX (Ev.evM Try.prog rmX (Ev.listQ rmQ) (fun _ => false) rbL0 500) 15 [(.pointer (some ⟨4, 0, none⟩)), (.string ⟨#[97]⟩), (.int .i64 (.ofNat 1000000))] rbH4 7) ((.int .i64 (.ofNat 0)), rbH5, 7) = true := by kernel_rfl
noncomputable def rbL1 : List Ev.Entry := rbE1 :: rbL0
theorem rbT1 : Ev.TabOk Try.prog (Ev.listQ rmQ) rbL1 := .cons (Ev.entry_ok (by kernel_rfl) rmX_ok (Ev.listQ_ok rmQ_ok) (.none _) rbT0 rbR1) rbT0
theorem rbR2 : Ev.comesTo (Ev.callOf Try.prog rmX (Ev.evM Try.prog rmX (Ev.listQ rmQ) (fun _ => false) rbL1 500) 15 [(.pointer (some ⟨4, 0, none⟩)), (.string ⟨#[98]⟩), (.int .i64 (.ofNat 1000000))] rbH5 7) ((.int .i64 (.ofNat 0)), rbH8, 7) = true := by kernel_rfl
noncomputable def rbL2 : List Ev.Entry := rbE2 :: rbL1
theorem rbT2 : Ev.TabOk Try.prog (Ev.listQ rmQ) rbL2 := .cons (Ev.entry_ok (by kernel_rfl) rmX_ok (Ev.listQ_ok rmQ_ok) (.none _) rbT1 rbR2) rbT1
theorem rbR3 : Ev.comesTo (Ev.callOf Try.prog rmX (Ev.evM Try.prog rmX (Ev.listQ rmQ) (fun _ => false) rbL2 500) 17 [(.pointer (some ⟨4, 0, none⟩)), (.agg #[(.string ⟨#[108]⟩), (.int .i64 (.ofNat 1)), (.int .i64 (.ofNat 2)), (.int .i64 (.ofNat 400)), (.int .i64 (.ofNat 600)), (.int .i64 (.ofNat 0)), (.string ⟨#[]⟩), (.int .i64 (.ofNat 0))])] rbH8 7) ((.int .i64 (.ofNat 0)), rbH21, 32) = true := by kernel_rfl
noncomputable def rbL3 : List Ev.Entry := rbE3 :: rbL2
theorem rbT3 : Ev.TabOk Try.prog (Ev.listQ rmQ) rbL3 := .cons (Ev.entry_ok (by kernel_rfl) rmX_ok (Ev.listQ_ok rmQ_ok) (.none _) rbT2 rbR3) rbT2
theorem rbR4 : Ev.comesTo (Ev.callOf Try.prog rmX (Ev.evM Try.prog rmX (Ev.listQ rmQ) (fun _ => false) rbL3 500) 46 [(.slice none 0 0), (.func (.func 47) #[] #[(.pointer (some ⟨32, 0, none⟩))])] rbH24 33) ((.slice none 0 0), rbH24, 33) = true := by kernel_rfl
noncomputable def rbL4 : List Ev.Entry := rbE4 :: rbL3
theorem rbT4 : Ev.TabOk Try.prog (Ev.listQ rmQ) rbL4 := .cons (Ev.entry_ok (by kernel_rfl) rmX_ok (Ev.listQ_ok rmQ_ok) (.none _) rbT3 rbR4) rbT3
theorem rbR5 : Ev.comesTo (Ev.callOf Try.prog rmX (Ev.evM Try.prog rmX (Ev.listQ rmQ) (fun _ => false) rbL4 500) 48 [(.slice (some ⟨42, 0, none⟩) 1 4), (.func (.func 49) #[] #[])] rbH32 46) ((.tuple #[]), rbH32, 46) = true := by kernel_rfl
noncomputable def rbL5 : List Ev.Entry := rbE5 :: rbL4
theorem rbT5 : Ev.TabOk Try.prog (Ev.listQ rmQ) rbL5 := .cons (Ev.entry_ok (by kernel_rfl) rmX_ok (Ev.listQ_ok rmQ_ok) (.none _) rbT4 rbR5) rbT4
theorem rbR6 : Ev.comesTo (Ev.callOf Try.prog rmX (Ev.evM Try.prog rmX (Ev.listQ rmQ) (fun _ => false) rbL5 500) 38 [(.pointer (some ⟨27, 0, none⟩)), (.string ⟨#[97]⟩), (.int .i64 (.ofNat 700))] rbH21 32) ((.tuple #[]), rbH32, 46) = true := by kernel_rfl
noncomputable def rbL6 : List Ev.Entry := rbE6 :: rbL5
theorem rbT6 : Ev.TabOk Try.prog (Ev.listQ rmQ) rbL6 := .cons (Ev.entry_ok (by kernel_rfl) rmX_ok (Ev.listQ_ok rmQ_ok) (.none _) rbT5 rbR6) rbT5
theorem rbR7 : Ev.comesTo (Ev.callOf Try.prog rmX (Ev.evM Try.prog rmX (Ev.listQ rmQ) (fun _ => false) rbL6 500) 19 [(.pointer (some ⟨4, 0, none⟩)), (.string ⟨#[97]⟩), (.string ⟨#[108]⟩), (.int .i64 (.ofNat 700))] rbH21 32) ((.int .i64 (.ofNat 0)), rbH32, 46) = true := by kernel_rfl
noncomputable def rbL7 : List Ev.Entry := rbE7 :: rbL6
theorem rbT7 : Ev.TabOk Try.prog (Ev.listQ rmQ) rbL7 := .cons (Ev.entry_ok (by kernel_rfl) rmX_ok (Ev.listQ_ok rmQ_ok) (.none _) rbT6 rbR7) rbT6
end Go.Proofs.Ytaioaahacgfpcab
