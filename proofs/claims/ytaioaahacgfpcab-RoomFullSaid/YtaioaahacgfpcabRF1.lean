/- A closed run, its pieces from 0 on. -/
import Derived.Test.YtaioaahacgfpcabRF0c
namespace Go.Proofs.Ytaioaahacgfpcab
open Go.RowKit

theorem rfR0 : Ev.comesTo (Ev.callOf Try.prog rmX (Ev.evM Try.prog rmX (Ev.listQ rmQ) rmK [] 500) 14 [(.int .i64 (.ofNat 1))] .nil 0) ((.tuple #[(.pointer (some ⟨4, 0, none⟩)), (.int .i64 (.ofNat 0))]), rfH7, 7) = true := by kernel_rfl
noncomputable def rfL0 : List Ev.Entry := rfE0 :: []
theorem rfT0 : Ev.TabOk Try.prog (Ev.listQ rmQ) rfL0 := .cons (Ev.entry_ok (by kernel_rfl) rmX_ok (Ev.listQ_ok rmQ_ok) rmK_ok (Ev.TabOk.nil _ _) rfR0) (Ev.TabOk.nil _ _)
theorem rfR1 : Ev.comesTo (Ev.callOf Try.prog rmX (Ev.evM Try.prog rmX (Ev.listQ rmQ) rmK rfL0 500) 15 [(.pointer (some ⟨4, 0, none⟩)), (.string ⟨#[98, 48, 48]⟩), (.complex .f64 0 2)] rfH7 7) ((.int .i64 (.ofNat 0)), rfH9, 7) = true := by kernel_rfl
noncomputable def rfL1 : List Ev.Entry := rfE1 :: rfL0
theorem rfT1 : Ev.TabOk Try.prog (Ev.listQ rmQ) rfL1 := .cons (Ev.entry_ok (by kernel_rfl) rmX_ok (Ev.listQ_ok rmQ_ok) rmK_ok rfT0 rfR1) rfT0
theorem rfR2 : Ev.comesTo (Ev.callOf Try.prog rmX (Ev.evM Try.prog rmX (Ev.listQ rmQ) rmK rfL1 500) 17 [(.pointer (some ⟨4, 0, none⟩)), (.agg #[(.string ⟨#[108, 48, 48]⟩), (.int .i64 (.ofNat 1)), (.int .i64 (.ofNat 1)), (.int .i64 (.ofNat 1)), (.int .i64 (.ofNat 1)), (.int .i64 (.ofNat 0)), (.string ⟨#[]⟩), (.int .i64 (.ofNat 0))])] rfH9 7) ((.int .i64 (.ofNat 0)), rfH32, 32) = true := by kernel_rfl
noncomputable def rfL2 : List Ev.Entry := rfE2 :: rfL1
theorem rfT2 : Ev.TabOk Try.prog (Ev.listQ rmQ) rfL2 := .cons (Ev.entry_ok (by kernel_rfl) rmX_ok (Ev.listQ_ok rmQ_ok) rmK_ok rfT1 rfR2) rfT1
theorem rfR3 : Ev.comesTo (Ev.callOf Try.prog rmX (Ev.evM Try.prog rmX (Ev.listQ rmQ) rmK rfL2 500) 15 [(.pointer (some ⟨4, 0, none⟩)), (.string ⟨#[98, 48, 49]⟩), (.complex .f64 0 2)] rfH32 32) ((.int .i64 (.ofNat 0)), rfH34, 32) = true := by kernel_rfl
noncomputable def rfL3 : List Ev.Entry := rfE3 :: rfL2
theorem rfT3 : Ev.TabOk Try.prog (Ev.listQ rmQ) rfL3 := .cons (Ev.entry_ok (by kernel_rfl) rmX_ok (Ev.listQ_ok rmQ_ok) rmK_ok rfT2 rfR3) rfT2
theorem rfR4 : Ev.comesTo (Ev.callOf Try.prog rmX (Ev.evM Try.prog rmX (Ev.listQ rmQ) rmK rfL3 500) 17 [(.pointer (some ⟨4, 0, none⟩)), (.agg #[(.string ⟨#[108, 48, 49]⟩), (.int .i64 (.ofNat 1)), (.int .i64 (.ofNat 1)), (.int .i64 (.ofNat 1)), (.int .i64 (.ofNat 1)), (.int .i64 (.ofNat 0)), (.string ⟨#[]⟩), (.int .i64 (.ofNat 0))])] rfH34 32) ((.int .i64 (.ofNat 0)), rfH58, 57) = true := by kernel_rfl
noncomputable def rfL4 : List Ev.Entry := rfE4 :: rfL3
theorem rfT4 : Ev.TabOk Try.prog (Ev.listQ rmQ) rfL4 := .cons (Ev.entry_ok (by kernel_rfl) rmX_ok (Ev.listQ_ok rmQ_ok) rmK_ok rfT3 rfR4) rfT3
theorem rfR5 : Ev.comesTo (Ev.callOf Try.prog rmX (Ev.evM Try.prog rmX (Ev.listQ rmQ) rmK rfL4 500) 15 [(.pointer (some ⟨4, 0, none⟩)), (.string ⟨#[98, 48, 50]⟩), (.complex .f64 0 2)] rfH58 57) ((.int .i64 (.ofNat 0)), rfH60, 57) = true := by kernel_rfl
noncomputable def rfL5 : List Ev.Entry := rfE5 :: rfL4
theorem rfT5 : Ev.TabOk Try.prog (Ev.listQ rmQ) rfL5 := .cons (Ev.entry_ok (by kernel_rfl) rmX_ok (Ev.listQ_ok rmQ_ok) rmK_ok rfT4 rfR5) rfT4
theorem rfR6 : Ev.comesTo (Ev.callOf Try.prog rmX (Ev.evM Try.prog rmX (Ev.listQ rmQ) rmK rfL5 500) 17 [(.pointer (some ⟨4, 0, none⟩)), (.agg #[(.string ⟨#[108, 48, 50]⟩), (.int .i64 (.ofNat 1)), (.int .i64 (.ofNat 1)), (.int .i64 (.ofNat 1)), (.int .i64 (.ofNat 1)), (.int .i64 (.ofNat 0)), (.string ⟨#[]⟩), (.int .i64 (.ofNat 0))])] rfH60 57) ((.int .i64 (.ofNat 0)), rfH84, 82) = true := by kernel_rfl
noncomputable def rfL6 : List Ev.Entry := rfE6 :: rfL5
theorem rfT6 : Ev.TabOk Try.prog (Ev.listQ rmQ) rfL6 := .cons (Ev.entry_ok (by kernel_rfl) rmX_ok (Ev.listQ_ok rmQ_ok) rmK_ok rfT5 rfR6) rfT5
theorem rfR7 : Ev.comesTo (Ev.callOf Try.prog rmX (Ev.evM Try.prog rmX (Ev.listQ rmQ) rmK rfL6 500) 15 [(.pointer (some ⟨4, 0, none⟩)), (.string ⟨#[98, 48, 51]⟩), (.complex .f64 0 2)] rfH84 82) ((.int .i64 (.ofNat 0)), rfH86, 82) = true := by kernel_rfl
noncomputable def rfL7 : List Ev.Entry := rfE7 :: rfL6
theorem rfT7 : Ev.TabOk Try.prog (Ev.listQ rmQ) rfL7 := .cons (Ev.entry_ok (by kernel_rfl) rmX_ok (Ev.listQ_ok rmQ_ok) rmK_ok rfT6 rfR7) rfT6
theorem rfR8 : Ev.comesTo (Ev.callOf Try.prog rmX (Ev.evM Try.prog rmX (Ev.listQ rmQ) rmK rfL7 500) 17 [(.pointer (some ⟨4, 0, none⟩)), (.agg #[(.string ⟨#[108, 48, 51]⟩), (.int .i64 (.ofNat 1)), (.int .i64 (.ofNat 1)), (.int .i64 (.ofNat 1)), (.int .i64 (.ofNat 1)), (.int .i64 (.ofNat 0)), (.string ⟨#[]⟩), (.int .i64 (.ofNat 0))])] rfH86 82) ((.int .i64 (.ofNat 0)), rfH109, 107) = true := by kernel_rfl
noncomputable def rfL8 : List Ev.Entry := rfE8 :: rfL7
theorem rfT8 : Ev.TabOk Try.prog (Ev.listQ rmQ) rfL8 := .cons (Ev.entry_ok (by kernel_rfl) rmX_ok (Ev.listQ_ok rmQ_ok) rmK_ok rfT7 rfR8) rfT7
theorem rfR9 : Ev.comesTo (Ev.callOf Try.prog rmX (Ev.evM Try.prog rmX (Ev.listQ rmQ) rmK rfL8 500) 15 [(.pointer (some ⟨4, 0, none⟩)), (.string ⟨#[98, 48, 52]⟩), (.complex .f64 0 2)] rfH109 107) ((.int .i64 (.ofNat 0)), rfH111, 107) = true := by kernel_rfl
noncomputable def rfL9 : List Ev.Entry := rfE9 :: rfL8
theorem rfT9 : Ev.TabOk Try.prog (Ev.listQ rmQ) rfL9 := .cons (Ev.entry_ok (by kernel_rfl) rmX_ok (Ev.listQ_ok rmQ_ok) rmK_ok rfT8 rfR9) rfT8
theorem rfR10 : Ev.comesTo (Ev.callOf Try.prog rmX (Ev.evM Try.prog rmX (Ev.listQ rmQ) rmK rfL9 500) 17 [(.pointer (some ⟨4, 0, none⟩)), (.agg #[(.string ⟨#[108, 48, 52]⟩), (.int .i64 (.ofNat 1)), (.int .i64 (.ofNat 1)), (.int .i64 (.ofNat 1)), (.int .i64 (.ofNat 1)), (.int .i64 (.ofNat 0)), (.string ⟨#[]⟩), (.int .i64 (.ofNat 0))])] rfH111 107) ((.int .i64 (.ofNat 0)), rfH132, 132) = true := by kernel_rfl
noncomputable def rfL10 : List Ev.Entry := rfE10 :: rfL9
theorem rfT10 : Ev.TabOk Try.prog (Ev.listQ rmQ) rfL10 := .cons (Ev.entry_ok (by kernel_rfl) rmX_ok (Ev.listQ_ok rmQ_ok) rmK_ok rfT9 rfR10) rfT9
theorem rfR11 : Ev.comesTo (Ev.callOf Try.prog rmX (Ev.evM Try.prog rmX (Ev.listQ rmQ) rmK rfL10 500) 15 [(.pointer (some ⟨4, 0, none⟩)), (.string ⟨#[98, 48, 53]⟩), (.complex .f64 0 2)] rfH132 132) ((.int .i64 (.ofNat 0)), rfH134, 132) = true := by kernel_rfl
noncomputable def rfL11 : List Ev.Entry := rfE11 :: rfL10
theorem rfT11 : Ev.TabOk Try.prog (Ev.listQ rmQ) rfL11 := .cons (Ev.entry_ok (by kernel_rfl) rmX_ok (Ev.listQ_ok rmQ_ok) rmK_ok rfT10 rfR11) rfT10
end Go.Proofs.Ytaioaahacgfpcab
