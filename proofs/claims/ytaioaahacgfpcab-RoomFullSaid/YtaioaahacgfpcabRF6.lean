/- A closed run, its pieces from 60 on. -/
import Derived.Test.YtaioaahacgfpcabRF5
namespace Go.Proofs.Ytaioaahacgfpcab
open Go.RowKit

theorem rfR60 : Ev.comesTo (Ev.callOf Try.prog rmX (Ev.evM Try.prog rmX (Ev.listQ rmQ) rmK rfL59 500) 17 [(.pointer (some ⟨4, 0, none⟩)), (.agg #[(.string ⟨#[108, 50, 57]⟩), (.int .i64 (.ofNat 1)), (.int .i64 (.ofNat 1)), (.int .i64 (.ofNat 1)), (.int .i64 (.ofNat 1)), (.int .i64 (.ofNat 0)), (.string ⟨#[]⟩), (.int .i64 (.ofNat 0))])] rfH707 732) ((.int .i64 (.ofNat 0)), rfH725, 757) = true := by kernel_rfl
noncomputable def rfL60 : List Ev.Entry := rfE60 :: rfL59
theorem rfT60 : Ev.TabOk Try.prog (Ev.listQ rmQ) rfL60 := .cons (Ev.entry_ok (by kernel_rfl) rmX_ok (Ev.listQ_ok rmQ_ok) rmK_ok rfT59 rfR60) rfT59
theorem rfR61 : Ev.comesTo (Ev.callOf Try.prog rmX (Ev.evM Try.prog rmX (Ev.listQ rmQ) rmK rfL60 500) 15 [(.pointer (some ⟨4, 0, none⟩)), (.string ⟨#[98, 51, 48]⟩), (.complex .f64 0 2)] rfH725 757) ((.int .i64 (.ofNat 0)), rfH727, 757) = true := by kernel_rfl
noncomputable def rfL61 : List Ev.Entry := rfE61 :: rfL60
theorem rfT61 : Ev.TabOk Try.prog (Ev.listQ rmQ) rfL61 := .cons (Ev.entry_ok (by kernel_rfl) rmX_ok (Ev.listQ_ok rmQ_ok) rmK_ok rfT60 rfR61) rfT60
theorem rfR62 : Ev.comesTo (Ev.callOf Try.prog rmX (Ev.evM Try.prog rmX (Ev.listQ rmQ) rmK rfL61 500) 17 [(.pointer (some ⟨4, 0, none⟩)), (.agg #[(.string ⟨#[108, 51, 48]⟩), (.int .i64 (.ofNat 1)), (.int .i64 (.ofNat 1)), (.int .i64 (.ofNat 1)), (.int .i64 (.ofNat 1)), (.int .i64 (.ofNat 0)), (.string ⟨#[]⟩), (.int .i64 (.ofNat 0))])] rfH727 757) ((.int .i64 (.ofNat 0)), rfH746, 782) = true := by kernel_rfl
noncomputable def rfL62 : List Ev.Entry := rfE62 :: rfL61
theorem rfT62 : Ev.TabOk Try.prog (Ev.listQ rmQ) rfL62 := .cons (Ev.entry_ok (by kernel_rfl) rmX_ok (Ev.listQ_ok rmQ_ok) rmK_ok rfT61 rfR62) rfT61
theorem rfR63 : Ev.comesTo (Ev.callOf Try.prog rmX (Ev.evM Try.prog rmX (Ev.listQ rmQ) rmK rfL62 500) 15 [(.pointer (some ⟨4, 0, none⟩)), (.string ⟨#[98, 51, 49]⟩), (.complex .f64 0 2)] rfH746 782) ((.int .i64 (.ofNat 0)), rfH748, 782) = true := by kernel_rfl
noncomputable def rfL63 : List Ev.Entry := rfE63 :: rfL62
theorem rfT63 : Ev.TabOk Try.prog (Ev.listQ rmQ) rfL63 := .cons (Ev.entry_ok (by kernel_rfl) rmX_ok (Ev.listQ_ok rmQ_ok) rmK_ok rfT62 rfR63) rfT62
theorem rfR64 : Ev.comesTo (Ev.callOf Try.prog rmX (Ev.evM Try.prog rmX (Ev.listQ rmQ) rmK rfL63 500) 17 [(.pointer (some ⟨4, 0, none⟩)), (.agg #[(.string ⟨#[108, 51, 49]⟩), (.int .i64 (.ofNat 1)), (.int .i64 (.ofNat 1)), (.int .i64 (.ofNat 1)), (.int .i64 (.ofNat 1)), (.int .i64 (.ofNat 0)), (.string ⟨#[]⟩), (.int .i64 (.ofNat 0))])] rfH748 782) ((.int .i64 (.ofNat 0)), rfH765, 807) = true := by kernel_rfl
noncomputable def rfL64 : List Ev.Entry := rfE64 :: rfL63
theorem rfT64 : Ev.TabOk Try.prog (Ev.listQ rmQ) rfL64 := .cons (Ev.entry_ok (by kernel_rfl) rmX_ok (Ev.listQ_ok rmQ_ok) rmK_ok rfT63 rfR64) rfT63
theorem rfR65 : Ev.comesTo (Ev.callOf Try.prog rmX (Ev.evM Try.prog rmX (Ev.listQ rmQ) rmK rfL64 500) 15 [(.pointer (some ⟨4, 0, none⟩)), (.string ⟨#[98, 51, 50]⟩), (.complex .f64 0 2)] rfH765 807) ((.int .i64 (.ofNat 0)), rfH767, 807) = true := by kernel_rfl
noncomputable def rfL65 : List Ev.Entry := rfE65 :: rfL64
theorem rfT65 : Ev.TabOk Try.prog (Ev.listQ rmQ) rfL65 := .cons (Ev.entry_ok (by kernel_rfl) rmX_ok (Ev.listQ_ok rmQ_ok) rmK_ok rfT64 rfR65) rfT64
theorem rfR66 : Ev.comesTo (Ev.callOf Try.prog rmX (Ev.evM Try.prog rmX (Ev.listQ rmQ) rmK rfL65 500) 17 [(.pointer (some ⟨4, 0, none⟩)), (.agg #[(.string ⟨#[108, 51, 50]⟩), (.int .i64 (.ofNat 1)), (.int .i64 (.ofNat 1)), (.int .i64 (.ofNat 1)), (.int .i64 (.ofNat 1)), (.int .i64 (.ofNat 0)), (.string ⟨#[]⟩), (.int .i64 (.ofNat 0))])] rfH767 807) ((.int .i64 (.ofNat 0)), rfH788, 832) = true := by kernel_rfl
noncomputable def rfL66 : List Ev.Entry := rfE66 :: rfL65
theorem rfT66 : Ev.TabOk Try.prog (Ev.listQ rmQ) rfL66 := .cons (Ev.entry_ok (by kernel_rfl) rmX_ok (Ev.listQ_ok rmQ_ok) rmK_ok rfT65 rfR66) rfT65
theorem rfR67 : Ev.comesTo (Ev.callOf Try.prog rmX (Ev.evM Try.prog rmX (Ev.listQ rmQ) rmK rfL66 500) 15 [(.pointer (some ⟨4, 0, none⟩)), (.string ⟨#[98, 51, 51]⟩), (.complex .f64 0 2)] rfH788 832) ((.int .i64 (.ofNat 0)), rfH790, 832) = true := by kernel_rfl
noncomputable def rfL67 : List Ev.Entry := rfE67 :: rfL66
theorem rfT67 : Ev.TabOk Try.prog (Ev.listQ rmQ) rfL67 := .cons (Ev.entry_ok (by kernel_rfl) rmX_ok (Ev.listQ_ok rmQ_ok) rmK_ok rfT66 rfR67) rfT66
theorem rfR68 : Ev.comesTo (Ev.callOf Try.prog rmX (Ev.evM Try.prog rmX (Ev.listQ rmQ) rmK rfL67 500) 17 [(.pointer (some ⟨4, 0, none⟩)), (.agg #[(.string ⟨#[108, 51, 51]⟩), (.int .i64 (.ofNat 1)), (.int .i64 (.ofNat 1)), (.int .i64 (.ofNat 1)), (.int .i64 (.ofNat 1)), (.int .i64 (.ofNat 0)), (.string ⟨#[]⟩), (.int .i64 (.ofNat 0))])] rfH790 832) ((.int .i64 (.ofNat 0)), rfH808, 857) = true := by kernel_rfl
noncomputable def rfL68 : List Ev.Entry := rfE68 :: rfL67
theorem rfT68 : Ev.TabOk Try.prog (Ev.listQ rmQ) rfL68 := .cons (Ev.entry_ok (by kernel_rfl) rmX_ok (Ev.listQ_ok rmQ_ok) rmK_ok rfT67 rfR68) rfT67
theorem rfR69 : Ev.comesTo (Ev.callOf Try.prog rmX (Ev.evM Try.prog rmX (Ev.listQ rmQ) rmK rfL68 500) 15 [(.pointer (some ⟨4, 0, none⟩)), (.string ⟨#[98, 51, 52]⟩), (.complex .f64 0 2)] rfH808 857) ((.int .i64 (.ofNat 0)), rfH810, 857) = true := by kernel_rfl
noncomputable def rfL69 : List Ev.Entry := rfE69 :: rfL68
theorem rfT69 : Ev.TabOk Try.prog (Ev.listQ rmQ) rfL69 := .cons (Ev.entry_ok (by kernel_rfl) rmX_ok (Ev.listQ_ok rmQ_ok) rmK_ok rfT68 rfR69) rfT68
theorem rfR70 : Ev.comesTo (Ev.callOf Try.prog rmX (Ev.evM Try.prog rmX (Ev.listQ rmQ) rmK rfL69 500) 17 [(.pointer (some ⟨4, 0, none⟩)), (.agg #[(.string ⟨#[108, 51, 52]⟩), (.int .i64 (.ofNat 1)), (.int .i64 (.ofNat 1)), (.int .i64 (.ofNat 1)), (.int .i64 (.ofNat 1)), (.int .i64 (.ofNat 0)), (.string ⟨#[]⟩), (.int .i64 (.ofNat 0))])] rfH810 857) ((.int .i64 (.ofNat 0)), rfH829, 882) = true := by kernel_rfl
noncomputable def rfL70 : List Ev.Entry := rfE70 :: rfL69
theorem rfT70 : Ev.TabOk Try.prog (Ev.listQ rmQ) rfL70 := .cons (Ev.entry_ok (by kernel_rfl) rmX_ok (Ev.listQ_ok rmQ_ok) rmK_ok rfT69 rfR70) rfT69
theorem rfR71 : Ev.comesTo (Ev.callOf Try.prog rmX (Ev.evM Try.prog rmX (Ev.listQ rmQ) rmK rfL70 500) 15 [(.pointer (some ⟨4, 0, none⟩)), (.string ⟨#[98, 51, 53]⟩), (.complex .f64 0 2)] rfH829 882) ((.int .i64 (.ofNat 0)), rfH831, 882) = true := by kernel_rfl
noncomputable def rfL71 : List Ev.Entry := rfE71 :: rfL70
theorem rfT71 : Ev.TabOk Try.prog (Ev.listQ rmQ) rfL71 := .cons (Ev.entry_ok (by kernel_rfl) rmX_ok (Ev.listQ_ok rmQ_ok) rmK_ok rfT70 rfR71) rfT70
end Go.Proofs.Ytaioaahacgfpcab
