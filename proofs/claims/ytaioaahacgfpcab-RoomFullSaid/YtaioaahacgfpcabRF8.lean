/- A closed run, its pieces from 84 on. -/
import Derived.Test.YtaioaahacgfpcabRF7
namespace Go.Proofs.Ytaioaahacgfpcab
open Go.RowKit

theorem rfR84 : Ev.comesTo (Ev.callOf Try.prog rmX (Ev.evM Try.prog rmX (Ev.listQ rmQ) rmK rfL83 500) 17 [(.pointer (some ⟨4, 0, none⟩)), (.agg #[(.string ⟨#[108, 52, 49]⟩), (.int .i64 (.ofNat 1)), (.int .i64 (.ofNat 1)), (.int .i64 (.ofNat 1)), (.int .i64 (.ofNat 1)), (.int .i64 (.ofNat 0)), (.string ⟨#[]⟩), (.int .i64 (.ofNat 0))])] rfH955 1032) ((.int .i64 (.ofNat 0)), rfH973, 1057) = true := by kernel_rfl
noncomputable def rfL84 : List Ev.Entry := rfE84 :: rfL83
theorem rfT84 : Ev.TabOk Try.prog (Ev.listQ rmQ) rfL84 := .cons (Ev.entry_ok (by kernel_rfl) rmX_ok (Ev.listQ_ok rmQ_ok) rmK_ok rfT83 rfR84) rfT83
theorem rfR85 : Ev.comesTo (Ev.callOf Try.prog rmX (Ev.evM Try.prog rmX (Ev.listQ rmQ) rmK rfL84 500) 15 [(.pointer (some ⟨4, 0, none⟩)), (.string ⟨#[98, 52, 50]⟩), (.complex .f64 0 2)] rfH973 1057) ((.int .i64 (.ofNat 0)), rfH975, 1057) = true := by kernel_rfl
noncomputable def rfL85 : List Ev.Entry := rfE85 :: rfL84
theorem rfT85 : Ev.TabOk Try.prog (Ev.listQ rmQ) rfL85 := .cons (Ev.entry_ok (by kernel_rfl) rmX_ok (Ev.listQ_ok rmQ_ok) rmK_ok rfT84 rfR85) rfT84
theorem rfR86 : Ev.comesTo (Ev.callOf Try.prog rmX (Ev.evM Try.prog rmX (Ev.listQ rmQ) rmK rfL85 500) 17 [(.pointer (some ⟨4, 0, none⟩)), (.agg #[(.string ⟨#[108, 52, 50]⟩), (.int .i64 (.ofNat 1)), (.int .i64 (.ofNat 1)), (.int .i64 (.ofNat 1)), (.int .i64 (.ofNat 1)), (.int .i64 (.ofNat 0)), (.string ⟨#[]⟩), (.int .i64 (.ofNat 0))])] rfH975 1057) ((.int .i64 (.ofNat 0)), rfH992, 1082) = true := by kernel_rfl
noncomputable def rfL86 : List Ev.Entry := rfE86 :: rfL85
theorem rfT86 : Ev.TabOk Try.prog (Ev.listQ rmQ) rfL86 := .cons (Ev.entry_ok (by kernel_rfl) rmX_ok (Ev.listQ_ok rmQ_ok) rmK_ok rfT85 rfR86) rfT85
theorem rfR87 : Ev.comesTo (Ev.callOf Try.prog rmX (Ev.evM Try.prog rmX (Ev.listQ rmQ) rmK rfL86 500) 15 [(.pointer (some ⟨4, 0, none⟩)), (.string ⟨#[98, 52, 51]⟩), (.complex .f64 0 2)] rfH992 1082) ((.int .i64 (.ofNat 0)), rfH994, 1082) = true := by kernel_rfl
noncomputable def rfL87 : List Ev.Entry := rfE87 :: rfL86
theorem rfT87 : Ev.TabOk Try.prog (Ev.listQ rmQ) rfL87 := .cons (Ev.entry_ok (by kernel_rfl) rmX_ok (Ev.listQ_ok rmQ_ok) rmK_ok rfT86 rfR87) rfT86
theorem rfR88 : Ev.comesTo (Ev.callOf Try.prog rmX (Ev.evM Try.prog rmX (Ev.listQ rmQ) rmK rfL87 500) 17 [(.pointer (some ⟨4, 0, none⟩)), (.agg #[(.string ⟨#[108, 52, 51]⟩), (.int .i64 (.ofNat 1)), (.int .i64 (.ofNat 1)), (.int .i64 (.ofNat 1)), (.int .i64 (.ofNat 1)), (.int .i64 (.ofNat 0)), (.string ⟨#[]⟩), (.int .i64 (.ofNat 0))])] rfH994 1082) ((.int .i64 (.ofNat 0)), rfH1010, 1107) = true := by kernel_rfl
noncomputable def rfL88 : List Ev.Entry := rfE88 :: rfL87
theorem rfT88 : Ev.TabOk Try.prog (Ev.listQ rmQ) rfL88 := .cons (Ev.entry_ok (by kernel_rfl) rmX_ok (Ev.listQ_ok rmQ_ok) rmK_ok rfT87 rfR88) rfT87
theorem rfR89 : Ev.comesTo (Ev.callOf Try.prog rmX (Ev.evM Try.prog rmX (Ev.listQ rmQ) rmK rfL88 500) 15 [(.pointer (some ⟨4, 0, none⟩)), (.string ⟨#[98, 52, 52]⟩), (.complex .f64 0 2)] rfH1010 1107) ((.int .i64 (.ofNat 0)), rfH1012, 1107) = true := by kernel_rfl
noncomputable def rfL89 : List Ev.Entry := rfE89 :: rfL88
theorem rfT89 : Ev.TabOk Try.prog (Ev.listQ rmQ) rfL89 := .cons (Ev.entry_ok (by kernel_rfl) rmX_ok (Ev.listQ_ok rmQ_ok) rmK_ok rfT88 rfR89) rfT88
theorem rfR90 : Ev.comesTo (Ev.callOf Try.prog rmX (Ev.evM Try.prog rmX (Ev.listQ rmQ) rmK rfL89 500) 17 [(.pointer (some ⟨4, 0, none⟩)), (.agg #[(.string ⟨#[108, 52, 52]⟩), (.int .i64 (.ofNat 1)), (.int .i64 (.ofNat 1)), (.int .i64 (.ofNat 1)), (.int .i64 (.ofNat 1)), (.int .i64 (.ofNat 0)), (.string ⟨#[]⟩), (.int .i64 (.ofNat 0))])] rfH1012 1107) ((.int .i64 (.ofNat 0)), rfH1028, 1132) = true := by kernel_rfl
noncomputable def rfL90 : List Ev.Entry := rfE90 :: rfL89
theorem rfT90 : Ev.TabOk Try.prog (Ev.listQ rmQ) rfL90 := .cons (Ev.entry_ok (by kernel_rfl) rmX_ok (Ev.listQ_ok rmQ_ok) rmK_ok rfT89 rfR90) rfT89
theorem rfR91 : Ev.comesTo (Ev.callOf Try.prog rmX (Ev.evM Try.prog rmX (Ev.listQ rmQ) rmK rfL90 500) 15 [(.pointer (some ⟨4, 0, none⟩)), (.string ⟨#[98, 52, 53]⟩), (.complex .f64 0 2)] rfH1028 1132) ((.int .i64 (.ofNat 0)), rfH1030, 1132) = true := by kernel_rfl
noncomputable def rfL91 : List Ev.Entry := rfE91 :: rfL90
theorem rfT91 : Ev.TabOk Try.prog (Ev.listQ rmQ) rfL91 := .cons (Ev.entry_ok (by kernel_rfl) rmX_ok (Ev.listQ_ok rmQ_ok) rmK_ok rfT90 rfR91) rfT90
theorem rfR92 : Ev.comesTo (Ev.callOf Try.prog rmX (Ev.evM Try.prog rmX (Ev.listQ rmQ) rmK rfL91 500) 17 [(.pointer (some ⟨4, 0, none⟩)), (.agg #[(.string ⟨#[108, 52, 53]⟩), (.int .i64 (.ofNat 1)), (.int .i64 (.ofNat 1)), (.int .i64 (.ofNat 1)), (.int .i64 (.ofNat 1)), (.int .i64 (.ofNat 0)), (.string ⟨#[]⟩), (.int .i64 (.ofNat 0))])] rfH1030 1132) ((.int .i64 (.ofNat 0)), rfH1045, 1157) = true := by kernel_rfl
noncomputable def rfL92 : List Ev.Entry := rfE92 :: rfL91
theorem rfT92 : Ev.TabOk Try.prog (Ev.listQ rmQ) rfL92 := .cons (Ev.entry_ok (by kernel_rfl) rmX_ok (Ev.listQ_ok rmQ_ok) rmK_ok rfT91 rfR92) rfT91
theorem rfR93 : Ev.comesTo (Ev.callOf Try.prog rmX (Ev.evM Try.prog rmX (Ev.listQ rmQ) rmK rfL92 500) 15 [(.pointer (some ⟨4, 0, none⟩)), (.string ⟨#[98, 52, 54]⟩), (.complex .f64 0 2)] rfH1045 1157) ((.int .i64 (.ofNat 0)), rfH1047, 1157) = true := by kernel_rfl
noncomputable def rfL93 : List Ev.Entry := rfE93 :: rfL92
theorem rfT93 : Ev.TabOk Try.prog (Ev.listQ rmQ) rfL93 := .cons (Ev.entry_ok (by kernel_rfl) rmX_ok (Ev.listQ_ok rmQ_ok) rmK_ok rfT92 rfR93) rfT92
theorem rfR94 : Ev.comesTo (Ev.callOf Try.prog rmX (Ev.evM Try.prog rmX (Ev.listQ rmQ) rmK rfL93 500) 17 [(.pointer (some ⟨4, 0, none⟩)), (.agg #[(.string ⟨#[108, 52, 54]⟩), (.int .i64 (.ofNat 1)), (.int .i64 (.ofNat 1)), (.int .i64 (.ofNat 1)), (.int .i64 (.ofNat 1)), (.int .i64 (.ofNat 0)), (.string ⟨#[]⟩), (.int .i64 (.ofNat 0))])] rfH1047 1157) ((.int .i64 (.ofNat 0)), rfH1063, 1182) = true := by kernel_rfl
noncomputable def rfL94 : List Ev.Entry := rfE94 :: rfL93
theorem rfT94 : Ev.TabOk Try.prog (Ev.listQ rmQ) rfL94 := .cons (Ev.entry_ok (by kernel_rfl) rmX_ok (Ev.listQ_ok rmQ_ok) rmK_ok rfT93 rfR94) rfT93
theorem rfR95 : Ev.comesTo (Ev.callOf Try.prog rmX (Ev.evM Try.prog rmX (Ev.listQ rmQ) rmK rfL94 500) 15 [(.pointer (some ⟨4, 0, none⟩)), (.string ⟨#[98, 52, 55]⟩), (.complex .f64 0 2)] rfH1063 1182) ((.int .i64 (.ofNat 0)), rfH1065, 1182) = true := by kernel_rfl
noncomputable def rfL95 : List Ev.Entry := rfE95 :: rfL94
theorem rfT95 : Ev.TabOk Try.prog (Ev.listQ rmQ) rfL95 := .cons (Ev.entry_ok (by kernel_rfl) rmX_ok (Ev.listQ_ok rmQ_ok) rmK_ok rfT94 rfR95) rfT94
end Go.Proofs.Ytaioaahacgfpcab
