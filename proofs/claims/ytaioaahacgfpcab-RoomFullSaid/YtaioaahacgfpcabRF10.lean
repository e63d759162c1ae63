/- A closed run, its pieces from 108 on. -/
import Derived.Test.YtaioaahacgfpcabRF9
namespace Go.Proofs.Ytaioaahacgfpcab
open Go.RowKit

theorem rfR108 : Ev.comesTo (Ev.callOf Try.prog rmX (Ev.evM Try.prog rmX (Ev.listQ rmQ) rmK rfL107 500) 17 [(.pointer (some ⟨4, 0, none⟩)), (.agg #[(.string ⟨#[108, 53, 51]⟩), (.int .i64 (.ofNat 1)), (.int .i64 (.ofNat 1)), (.int .i64 (.ofNat 1)), (.int .i64 (.ofNat 1)), (.int .i64 (.ofNat 0)), (.string ⟨#[]⟩), (.int .i64 (.ofNat 0))])] rfH1173 1332) ((.int .i64 (.ofNat 0)), rfH1188, 1357) = true := by kernel_rfl
noncomputable def rfL108 : List Ev.Entry := rfE108 :: rfL107
theorem rfT108 : Ev.TabOk Try.prog (Ev.listQ rmQ) rfL108 := .cons (Ev.entry_ok (by kernel_rfl) rmX_ok (Ev.listQ_ok rmQ_ok) rmK_ok rfT107 rfR108) rfT107
theorem rfR109 : Ev.comesTo (Ev.callOf Try.prog rmX (Ev.evM Try.prog rmX (Ev.listQ rmQ) rmK rfL108 500) 15 [(.pointer (some ⟨4, 0, none⟩)), (.string ⟨#[98, 53, 52]⟩), (.complex .f64 0 2)] rfH1188 1357) ((.int .i64 (.ofNat 0)), rfH1190, 1357) = true := by kernel_rfl
noncomputable def rfL109 : List Ev.Entry := rfE109 :: rfL108
theorem rfT109 : Ev.TabOk Try.prog (Ev.listQ rmQ) rfL109 := .cons (Ev.entry_ok (by kernel_rfl) rmX_ok (Ev.listQ_ok rmQ_ok) rmK_ok rfT108 rfR109) rfT108
theorem rfR110 : Ev.comesTo (Ev.callOf Try.prog rmX (Ev.evM Try.prog rmX (Ev.listQ rmQ) rmK rfL109 500) 17 [(.pointer (some ⟨4, 0, none⟩)), (.agg #[(.string ⟨#[108, 53, 52]⟩), (.int .i64 (.ofNat 1)), (.int .i64 (.ofNat 1)), (.int .i64 (.ofNat 1)), (.int .i64 (.ofNat 1)), (.int .i64 (.ofNat 0)), (.string ⟨#[]⟩), (.int .i64 (.ofNat 0))])] rfH1190 1357) ((.int .i64 (.ofNat 0)), rfH1203, 1382) = true := by kernel_rfl
noncomputable def rfL110 : List Ev.Entry := rfE110 :: rfL109
theorem rfT110 : Ev.TabOk Try.prog (Ev.listQ rmQ) rfL110 := .cons (Ev.entry_ok (by kernel_rfl) rmX_ok (Ev.listQ_ok rmQ_ok) rmK_ok rfT109 rfR110) rfT109
theorem rfR111 : Ev.comesTo (Ev.callOf Try.prog rmX (Ev.evM Try.prog rmX (Ev.listQ rmQ) rmK rfL110 500) 15 [(.pointer (some ⟨4, 0, none⟩)), (.string ⟨#[98, 53, 53]⟩), (.complex .f64 0 2)] rfH1203 1382) ((.int .i64 (.ofNat 0)), rfH1205, 1382) = true := by kernel_rfl
noncomputable def rfL111 : List Ev.Entry := rfE111 :: rfL110
theorem rfT111 : Ev.TabOk Try.prog (Ev.listQ rmQ) rfL111 := .cons (Ev.entry_ok (by kernel_rfl) rmX_ok (Ev.listQ_ok rmQ_ok) rmK_ok rfT110 rfR111) rfT110
theorem rfR112 : Ev.comesTo (Ev.callOf Try.prog rmX (Ev.evM Try.prog rmX (Ev.listQ rmQ) rmK rfL111 500) 17 [(.pointer (some ⟨4, 0, none⟩)), (.agg #[(.string ⟨#[108, 53, 53]⟩), (.int .i64 (.ofNat 1)), (.int .i64 (.ofNat 1)), (.int .i64 (.ofNat 1)), (.int .i64 (.ofNat 1)), (.int .i64 (.ofNat 0)), (.string ⟨#[]⟩), (.int .i64 (.ofNat 0))])] rfH1205 1382) ((.int .i64 (.ofNat 0)), rfH1219, 1407) = true := by kernel_rfl
noncomputable def rfL112 : List Ev.Entry := rfE112 :: rfL111
theorem rfT112 : Ev.TabOk Try.prog (Ev.listQ rmQ) rfL112 := .cons (Ev.entry_ok (by kernel_rfl) rmX_ok (Ev.listQ_ok rmQ_ok) rmK_ok rfT111 rfR112) rfT111
theorem rfR113 : Ev.comesTo (Ev.callOf Try.prog rmX (Ev.evM Try.prog rmX (Ev.listQ rmQ) rmK rfL112 500) 15 [(.pointer (some ⟨4, 0, none⟩)), (.string ⟨#[98, 53, 54]⟩), (.complex .f64 0 2)] rfH1219 1407) ((.int .i64 (.ofNat 0)), rfH1221, 1407) = true := by kernel_rfl
noncomputable def rfL113 : List Ev.Entry := rfE113 :: rfL112
theorem rfT113 : Ev.TabOk Try.prog (Ev.listQ rmQ) rfL113 := .cons (Ev.entry_ok (by kernel_rfl) rmX_ok (Ev.listQ_ok rmQ_ok) rmK_ok rfT112 rfR113) rfT112
theorem rfR114 : Ev.comesTo (Ev.callOf Try.prog rmX (Ev.evM Try.prog rmX (Ev.listQ rmQ) rmK rfL113 500) 17 [(.pointer (some ⟨4, 0, none⟩)), (.agg #[(.string ⟨#[108, 53, 54]⟩), (.int .i64 (.ofNat 1)), (.int .i64 (.ofNat 1)), (.int .i64 (.ofNat 1)), (.int .i64 (.ofNat 1)), (.int .i64 (.ofNat 0)), (.string ⟨#[]⟩), (.int .i64 (.ofNat 0))])] rfH1221 1407) ((.int .i64 (.ofNat 0)), rfH1237, 1432) = true := by kernel_rfl
noncomputable def rfL114 : List Ev.Entry := rfE114 :: rfL113
theorem rfT114 : Ev.TabOk Try.prog (Ev.listQ rmQ) rfL114 := .cons (Ev.entry_ok (by kernel_rfl) rmX_ok (Ev.listQ_ok rmQ_ok) rmK_ok rfT113 rfR114) rfT113
theorem rfR115 : Ev.comesTo (Ev.callOf Try.prog rmX (Ev.evM Try.prog rmX (Ev.listQ rmQ) rmK rfL114 500) 15 [(.pointer (some ⟨4, 0, none⟩)), (.string ⟨#[98, 53, 55]⟩), (.complex .f64 0 2)] rfH1237 1432) ((.int .i64 (.ofNat 0)), rfH1239, 1432) = true := by kernel_rfl
noncomputable def rfL115 : List Ev.Entry := rfE115 :: rfL114
theorem rfT115 : Ev.TabOk Try.prog (Ev.listQ rmQ) rfL115 := .cons (Ev.entry_ok (by kernel_rfl) rmX_ok (Ev.listQ_ok rmQ_ok) rmK_ok rfT114 rfR115) rfT114
theorem rfR116 : Ev.comesTo (Ev.callOf Try.prog rmX (Ev.evM Try.prog rmX (Ev.listQ rmQ) rmK rfL115 500) 17 [(.pointer (some ⟨4, 0, none⟩)), (.agg #[(.string ⟨#[108, 53, 55]⟩), (.int .i64 (.ofNat 1)), (.int .i64 (.ofNat 1)), (.int .i64 (.ofNat 1)), (.int .i64 (.ofNat 1)), (.int .i64 (.ofNat 0)), (.string ⟨#[]⟩), (.int .i64 (.ofNat 0))])] rfH1239 1432) ((.int .i64 (.ofNat 0)), rfH1253, 1457) = true := by kernel_rfl
noncomputable def rfL116 : List Ev.Entry := rfE116 :: rfL115
theorem rfT116 : Ev.TabOk Try.prog (Ev.listQ rmQ) rfL116 := .cons (Ev.entry_ok (by kernel_rfl) rmX_ok (Ev.listQ_ok rmQ_ok) rmK_ok rfT115 rfR116) rfT115
theorem rfR117 : Ev.comesTo (Ev.callOf Try.prog rmX (Ev.evM Try.prog rmX (Ev.listQ rmQ) rmK rfL116 500) 15 [(.pointer (some ⟨4, 0, none⟩)), (.string ⟨#[98, 53, 56]⟩), (.complex .f64 0 2)] rfH1253 1457) ((.int .i64 (.ofNat 0)), rfH1255, 1457) = true := by kernel_rfl
noncomputable def rfL117 : List Ev.Entry := rfE117 :: rfL116
theorem rfT117 : Ev.TabOk Try.prog (Ev.listQ rmQ) rfL117 := .cons (Ev.entry_ok (by kernel_rfl) rmX_ok (Ev.listQ_ok rmQ_ok) rmK_ok rfT116 rfR117) rfT116
theorem rfR118 : Ev.comesTo (Ev.callOf Try.prog rmX (Ev.evM Try.prog rmX (Ev.listQ rmQ) rmK rfL117 500) 17 [(.pointer (some ⟨4, 0, none⟩)), (.agg #[(.string ⟨#[108, 53, 56]⟩), (.int .i64 (.ofNat 1)), (.int .i64 (.ofNat 1)), (.int .i64 (.ofNat 1)), (.int .i64 (.ofNat 1)), (.int .i64 (.ofNat 0)), (.string ⟨#[]⟩), (.int .i64 (.ofNat 0))])] rfH1255 1457) ((.int .i64 (.ofNat 0)), rfH1268, 1482) = true := by kernel_rfl
noncomputable def rfL118 : List Ev.Entry := rfE118 :: rfL117
theorem rfT118 : Ev.TabOk Try.prog (Ev.listQ rmQ) rfL118 := .cons (Ev.entry_ok (by kernel_rfl) rmX_ok (Ev.listQ_ok rmQ_ok) rmK_ok rfT117 rfR118) rfT117
theorem rfR119 : Ev.comesTo (Ev.callOf Try.prog rmX (Ev.evM Try.prog rmX (Ev.listQ rmQ) rmK rfL118 500) 15 [(.pointer (some ⟨4, 0, none⟩)), (.string ⟨#[98, 53, 57]⟩), (.complex .f64 0 2)] rfH1268 1482) ((.int .i64 (.ofNat 0)), rfH1270, 1482) = true := by kernel_rfl
noncomputable def rfL119 : List Ev.Entry := rfE119 :: rfL118
theorem rfT119 : Ev.TabOk Try.prog (Ev.listQ rmQ) rfL119 := .cons (Ev.entry_ok (by kernel_rfl) rmX_ok (Ev.listQ_ok rmQ_ok) rmK_ok rfT118 rfR119) rfT118
end Go.Proofs.Ytaioaahacgfpcab
