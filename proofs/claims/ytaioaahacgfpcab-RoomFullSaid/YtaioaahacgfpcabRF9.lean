/- A closed run, its pieces from 96 on. -/
import Derived.Test.YtaioaahacgfpcabRF8
namespace Go.Proofs.Ytaioaahacgfpcab
open Go.RowKit

theorem rfR96 : Ev.comesTo (Ev.callOf Try.prog rmX (Ev.evM Try.prog rmX (Ev.listQ rmQ) rmK rfL95 500) 17 [(.pointer (some ⟨4, 0, none⟩)), (.agg #[(.string ⟨#[108, 52, 55]⟩), (.int .i64 (.ofNat 1)), (.int .i64 (.ofNat 1)), (.int .i64 (.ofNat 1)), (.int .i64 (.ofNat 1)), (.int .i64 (.ofNat 0)), (.string ⟨#[]⟩), (.int .i64 (.ofNat 0))])] rfH1065 1182) ((.int .i64 (.ofNat 0)), rfH1081, 1207) = true := by kernel_rfl
noncomputable def rfL96 : List Ev.Entry := rfE96 :: rfL95
theorem rfT96 : Ev.TabOk Try.prog (Ev.listQ rmQ) rfL96 := .cons (Ev.entry_ok (by kernel_rfl) rmX_ok (Ev.listQ_ok rmQ_ok) rmK_ok rfT95 rfR96) rfT95
theorem rfR97 : Ev.comesTo (Ev.callOf Try.prog rmX (Ev.evM Try.prog rmX (Ev.listQ rmQ) rmK rfL96 500) 15 [(.pointer (some ⟨4, 0, none⟩)), (.string ⟨#[98, 52, 56]⟩), (.complex .f64 0 2)] rfH1081 1207) ((.int .i64 (.ofNat 0)), rfH1083, 1207) = true := by kernel_rfl
noncomputable def rfL97 : List Ev.Entry := rfE97 :: rfL96
theorem rfT97 : Ev.TabOk Try.prog (Ev.listQ rmQ) rfL97 := .cons (Ev.entry_ok (by kernel_rfl) rmX_ok (Ev.listQ_ok rmQ_ok) rmK_ok rfT96 rfR97) rfT96
theorem rfR98 : Ev.comesTo (Ev.callOf Try.prog rmX (Ev.evM Try.prog rmX (Ev.listQ rmQ) rmK rfL97 500) 17 [(.pointer (some ⟨4, 0, none⟩)), (.agg #[(.string ⟨#[108, 52, 56]⟩), (.int .i64 (.ofNat 1)), (.int .i64 (.ofNat 1)), (.int .i64 (.ofNat 1)), (.int .i64 (.ofNat 1)), (.int .i64 (.ofNat 0)), (.string ⟨#[]⟩), (.int .i64 (.ofNat 0))])] rfH1083 1207) ((.int .i64 (.ofNat 0)), rfH1102, 1232) = true := by kernel_rfl
noncomputable def rfL98 : List Ev.Entry := rfE98 :: rfL97
theorem rfT98 : Ev.TabOk Try.prog (Ev.listQ rmQ) rfL98 := .cons (Ev.entry_ok (by kernel_rfl) rmX_ok (Ev.listQ_ok rmQ_ok) rmK_ok rfT97 rfR98) rfT97
theorem rfR99 : Ev.comesTo (Ev.callOf Try.prog rmX (Ev.evM Try.prog rmX (Ev.listQ rmQ) rmK rfL98 500) 15 [(.pointer (some ⟨4, 0, none⟩)), (.string ⟨#[98, 52, 57]⟩), (.complex .f64 0 2)] rfH1102 1232) ((.int .i64 (.ofNat 0)), rfH1104, 1232) = true := by kernel_rfl
noncomputable def rfL99 : List Ev.Entry := rfE99 :: rfL98
theorem rfT99 : Ev.TabOk Try.prog (Ev.listQ rmQ) rfL99 := .cons (Ev.entry_ok (by kernel_rfl) rmX_ok (Ev.listQ_ok rmQ_ok) rmK_ok rfT98 rfR99) rfT98
theorem rfR100 : Ev.comesTo (Ev.callOf Try.prog rmX (Ev.evM Try.prog rmX (Ev.listQ rmQ) rmK rfL99 500) 17 [(.pointer (some ⟨4, 0, none⟩)), (.agg #[(.string ⟨#[108, 52, 57]⟩), (.int .i64 (.ofNat 1)), (.int .i64 (.ofNat 1)), (.int .i64 (.ofNat 1)), (.int .i64 (.ofNat 1)), (.int .i64 (.ofNat 0)), (.string ⟨#[]⟩), (.int .i64 (.ofNat 0))])] rfH1104 1232) ((.int .i64 (.ofNat 0)), rfH1122, 1257) = true := by kernel_rfl
noncomputable def rfL100 : List Ev.Entry := rfE100 :: rfL99
theorem rfT100 : Ev.TabOk Try.prog (Ev.listQ rmQ) rfL100 := .cons (Ev.entry_ok (by kernel_rfl) rmX_ok (Ev.listQ_ok rmQ_ok) rmK_ok rfT99 rfR100) rfT99
theorem rfR101 : Ev.comesTo (Ev.callOf Try.prog rmX (Ev.evM Try.prog rmX (Ev.listQ rmQ) rmK rfL100 500) 15 [(.pointer (some ⟨4, 0, none⟩)), (.string ⟨#[98, 53, 48]⟩), (.complex .f64 0 2)] rfH1122 1257) ((.int .i64 (.ofNat 0)), rfH1124, 1257) = true := by kernel_rfl
noncomputable def rfL101 : List Ev.Entry := rfE101 :: rfL100
theorem rfT101 : Ev.TabOk Try.prog (Ev.listQ rmQ) rfL101 := .cons (Ev.entry_ok (by kernel_rfl) rmX_ok (Ev.listQ_ok rmQ_ok) rmK_ok rfT100 rfR101) rfT100
theorem rfR102 : Ev.comesTo (Ev.callOf Try.prog rmX (Ev.evM Try.prog rmX (Ev.listQ rmQ) rmK rfL101 500) 17 [(.pointer (some ⟨4, 0, none⟩)), (.agg #[(.string ⟨#[108, 53, 48]⟩), (.int .i64 (.ofNat 1)), (.int .i64 (.ofNat 1)), (.int .i64 (.ofNat 1)), (.int .i64 (.ofNat 1)), (.int .i64 (.ofNat 0)), (.string ⟨#[]⟩), (.int .i64 (.ofNat 0))])] rfH1124 1257) ((.int .i64 (.ofNat 0)), rfH1140, 1282) = true := by kernel_rfl
noncomputable def rfL102 : List Ev.Entry := rfE102 :: rfL101
theorem rfT102 : Ev.TabOk Try.prog (Ev.listQ rmQ) rfL102 := .cons (Ev.entry_ok (by kernel_rfl) rmX_ok (Ev.listQ_ok rmQ_ok) rmK_ok rfT101 rfR102) rfT101
theorem rfR103 : Ev.comesTo (Ev.callOf Try.prog rmX (Ev.evM Try.prog rmX (Ev.listQ rmQ) rmK rfL102 500) 15 [(.pointer (some ⟨4, 0, none⟩)), (.string ⟨#[98, 53, 49]⟩), (.complex .f64 0 2)] rfH1140 1282) ((.int .i64 (.ofNat 0)), rfH1142, 1282) = true := by kernel_rfl
noncomputable def rfL103 : List Ev.Entry := rfE103 :: rfL102
theorem rfT103 : Ev.TabOk Try.prog (Ev.listQ rmQ) rfL103 := .cons (Ev.entry_ok (by kernel_rfl) rmX_ok (Ev.listQ_ok rmQ_ok) rmK_ok rfT102 rfR103) rfT102
theorem rfR104 : Ev.comesTo (Ev.callOf Try.prog rmX (Ev.evM Try.prog rmX (Ev.listQ rmQ) rmK rfL103 500) 17 [(.pointer (some ⟨4, 0, none⟩)), (.agg #[(.string ⟨#[108, 53, 49]⟩), (.int .i64 (.ofNat 1)), (.int .i64 (.ofNat 1)), (.int .i64 (.ofNat 1)), (.int .i64 (.ofNat 1)), (.int .i64 (.ofNat 0)), (.string ⟨#[]⟩), (.int .i64 (.ofNat 0))])] rfH1142 1282) ((.int .i64 (.ofNat 0)), rfH1155, 1307) = true := by kernel_rfl
noncomputable def rfL104 : List Ev.Entry := rfE104 :: rfL103
theorem rfT104 : Ev.TabOk Try.prog (Ev.listQ rmQ) rfL104 := .cons (Ev.entry_ok (by kernel_rfl) rmX_ok (Ev.listQ_ok rmQ_ok) rmK_ok rfT103 rfR104) rfT103
theorem rfR105 : Ev.comesTo (Ev.callOf Try.prog rmX (Ev.evM Try.prog rmX (Ev.listQ rmQ) rmK rfL104 500) 15 [(.pointer (some ⟨4, 0, none⟩)), (.string ⟨#[98, 53, 50]⟩), (.complex .f64 0 2)] rfH1155 1307) ((.int .i64 (.ofNat 0)), rfH1157, 1307) = true := by kernel_rfl
noncomputable def rfL105 : List Ev.Entry := rfE105 :: rfL104
theorem rfT105 : Ev.TabOk Try.prog (Ev.listQ rmQ) rfL105 := .cons (Ev.entry_ok (by kernel_rfl) rmX_ok (Ev.listQ_ok rmQ_ok) rmK_ok rfT104 rfR105) rfT104
theorem rfR106 : Ev.comesTo (Ev.callOf Try.prog rmX (Ev.evM Try.prog rmX (Ev.listQ rmQ) rmK rfL105 500) 17 [(.pointer (some ⟨4, 0, none⟩)), (.agg #[(.string ⟨#[108, 53, 50]⟩), (.int .i64 (.ofNat 1)), (.int .i64 (.ofNat 1)), (.int .i64 (.ofNat 1)), (.int .i64 (.ofNat 1)), (.int .i64 (.ofNat 0)), (.string ⟨#[]⟩), (.int .i64 (.ofNat 0))])] rfH1157 1307) ((.int .i64 (.ofNat 0)), rfH1171, 1332) = true := by kernel_rfl
noncomputable def rfL106 : List Ev.Entry := rfE106 :: rfL105
theorem rfT106 : Ev.TabOk Try.prog (Ev.listQ rmQ) rfL106 := .cons (Ev.entry_ok (by kernel_rfl) rmX_ok (Ev.listQ_ok rmQ_ok) rmK_ok rfT105 rfR106) rfT105
theorem rfR107 : Ev.comesTo (Ev.callOf Try.prog rmX (Ev.evM Try.prog rmX (Ev.listQ rmQ) rmK rfL106 500) 15 [(.pointer (some ⟨4, 0, none⟩)), (.string ⟨#[98, 53, 51]⟩), (.complex .f64 0 2)] rfH1171 1332) ((.int .i64 (.ofNat 0)), rfH1173, 1332) = true := by kernel_rfl
noncomputable def rfL107 : List Ev.Entry := rfE107 :: rfL106
theorem rfT107 : Ev.TabOk Try.prog (Ev.listQ rmQ) rfL107 := .cons (Ev.entry_ok (by kernel_rfl) rmX_ok (Ev.listQ_ok rmQ_ok) rmK_ok rfT106 rfR107) rfT106
end Go.Proofs.Ytaioaahacgfpcab
