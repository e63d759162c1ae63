/- A closed run, its pieces from 120 on. -/
import Derived.Test.YtaioaahacgfpcabRF10
namespace Go.Proofs.Ytaioaahacgfpcab
open Go.RowKit

theorem rfR120 : Ev.comesTo (Ev.callOf Try.prog rmX (Ev.evM Try.prog rmX (Ev.listQ rmQ) rmK rfL119 500) 17 [(.pointer (some ⟨4, 0, none⟩)), (.agg #[(.string ⟨#[108, 53, 57]⟩), (.int .i64 (.ofNat 1)), (.int .i64 (.ofNat 1)), (.int .i64 (.ofNat 1)), (.int .i64 (.ofNat 1)), (.int .i64 (.ofNat 0)), (.string ⟨#[]⟩), (.int .i64 (.ofNat 0))])] rfH1270 1482) ((.int .i64 (.ofNat 0)), rfH1282, 1507) = true := by kernel_rfl
noncomputable def rfL120 : List Ev.Entry := rfE120 :: rfL119
theorem rfT120 : Ev.TabOk Try.prog (Ev.listQ rmQ) rfL120 := .cons (Ev.entry_ok (by kernel_rfl) rmX_ok (Ev.listQ_ok rmQ_ok) rmK_ok rfT119 rfR120) rfT119
theorem rfR121 : Ev.comesTo (Ev.callOf Try.prog rmX (Ev.evM Try.prog rmX (Ev.listQ rmQ) rmK rfL120 500) 15 [(.pointer (some ⟨4, 0, none⟩)), (.string ⟨#[98, 54, 48]⟩), (.complex .f64 0 2)] rfH1282 1507) ((.int .i64 (.ofNat 0)), rfH1284, 1507) = true := by kernel_rfl
noncomputable def rfL121 : List Ev.Entry := rfE121 :: rfL120
theorem rfT121 : Ev.TabOk Try.prog (Ev.listQ rmQ) rfL121 := .cons (Ev.entry_ok (by kernel_rfl) rmX_ok (Ev.listQ_ok rmQ_ok) rmK_ok rfT120 rfR121) rfT120
theorem rfR122 : Ev.comesTo (Ev.callOf Try.prog rmX (Ev.evM Try.prog rmX (Ev.listQ rmQ) rmK rfL121 500) 17 [(.pointer (some ⟨4, 0, none⟩)), (.agg #[(.string ⟨#[108, 54, 48]⟩), (.int .i64 (.ofNat 1)), (.int .i64 (.ofNat 1)), (.int .i64 (.ofNat 1)), (.int .i64 (.ofNat 1)), (.int .i64 (.ofNat 0)), (.string ⟨#[]⟩), (.int .i64 (.ofNat 0))])] rfH1284 1507) ((.int .i64 (.ofNat 0)), rfH1295, 1532) = true := by kernel_rfl
noncomputable def rfL122 : List Ev.Entry := rfE122 :: rfL121
theorem rfT122 : Ev.TabOk Try.prog (Ev.listQ rmQ) rfL122 := .cons (Ev.entry_ok (by kernel_rfl) rmX_ok (Ev.listQ_ok rmQ_ok) rmK_ok rfT121 rfR122) rfT121
theorem rfR123 : Ev.comesTo (Ev.callOf Try.prog rmX (Ev.evM Try.prog rmX (Ev.listQ rmQ) rmK rfL122 500) 15 [(.pointer (some ⟨4, 0, none⟩)), (.string ⟨#[98, 54, 49]⟩), (.complex .f64 0 2)] rfH1295 1532) ((.int .i64 (.ofNat 0)), rfH1297, 1532) = true := by kernel_rfl
noncomputable def rfL123 : List Ev.Entry := rfE123 :: rfL122
theorem rfT123 : Ev.TabOk Try.prog (Ev.listQ rmQ) rfL123 := .cons (Ev.entry_ok (by kernel_rfl) rmX_ok (Ev.listQ_ok rmQ_ok) rmK_ok rfT122 rfR123) rfT122
theorem rfR124 : Ev.comesTo (Ev.callOf Try.prog rmX (Ev.evM Try.prog rmX (Ev.listQ rmQ) rmK rfL123 500) 17 [(.pointer (some ⟨4, 0, none⟩)), (.agg #[(.string ⟨#[108, 54, 49]⟩), (.int .i64 (.ofNat 1)), (.int .i64 (.ofNat 1)), (.int .i64 (.ofNat 1)), (.int .i64 (.ofNat 1)), (.int .i64 (.ofNat 0)), (.string ⟨#[]⟩), (.int .i64 (.ofNat 0))])] rfH1297 1532) ((.int .i64 (.ofNat 0)), rfH1307, 1557) = true := by kernel_rfl
noncomputable def rfL124 : List Ev.Entry := rfE124 :: rfL123
theorem rfT124 : Ev.TabOk Try.prog (Ev.listQ rmQ) rfL124 := .cons (Ev.entry_ok (by kernel_rfl) rmX_ok (Ev.listQ_ok rmQ_ok) rmK_ok rfT123 rfR124) rfT123
theorem rfR125 : Ev.comesTo (Ev.callOf Try.prog rmX (Ev.evM Try.prog rmX (Ev.listQ rmQ) rmK rfL124 500) 15 [(.pointer (some ⟨4, 0, none⟩)), (.string ⟨#[98, 54, 50]⟩), (.complex .f64 0 2)] rfH1307 1557) ((.int .i64 (.ofNat 0)), rfH1309, 1557) = true := by kernel_rfl
noncomputable def rfL125 : List Ev.Entry := rfE125 :: rfL124
theorem rfT125 : Ev.TabOk Try.prog (Ev.listQ rmQ) rfL125 := .cons (Ev.entry_ok (by kernel_rfl) rmX_ok (Ev.listQ_ok rmQ_ok) rmK_ok rfT124 rfR125) rfT124
theorem rfR126 : Ev.comesTo (Ev.callOf Try.prog rmX (Ev.evM Try.prog rmX (Ev.listQ rmQ) rmK rfL125 500) 17 [(.pointer (some ⟨4, 0, none⟩)), (.agg #[(.string ⟨#[108, 54, 50]⟩), (.int .i64 (.ofNat 1)), (.int .i64 (.ofNat 1)), (.int .i64 (.ofNat 1)), (.int .i64 (.ofNat 1)), (.int .i64 (.ofNat 0)), (.string ⟨#[]⟩), (.int .i64 (.ofNat 0))])] rfH1309 1557) ((.int .i64 (.ofNat 0)), rfH1318, 1582) = true := by kernel_rfl
noncomputable def rfL126 : List Ev.Entry := rfE126 :: rfL125
theorem rfT126 : Ev.TabOk Try.prog (Ev.listQ rmQ) rfL126 := .cons (Ev.entry_ok (by kernel_rfl) rmX_ok (Ev.listQ_ok rmQ_ok) rmK_ok rfT125 rfR126) rfT125
theorem rfR127 : Ev.comesTo (Ev.callOf Try.prog rmX (Ev.evM Try.prog rmX (Ev.listQ rmQ) rmK rfL126 500) 15 [(.pointer (some ⟨4, 0, none⟩)), (.string ⟨#[98, 54, 51]⟩), (.complex .f64 0 2)] rfH1318 1582) ((.int .i64 (.ofNat 0)), rfH1320, 1582) = true := by kernel_rfl
noncomputable def rfL127 : List Ev.Entry := rfE127 :: rfL126
theorem rfT127 : Ev.TabOk Try.prog (Ev.listQ rmQ) rfL127 := .cons (Ev.entry_ok (by kernel_rfl) rmX_ok (Ev.listQ_ok rmQ_ok) rmK_ok rfT126 rfR127) rfT126
theorem rfR128 : Ev.comesTo (Ev.callOf Try.prog rmX (Ev.evM Try.prog rmX (Ev.listQ rmQ) rmK rfL127 500) 17 [(.pointer (some ⟨4, 0, none⟩)), (.agg #[(.string ⟨#[108, 54, 51]⟩), (.int .i64 (.ofNat 1)), (.int .i64 (.ofNat 1)), (.int .i64 (.ofNat 1)), (.int .i64 (.ofNat 1)), (.int .i64 (.ofNat 0)), (.string ⟨#[]⟩), (.int .i64 (.ofNat 0))])] rfH1320 1582) ((.int .i64 (.ofNat 0)), rfH1326, 1607) = true := by kernel_rfl
noncomputable def rfL128 : List Ev.Entry := rfE128 :: rfL127
theorem rfT128 : Ev.TabOk Try.prog (Ev.listQ rmQ) rfL128 := .cons (Ev.entry_ok (by kernel_rfl) rmX_ok (Ev.listQ_ok rmQ_ok) rmK_ok rfT127 rfR128) rfT127
theorem rfR129 : Ev.comesTo (Ev.callOf Try.prog rmX (Ev.evM Try.prog rmX (Ev.listQ rmQ) rmK rfL128 500) 18 [(.pointer (some ⟨4, 0, none⟩)), (.int .i64 (.ofNat 1))] rfH1326 1607) ((.tuple #[(.slice (some ⟨2117, 0, none⟩) 64 16), (.int .i64 (.ofNat 0))]), rfH1329, 2119) = true := by kernel_rfl
noncomputable def rfL129 : List Ev.Entry := rfE129 :: rfL128
theorem rfT129 : Ev.TabOk Try.prog (Ev.listQ rmQ) rfL129 := .cons (Ev.entry_ok (by kernel_rfl) rmX_ok (Ev.listQ_ok rmQ_ok) rmK_ok rfT128 rfR129) rfT128
theorem rfR130 : Ev.comesTo (Ev.callOf Try.prog rmX (Ev.evM Try.prog rmX (Ev.listQ rmQ) rmK rfL129 500) 15 [(.pointer (some ⟨4, 0, none⟩)), (.string ⟨#[109, 111, 114, 101]⟩), (.int .i64 (.ofNat 1))] rfH1329 2119) ((.int .i64 (.ofNat 9)), rfH1329, 2119) = true := by kernel_rfl
noncomputable def rfL130 : List Ev.Entry := rfE130 :: rfL129
theorem rfT130 : Ev.TabOk Try.prog (Ev.listQ rmQ) rfL130 := .cons (Ev.entry_ok (by kernel_rfl) rmX_ok (Ev.listQ_ok rmQ_ok) rmK_ok rfT129 rfR130) rfT129
theorem rfR131 : Ev.comesTo (Ev.callOf Try.prog rmX (Ev.evM Try.prog rmX (Ev.listQ rmQ) rmK rfL130 500) 15 [(.pointer (some ⟨4, 0, none⟩)), (.string ⟨#[98, 48, 55]⟩), (.int .i64 (.ofNat 1))] rfH1329 2119) ((.int .i64 (.ofNat 8)), rfH1329, 2119) = true := by kernel_rfl
noncomputable def rfL131 : List Ev.Entry := rfE131 :: rfL130
theorem rfT131 : Ev.TabOk Try.prog (Ev.listQ rmQ) rfL131 := .cons (Ev.entry_ok (by kernel_rfl) rmX_ok (Ev.listQ_ok rmQ_ok) rmK_ok rfT130 rfR131) rfT130
end Go.Proofs.Ytaioaahacgfpcab
