/- A closed run, its pieces from 72 on. -/
import Derived.Test.YtaioaahacgfpcabRF6
namespace Go.Proofs.Ytaioaahacgfpcab
open Go.RowKit

theorem rfR72 : Ev.comesTo (Ev.callOf Try.prog rmX (Ev.evM Try.prog rmX (Ev.listQ rmQ) rmK rfL71 500) 17 [(.pointer (some ⟨4, 0, none⟩)), (.agg #[(.string ⟨#[108, 51, 53]⟩), (.int .i64 (.ofNat 1)), (.int .i64 (.ofNat 1)), (.int .i64 (.ofNat 1)), (.int .i64 (.ofNat 1)), (.int .i64 (.ofNat 0)), (.string ⟨#[]⟩), (.int .i64 (.ofNat 0))])] rfH831 882) ((.int .i64 (.ofNat 0)), rfH849, 907) = true := by kernel_rfl
noncomputable def rfL72 : List Ev.Entry := rfE72 :: rfL71
theorem rfT72 : Ev.TabOk Try.prog (Ev.listQ rmQ) rfL72 := .cons (Ev.entry_ok (by kernel_rfl) rmX_ok (Ev.listQ_ok rmQ_ok) rmK_ok rfT71 rfR72) rfT71
theorem rfR73 : Ev.comesTo (Ev.callOf Try.prog rmX (Ev.evM Try.prog rmX (Ev.listQ rmQ) rmK rfL72 500) 15 [(.pointer (some ⟨4, 0, none⟩)), (.string ⟨#[98, 51, 54]⟩), (.complex .f64 0 2)] rfH849 907) ((.int .i64 (.ofNat 0)), rfH851, 907) = true := by kernel_rfl
noncomputable def rfL73 : List Ev.Entry := rfE73 :: rfL72
theorem rfT73 : Ev.TabOk Try.prog (Ev.listQ rmQ) rfL73 := .cons (Ev.entry_ok (by kernel_rfl) rmX_ok (Ev.listQ_ok rmQ_ok) rmK_ok rfT72 rfR73) rfT72
theorem rfR74 : Ev.comesTo (Ev.callOf Try.prog rmX (Ev.evM Try.prog rmX (Ev.listQ rmQ) rmK rfL73 500) 17 [(.pointer (some ⟨4, 0, none⟩)), (.agg #[(.string ⟨#[108, 51, 54]⟩), (.int .i64 (.ofNat 1)), (.int .i64 (.ofNat 1)), (.int .i64 (.ofNat 1)), (.int .i64 (.ofNat 1)), (.int .i64 (.ofNat 0)), (.string ⟨#[]⟩), (.int .i64 (.ofNat 0))])] rfH851 907) ((.int .i64 (.ofNat 0)), rfH868, 932) = true := by kernel_rfl
noncomputable def rfL74 : List Ev.Entry := rfE74 :: rfL73
theorem rfT74 : Ev.TabOk Try.prog (Ev.listQ rmQ) rfL74 := .cons (Ev.entry_ok (by kernel_rfl) rmX_ok (Ev.listQ_ok rmQ_ok) rmK_ok rfT73 rfR74) rfT73
theorem rfR75 : Ev.comesTo (Ev.callOf Try.prog rmX (Ev.evM Try.prog rmX (Ev.listQ rmQ) rmK rfL74 500) 15 [(.pointer (some ⟨4, 0, none⟩)), (.string ⟨#[98, 51, 55]⟩), (.complex .f64 0 2)] rfH868 932) ((.int .i64 (.ofNat 0)), rfH870, 932) = true := by kernel_rfl
noncomputable def rfL75 : List Ev.Entry := rfE75 :: rfL74
theorem rfT75 : Ev.TabOk Try.prog (Ev.listQ rmQ) rfL75 := .cons (Ev.entry_ok (by kernel_rfl) rmX_ok (Ev.listQ_ok rmQ_ok) rmK_ok rfT74 rfR75) rfT74
theorem rfR76 : Ev.comesTo (Ev.callOf Try.prog rmX (Ev.evM Try.prog rmX (Ev.listQ rmQ) rmK rfL75 500) 17 [(.pointer (some ⟨4, 0, none⟩)), (.agg #[(.string ⟨#[108, 51, 55]⟩), (.int .i64 (.ofNat 1)), (.int .i64 (.ofNat 1)), (.int .i64 (.ofNat 1)), (.int .i64 (.ofNat 1)), (.int .i64 (.ofNat 0)), (.string ⟨#[]⟩), (.int .i64 (.ofNat 0))])] rfH870 932) ((.int .i64 (.ofNat 0)), rfH889, 957) = true := by kernel_rfl
noncomputable def rfL76 : List Ev.Entry := rfE76 :: rfL75
theorem rfT76 : Ev.TabOk Try.prog (Ev.listQ rmQ) rfL76 := .cons (Ev.entry_ok (by kernel_rfl) rmX_ok (Ev.listQ_ok rmQ_ok) rmK_ok rfT75 rfR76) rfT75
theorem rfR77 : Ev.comesTo (Ev.callOf Try.prog rmX (Ev.evM Try.prog rmX (Ev.listQ rmQ) rmK rfL76 500) 15 [(.pointer (some ⟨4, 0, none⟩)), (.string ⟨#[98, 51, 56]⟩), (.complex .f64 0 2)] rfH889 957) ((.int .i64 (.ofNat 0)), rfH891, 957) = true := by kernel_rfl
noncomputable def rfL77 : List Ev.Entry := rfE77 :: rfL76
theorem rfT77 : Ev.TabOk Try.prog (Ev.listQ rmQ) rfL77 := .cons (Ev.entry_ok (by kernel_rfl) rmX_ok (Ev.listQ_ok rmQ_ok) rmK_ok rfT76 rfR77) rfT76
theorem rfR78 : Ev.comesTo (Ev.callOf Try.prog rmX (Ev.evM Try.prog rmX (Ev.listQ rmQ) rmK rfL77 500) 17 [(.pointer (some ⟨4, 0, none⟩)), (.agg #[(.string ⟨#[108, 51, 56]⟩), (.int .i64 (.ofNat 1)), (.int .i64 (.ofNat 1)), (.int .i64 (.ofNat 1)), (.int .i64 (.ofNat 1)), (.int .i64 (.ofNat 0)), (.string ⟨#[]⟩), (.int .i64 (.ofNat 0))])] rfH891 957) ((.int .i64 (.ofNat 0)), rfH909, 982) = true := by kernel_rfl
noncomputable def rfL78 : List Ev.Entry := rfE78 :: rfL77
theorem rfT78 : Ev.TabOk Try.prog (Ev.listQ rmQ) rfL78 := .cons (Ev.entry_ok (by kernel_rfl) rmX_ok (Ev.listQ_ok rmQ_ok) rmK_ok rfT77 rfR78) rfT77
theorem rfR79 : Ev.comesTo (Ev.callOf Try.prog rmX (Ev.evM Try.prog rmX (Ev.listQ rmQ) rmK rfL78 500) 15 [(.pointer (some ⟨4, 0, none⟩)), (.string ⟨#[98, 51, 57]⟩), (.complex .f64 0 2)] rfH909 982) ((.int .i64 (.ofNat 0)), rfH911, 982) = true := by kernel_rfl
noncomputable def rfL79 : List Ev.Entry := rfE79 :: rfL78
theorem rfT79 : Ev.TabOk Try.prog (Ev.listQ rmQ) rfL79 := .cons (Ev.entry_ok (by kernel_rfl) rmX_ok (Ev.listQ_ok rmQ_ok) rmK_ok rfT78 rfR79) rfT78
theorem rfR80 : Ev.comesTo (Ev.callOf Try.prog rmX (Ev.evM Try.prog rmX (Ev.listQ rmQ) rmK rfL79 500) 17 [(.pointer (some ⟨4, 0, none⟩)), (.agg #[(.string ⟨#[108, 51, 57]⟩), (.int .i64 (.ofNat 1)), (.int .i64 (.ofNat 1)), (.int .i64 (.ofNat 1)), (.int .i64 (.ofNat 1)), (.int .i64 (.ofNat 0)), (.string ⟨#[]⟩), (.int .i64 (.ofNat 0))])] rfH911 982) ((.int .i64 (.ofNat 0)), rfH930, 1007) = true := by kernel_rfl
noncomputable def rfL80 : List Ev.Entry := rfE80 :: rfL79
theorem rfT80 : Ev.TabOk Try.prog (Ev.listQ rmQ) rfL80 := .cons (Ev.entry_ok (by kernel_rfl) rmX_ok (Ev.listQ_ok rmQ_ok) rmK_ok rfT79 rfR80) rfT79
theorem rfR81 : Ev.comesTo (Ev.callOf Try.prog rmX (Ev.evM Try.prog rmX (Ev.listQ rmQ) rmK rfL80 500) 15 [(.pointer (some ⟨4, 0, none⟩)), (.string ⟨#[98, 52, 48]⟩), (.complex .f64 0 2)] rfH930 1007) ((.int .i64 (.ofNat 0)), rfH932, 1007) = true := by kernel_rfl
noncomputable def rfL81 : List Ev.Entry := rfE81 :: rfL80
theorem rfT81 : Ev.TabOk Try.prog (Ev.listQ rmQ) rfL81 := .cons (Ev.entry_ok (by kernel_rfl) rmX_ok (Ev.listQ_ok rmQ_ok) rmK_ok rfT80 rfR81) rfT80
theorem rfR82 : Ev.comesTo (Ev.callOf Try.prog rmX (Ev.evM Try.prog rmX (Ev.listQ rmQ) rmK rfL81 500) 17 [(.pointer (some ⟨4, 0, none⟩)), (.agg #[(.string ⟨#[108, 52, 48]⟩), (.int .i64 (.ofNat 1)), (.int .i64 (.ofNat 1)), (.int .i64 (.ofNat 1)), (.int .i64 (.ofNat 1)), (.int .i64 (.ofNat 0)), (.string ⟨#[]⟩), (.int .i64 (.ofNat 0))])] rfH932 1007) ((.int .i64 (.ofNat 0)), rfH953, 1032) = true := by kernel_rfl
noncomputable def rfL82 : List Ev.Entry := rfE82 :: rfL81
theorem rfT82 : Ev.TabOk Try.prog (Ev.listQ rmQ) rfL82 := .cons (Ev.entry_ok (by kernel_rfl) rmX_ok (Ev.listQ_ok rmQ_ok) rmK_ok rfT81 rfR82) rfT81
theorem rfR83 : Ev.comesTo (Ev.callOf Try.prog rmX (Ev.evM Try.prog rmX (Ev.listQ rmQ) rmK rfL82 500) 15 [(.pointer (some ⟨4, 0, none⟩)), (.string ⟨#[98, 52, 49]⟩), (.complex .f64 0 2)] rfH953 1032) ((.int .i64 (.ofNat 0)), rfH955, 1032) = true := by kernel_rfl
noncomputable def rfL83 : List Ev.Entry := rfE83 :: rfL82
theorem rfT83 : Ev.TabOk Try.prog (Ev.listQ rmQ) rfL83 := .cons (Ev.entry_ok (by kernel_rfl) rmX_ok (Ev.listQ_ok rmQ_ok) rmK_ok rfT82 rfR83) rfT82
end Go.Proofs.Ytaioaahacgfpcab
