/- A closed run, its pieces from 48 on. -/
import Derived.Test.YtaioaahacgfpcabRF4
namespace Go.Proofs.Ytaioaahacgfpcab
open Go.RowKit

theorem rfR48 : Ev.comesTo (Ev.callOf Try.prog rmX (Ev.evM Try.prog rmX (Ev.listQ rmQ) rmK rfL47 500) 17 [(.pointer (some ⟨4, 0, none⟩)), (.agg #[(.string ⟨#[108, 50, 51]⟩), (.int .i64 (.ofNat 1)), (.int .i64 (.ofNat 1)), (.int .i64 (.ofNat 1)), (.int .i64 (.ofNat 1)), (.int .i64 (.ofNat 0)), (.string ⟨#[]⟩), (.int .i64 (.ofNat 0))])] rfH573 582) ((.int .i64 (.ofNat 0)), rfH594, 607) = true := by kernel_rfl
noncomputable def rfL48 : List Ev.Entry := rfE48 :: rfL47
theorem rfT48 : Ev.TabOk Try.prog (Ev.listQ rmQ) rfL48 := .cons (Ev.entry_ok (by kernel_rfl) rmX_ok (Ev.listQ_ok rmQ_ok) rmK_ok rfT47 rfR48) rfT47
theorem rfR49 : Ev.comesTo (Ev.callOf Try.prog rmX (Ev.evM Try.prog rmX (Ev.listQ rmQ) rmK rfL48 500) 15 [(.pointer (some ⟨4, 0, none⟩)), (.string ⟨#[98, 50, 52]⟩), (.complex .f64 0 2)] rfH594 607) ((.int .i64 (.ofNat 0)), rfH596, 607) = true := by kernel_rfl
noncomputable def rfL49 : List Ev.Entry := rfE49 :: rfL48
theorem rfT49 : Ev.TabOk Try.prog (Ev.listQ rmQ) rfL49 := .cons (Ev.entry_ok (by kernel_rfl) rmX_ok (Ev.listQ_ok rmQ_ok) rmK_ok rfT48 rfR49) rfT48
theorem rfR50 : Ev.comesTo (Ev.callOf Try.prog rmX (Ev.evM Try.prog rmX (Ev.listQ rmQ) rmK rfL49 500) 17 [(.pointer (some ⟨4, 0, none⟩)), (.agg #[(.string ⟨#[108, 50, 52]⟩), (.int .i64 (.ofNat 1)), (.int .i64 (.ofNat 1)), (.int .i64 (.ofNat 1)), (.int .i64 (.ofNat 1)), (.int .i64 (.ofNat 0)), (.string ⟨#[]⟩), (.int .i64 (.ofNat 0))])] rfH596 607) ((.int .i64 (.ofNat 0)), rfH618, 632) = true := by kernel_rfl
noncomputable def rfL50 : List Ev.Entry := rfE50 :: rfL49
theorem rfT50 : Ev.TabOk Try.prog (Ev.listQ rmQ) rfL50 := .cons (Ev.entry_ok (by kernel_rfl) rmX_ok (Ev.listQ_ok rmQ_ok) rmK_ok rfT49 rfR50) rfT49
theorem rfR51 : Ev.comesTo (Ev.callOf Try.prog rmX (Ev.evM Try.prog rmX (Ev.listQ rmQ) rmK rfL50 500) 15 [(.pointer (some ⟨4, 0, none⟩)), (.string ⟨#[98, 50, 53]⟩), (.complex .f64 0 2)] rfH618 632) ((.int .i64 (.ofNat 0)), rfH620, 632) = true := by kernel_rfl
noncomputable def rfL51 : List Ev.Entry := rfE51 :: rfL50
theorem rfT51 : Ev.TabOk Try.prog (Ev.listQ rmQ) rfL51 := .cons (Ev.entry_ok (by kernel_rfl) rmX_ok (Ev.listQ_ok rmQ_ok) rmK_ok rfT50 rfR51) rfT50
theorem rfR52 : Ev.comesTo (Ev.callOf Try.prog rmX (Ev.evM Try.prog rmX (Ev.listQ rmQ) rmK rfL51 500) 17 [(.pointer (some ⟨4, 0, none⟩)), (.agg #[(.string ⟨#[108, 50, 53]⟩), (.int .i64 (.ofNat 1)), (.int .i64 (.ofNat 1)), (.int .i64 (.ofNat 1)), (.int .i64 (.ofNat 1)), (.int .i64 (.ofNat 0)), (.string ⟨#[]⟩), (.int .i64 (.ofNat 0))])] rfH620 632) ((.int .i64 (.ofNat 0)), rfH641, 657) = true := by kernel_rfl
noncomputable def rfL52 : List Ev.Entry := rfE52 :: rfL51
theorem rfT52 : Ev.TabOk Try.prog (Ev.listQ rmQ) rfL52 := .cons (Ev.entry_ok (by kernel_rfl) rmX_ok (Ev.listQ_ok rmQ_ok) rmK_ok rfT51 rfR52) rfT51
theorem rfR53 : Ev.comesTo (Ev.callOf Try.prog rmX (Ev.evM Try.prog rmX (Ev.listQ rmQ) rmK rfL52 500) 15 [(.pointer (some ⟨4, 0, none⟩)), (.string ⟨#[98, 50, 54]⟩), (.complex .f64 0 2)] rfH641 657) ((.int .i64 (.ofNat 0)), rfH643, 657) = true := by kernel_rfl
noncomputable def rfL53 : List Ev.Entry := rfE53 :: rfL52
theorem rfT53 : Ev.TabOk Try.prog (Ev.listQ rmQ) rfL53 := .cons (Ev.entry_ok (by kernel_rfl) rmX_ok (Ev.listQ_ok rmQ_ok) rmK_ok rfT52 rfR53) rfT52
theorem rfR54 : Ev.comesTo (Ev.callOf Try.prog rmX (Ev.evM Try.prog rmX (Ev.listQ rmQ) rmK rfL53 500) 17 [(.pointer (some ⟨4, 0, none⟩)), (.agg #[(.string ⟨#[108, 50, 54]⟩), (.int .i64 (.ofNat 1)), (.int .i64 (.ofNat 1)), (.int .i64 (.ofNat 1)), (.int .i64 (.ofNat 1)), (.int .i64 (.ofNat 0)), (.string ⟨#[]⟩), (.int .i64 (.ofNat 0))])] rfH643 657) ((.int .i64 (.ofNat 0)), rfH663, 682) = true := by kernel_rfl
noncomputable def rfL54 : List Ev.Entry := rfE54 :: rfL53
theorem rfT54 : Ev.TabOk Try.prog (Ev.listQ rmQ) rfL54 := .cons (Ev.entry_ok (by kernel_rfl) rmX_ok (Ev.listQ_ok rmQ_ok) rmK_ok rfT53 rfR54) rfT53
theorem rfR55 : Ev.comesTo (Ev.callOf Try.prog rmX (Ev.evM Try.prog rmX (Ev.listQ rmQ) rmK rfL54 500) 15 [(.pointer (some ⟨4, 0, none⟩)), (.string ⟨#[98, 50, 55]⟩), (.complex .f64 0 2)] rfH663 682) ((.int .i64 (.ofNat 0)), rfH665, 682) = true := by kernel_rfl
noncomputable def rfL55 : List Ev.Entry := rfE55 :: rfL54
theorem rfT55 : Ev.TabOk Try.prog (Ev.listQ rmQ) rfL55 := .cons (Ev.entry_ok (by kernel_rfl) rmX_ok (Ev.listQ_ok rmQ_ok) rmK_ok rfT54 rfR55) rfT54
theorem rfR56 : Ev.comesTo (Ev.callOf Try.prog rmX (Ev.evM Try.prog rmX (Ev.listQ rmQ) rmK rfL55 500) 17 [(.pointer (some ⟨4, 0, none⟩)), (.agg #[(.string ⟨#[108, 50, 55]⟩), (.int .i64 (.ofNat 1)), (.int .i64 (.ofNat 1)), (.int .i64 (.ofNat 1)), (.int .i64 (.ofNat 1)), (.int .i64 (.ofNat 0)), (.string ⟨#[]⟩), (.int .i64 (.ofNat 0))])] rfH665 682) ((.int .i64 (.ofNat 0)), rfH684, 707) = true := by kernel_rfl
noncomputable def rfL56 : List Ev.Entry := rfE56 :: rfL55
theorem rfT56 : Ev.TabOk Try.prog (Ev.listQ rmQ) rfL56 := .cons (Ev.entry_ok (by kernel_rfl) rmX_ok (Ev.listQ_ok rmQ_ok) rmK_ok rfT55 rfR56) rfT55
theorem rfR57 : Ev.comesTo (Ev.callOf Try.prog rmX (Ev.evM Try.prog rmX (Ev.listQ rmQ) rmK rfL56 500) 15 [(.pointer (some ⟨4, 0, none⟩)), (.string ⟨#[98, 50, 56]⟩), (.complex .f64 0 2)] rfH684 707) ((.int .i64 (.ofNat 0)), rfH686, 707) = true := by kernel_rfl
noncomputable def rfL57 : List Ev.Entry := rfE57 :: rfL56
theorem rfT57 : Ev.TabOk Try.prog (Ev.listQ rmQ) rfL57 := .cons (Ev.entry_ok (by kernel_rfl) rmX_ok (Ev.listQ_ok rmQ_ok) rmK_ok rfT56 rfR57) rfT56
theorem rfR58 : Ev.comesTo (Ev.callOf Try.prog rmX (Ev.evM Try.prog rmX (Ev.listQ rmQ) rmK rfL57 500) 17 [(.pointer (some ⟨4, 0, none⟩)), (.agg #[(.string ⟨#[108, 50, 56]⟩), (.int .i64 (.ofNat 1)), (.int .i64 (.ofNat 1)), (.int .i64 (.ofNat 1)), (.int .i64 (.ofNat 1)), (.int .i64 (.ofNat 0)), (.string ⟨#[]⟩), (.int .i64 (.ofNat 0))])] rfH686 707) ((.int .i64 (.ofNat 0)), rfH705, 732) = true := by kernel_rfl
noncomputable def rfL58 : List Ev.Entry := rfE58 :: rfL57
theorem rfT58 : Ev.TabOk Try.prog (Ev.listQ rmQ) rfL58 := .cons (Ev.entry_ok (by kernel_rfl) rmX_ok (Ev.listQ_ok rmQ_ok) rmK_ok rfT57 rfR58) rfT57
theorem rfR59 : Ev.comesTo (Ev.callOf Try.prog rmX (Ev.evM Try.prog rmX (Ev.listQ rmQ) rmK rfL58 500) 15 [(.pointer (some ⟨4, 0, none⟩)), (.string ⟨#[98, 50, 57]⟩), (.complex .f64 0 2)] rfH705 732) ((.int .i64 (.ofNat 0)), rfH707, 732) = true := by kernel_rfl
noncomputable def rfL59 : List Ev.Entry := rfE59 :: rfL58
theorem rfT59 : Ev.TabOk Try.prog (Ev.listQ rmQ) rfL59 := .cons (Ev.entry_ok (by kernel_rfl) rmX_ok (Ev.listQ_ok rmQ_ok) rmK_ok rfT58 rfR59) rfT58
end Go.Proofs.Ytaioaahacgfpcab
