/- A closed run, its pieces from 36 on. -/
import Derived.Test.YtaioaahacgfpcabRF3
namespace Go.Proofs.Ytaioaahacgfpcab
open Go.RowKit

theorem rfR36 : Ev.comesTo (Ev.callOf Try.prog rmX (Ev.evM Try.prog rmX (Ev.listQ rmQ) rmK rfL35 500) 17 [(.pointer (some ⟨4, 0, none⟩)), (.agg #[(.string ⟨#[108, 49, 55]⟩), (.int .i64 (.ofNat 1)), (.int .i64 (.ofNat 1)), (.int .i64 (.ofNat 1)), (.int .i64 (.ofNat 1)), (.int .i64 (.ofNat 0)), (.string ⟨#[]⟩), (.int .i64 (.ofNat 0))])] rfH435 432) ((.int .i64 (.ofNat 0)), rfH457, 457) = true := by kernel_rfl
noncomputable def rfL36 : List Ev.Entry := rfE36 :: rfL35
theorem rfT36 : Ev.TabOk Try.prog (Ev.listQ rmQ) rfL36 := .cons (Ev.entry_ok (by kernel_rfl) rmX_ok (Ev.listQ_ok rmQ_ok) rmK_ok rfT35 rfR36) rfT35
theorem rfR37 : Ev.comesTo (Ev.callOf Try.prog rmX (Ev.evM Try.prog rmX (Ev.listQ rmQ) rmK rfL36 500) 15 [(.pointer (some ⟨4, 0, none⟩)), (.string ⟨#[98, 49, 56]⟩), (.complex .f64 0 2)] rfH457 457) ((.int .i64 (.ofNat 0)), rfH459, 457) = true := by kernel_rfl
noncomputable def rfL37 : List Ev.Entry := rfE37 :: rfL36
theorem rfT37 : Ev.TabOk Try.prog (Ev.listQ rmQ) rfL37 := .cons (Ev.entry_ok (by kernel_rfl) rmX_ok (Ev.listQ_ok rmQ_ok) rmK_ok rfT36 rfR37) rfT36
theorem rfR38 : Ev.comesTo (Ev.callOf Try.prog rmX (Ev.evM Try.prog rmX (Ev.listQ rmQ) rmK rfL37 500) 17 [(.pointer (some ⟨4, 0, none⟩)), (.agg #[(.string ⟨#[108, 49, 56]⟩), (.int .i64 (.ofNat 1)), (.int .i64 (.ofNat 1)), (.int .i64 (.ofNat 1)), (.int .i64 (.ofNat 1)), (.int .i64 (.ofNat 0)), (.string ⟨#[]⟩), (.int .i64 (.ofNat 0))])] rfH459 457) ((.int .i64 (.ofNat 0)), rfH481, 482) = true := by kernel_rfl
noncomputable def rfL38 : List Ev.Entry := rfE38 :: rfL37
theorem rfT38 : Ev.TabOk Try.prog (Ev.listQ rmQ) rfL38 := .cons (Ev.entry_ok (by kernel_rfl) rmX_ok (Ev.listQ_ok rmQ_ok) rmK_ok rfT37 rfR38) rfT37
theorem rfR39 : Ev.comesTo (Ev.callOf Try.prog rmX (Ev.evM Try.prog rmX (Ev.listQ rmQ) rmK rfL38 500) 15 [(.pointer (some ⟨4, 0, none⟩)), (.string ⟨#[98, 49, 57]⟩), (.complex .f64 0 2)] rfH481 482) ((.int .i64 (.ofNat 0)), rfH483, 482) = true := by kernel_rfl
noncomputable def rfL39 : List Ev.Entry := rfE39 :: rfL38
theorem rfT39 : Ev.TabOk Try.prog (Ev.listQ rmQ) rfL39 := .cons (Ev.entry_ok (by kernel_rfl) rmX_ok (Ev.listQ_ok rmQ_ok) rmK_ok rfT38 rfR39) rfT38
theorem rfR40 : Ev.comesTo (Ev.callOf Try.prog rmX (Ev.evM Try.prog rmX (Ev.listQ rmQ) rmK rfL39 500) 17 [(.pointer (some ⟨4, 0, none⟩)), (.agg #[(.string ⟨#[108, 49, 57]⟩), (.int .i64 (.ofNat 1)), (.int .i64 (.ofNat 1)), (.int .i64 (.ofNat 1)), (.int .i64 (.ofNat 1)), (.int .i64 (.ofNat 0)), (.string ⟨#[]⟩), (.int .i64 (.ofNat 0))])] rfH483 482) ((.int .i64 (.ofNat 0)), rfH503, 507) = true := by kernel_rfl
noncomputable def rfL40 : List Ev.Entry := rfE40 :: rfL39
theorem rfT40 : Ev.TabOk Try.prog (Ev.listQ rmQ) rfL40 := .cons (Ev.entry_ok (by kernel_rfl) rmX_ok (Ev.listQ_ok rmQ_ok) rmK_ok rfT39 rfR40) rfT39
theorem rfR41 : Ev.comesTo (Ev.callOf Try.prog rmX (Ev.evM Try.prog rmX (Ev.listQ rmQ) rmK rfL40 500) 15 [(.pointer (some ⟨4, 0, none⟩)), (.string ⟨#[98, 50, 48]⟩), (.complex .f64 0 2)] rfH503 507) ((.int .i64 (.ofNat 0)), rfH505, 507) = true := by kernel_rfl
noncomputable def rfL41 : List Ev.Entry := rfE41 :: rfL40
theorem rfT41 : Ev.TabOk Try.prog (Ev.listQ rmQ) rfL41 := .cons (Ev.entry_ok (by kernel_rfl) rmX_ok (Ev.listQ_ok rmQ_ok) rmK_ok rfT40 rfR41) rfT40
theorem rfR42 : Ev.comesTo (Ev.callOf Try.prog rmX (Ev.evM Try.prog rmX (Ev.listQ rmQ) rmK rfL41 500) 17 [(.pointer (some ⟨4, 0, none⟩)), (.agg #[(.string ⟨#[108, 50, 48]⟩), (.int .i64 (.ofNat 1)), (.int .i64 (.ofNat 1)), (.int .i64 (.ofNat 1)), (.int .i64 (.ofNat 1)), (.int .i64 (.ofNat 0)), (.string ⟨#[]⟩), (.int .i64 (.ofNat 0))])] rfH505 507) ((.int .i64 (.ofNat 0)), rfH526, 532) = true := by kernel_rfl
noncomputable def rfL42 : List Ev.Entry := rfE42 :: rfL41
theorem rfT42 : Ev.TabOk Try.prog (Ev.listQ rmQ) rfL42 := .cons (Ev.entry_ok (by kernel_rfl) rmX_ok (Ev.listQ_ok rmQ_ok) rmK_ok rfT41 rfR42) rfT41
theorem rfR43 : Ev.comesTo (Ev.callOf Try.prog rmX (Ev.evM Try.prog rmX (Ev.listQ rmQ) rmK rfL42 500) 15 [(.pointer (some ⟨4, 0, none⟩)), (.string ⟨#[98, 50, 49]⟩), (.complex .f64 0 2)] rfH526 532) ((.int .i64 (.ofNat 0)), rfH528, 532) = true := by kernel_rfl
noncomputable def rfL43 : List Ev.Entry := rfE43 :: rfL42
theorem rfT43 : Ev.TabOk Try.prog (Ev.listQ rmQ) rfL43 := .cons (Ev.entry_ok (by kernel_rfl) rmX_ok (Ev.listQ_ok rmQ_ok) rmK_ok rfT42 rfR43) rfT42
theorem rfR44 : Ev.comesTo (Ev.callOf Try.prog rmX (Ev.evM Try.prog rmX (Ev.listQ rmQ) rmK rfL43 500) 17 [(.pointer (some ⟨4, 0, none⟩)), (.agg #[(.string ⟨#[108, 50, 49]⟩), (.int .i64 (.ofNat 1)), (.int .i64 (.ofNat 1)), (.int .i64 (.ofNat 1)), (.int .i64 (.ofNat 1)), (.int .i64 (.ofNat 0)), (.string ⟨#[]⟩), (.int .i64 (.ofNat 0))])] rfH528 532) ((.int .i64 (.ofNat 0)), rfH550, 557) = true := by kernel_rfl
noncomputable def rfL44 : List Ev.Entry := rfE44 :: rfL43
theorem rfT44 : Ev.TabOk Try.prog (Ev.listQ rmQ) rfL44 := .cons (Ev.entry_ok (by kernel_rfl) rmX_ok (Ev.listQ_ok rmQ_ok) rmK_ok rfT43 rfR44) rfT43
theorem rfR45 : Ev.comesTo (Ev.callOf Try.prog rmX (Ev.evM Try.prog rmX (Ev.listQ rmQ) rmK rfL44 500) 15 [(.pointer (some ⟨4, 0, none⟩)), (.string ⟨#[98, 50, 50]⟩), (.complex .f64 0 2)] rfH550 557) ((.int .i64 (.ofNat 0)), rfH552, 557) = true := by kernel_rfl
noncomputable def rfL45 : List Ev.Entry := rfE45 :: rfL44
theorem rfT45 : Ev.TabOk Try.prog (Ev.listQ rmQ) rfL45 := .cons (Ev.entry_ok (by kernel_rfl) rmX_ok (Ev.listQ_ok rmQ_ok) rmK_ok rfT44 rfR45) rfT44
theorem rfR46 : Ev.comesTo (Ev.callOf Try.prog rmX (Ev.evM Try.prog rmX (Ev.listQ rmQ) rmK rfL45 500) 17 [(.pointer (some ⟨4, 0, none⟩)), (.agg #[(.string ⟨#[108, 50, 50]⟩), (.int .i64 (.ofNat 1)), (.int .i64 (.ofNat 1)), (.int .i64 (.ofNat 1)), (.int .i64 (.ofNat 1)), (.int .i64 (.ofNat 0)), (.string ⟨#[]⟩), (.int .i64 (.ofNat 0))])] rfH552 557) ((.int .i64 (.ofNat 0)), rfH571, 582) = true := by kernel_rfl
noncomputable def rfL46 : List Ev.Entry := rfE46 :: rfL45
theorem rfT46 : Ev.TabOk Try.prog (Ev.listQ rmQ) rfL46 := .cons (Ev.entry_ok (by kernel_rfl) rmX_ok (Ev.listQ_ok rmQ_ok) rmK_ok rfT45 rfR46) rfT45
theorem rfR47 : Ev.comesTo (Ev.callOf Try.prog rmX (Ev.evM Try.prog rmX (Ev.listQ rmQ) rmK rfL46 500) 15 [(.pointer (some ⟨4, 0, none⟩)), (.string ⟨#[98, 50, 51]⟩), (.complex .f64 0 2)] rfH571 582) ((.int .i64 (.ofNat 0)), rfH573, 582) = true := by kernel_rfl
noncomputable def rfL47 : List Ev.Entry := rfE47 :: rfL46
theorem rfT47 : Ev.TabOk Try.prog (Ev.listQ rmQ) rfL47 := .cons (Ev.entry_ok (by kernel_rfl) rmX_ok (Ev.listQ_ok rmQ_ok) rmK_ok rfT46 rfR47) rfT46
end Go.Proofs.Ytaioaahacgfpcab
