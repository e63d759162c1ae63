/- A closed run, its pieces from 24 on. -/
import Derived.Test.YtaioaahacgfpcabRF2
namespace Go.Proofs.Ytaioaahacgfpcab
open Go.RowKit

theorem rfR24 : Ev.comesTo (Ev.callOf Try.prog rmX (Ev.evM Try.prog rmX (Ev.listQ rmQ) rmK rfL23 500) 17 [(.pointer (some ⟨4, 0, none⟩)), (.agg #[(.string ⟨#[108, 49, 49]⟩), (.int .i64 (.ofNat 1)), (.int .i64 (.ofNat 1)), (.int .i64 (.ofNat 1)), (.int .i64 (.ofNat 1)), (.int .i64 (.ofNat 0)), (.string ⟨#[]⟩), (.int .i64 (.ofNat 0))])] rfH288 282) ((.int .i64 (.ofNat 0)), rfH311, 307) = true := by kernel_rfl
noncomputable def rfL24 : List Ev.Entry := rfE24 :: rfL23
theorem rfT24 : Ev.TabOk Try.prog (Ev.listQ rmQ) rfL24 := .cons (Ev.entry_ok (by kernel_rfl) rmX_ok (Ev.listQ_ok rmQ_ok) rmK_ok rfT23 rfR24) rfT23
theorem rfR25 : Ev.comesTo (Ev.callOf Try.prog rmX (Ev.evM Try.prog rmX (Ev.listQ rmQ) rmK rfL24 500) 15 [(.pointer (some ⟨4, 0, none⟩)), (.string ⟨#[98, 49, 50]⟩), (.complex .f64 0 2)] rfH311 307) ((.int .i64 (.ofNat 0)), rfH313, 307) = true := by kernel_rfl
noncomputable def rfL25 : List Ev.Entry := rfE25 :: rfL24
theorem rfT25 : Ev.TabOk Try.prog (Ev.listQ rmQ) rfL25 := .cons (Ev.entry_ok (by kernel_rfl) rmX_ok (Ev.listQ_ok rmQ_ok) rmK_ok rfT24 rfR25) rfT24
theorem rfR26 : Ev.comesTo (Ev.callOf Try.prog rmX (Ev.evM Try.prog rmX (Ev.listQ rmQ) rmK rfL25 500) 17 [(.pointer (some ⟨4, 0, none⟩)), (.agg #[(.string ⟨#[108, 49, 50]⟩), (.int .i64 (.ofNat 1)), (.int .i64 (.ofNat 1)), (.int .i64 (.ofNat 1)), (.int .i64 (.ofNat 1)), (.int .i64 (.ofNat 0)), (.string ⟨#[]⟩), (.int .i64 (.ofNat 0))])] rfH313 307) ((.int .i64 (.ofNat 0)), rfH336, 332) = true := by kernel_rfl
noncomputable def rfL26 : List Ev.Entry := rfE26 :: rfL25
theorem rfT26 : Ev.TabOk Try.prog (Ev.listQ rmQ) rfL26 := .cons (Ev.entry_ok (by kernel_rfl) rmX_ok (Ev.listQ_ok rmQ_ok) rmK_ok rfT25 rfR26) rfT25
theorem rfR27 : Ev.comesTo (Ev.callOf Try.prog rmX (Ev.evM Try.prog rmX (Ev.listQ rmQ) rmK rfL26 500) 15 [(.pointer (some ⟨4, 0, none⟩)), (.string ⟨#[98, 49, 51]⟩), (.complex .f64 0 2)] rfH336 332) ((.int .i64 (.ofNat 0)), rfH338, 332) = true := by kernel_rfl
noncomputable def rfL27 : List Ev.Entry := rfE27 :: rfL26
theorem rfT27 : Ev.TabOk Try.prog (Ev.listQ rmQ) rfL27 := .cons (Ev.entry_ok (by kernel_rfl) rmX_ok (Ev.listQ_ok rmQ_ok) rmK_ok rfT26 rfR27) rfT26
theorem rfR28 : Ev.comesTo (Ev.callOf Try.prog rmX (Ev.evM Try.prog rmX (Ev.listQ rmQ) rmK rfL27 500) 17 [(.pointer (some ⟨4, 0, none⟩)), (.agg #[(.string ⟨#[108, 49, 51]⟩), (.int .i64 (.ofNat 1)), (.int .i64 (.ofNat 1)), (.int .i64 (.ofNat 1)), (.int .i64 (.ofNat 1)), (.int .i64 (.ofNat 0)), (.string ⟨#[]⟩), (.int .i64 (.ofNat 0))])] rfH338 332) ((.int .i64 (.ofNat 0)), rfH359, 357) = true := by kernel_rfl
noncomputable def rfL28 : List Ev.Entry := rfE28 :: rfL27
theorem rfT28 : Ev.TabOk Try.prog (Ev.listQ rmQ) rfL28 := .cons (Ev.entry_ok (by kernel_rfl) rmX_ok (Ev.listQ_ok rmQ_ok) rmK_ok rfT27 rfR28) rfT27
theorem rfR29 : Ev.comesTo (Ev.callOf Try.prog rmX (Ev.evM Try.prog rmX (Ev.listQ rmQ) rmK rfL28 500) 15 [(.pointer (some ⟨4, 0, none⟩)), (.string ⟨#[98, 49, 52]⟩), (.complex .f64 0 2)] rfH359 357) ((.int .i64 (.ofNat 0)), rfH361, 357) = true := by kernel_rfl
noncomputable def rfL29 : List Ev.Entry := rfE29 :: rfL28
theorem rfT29 : Ev.TabOk Try.prog (Ev.listQ rmQ) rfL29 := .cons (Ev.entry_ok (by kernel_rfl) rmX_ok (Ev.listQ_ok rmQ_ok) rmK_ok rfT28 rfR29) rfT28
theorem rfR30 : Ev.comesTo (Ev.callOf Try.prog rmX (Ev.evM Try.prog rmX (Ev.listQ rmQ) rmK rfL29 500) 17 [(.pointer (some ⟨4, 0, none⟩)), (.agg #[(.string ⟨#[108, 49, 52]⟩), (.int .i64 (.ofNat 1)), (.int .i64 (.ofNat 1)), (.int .i64 (.ofNat 1)), (.int .i64 (.ofNat 1)), (.int .i64 (.ofNat 0)), (.string ⟨#[]⟩), (.int .i64 (.ofNat 0))])] rfH361 357) ((.int .i64 (.ofNat 0)), rfH384, 382) = true := by kernel_rfl
noncomputable def rfL30 : List Ev.Entry := rfE30 :: rfL29
theorem rfT30 : Ev.TabOk Try.prog (Ev.listQ rmQ) rfL30 := .cons (Ev.entry_ok (by kernel_rfl) rmX_ok (Ev.listQ_ok rmQ_ok) rmK_ok rfT29 rfR30) rfT29
theorem rfR31 : Ev.comesTo (Ev.callOf Try.prog rmX (Ev.evM Try.prog rmX (Ev.listQ rmQ) rmK rfL30 500) 15 [(.pointer (some ⟨4, 0, none⟩)), (.string ⟨#[98, 49, 53]⟩), (.complex .f64 0 2)] rfH384 382) ((.int .i64 (.ofNat 0)), rfH386, 382) = true := by kernel_rfl
noncomputable def rfL31 : List Ev.Entry := rfE31 :: rfL30
theorem rfT31 : Ev.TabOk Try.prog (Ev.listQ rmQ) rfL31 := .cons (Ev.entry_ok (by kernel_rfl) rmX_ok (Ev.listQ_ok rmQ_ok) rmK_ok rfT30 rfR31) rfT30
theorem rfR32 : Ev.comesTo (Ev.callOf Try.prog rmX (Ev.evM Try.prog rmX (Ev.listQ rmQ) rmK rfL31 500) 17 [(.pointer (some ⟨4, 0, none⟩)), (.agg #[(.string ⟨#[108, 49, 53]⟩), (.int .i64 (.ofNat 1)), (.int .i64 (.ofNat 1)), (.int .i64 (.ofNat 1)), (.int .i64 (.ofNat 1)), (.int .i64 (.ofNat 0)), (.string ⟨#[]⟩), (.int .i64 (.ofNat 0))])] rfH386 382) ((.int .i64 (.ofNat 0)), rfH408, 407) = true := by kernel_rfl
noncomputable def rfL32 : List Ev.Entry := rfE32 :: rfL31
theorem rfT32 : Ev.TabOk Try.prog (Ev.listQ rmQ) rfL32 := .cons (Ev.entry_ok (by kernel_rfl) rmX_ok (Ev.listQ_ok rmQ_ok) rmK_ok rfT31 rfR32) rfT31
theorem rfR33 : Ev.comesTo (Ev.callOf Try.prog rmX (Ev.evM Try.prog rmX (Ev.listQ rmQ) rmK rfL32 500) 15 [(.pointer (some ⟨4, 0, none⟩)), (.string ⟨#[98, 49, 54]⟩), (.complex .f64 0 2)] rfH408 407) ((.int .i64 (.ofNat 0)), rfH410, 407) = true := by kernel_rfl
noncomputable def rfL33 : List Ev.Entry := rfE33 :: rfL32
theorem rfT33 : Ev.TabOk Try.prog (Ev.listQ rmQ) rfL33 := .cons (Ev.entry_ok (by kernel_rfl) rmX_ok (Ev.listQ_ok rmQ_ok) rmK_ok rfT32 rfR33) rfT32
theorem rfR34 : Ev.comesTo (Ev.callOf Try.prog rmX (Ev.evM Try.prog rmX (Ev.listQ rmQ) rmK rfL33 500) 17 [(.pointer (some ⟨4, 0, none⟩)), (.agg #[(.string ⟨#[108, 49, 54]⟩), (.int .i64 (.ofNat 1)), (.int .i64 (.ofNat 1)), (.int .i64 (.ofNat 1)), (.int .i64 (.ofNat 1)), (.int .i64 (.ofNat 0)), (.string ⟨#[]⟩), (.int .i64 (.ofNat 0))])] rfH410 407) ((.int .i64 (.ofNat 0)), rfH433, 432) = true := by kernel_rfl
noncomputable def rfL34 : List Ev.Entry := rfE34 :: rfL33
theorem rfT34 : Ev.TabOk Try.prog (Ev.listQ rmQ) rfL34 := .cons (Ev.entry_ok (by kernel_rfl) rmX_ok (Ev.listQ_ok rmQ_ok) rmK_ok rfT33 rfR34) rfT33
theorem rfR35 : Ev.comesTo (Ev.callOf Try.prog rmX (Ev.evM Try.prog rmX (Ev.listQ rmQ) rmK rfL34 500) 15 [(.pointer (some ⟨4, 0, none⟩)), (.string ⟨#[98, 49, 55]⟩), (.complex .f64 0 2)] rfH433 432) ((.int .i64 (.ofNat 0)), rfH435, 432) = true := by kernel_rfl
noncomputable def rfL35 : List Ev.Entry := rfE35 :: rfL34
theorem rfT35 : Ev.TabOk Try.prog (Ev.listQ rmQ) rfL35 := .cons (Ev.entry_ok (by kernel_rfl) rmX_ok (Ev.listQ_ok rmQ_ok) rmK_ok rfT34 rfR35) rfT34
end Go.Proofs.Ytaioaahacgfpcab
