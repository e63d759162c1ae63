/- A closed run, its pieces from 12 on. -/
import Derived.Test.YtaioaahacgfpcabRF1
namespace Go.Proofs.Ytaioaahacgfpcab
open Go.RowKit

theorem rfR12 : Ev.comesTo (Ev.callOf Try.prog rmX (Ev.evM Try.prog rmX (Ev.listQ rmQ) rmK rfL11 500) 17 [(.pointer (some ⟨4, 0, none⟩)), (.agg #[(.string ⟨#[108, 48, 53]⟩), (.int .i64 (.ofNat 1)), (.int .i64 (.ofNat 1)), (.int .i64 (.ofNat 1)), (.int .i64 (.ofNat 1)), (.int .i64 (.ofNat 0)), (.string ⟨#[]⟩), (.int .i64 (.ofNat 0))])] rfH134 132) ((.int .i64 (.ofNat 0)), rfH158, 157) = true := by kernel_rfl
noncomputable def rfL12 : List Ev.Entry := rfE12 :: rfL11
theorem rfT12 : Ev.TabOk Try.prog (Ev.listQ rmQ) rfL12 := .cons (Ev.entry_ok (by kernel_rfl) rmX_ok (Ev.listQ_ok rmQ_ok) rmK_ok rfT11 rfR12) rfT11
theorem rfR13 : Ev.comesTo (Ev.callOf Try.prog rmX (Ev.evM Try.prog rmX (Ev.listQ rmQ) rmK rfL12 500) 15 [(.pointer (some ⟨4, 0, none⟩)), (.string ⟨#[98, 48, 54]⟩), (.complex .f64 0 2)] rfH158 157) ((.int .i64 (.ofNat 0)), rfH160, 157) = true := by kernel_rfl
noncomputable def rfL13 : List Ev.Entry := rfE13 :: rfL12
theorem rfT13 : Ev.TabOk Try.prog (Ev.listQ rmQ) rfL13 := .cons (Ev.entry_ok (by kernel_rfl) rmX_ok (Ev.listQ_ok rmQ_ok) rmK_ok rfT12 rfR13) rfT12
theorem rfR14 : Ev.comesTo (Ev.callOf Try.prog rmX (Ev.evM Try.prog rmX (Ev.listQ rmQ) rmK rfL13 500) 17 [(.pointer (some ⟨4, 0, none⟩)), (.agg #[(.string ⟨#[108, 48, 54]⟩), (.int .i64 (.ofNat 1)), (.int .i64 (.ofNat 1)), (.int .i64 (.ofNat 1)), (.int .i64 (.ofNat 1)), (.int .i64 (.ofNat 0)), (.string ⟨#[]⟩), (.int .i64 (.ofNat 0))])] rfH160 157) ((.int .i64 (.ofNat 0)), rfH183, 182) = true := by kernel_rfl
noncomputable def rfL14 : List Ev.Entry := rfE14 :: rfL13
theorem rfT14 : Ev.TabOk Try.prog (Ev.listQ rmQ) rfL14 := .cons (Ev.entry_ok (by kernel_rfl) rmX_ok (Ev.listQ_ok rmQ_ok) rmK_ok rfT13 rfR14) rfT13
theorem rfR15 : Ev.comesTo (Ev.callOf Try.prog rmX (Ev.evM Try.prog rmX (Ev.listQ rmQ) rmK rfL14 500) 15 [(.pointer (some ⟨4, 0, none⟩)), (.string ⟨#[98, 48, 55]⟩), (.complex .f64 0 2)] rfH183 182) ((.int .i64 (.ofNat 0)), rfH185, 182) = true := by kernel_rfl
noncomputable def rfL15 : List Ev.Entry := rfE15 :: rfL14
theorem rfT15 : Ev.TabOk Try.prog (Ev.listQ rmQ) rfL15 := .cons (Ev.entry_ok (by kernel_rfl) rmX_ok (Ev.listQ_ok rmQ_ok) rmK_ok rfT14 rfR15) rfT14
theorem rfR16 : Ev.comesTo (Ev.callOf Try.prog rmX (Ev.evM Try.prog rmX (Ev.listQ rmQ) rmK rfL15 500) 17 [(.pointer (some ⟨4, 0, none⟩)), (.agg #[(.string ⟨#[108, 48, 55]⟩), (.int .i64 (.ofNat 1)), (.int .i64 (.ofNat 1)), (.int .i64 (.ofNat 1)), (.int .i64 (.ofNat 1)), (.int .i64 (.ofNat 0)), (.string ⟨#[]⟩), (.int .i64 (.ofNat 0))])] rfH185 182) ((.int .i64 (.ofNat 0)), rfH209, 207) = true := by kernel_rfl
noncomputable def rfL16 : List Ev.Entry := rfE16 :: rfL15
theorem rfT16 : Ev.TabOk Try.prog (Ev.listQ rmQ) rfL16 := .cons (Ev.entry_ok (by kernel_rfl) rmX_ok (Ev.listQ_ok rmQ_ok) rmK_ok rfT15 rfR16) rfT15
theorem rfR17 : Ev.comesTo (Ev.callOf Try.prog rmX (Ev.evM Try.prog rmX (Ev.listQ rmQ) rmK rfL16 500) 15 [(.pointer (some ⟨4, 0, none⟩)), (.string ⟨#[98, 48, 56]⟩), (.complex .f64 0 2)] rfH209 207) ((.int .i64 (.ofNat 0)), rfH211, 207) = true := by kernel_rfl
noncomputable def rfL17 : List Ev.Entry := rfE17 :: rfL16
theorem rfT17 : Ev.TabOk Try.prog (Ev.listQ rmQ) rfL17 := .cons (Ev.entry_ok (by kernel_rfl) rmX_ok (Ev.listQ_ok rmQ_ok) rmK_ok rfT16 rfR17) rfT16
theorem rfR18 : Ev.comesTo (Ev.callOf Try.prog rmX (Ev.evM Try.prog rmX (Ev.listQ rmQ) rmK rfL17 500) 17 [(.pointer (some ⟨4, 0, none⟩)), (.agg #[(.string ⟨#[108, 48, 56]⟩), (.int .i64 (.ofNat 1)), (.int .i64 (.ofNat 1)), (.int .i64 (.ofNat 1)), (.int .i64 (.ofNat 1)), (.int .i64 (.ofNat 0)), (.string ⟨#[]⟩), (.int .i64 (.ofNat 0))])] rfH211 207) ((.int .i64 (.ofNat 0)), rfH235, 232) = true := by kernel_rfl
noncomputable def rfL18 : List Ev.Entry := rfE18 :: rfL17
theorem rfT18 : Ev.TabOk Try.prog (Ev.listQ rmQ) rfL18 := .cons (Ev.entry_ok (by kernel_rfl) rmX_ok (Ev.listQ_ok rmQ_ok) rmK_ok rfT17 rfR18) rfT17
theorem rfR19 : Ev.comesTo (Ev.callOf Try.prog rmX (Ev.evM Try.prog rmX (Ev.listQ rmQ) rmK rfL18 500) 15 [(.pointer (some ⟨4, 0, none⟩)), (.string ⟨#[98, 48, 57]⟩), (.complex .f64 0 2)] rfH235 232) ((.int .i64 (.ofNat 0)), rfH237, 232) = true := by kernel_rfl
noncomputable def rfL19 : List Ev.Entry := rfE19 :: rfL18
theorem rfT19 : Ev.TabOk Try.prog (Ev.listQ rmQ) rfL19 := .cons (Ev.entry_ok (by kernel_rfl) rmX_ok (Ev.listQ_ok rmQ_ok) rmK_ok rfT18 rfR19) rfT18
theorem rfR20 : Ev.comesTo (Ev.callOf Try.prog rmX (Ev.evM Try.prog rmX (Ev.listQ rmQ) rmK rfL19 500) 17 [(.pointer (some ⟨4, 0, none⟩)), (.agg #[(.string ⟨#[108, 48, 57]⟩), (.int .i64 (.ofNat 1)), (.int .i64 (.ofNat 1)), (.int .i64 (.ofNat 1)), (.int .i64 (.ofNat 1)), (.int .i64 (.ofNat 0)), (.string ⟨#[]⟩), (.int .i64 (.ofNat 0))])] rfH237 232) ((.int .i64 (.ofNat 0)), rfH260, 257) = true := by kernel_rfl
noncomputable def rfL20 : List Ev.Entry := rfE20 :: rfL19
theorem rfT20 : Ev.TabOk Try.prog (Ev.listQ rmQ) rfL20 := .cons (Ev.entry_ok (by kernel_rfl) rmX_ok (Ev.listQ_ok rmQ_ok) rmK_ok rfT19 rfR20) rfT19
theorem rfR21 : Ev.comesTo (Ev.callOf Try.prog rmX (Ev.evM Try.prog rmX (Ev.listQ rmQ) rmK rfL20 500) 15 [(.pointer (some ⟨4, 0, none⟩)), (.string ⟨#[98, 49, 48]⟩), (.complex .f64 0 2)] rfH260 257) ((.int .i64 (.ofNat 0)), rfH262, 257) = true := by kernel_rfl
noncomputable def rfL21 : List Ev.Entry := rfE21 :: rfL20
theorem rfT21 : Ev.TabOk Try.prog (Ev.listQ rmQ) rfL21 := .cons (Ev.entry_ok (by kernel_rfl) rmX_ok (Ev.listQ_ok rmQ_ok) rmK_ok rfT20 rfR21) rfT20
theorem rfR22 : Ev.comesTo (Ev.callOf Try.prog rmX (Ev.evM Try.prog rmX (Ev.listQ rmQ) rmK rfL21 500) 17 [(.pointer (some ⟨4, 0, none⟩)), (.agg #[(.string ⟨#[108, 49, 48]⟩), (.int .i64 (.ofNat 1)), (.int .i64 (.ofNat 1)), (.int .i64 (.ofNat 1)), (.int .i64 (.ofNat 1)), (.int .i64 (.ofNat 0)), (.string ⟨#[]⟩), (.int .i64 (.ofNat 0))])] rfH262 257) ((.int .i64 (.ofNat 0)), rfH286, 282) = true := by kernel_rfl
noncomputable def rfL22 : List Ev.Entry := rfE22 :: rfL21
theorem rfT22 : Ev.TabOk Try.prog (Ev.listQ rmQ) rfL22 := .cons (Ev.entry_ok (by kernel_rfl) rmX_ok (Ev.listQ_ok rmQ_ok) rmK_ok rfT21 rfR22) rfT21
theorem rfR23 : Ev.comesTo (Ev.callOf Try.prog rmX (Ev.evM Try.prog rmX (Ev.listQ rmQ) rmK rfL22 500) 15 [(.pointer (some ⟨4, 0, none⟩)), (.string ⟨#[98, 49, 49]⟩), (.complex .f64 0 2)] rfH286 282) ((.int .i64 (.ofNat 0)), rfH288, 282) = true := by kernel_rfl
noncomputable def rfL23 : List Ev.Entry := rfE23 :: rfL22
theorem rfT23 : Ev.TabOk Try.prog (Ev.listQ rmQ) rfL23 := .cons (Ev.entry_ok (by kernel_rfl) rmX_ok (Ev.listQ_ok rmQ_ok) rmK_ok rfT22 rfR23) rfT22
end Go.Proofs.Ytaioaahacgfpcab
