/- A closed run, its pieces from 0 on. -/
import Derived.Test.YtaioaahacgfpcaaRA0
import Derived.Test.YtaioaahacgfpcaaRM1
namespace Go.Proofs.Ytaioaahacgfpcaa
open Go.RowKit

theorem raR0 : Ev.comesTo (Ev.callOf Try.prog rmX (Ev.evM Try.prog rmX (Ev.listQ rmQ) (fun _ => false) [] 500) 16 [(.int .i64 (.ofNat 1))] .nil 0) ((.tuple #[(.pointer (some ⟨4, 0, none⟩)), (.int .i64 (.ofNat 0))]), raH0, 7) = true := by kernel_rfl
theorem raT0 : Ev.TabOk Try.prog (Ev.listQ rmQ) [raE0] := .cons (Ev.entry_ok (by kernel_rfl) rmX_ok (Ev.listQ_ok rmQ_ok) (.none _) (Ev.TabOk.nil _ _) raR0) (Ev.TabOk.nil _ _)
theorem raR1 : Ev.comesTo (Ev.callOf Try.prog rmX (Ev.evM Try.prog rmX (Ev.listQ rmQ) (fun _ => false) [raE0] 500) 34 [(.pointer (some ⟨4, 0, none⟩)), (.string ⟨#[97]⟩), (.int .i64 (.ofNat 1000000))] raH0 7) ((.int .i64 (.ofNat 0)), raH1, 7) = true := by kernel_rfl
theorem raT1 : Ev.TabOk Try.prog (Ev.listQ rmQ) [raE1, raE0] := .cons (Ev.entry_ok (by kernel_rfl) rmX_ok (Ev.listQ_ok rmQ_ok) (.none _) raT0 raR1) raT0
theorem raR2 : Ev.comesTo (Ev.callOf Try.prog rmX (Ev.evM Try.prog rmX (Ev.listQ rmQ) (fun _ => false) [raE1, raE0] 500) 34 [(.pointer (some ⟨4, 0, none⟩)), (.string ⟨#[98]⟩), (.int .i64 (.ofNat 1000000))] raH1 7) ((.int .i64 (.ofNat 0)), raH2, 7) = true := by kernel_rfl
theorem raT2 : Ev.TabOk Try.prog (Ev.listQ rmQ) [raE2, raE1, raE0] := .cons (Ev.entry_ok (by kernel_rfl) rmX_ok (Ev.listQ_ok rmQ_ok) (.none _) raT1 raR2) raT1
theorem raR3 : Ev.comesTo (Ev.callOf Try.prog rmX (Ev.evM Try.prog rmX (Ev.listQ rmQ) (fun _ => false) [raE2, raE1, raE0] 500) 35 [(.pointer (some ⟨4, 0, none⟩)), (.agg #[(.string ⟨#[108]⟩), (.int .i64 (.ofNat 1)), (.int .i64 (.ofNat 2)), (.int .i64 (.ofNat 400)), (.int .i64 (.ofNat 600)), (.int .i64 (.ofNat 0)), (.string ⟨#[]⟩), (.int .i64 (.ofNat 0))])] raH2 7) ((.int .i64 (.ofNat 0)), raH3, 32) = true := by kernel_rfl
theorem raT3 : Ev.TabOk Try.prog (Ev.listQ rmQ) [raE3, raE2, raE1, raE0] := .cons (Ev.entry_ok (by kernel_rfl) rmX_ok (Ev.listQ_ok rmQ_ok) (.none _) raT2 raR3) raT2
theorem raR4 : Ev.comesTo (Ev.callOf Try.prog rmX (Ev.evM Try.prog rmX (Ev.listQ rmQ) (fun _ => false) [raE3, raE2, raE1, raE0] 500) 107 [(.slice none 0 0), (.func (.func 108) #[] #[(.pointer (some ⟨32, 0, none⟩))])] raH4 33) ((.slice none 0 0), raH4, 33) = true := by kernel_rfl
theorem raT4 : Ev.TabOk Try.prog (Ev.listQ rmQ) [raE4, raE3, raE2, raE1, raE0] := .cons (Ev.entry_ok (by kernel_rfl) rmX_ok (Ev.listQ_ok rmQ_ok) (.none _) raT3 raR4) raT3
theorem raR5 : Ev.comesTo (Ev.callOf Try.prog rmX (Ev.evM Try.prog rmX (Ev.listQ rmQ) (fun _ => false) [raE4, raE3, raE2, raE1, raE0] 500) 109 [(.slice (some ⟨42, 0, none⟩) 1 4), (.func (.func 110) #[] #[])] raH5 46) ((.tuple #[]), raH5, 46) = true := by kernel_rfl
theorem raT5 : Ev.TabOk Try.prog (Ev.listQ rmQ) [raE5, raE4, raE3, raE2, raE1, raE0] := .cons (Ev.entry_ok (by kernel_rfl) rmX_ok (Ev.listQ_ok rmQ_ok) (.none _) raT4 raR5) raT4
theorem raR6 : Ev.comesTo (Ev.callOf Try.prog rmX (Ev.evM Try.prog rmX (Ev.listQ rmQ) (fun _ => false) [raE5, raE4, raE3, raE2, raE1, raE0] 500) 79 [(.pointer (some ⟨27, 0, none⟩)), (.string ⟨#[97]⟩), (.int .i64 (.ofNat 700))] raH3 32) ((.tuple #[]), raH5, 46) = true := by kernel_rfl
theorem raT6 : Ev.TabOk Try.prog (Ev.listQ rmQ) [raE6, raE5, raE4, raE3, raE2, raE1, raE0] := .cons (Ev.entry_ok (by kernel_rfl) rmX_ok (Ev.listQ_ok rmQ_ok) (.none _) raT5 raR6) raT5
theorem raR7 : Ev.comesTo (Ev.callOf Try.prog rmX (Ev.evM Try.prog rmX (Ev.listQ rmQ) (fun _ => false) [raE6, raE5, raE4, raE3, raE2, raE1, raE0] 500) 36 [(.pointer (some ⟨4, 0, none⟩)), (.string ⟨#[97]⟩), (.string ⟨#[108]⟩), (.int .i64 (.ofNat 700))] raH3 32) ((.int .i64 (.ofNat 0)), raH5, 46) = true := by kernel_rfl
theorem raT7 : Ev.TabOk Try.prog (Ev.listQ rmQ) [raE7, raE6, raE5, raE4, raE3, raE2, raE1, raE0] := .cons (Ev.entry_ok (by kernel_rfl) rmX_ok (Ev.listQ_ok rmQ_ok) (.none _) raT6 raR7) raT6
end Go.Proofs.Ytaioaahacgfpcaa
