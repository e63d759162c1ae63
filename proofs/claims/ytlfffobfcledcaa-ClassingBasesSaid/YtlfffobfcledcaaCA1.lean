/- A closed run, its pieces from 0 on. -/
import Derived.Test.YtlfffobfcledcaaCA0
namespace Go.Proofs.Ytlfffobfcledcaa
open Go.RowKit

theorem caR0 : Ev.comesTo (Ev.callOf Try.prog clX (Ev.evM Try.prog clX (Ev.listQ clQ) (fun _ => false) [] 500) 16 [(.int .i64 (.ofNat 1)), (.int .i64 (.ofNat 600)), (.int .i64 (.ofNat 20)), (.int .i64 (.ofNat 1000))] .nil 0) ((.tuple #[(.int .i64 (.ofNat 7402)), (.int .i64 (.ofNat 0))]), .nil, 0) = true := by kernel_rfl
noncomputable def caL0 : List Ev.Entry := caE0 :: []
theorem caT0 : Ev.TabOk Try.prog (Ev.listQ clQ) caL0 := .cons (Ev.entry_ok (by kernel_rfl) clX_ok (Ev.listQ_ok clQ_ok) (.none _) (Ev.TabOk.nil _ _) caR0) (Ev.TabOk.nil _ _)
theorem caR1 : Ev.comesTo (Ev.callOf Try.prog clX (Ev.evM Try.prog clX (Ev.listQ clQ) (fun _ => false) caL0 500) 60 [(.slice (some ⟨3, 0, none⟩) 3 7), (.agg #[(.int .i64 (.ofNat 2)), (.int .i64 (.ofNat 0)), (.int .i64 (.ofNat 10000))])] caH10 17) ((.int .i64 (.ofNat 0)), caH22, 31) = true := by kernel_rfl
noncomputable def caL1 : List Ev.Entry := caE1 :: caL0
theorem caT1 : Ev.TabOk Try.prog (Ev.listQ clQ) caL1 := .cons (Ev.entry_ok (by kernel_rfl) clX_ok (Ev.listQ_ok clQ_ok) (.none _) caT0 caR1) caT0
theorem caR2 : Ev.comesTo (Ev.callOf Try.prog clX (Ev.evM Try.prog clX (Ev.listQ clQ) (fun _ => false) caL1 500) 82 [(.slice (some ⟨41, 0, none⟩) 3 7), (.func (.func 87) #[] #[(.pointer (some ⟨36, 0, none⟩))])] caH41 49) ((.tuple #[]), caH64, 99) = true := by kernel_rfl
noncomputable def caL2 : List Ev.Entry := caE2 :: caL1
theorem caT2 : Ev.TabOk Try.prog (Ev.listQ clQ) caL2 := .cons (Ev.entry_ok (by kernel_rfl) clX_ok (Ev.listQ_ok clQ_ok) (.none _) caT1 caR2) caT1
theorem caR3 : Ev.comesTo (Ev.callOf Try.prog clX (Ev.evM Try.prog clX (Ev.listQ clQ) (fun _ => false) caL2 500) 90 [(.slice (some ⟨43, 0, none⟩) 1 7), (.agg #[(.int .i64 (.ofNat 2)), (.int .i64 (.ofNat 0)), (.int .i64 (.ofNat 10000))])] caH72 107) ((.int .i64 (.ofNat 0)), caH88, 134) = true := by kernel_rfl
noncomputable def caL3 : List Ev.Entry := caE3 :: caL2
theorem caT3 : Ev.TabOk Try.prog (Ev.listQ clQ) caL3 := .cons (Ev.entry_ok (by kernel_rfl) clX_ok (Ev.listQ_ok clQ_ok) (.none _) caT2 caR3) caT2
end Go.Proofs.Ytlfffobfcledcaa
