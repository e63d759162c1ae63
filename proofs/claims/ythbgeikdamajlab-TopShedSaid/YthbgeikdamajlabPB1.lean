/- A closed run, its pieces from 0 on. -/
import Derived.Test.YthbgeikdamajlabPB0
namespace Go.Proofs.Ythbgeikdamajlab
open Go.RowKit

theorem pbR0 : Ev.comesTo (Ev.callOf Try.prog paX (Ev.evM Try.prog paX ((Ev.listQ paQ)) (fun _ => false) [] 500) 21 [(.slice (some ⟨3, 0, none⟩) 3 7)] pbH2 12) ((.tuple #[(.slice (some ⟨29, 0, none⟩) 3 7), (.int .i64 (.ofNat 9)), (.int .i64 (.ofNat 0))]), pbH21, 40) = true := by kernel_rfl
noncomputable def pbL0 : List Ev.Entry := pbE0 :: []
theorem pbT0 : Ev.TabOk Try.prog ((Ev.listQ paQ)) pbL0 := .cons (Ev.entry_ok (by kernel_rfl) paX_ok ((Ev.listQ_ok paQ_ok)) (.none _) (Ev.TabOk.nil _ _) pbR0) (Ev.TabOk.nil _ _)
end Go.Proofs.Ythbgeikdamajlab
