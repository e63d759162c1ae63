/- A closed run, its pieces from 1 on. -/
import Derived.Test.YthbgeikdamajlabPB1
namespace Go.Proofs.Ythbgeikdamajlab
open Go.RowKit

theorem pbR1 : Ev.comesTo (Ev.callOf Try.prog paX (Ev.evM Try.prog paX ((Ev.listQ paQ)) (fun _ => false) pbL0 500) 17 [(.slice (some ⟨40, 0, none⟩) 5 11), (.int .i64 (.ofNat 10)), (.int .i64 (.ofNat 2))] pbH23 49) ((.tuple #[(.slice (some ⟨57, 0, none⟩) 5 11), (.int .i64 (.ofNat 3)), (.int .i64 (.ofNat 0))]), pbH30, 266) = true := by kernel_rfl
noncomputable def pbL1 : List Ev.Entry := pbE1 :: pbL0
theorem pbT1 : Ev.TabOk Try.prog ((Ev.listQ paQ)) pbL1 := .cons (Ev.entry_ok (by kernel_rfl) paX_ok ((Ev.listQ_ok paQ_ok)) (.none _) pbT0 pbR1) pbT0
end Go.Proofs.Ythbgeikdamajlab
