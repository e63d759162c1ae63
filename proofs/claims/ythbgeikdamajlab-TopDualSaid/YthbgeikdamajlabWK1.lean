/- A closed run, its pieces from 0 on. -/
import Derived.Test.YthbgeikdamajlabWK0
namespace Go.Proofs.Ythbgeikdamajlab
open Go.RowKit

theorem wkR0 : Ev.comesTo (Ev.callOf Try.prog wkX (Ev.evM Try.prog wkX ((Ev.listQ wkQ)) (fun _ => false) [] 500) 14 [(.slice (some ⟨0, 0, none⟩) 5 11), (.int .i64 (.ofNat 2))] wkH1 9) ((.tuple #[(.slice (some ⟨16, 0, none⟩) 5 11), (.int .i64 (.ofNat 6)), (.int .i64 (.ofNat 0))]), wkH2, 28) = true := by kernel_rfl
noncomputable def wkL0 : List Ev.Entry := wkE0 :: []
theorem wkT0 : Ev.TabOk Try.prog ((Ev.listQ wkQ)) wkL0 := .cons (Ev.entry_ok (by kernel_rfl) wkX_ok ((Ev.listQ_ok wkQ_ok)) (.none _) (Ev.TabOk.nil _ _) wkR0) (Ev.TabOk.nil _ _)
end Go.Proofs.Ythbgeikdamajlab
