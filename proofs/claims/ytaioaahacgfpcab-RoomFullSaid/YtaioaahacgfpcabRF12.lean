/- A closed run, its pieces from 132 on. -/
import Derived.Test.YtaioaahacgfpcabRF11
namespace Go.Proofs.Ytaioaahacgfpcab
open Go.RowKit

theorem rfR132 : Ev.comesTo (Ev.callOf Try.prog rmX (Ev.evM Try.prog rmX (Ev.listQ rmQ) rmK rfL131 500) 17 [(.pointer (some ⟨4, 0, none⟩)), (.agg #[(.string ⟨#[109, 111, 114, 101]⟩), (.int .i64 (.ofNat 1)), (.int .i64 (.ofNat 1)), (.int .i64 (.ofNat 1)), (.int .i64 (.ofNat 1)), (.int .i64 (.ofNat 0)), (.string ⟨#[]⟩), (.int .i64 (.ofNat 0))])] rfH1329 2119) ((.int .i64 (.ofNat 9)), rfH1330, 2121) = true := by kernel_rfl
noncomputable def rfL132 : List Ev.Entry := rfE132 :: rfL131
theorem rfT132 : Ev.TabOk Try.prog (Ev.listQ rmQ) rfL132 := .cons (Ev.entry_ok (by kernel_rfl) rmX_ok (Ev.listQ_ok rmQ_ok) rmK_ok rfT131 rfR132) rfT131
end Go.Proofs.Ytaioaahacgfpcab
