/- The closed example of the shed. -/
import Derived.Test.YthbgeikdamajlabEV16
import Derived.Test.YthbgeikdamajlabProg
/- What the run of the shed's closed example asks of the functions: which only look. -/
namespace Go.Proofs.Ythbgeikdamajlab
open Go.RowKit

def wkX (f : Nat) : Bool := false
theorem wkX_ok : Ev.ExtOk Try.prog wkX := Ev.ExtOk.none _
def wkQ : List Nat := [12, 19, 23, 26, 27, 28, 31, 33, 34, 35, 38, 41, 45, 47, 49, 51, 60, 63, 64, 68]
theorem wkQ_ok : wkQ.all (Ev.quietFn Try.prog (Ev.listQ wkQ)) = true := by kernel_rfl
end Go.Proofs.Ythbgeikdamajlab

/- A closed run: the memory between its pieces. -/
namespace Go.Proofs.Ythbgeikdamajlab
open Go.RowKit

noncomputable def wkH0 : Ev.Tr Ev.Blk := (.node (.node (.node (.node (.node (.node (.node (.leaf 0 ⟨3, (.node (.node (.node (.node (.node (.node (.node (.node (.node (.leaf 0 (.int .i64 (.ofNat 3))) .nil) .nil) .nil) .nil) .nil) .nil) (.node (.node (.node (.node (.node (.node (.leaf 4 (.int .i64 (.ofNat 2))) .nil) .nil) .nil) .nil) .nil) .nil)) (.node (.node (.node (.node (.node (.node (.node (.leaf 2 (.int .i64 (.ofNat 2))) .nil) .nil) .nil) .nil) .nil) .nil) .nil)) (.node (.node (.node (.node (.node (.node (.node (.node (.leaf 1 (.int .i64 (.ofNat 3))) .nil) .nil) .nil) .nil) .nil) .nil) .nil) (.node (.node (.node (.node (.node (.node (.node (.leaf 3 (.int .i64 (.ofNat 2))) .nil) .nil) .nil) .nil) .nil) .nil) .nil))), 5, true, false, none, false⟩) .nil) .nil) .nil) .nil) .nil) .nil) .nil)
noncomputable def wkH1 : Ev.Tr Ev.Blk := (.node (.node (.node (.node (.node wkH0 .nil) .nil) .nil) .nil) .nil)
noncomputable def wkH2 : Ev.Tr Ev.Blk := (.node (.node (.node (.node (.node wkH0 (.node (.node (.node (.node (.node (.node (.node (.leaf 16 ⟨3, (.node (.node (.node (.node (.node (.node (.node (.node (.node (.leaf 0 (.int .i64 (.ofNat 0))) .nil) .nil) .nil) .nil) .nil) .nil) (.node (.node (.node (.node (.node (.node (.leaf 4 (.int .i64 (.ofNat 1))) .nil) .nil) .nil) .nil) .nil) .nil)) (.node (.node (.node (.node (.node (.node (.node (.leaf 2 (.int .i64 (.ofNat 1))) .nil) .nil) .nil) .nil) .nil) .nil) .nil)) (.node (.node (.node (.node (.node (.node (.node (.node (.leaf 1 (.int .i64 (.ofNat 0))) .nil) .nil) .nil) .nil) .nil) .nil) .nil) (.node (.node (.node (.node (.node (.node (.node (.leaf 3 (.int .i64 (.ofNat 1))) .nil) .nil) .nil) .nil) .nil) .nil) .nil))), 5, true, false, none, false⟩) .nil) .nil) .nil) .nil) .nil) .nil) .nil)) (.node .nil (.node (.node (.node (.node (.node (.node (.node (.leaf 24 ⟨25, (.node (.node (.node (.node (.node (.node (.node (.node (.node (.leaf 0 (.slice (some ⟨23, 0, none⟩) 5 11)) .nil) .nil) .nil) .nil) .nil) .nil) .nil) .nil) .nil), 1, true, false, none, false⟩) .nil) .nil) .nil) .nil) .nil) .nil) .nil))) .nil) (.node (.node (.node .nil (.node (.node (.node (.node (.node (.node (.node (.leaf 18 ⟨3, (.node (.node (.node (.node (.node (.node (.node (.node (.node (.leaf 0 (.int .i64 (.ofNat 6))) .nil) .nil) .nil) .nil) .nil) .nil) .nil) .nil) .nil), 1, true, false, none, false⟩) .nil) .nil) .nil) .nil) .nil) .nil) .nil)) (.node (.node (.node (.node (.node (.node (.node (.node (.leaf 10 ⟨3, (.node (.node (.node (.node (.node (.node (.node (.node (.node (.leaf 0 (.int .i64 (.ofNat 2))) .nil) .nil) .nil) .nil) .nil) .nil) .nil) .nil) .nil), 1, true, false, none, false⟩) .nil) .nil) .nil) .nil) .nil) .nil) .nil) (.node (.node (.node (.node (.node (.node (.node (.leaf 26 ⟨60, (.node (.node (.node (.node (.node (.node (.node (.node (.node (.leaf 0 (.int .i64 (.ofNat 0))) .nil) .nil) .nil) .nil) .nil) .nil) .nil) (.node (.node (.node (.node (.node (.node (.node (.leaf 2 (.int .i64 (.ofNat 0))) .nil) .nil) .nil) .nil) .nil) .nil) .nil)) (.node (.node (.node (.node (.node (.node (.node (.node (.leaf 1 (.int .i64 (.ofNat 0))) .nil) .nil) .nil) .nil) .nil) .nil) .nil) (.node (.node (.node (.node (.node (.node (.node (.leaf 3 (.int .i64 (.ofNat 0))) .nil) .nil) .nil) .nil) .nil) .nil) .nil))), 4, true, false, none, false⟩) .nil) .nil) .nil) .nil) .nil) .nil) .nil))) .nil)) (.node (.node (.node (.node .nil (.node (.node (.node (.node (.node (.node (.node (.leaf 17 ⟨25, (.node (.node (.node (.node (.node (.node (.node (.node (.node (.leaf 0 (.slice (some ⟨16, 0, none⟩) 5 11)) .nil) .nil) .nil) .nil) .nil) .nil) .nil) .nil) .nil), 1, true, false, none, false⟩) .nil) .nil) .nil) .nil) .nil) .nil) .nil)) (.node (.node (.node (.node (.node (.node (.node (.node (.leaf 9 ⟨25, (.node (.node (.node (.node (.node (.node (.node (.node (.node (.leaf 0 (.slice (some ⟨0, 0, none⟩) 5 11)) .nil) .nil) .nil) .nil) .nil) .nil) .nil) .nil) .nil), 1, true, false, none, false⟩) .nil) .nil) .nil) .nil) .nil) .nil) .nil) .nil)) .nil) (.node (.node .nil (.node .nil (.node (.node (.node (.node (.node (.node (.node (.leaf 27 ⟨61, (.node (.node (.node (.node (.node (.node (.node (.node (.node (.leaf 0 (.func (.func 32) #[] #[(.pointer (some ⟨18, 0, none⟩)), (.pointer (some ⟨9, 0, none⟩)), (.pointer (some ⟨17, 0, none⟩)), (.pointer (some ⟨24, 0, none⟩)), (.pointer (some ⟨10, 0, none⟩)), (.pointer (some ⟨26, 0, none⟩)), (.pointer (some ⟨27, 0, none⟩))])) .nil) .nil) .nil) .nil) .nil) .nil) .nil) .nil) .nil), 1, true, false, none, false⟩) .nil) .nil) .nil) .nil) .nil) .nil) .nil))) (.node (.node .nil (.node (.node (.node (.node (.node (.node (.node (.leaf 23 ⟨3, (.node (.node (.node (.node (.node (.node (.node (.node (.node (.leaf 0 (.int .i64 (.ofNat 0))) .nil) .nil) .nil) .nil) .nil) .nil) (.node (.node (.node (.node (.node (.node (.leaf 4 (.int .i64 (.ofNat 0))) .nil) .nil) .nil) .nil) .nil) .nil)) (.node (.node (.node (.node (.node (.node (.node (.leaf 2 (.int .i64 (.ofNat 0))) .nil) .nil) .nil) .nil) .nil) .nil) .nil)) (.node (.node (.node (.node (.node (.node (.node (.node (.leaf 1 (.int .i64 (.ofNat 1))) .nil) .nil) .nil) .nil) .nil) .nil) .nil) (.node (.node (.node (.node (.node (.node (.node (.leaf 3 (.int .i64 (.ofNat 1))) .nil) .nil) .nil) .nil) .nil) .nil) .nil))), 5, true, false, none, false⟩) .nil) .nil) .nil) .nil) .nil) .nil) .nil)) .nil))))
noncomputable def wkE0 : Ev.Entry := ⟨14, [(.slice (some ⟨0, 0, none⟩) 5 11), (.int .i64 (.ofNat 2))], wkH1, 9, [((.tuple #[(.slice (some ⟨16, 0, none⟩) 5 11), (.int .i64 (.ofNat 6)), (.int .i64 (.ofNat 0))]), wkH2, 28)]⟩
end Go.Proofs.Ythbgeikdamajlab

/- A closed run, its pieces from 0 on. -/
namespace Go.Proofs.Ythbgeikdamajlab
open Go.RowKit

theorem wkR0 : Ev.comesTo (Ev.callOf Try.prog wkX (Ev.evM Try.prog wkX ((Ev.listQ wkQ)) (fun _ => false) [] 500) 14 [(.slice (some ⟨0, 0, none⟩) 5 11), (.int .i64 (.ofNat 2))] wkH1 9) ((.tuple #[(.slice (some ⟨16, 0, none⟩) 5 11), (.int .i64 (.ofNat 6)), (.int .i64 (.ofNat 0))]), wkH2, 28) = true := by kernel_rfl
noncomputable def wkL0 : List Ev.Entry := wkE0 :: []
theorem wkT0 : Ev.TabOk Try.prog ((Ev.listQ wkQ)) wkL0 := .cons (Ev.entry_ok (by kernel_rfl) wkX_ok ((Ev.listQ_ok wkQ_ok)) (.none _) (Ev.TabOk.nil _ _) wkR0) (Ev.TabOk.nil _ _)
end Go.Proofs.Ythbgeikdamajlab

/- The closed example that every statement of the layer asks: it answers true, whatever the memory. -/
namespace Go.Proofs.Ythbgeikdamajlab
open Go.RowKit

theorem worked_run : Ev.allTrue (Ev.callOf Try.prog wkX (Ev.evM Try.prog wkX ((Ev.listQ wkQ)) (fun _ => false) wkL0 500) 20 [] .nil 0) = true := by kernel_rfl
theorem worked_any (w : World) : Calls Try.prog 20 #[] w fun e w' => e = .returned (.bool true) ∧ Below w.heap.size w w' :=
  Ev.closedM_true (by kernel_rfl) wkX_ok ((Ev.listQ_ok wkQ_ok)) (.none _) wkT0 (args := []) rfl worked_run ⟨_, _, Try.func20, by kernel_rfl, rfl⟩ w
end Go.Proofs.Ythbgeikdamajlab
