/- The reference's Make, Opposite. -/
import Derived.Test.YtblaakjldpcjlaaDoorR17
import Derived.Test.YtblaakjldpcjlaaDoorR1
namespace Go.Proofs.YtblaakjldpcjlaaDoor
open Go.RowKit
set_option linter.unusedVariables false
set_option linter.unusedSimpArgs false

theorem ext0 (a b : Value) (W : World) : (Instr.extract (.tuple #[a, b]) 0).run Tryd.prog W = .ok a W := rfl
theorem BigR.drew {n : Nat} {w : World} {p : Option Addr} {l : List Int} {x : Int} (r : BigR n w p l x) : BigR n w.drew p l x := ⟨r.can, r.size, r.row⟩
theorem BigR.drewN {n : Nat} {w : World} {p : Option Addr} {l : List Int} {x : Int} (r : BigR n w p l x) (k : Nat) : BigR n (w.drewN k) p l x := ⟨r.can, r.size, r.row⟩

theorem Lowest_any {N : Nat} (p q : Option Addr) (c d : Nat) (l m : List Int) (X Y : Int) (w : World) (A : BigR N w p l X) (B : BigR N w q m Y) (hY : Y ≠ 0) (hN : N ≤ 80000) :
    Calls Tryd.prog 68 #[.agg #[.bool (decide (X < 0)), .slice p l.length c], .agg #[.bool (decide (Y < 0)), .slice q m.length d]] w (Res (IsFrac X Y) w) := by
  rcases (by omega : 0 < Y ∨ Y < 0) with h | h
  · exact Lowest_pos p q c d l m X Y w A B h hN
  · exact Lowest_neg p q c d l m X Y w A B h hN

end Go.Proofs.YtblaakjldpcjlaaDoor
