/- The laws' before and distance. -/
import Derived.Test.YtblaakjldpcjlaaDoorR19
namespace Go.Proofs.YtblaakjldpcjlaaDoor
open Go.RowKit
set_option linter.unusedVariables false
set_option linter.unusedSimpArgs false

structure Keep (w v : World) : Prop where
  bel : Below w.heap.size w v
theorem Keep.below {w v v' : World} (h : Keep w v) (hb : Below v.heap.size v v') : Keep w v' := ⟨h.bel.trans (hb.mono h.bel.size)⟩
theorem cmpZ_lt (x y : Int) : decide (cmpZ x y < 0) = decide (x < y) := by
  rw [Bool.eq_iff_iff]; simp only [decide_eq_true_eq]; unfold cmpZ; split
  · omega
  · split <;> omega
theorem cmpZ_le0 (x y : Int) : decide (cmpZ x y ≤ 0) = decide (x ≤ y) := by
  rw [Bool.eq_iff_iff]; simp only [decide_eq_true_eq]; unfold cmpZ; split
  · omega
  · split <;> omega

theorem BigS.grow {n : Nat} {x : Int} {s : Bool} {w w' w'' : World} {e : Ending} (h : BigS n x s w e w') (hb : Below w'.heap.size w' w'') : BigS n x s w e w'' := by
  obtain ⟨p, l, c, rfl, R, hf, h2⟩ := h
  exact ⟨p, l, c, rfl, R.below hb, hf, h2.trans (hb.mono h2.size)⟩
theorem neg_s {n : Nat} (x : Int) (s u : Bool) (hs : s = decide (x < 0)) (hu : u = decide (-x < 0)) (p : Option Addr) (c : Nat) (l : List Int) (w : World) (A : BigR n w p l x) (hn : n ≤ 1000000) :
    Calls Tryd.prog 47 #[.agg #[.bool s, .slice p l.length c]] w (BigS n (-x) u w) := by
  subst hs
  exact (Neg_any p c l x w A hn).mono fun _ _ h => h.s hu

end Go.Proofs.YtblaakjldpcjlaaDoor
