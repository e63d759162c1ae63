/- Flow, plain: the search for a blend. -/
import Derived.Test.YtapffmaihkimkaaB0
namespace Go.Proofs.Ytapffmaihkimkaa.Bl
set_option linter.unusedVariables false
set_option linter.unusedSimpArgs false

/-- The best so far: what is taken of each parcel, and what it costs. -/
abbrev Best := Option (List Int × Int)
/-- All numbers from k down to 0, in this order. -/
def down (f : Nat → Best → Best) : Nat → Best → Best
  | 0, s => f 0 s
  | k + 1, s => down f k (f (k + 1) s)
/-- Those from k down to a. -/
def downTo (f : Nat → Best → Best) (a : Nat) : Nat → Best → Best
  | 0, s => if a = 0 then f 0 s else s
  | k + 1, s => if a ≤ k + 1 then downTo f a k (f (k + 1) s) else s
theorem down_idle {f : Nat → Best → Best} : ∀ {k : Nat}, (∀ j, j ≤ k → ∀ s, f j s = s) → ∀ s, down f k s = s
  | 0, h, s => h 0 (Nat.le_refl _) s
  | k + 1, h, s => by
    show down f k (f (k + 1) s) = s
    rw [h (k + 1) (Nat.le_refl _)]
    exact down_idle (fun j hj => h j (by omega)) s
theorem downTo_eq {f : Nat → Best → Best} {a : Nat} : ∀ {k : Nat}, (∀ j, j < a → ∀ s, f j s = s) → ∀ s, downTo f a k s = down f k s
  | 0, h, s => by
    unfold downTo down
    split
    · rfl
    · rw [h 0 (by omega)]
  | k + 1, h, s => by
    unfold downTo
    show _ = down f k (f (k + 1) s)
    split
    · exact downTo_eq h _
    · rename_i c
      rw [h (k + 1) (by omega)]
      exact (down_idle (fun j hj => h j (by omega)) s).symm
theorem down_congr {f g : Nat → Best → Best} : ∀ {k : Nat}, (∀ j, j ≤ k → ∀ s, f j s = g j s) → ∀ s, down f k s = down g k s
  | 0, h, s => h 0 (Nat.le_refl _) s
  | k + 1, h, s => by
    show down f k (f (k + 1) s) = down g k (g (k + 1) s)
    rw [h (k + 1) (Nat.le_refl _)]
    exact down_congr (fun j hj => h j (by omega)) _
/-- Sums of what is taken by a number of each parcel. -/
def dot (w : Nat → Int) : Nat → List Int → Int
  | _, [] => 0
  | i, y :: ys => y * w i + dot w (i + 1) ys
theorem dot_snoc (w : Nat → Int) (y : Int) : ∀ (i : Nat) (ys : List Int), dot w i (ys ++ [y]) = dot w i ys + y * w (i + ys.length)
  | i, [] => by simp [dot]
  | i, x :: ys => by
    show x * w i + dot w (i + 1) (ys ++ [y]) = x * w i + dot w (i + 1) ys + y * w (i + (ys.length + 1))
    rw [dot_snoc w y (i + 1) ys, show i + 1 + ys.length = i + (ys.length + 1) by omega]
    omega
/-- All are taken: is it a blend, and is it the best so far? -/
def fin (mi pr : Nat → Int) (lo hi : Int) (left : Int) (ys : List Int) (s : Best) : Best :=
  if left = 0 ∧ lo ≤ dot mi 0 ys ∧ dot mi 0 ys ≤ hi ∧ (∀ b, s = some b → dot pr 0 ys < b.2) then some (ys, dot pr 0 ys) else s
/-- The search: d parcels are left. -/
def sea (ba mi pr : Nat → Int) (lo hi : Int) : Nat → Int → List Int → Best → Best
  | 0, left, ys, s => fin mi pr lo hi left ys s
  | d + 1, left, ys, s => down (fun k s => sea ba mi pr lo hi d (left - k) (ys ++ [(k : Int)]) s) (min left (ba ys.length)).toNat s
/-- How many bales there are from a parcel on. -/
def beh (ba : Nat → Int) (n : Nat) : Nat → Int
  | 0 => 0
  | d + 1 => beh ba n d + ba (n - (d + 1))
theorem sea_idle {ba mi pr : Nat → Int} {lo hi : Int} {n : Nat} (b0 : ∀ j, 0 ≤ ba j) : ∀ {d : Nat} {left : Int} {ys : List Int}, ys.length + d = n → beh ba n d < left → ∀ s, sea ba mi pr lo hi d left ys s = s
  | 0, left, ys, hl, hb, s => by
    show fin mi pr lo hi left ys s = s
    unfold fin
    rw [if_neg]
    intro h
    have : beh ba n 0 = 0 := rfl
    omega
  | d + 1, left, ys, hl, hb, s => by
    have e : beh ba n (d + 1) = beh ba n d + ba (n - (d + 1)) := rfl
    rw [show n - (d + 1) = ys.length by omega] at e
    refine down_idle (fun k hk s => ?_) s
    have := b0 ys.length
    exact sea_idle (left := left - (k : Int)) (ys := ys ++ [(k : Int)]) (n := n) b0 (by simp; omega) (by omega) s
/-- What is taken where it can be enough is all that is needed. -/
theorem sea_cut {ba mi pr : Nat → Int} {lo hi : Int} {n d : Nat} {left : Int} {ys : List Int} (b0 : ∀ j, 0 ≤ ba j) (hl : ys.length + (d + 1) = n) (l0 : 0 ≤ left) (s : Best) :
    downTo (fun k s => sea ba mi pr lo hi d (left - k) (ys ++ [(k : Int)]) s) (max 0 (left - beh ba n d)).toNat (min left (ba ys.length)).toNat s = sea ba mi pr lo hi (d + 1) left ys s := by
  exact downTo_eq (fun j hj s => sea_idle (left := left - (j : Int)) (ys := ys ++ [(j : Int)]) b0 (n := n) (by simp; omega) (by omega) s) s
/-- Where the best stands. -/
theorem fin_some {mi pr : Nat → Int} {lo hi left : Int} {ys : List Int} {s : Best} (h1 : left = 0) (h2 : lo ≤ dot mi 0 ys) (h3 : dot mi 0 ys ≤ hi) (h4 : ∀ b, s = some b → dot pr 0 ys < b.2) : fin mi pr lo hi left ys s = some (ys, dot pr 0 ys) := by
  unfold fin; rw [if_pos ⟨h1, h2, h3, h4⟩]
theorem fin_keep {mi pr : Nat → Int} {lo hi left : Int} {ys : List Int} {s : Best} (h : ¬ (left = 0 ∧ lo ≤ dot mi 0 ys ∧ dot mi 0 ys ≤ hi ∧ (∀ b, s = some b → dot pr 0 ys < b.2))) : fin mi pr lo hi left ys s = s := by
  unfold fin; rw [if_neg h]
end Go.Proofs.Ytapffmaihkimkaa.Bl
