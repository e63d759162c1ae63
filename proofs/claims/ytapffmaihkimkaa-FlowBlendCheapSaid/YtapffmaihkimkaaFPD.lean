/- Flow: the blend that the search finds is cheapest and foremost. -/
import Derived.Test.YtapffmaihkimkaaFPC
namespace Go.Proofs.Ytapffmaihkimkaa
open Go.RowKit
set_option linter.unusedVariables false
set_option linter.unusedSimpArgs false

theorem nm_cons0 (y : Int) (ys : List Int) : nm (y :: ys) 0 = y := rfl
theorem nm_consS (y : Int) (ys : List Int) (j : Nat) : nm (y :: ys) (j + 1) = nm ys j := rfl
theorem dot_one : ∀ (i : Nat) (ys : List Int), Bl.dot (fun _ => 1) i ys = ys.sum
  | _, [] => rfl
  | i, y :: ys => by
    show y * 1 + Bl.dot (fun _ => 1) (i + 1) ys = (y :: ys).sum
    rw [dot_one (i + 1) ys, Int.mul_one, List.sum_cons]
theorem sum_pos : ∀ (ys : List Int), (∀ j, j < ys.length → 0 ≤ nm ys j) → 0 ≤ ys.sum
  | [], _ => Int.le_refl _
  | y :: ys, h => by
    rw [List.sum_cons]
    have h0 := h 0 (by simp)
    rw [nm_cons0] at h0
    have h1 := sum_pos ys fun j hj => by have := h (j + 1) (by simpa using hj); rwa [nm_consS] at this
    omega
theorem of_way {ba : Nat → Int} : ∀ {d : Nat} {left : Int} {i : Nat} {zs : List Int}, Bl.Way ba d left i zs → zs.length = d ∧ (∀ j, j < d → 0 ≤ nm zs j ∧ nm zs j ≤ ba (i + j)) ∧ zs.sum = left
  | 0, left, i, [], h => ⟨rfl, fun j hj => absurd hj (Nat.not_lt_zero j), Eq.symm h⟩
  | d + 1, left, i, z :: zs, h => by
    obtain ⟨⟨h1, h2, h3⟩, h4⟩ := h
    obtain ⟨g1, g2, g3⟩ := of_way h4
    refine ⟨by simp [g1], fun j hj => ?_, by rw [List.sum_cons, g3]; omega⟩
    cases j with
    | zero => exact ⟨h1, h3⟩
    | succ j =>
      rw [nm_consS, show i + (j + 1) = i + 1 + j by omega]
      exact g2 j (by omega)
theorem to_way {ba : Nat → Int} : ∀ {d : Nat} {left : Int} {i : Nat} {zs : List Int}, zs.length = d → (∀ j, j < d → 0 ≤ nm zs j ∧ nm zs j ≤ ba (i + j)) → zs.sum = left → Bl.Way ba d left i zs
  | 0, left, i, [], h, _, h3 => Eq.symm h3
  | d + 1, left, i, z :: zs, h, h2, h3 => by
    have hl : zs.length = d := by simpa using h
    have h0 := h2 0 (by omega)
    rw [nm_cons0] at h0
    have hs : ∀ j, j < d → 0 ≤ nm zs j ∧ nm zs j ≤ ba (i + 1 + j) := fun j hj => by
      have := h2 (j + 1) (by omega)
      rw [nm_consS, show i + (j + 1) = i + 1 + j by omega] at this
      exact this
    have hp := sum_pos zs fun j hj => (hs j (by omega)).1
    rw [List.sum_cons] at h3
    exact ⟨⟨h0.1, by omega, h0.2⟩, to_way hl hs (by omega)⟩
theorem ahead_at : ∀ {xs zs : List Int}, Bl.Ahead xs zs → ∃ i, i < xs.length ∧ (∀ j, j < i → nm xs j = nm zs j) ∧ nm zs i < nm xs i
  | x :: xs, z :: zs, h => by
    rcases h with h | ⟨rfl, h⟩
    · exact ⟨0, by simp, fun j hj => absurd hj (Nat.not_lt_zero j), h⟩
    · obtain ⟨i, h1, h2, h3⟩ := ahead_at h
      refine ⟨i + 1, by simpa using h1, fun j hj => ?_, h3⟩
      cases j with
      | zero => rfl
      | succ j => exact h2 j (by omega)
/-- A function's numbers as a list. -/
def lst (m : Nat) (M : Nat → Int) : List Int := (List.range m).map M
theorem lst_nm {m : Nat} {M : Nat → Int} {j : Nat} (h : j < m) : nm (lst m M) j = M j := by simp [nm, lst, List.getD_eq_getElem?_getD, h]
theorem lst_len (m : Nat) (M : Nat → Int) : (lst m M).length = m := by simp [lst]
section
variable {m : Nat} {A : Nat → Pa} {b l h : Int}
theorem baF_at {j : Nat} (hj : j < m) : baF A m j = (A j).ba := if_pos hj
theorem LB.way {M : Nat → Int} (g : LB m A b l h m M) : Bl.Way (baF A m) m b 0 (lst m M) ∧ Bl.Ok (fun j => (A j).mi) (l * b) (h * b) (lst m M) ∧ Bl.dot (fun j => (A j).pr) 0 (lst m M) = psum (fun j => (A j).pr) M m := by
  obtain ⟨-, h1, h2, h3, h4⟩ := g
  have D := fun w : Nat → Int => psum_dot (w := w) (O := M) (lst_len m M) (fun j hj => (lst_nm hj).symm)
  refine ⟨to_way (lst_len m M) (fun j hj => ?_) ?_, ⟨?_, ?_⟩, (D _).symm⟩
  · rw [lst_nm hj, Nat.zero_add, baF_at hj]; exact h1 j hj
  · rw [← dot_one 0, ← D, h2]
  · rw [← D]; exact h3
  · rw [← D]; exact h4
theorem way_LB {zs : List Int} (g : Bl.Way (baF A m) m b 0 zs) (o : Bl.Ok (fun j => (A j).mi) (l * b) (h * b) zs) : zs.length = m ∧ LB m A b l h m (nm zs) := by
  obtain ⟨h1, h2, h3⟩ := of_way g
  have D := fun w : Nat → Int => psum_dot (w := w) (O := nm zs) h1 (fun j hj => rfl)
  refine ⟨h1, rfl, fun j hj => ?_, ?_, ?_, ?_⟩
  · have := h2 j hj
    rwa [Nat.zero_add, baF_at hj] at this
  · rw [D, dot_one, h3]
  · rw [D]; exact o.1
  · rw [D]; exact o.2
theorem BRes.sp (ok : ∀ i, i < m → paOk (A i)) (hb : 0 ≤ b) : Bl.Sp (baF A m) (fun j => (A j).mi) (fun j => (A j).pr) (l * b) (h * b) (fun z => ∃ zs, z = [] ++ zs ∧ Bl.Way (baF A m) m b 0 zs) none (BRes m A b l h) :=
  Bl.sea_sp (fun j => by unfold baF; split <;> first | exact (ok _ (by assumption)).1.1 | omega) m b [] none hb
theorem BRes.no (ok : ∀ i, i < m → paOk (A i)) (hb : 0 ≤ b) (e : BRes m A b l h = none) (M : Nat → Int) : ¬ LB m A b l h m M := fun g => by
  obtain ⟨w, o, _⟩ := g.way
  obtain ⟨x, hx, _⟩ := (BRes.sp ok hb).all _ ⟨_, rfl, w⟩ o
  rw [e] at hx
  cases hx
theorem BRes.yes (ok : ∀ i, i < m → paOk (A i)) (hb : 0 ≤ b) {ys : List Int} {L : Int} (e : BRes m A b l h = some (ys, L)) : LB m A b l h m (nm ys) ∧ L = psum (fun j => (A j).pr) (nm ys) m ∧ ∀ M, LB m A b l h m M → L ≤ psum (fun j => (A j).pr) M m ∧ (psum (fun j => (A j).pr) M m = L → (∀ i, i < m → nm ys i = M i) ∨ ∃ i, i < m ∧ (∀ j, j < i → nm ys j = M j) ∧ M i < nm ys i) := by
  have sp := BRes.sp (l := l) (h := h) ok hb
  rcases sp.from' with g | ⟨zs, ⟨ws, rfl, w⟩, o, g, _⟩
  · rw [e] at g; cases g
  rw [e] at g
  injection g with g
  injection g with g1 g2
  subst g1
  obtain ⟨len, lb⟩ := way_LB w o
  refine ⟨lb, ?_, fun M gM => ?_⟩
  · rw [g2]; exact (psum_dot len (fun j hj => rfl)).symm
  obtain ⟨wM, oM, pM⟩ := gM.way
  obtain ⟨x, hx, lx⟩ := sp.all _ ⟨_, rfl, wM⟩ oM
  rw [e] at hx
  injection hx with hx
  subst hx
  try rw [List.nil_append] at lx
  rw [pM] at lx
  refine ⟨lx, fun eq => ?_⟩
  have f := sp.first ys L e (by rw [e]; intro k; cases k) _ ⟨_, rfl, wM⟩ oM (by first | exact pM.trans eq | (rw [List.nil_append]; exact pM.trans eq))
  try rw [List.nil_append] at f
  rcases f with f | f
  · exact .inl fun i hi => by rw [f, lst_nm hi]
  · obtain ⟨i, h1, h2, h3⟩ := ahead_at f
    rw [len] at h1
    refine .inr ⟨i, h1, fun j hj => by rw [h2 j hj, lst_nm (by omega)], by rwa [lst_nm h1] at h3⟩
end
end Go.Proofs.Ytapffmaihkimkaa
