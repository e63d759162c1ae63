/- Classing: what quantiles say. Plain facts. -/
import Derived.Test.YthbgeikdamajlaaHQ2
namespace Go.Proofs.Ythbgeikdamajlaa
open Go.RowKit
set_option linter.unusedVariables false
set_option linter.unusedSimpArgs false

theorem cmpZ_ge {a b : Int} : 0 ≤ cmpZ a b ↔ b ≤ a := by unfold cmpZ; split <;> (try split) <;> omega
theorem cmpZ_lt {a b : Int} : cmpZ a b < 0 ↔ a < b := by unfold cmpZ; split <;> (try split) <;> omega
theorem cmpZ_gt {a b : Int} : 0 < cmpZ a b ↔ b < a := by unfold cmpZ; split <;> (try split) <;> omega
/-- A fraction V/D that is h/S, beside fn/fd. -/
theorem beside_ge {V D S h fn fd : Int} (s : 0 < S) (d : 0 < D) (e : V * S = h * D) (g : fn * S ≤ h * fd) : fn * D ≤ V * fd := by
  have k1 := Int.mul_le_mul_of_nonneg_right g (Int.le_of_lt d)
  have k2 : h * fd * D = V * fd * S := by
    have : h * fd * D = h * D * fd := by grind
    rw [this, ← e]; grind
  have k3 : fn * S * D = fn * D * S := by grind
  rw [k2, k3] at k1
  exact Int.le_of_mul_le_mul_right k1 s
theorem beside_lt {V D S h fn fd : Int} (s : 0 < S) (d : 0 < D) (e : V * S = h * D) (g : h * fd < fn * S) : V * fd < fn * D := by
  have k1 := Int.mul_lt_mul_of_pos_right g d
  have k2 : h * fd * D = V * fd * S := by
    have : h * fd * D = h * D * fd := by grind
    rw [this, ← e]; grind
  have k3 : fn * S * D = fn * D * S := by grind
  rw [k2, k3] at k1
  exact Int.lt_of_mul_lt_mul_right k1 (Int.le_of_lt s)
theorem qua_err {H : Nat → Int} {fn fd n q e i : Int} (t : TotQ H n e) (h : QuaQ H fn fd q i) (g : ¬ (e = 0 ∧ i = 0 ∧ n ≠ 0)) : i ≠ 0 := by
  rcases h with ⟨h1, h2, h3⟩ | ⟨h1, h2, h3, h4⟩ | ⟨h1, h2, h3, h4, h5⟩ | ⟨h1, h2, h3, h4, h5⟩
  · omega
  · omega
  · omega
  · rcases t with ⟨t1, t2, t3⟩ | ⟨t1, _⟩
    · exfalso; exact g ⟨t2, h4, by omega⟩
    · exact absurd h1 t1
theorem QuaQ.good {H : Nat → Int} {fn fd q : Int} (h : QuaQ H fn fd q 0) : HOk H 64 ∧ FOk fn fd ∧ 0 < hsum H 64 ∧ ∃ i : Nat, q = i ∧ i < 64 ∧ fn * hsum H 64 ≤ hsum H (i + 1) * fd ∧ ∀ j, j < i → hsum H (j + 1) * fd < fn * hsum H 64 := by
  rcases h with ⟨h1, h2, h3⟩ | ⟨h1, h2, h3, h4⟩ | ⟨h1, h2, h3, h4, h5⟩ | ⟨h1, h2, h3, h4, h5⟩
  · omega
  · omega
  · omega
  · exact ⟨h1, h2, h3, h5⟩
theorem ShaQ.good {H : Nat → Int} {b V D e : Int} (h : ShaQ H b V D e) (ok : HOk H 64) (s : 0 < hsum H 64) (hb : 0 ≤ b ∧ b ≤ 64) : e = 0 ∧ vldB V D = true ∧ ∃ k : Nat, b = k ∧ V * hsum H 64 = hsum H k * D := by
  rcases h with ⟨h1, _⟩ | ⟨_, h1, _⟩ | ⟨_, _, h1, _⟩ | ⟨_, _, _, h4, h5, k, k1, _, k3⟩
  · exact absurd ok h1
  · exact absurd hb h1
  · omega
  · exact ⟨h4, h5, k, k1, k3⟩
/-- The shares up to a quantile, and below it. -/
theorem qua_says {H : Nat → Int} {fn fd q V1 D1 x1 V2 D2 x2 : Int} (h : QuaQ H fn fd q 0) (p : ShaQ H (q + 1) V1 D1 x1) (r : ShaQ H q V2 D2 x2) : x1 = 0 ∧ x2 = 0 ∧ vldB V1 D1 = true ∧ vldB V2 D2 = true ∧ vldB fn fd = true ∧ 0 ≤ q ∧ q < 64 ∧ 0 ≤ cmpZ (V1 * fd) (fn * D1) ∧ (0 < q → cmpZ (V2 * fd) (fn * D2) < 0) := by
  obtain ⟨ok, fo, s, i, rfl, i64, g1, g2⟩ := h.good
  obtain ⟨a1, a2, k1, e1, f1⟩ := p.good ok s (by omega)
  obtain ⟨b1, b2, k2, e2, f2⟩ := r.good ok s (by omega)
  obtain rfl : k1 = i + 1 := by omega
  obtain rfl : k2 = i := by omega
  have d1 := (vldB_true.1 a2).1
  have d2 := (vldB_true.1 b2).1
  refine ⟨a1, b1, a2, b2, fo.1, by omega, by omega, cmpZ_ge.2 (beside_ge s (by omega) f1 g1), fun q0 => cmpZ_lt.2 (beside_lt s (by omega) f2 ?_)⟩
  have := g2 (k2 - 1) (by omega)
  rwa [show k2 - 1 + 1 = k2 by omega] at this
theorem qua_mono {H : Nat → Int} {fn fd gn gd q p : Int} (h : QuaQ H fn fd q 0) (g : QuaQ H gn gd p 0) (le : fn * gd ≤ gn * fd) : q ≤ p := by
  obtain ⟨ok, fo, s, i, rfl, i64, g1, g2⟩ := h.good
  obtain ⟨_, go, _, j, rfl, j64, k1, k2⟩ := g.good
  apply Classical.byContradiction
  intro n
  have l := g2 j (by omega)
  have fd0 := (vldB_true.1 fo.1).1
  have gd0 := (vldB_true.1 go.1).1
  generalize hsum H (j + 1) = C at *
  generalize hsum H 64 = S at *
  have m1 := Int.mul_lt_mul_of_pos_right l (show (0 : Int) < gd by omega)
  have m2 := Int.mul_le_mul_of_nonneg_right k1 (show (0 : Int) ≤ fd by omega)
  have m3 := Int.mul_le_mul_of_nonneg_right le (Int.le_of_lt s)
  have e1 : C * fd * gd = C * gd * fd := by grind
  have e2 : fn * S * gd = fn * gd * S := by grind
  have e3 : gn * S * fd = gn * fd * S := by grind
  omega
/-- A boxed fraction. -/
def FB (v : World) (g : Nat) (x y : Int) : Prop := v.cell? ⟨g, 0, none⟩ = some (.int .i64 x) ∧ v.cell? ⟨g, 1, none⟩ = some (.int .i64 y) ∧ g < v.heap.size
theorem FB.below {v v' : World} {g : Nat} {x y : Int} (h : FB v g x y) (b : Below v.heap.size v v') : FB v' g x y :=
  ⟨(b.cell (p := ⟨g, 0, none⟩) h.2.2).trans h.1, (b.cell (p := ⟨g, 1, none⟩) h.2.2).trans h.2.1, Nat.lt_of_lt_of_le h.2.2 b.size⟩
theorem FB.new (v : World) (x y : Int) : FB (v.alloc (Obj.cells #[Value.int .i64 x, Value.int .i64 y] 32)) v.heap.size x y ∧ Below v.heap.size v (v.alloc (Obj.cells #[Value.int .i64 x, Value.int .i64 y] 32)) :=
  ⟨⟨by simp [go_sem], by simp [go_sem], by simp⟩, (Below.refl _ v).alloc (Nat.le_refl _) _⟩
end Go.Proofs.Ythbgeikdamajlaa
