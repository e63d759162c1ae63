/- Mul, Div and Cmp of package num, by what their results are. -/
import Derived.Test.YtacliakmhkebbaaDoorB5
namespace Go.Proofs.YtacliakmhkebbaaDoor
open Go.RowKit
set_option linter.unusedVariables false
set_option linter.unusedSimpArgs false

theorem frac_cross {n d n' d' V D E : Int} (hd : d ≠ 0) (hd' : d' ≠ 0) (e : n * d' = n' * d) (h : IsFrac n d V D E) : IsFrac n' d' V D E := by
  rcases h with ⟨h1, h2, h3⟩ | ⟨h1, h2, h3, h4⟩
  · refine Or.inl ⟨h1, h2, Int.eq_of_mul_eq_mul_right hd ?_⟩
    calc V * d' * d = (V * d) * d' := by ac_rfl
      _ = (n * d') * D := by rw [h3]; ac_rfl
      _ = n' * D * d := by rw [e]; ac_rfl
  · refine Or.inr ⟨h1, h2, h3, fun x y hv e' => h4 x y hv (Int.eq_of_mul_eq_mul_right hd' ?_)⟩
    calc x * d * d' = (x * d') * d := by ac_rfl
      _ = (n' * d) * y := by rw [e']; ac_rfl
      _ = n * y * d' := by rw [← e]; ac_rfl

theorem cop_mul {a b c d : Int} (h1 : Int.gcd a c = 1) (h2 : Int.gcd a d = 1) (h3 : Int.gcd b c = 1) (h4 : Int.gcd b d = 1) : Int.gcd (a * b) (c * d) = 1 := by
  unfold Int.gcd at *
  rw [Int.natAbs_mul, Int.natAbs_mul]
  exact Nat.Coprime.mul_left (Nat.Coprime.mul_right h1 h2) (Nat.Coprime.mul_right h3 h4)
theorem cop_sub {a c x y : Int} (h : Int.gcd a c = 1) (ha : x ∣ a) (hc : y ∣ c) : Int.gcd x y = 1 :=
  Nat.Coprime.coprime_dvd_left (Int.natAbs_dvd_natAbs.2 ha) (Nat.Coprime.coprime_dvd_right (Int.natAbs_dvd_natAbs.2 hc) h)

theorem mul_cross {an ad bn bd L R : Int} (a1 : 1 ≤ ad) (b1 : 1 ≤ bd) (ga : Int.gcd an ad = 1) (gb : Int.gcd bn bd = 1)
    (hL : ((Int.gcd (an.natAbs : Int) (bd.natAbs : Int) : Nat) : Int) = L) (hR : ((Int.gcd (bn.natAbs : Int) (ad.natAbs : Int) : Nat) : Int) = R) :
    Int.gcd ((an.natAbs : Int) / L * ((bn.natAbs : Int) / R)) ((ad.natAbs : Int) / R * ((bd.natAbs : Int) / L)) = 1 ∧
    (bif (decide (an < 0) != decide (bn < 0)) then -((an.natAbs : Int) / L * ((bn.natAbs : Int) / R)) else (an.natAbs : Int) / L * ((bn.natAbs : Int) / R)) * (ad * bd) = (an * bn) * ((ad.natAbs : Int) / R * ((bd.natAbs : Int) / L)) := by
  have gL : 0 < Int.gcd (an.natAbs : Int) (bd.natAbs : Int) := Int.gcd_pos_of_ne_zero_right _ (by omega)
  have gR : 0 < Int.gcd (bn.natAbs : Int) (ad.natAbs : Int) := Int.gcd_pos_of_ne_zero_right _ (by omega)
  have cL := Int.gcd_ediv_gcd_ediv_gcd gL
  have cR := Int.gcd_ediv_gcd_ediv_gcd gR
  have eA : L * ((an.natAbs : Int) / L) = an.natAbs := Int.mul_ediv_cancel' (by rw [← hL]; exact Int.gcd_dvd_left _ _)
  have eD : L * ((bd.natAbs : Int) / L) = bd.natAbs := Int.mul_ediv_cancel' (by rw [← hL]; exact Int.gcd_dvd_right _ _)
  have eB : R * ((bn.natAbs : Int) / R) = bn.natAbs := Int.mul_ediv_cancel' (by rw [← hR]; exact Int.gcd_dvd_left _ _)
  have eC : R * ((ad.natAbs : Int) / R) = ad.natAbs := Int.mul_ediv_cancel' (by rw [← hR]; exact Int.gcd_dvd_right _ _)
  rw [hL] at cL
  rw [hR] at cR
  clear hL hR gL gR
  have e1 : (ad.natAbs : Int) = ad := by omega
  have e2 : (bd.natAbs : Int) = bd := by omega
  rw [e1] at eC cR ⊢
  rw [e2] at eD cL ⊢
  generalize (an.natAbs : Int) / L = a at *
  generalize (bn.natAbs : Int) / R = b at *
  generalize ad / R = c at *
  generalize bd / L = d at *
  refine ⟨cop_mul (cop_sub ga (Int.dvd_natAbs.1 ⟨L, by rw [← eA, Int.mul_comm]⟩) ⟨R, by rw [← eC, Int.mul_comm]⟩) cL cR (cop_sub gb (Int.dvd_natAbs.1 ⟨R, by rw [← eB, Int.mul_comm]⟩) ⟨L, by rw [← eD, Int.mul_comm]⟩), ?_⟩
  have m : a * b * (ad * bd) = (an.natAbs : Int) * bn.natAbs * (c * d) := by
    rw [← eA, ← eB]
    calc a * b * (ad * bd) = a * b * ((R * c) * (L * d)) := by rw [eC, eD]
      _ = L * a * (R * b) * (c * d) := by ac_rfl
  by_cases s1 : an < 0 <;> by_cases s2 : bn < 0
  · simp only [s1, s2, decide_true, bne_self_eq_false, cond_false]
    rw [m, show (an.natAbs : Int) = -an from by omega, show (bn.natAbs : Int) = -bn from by omega, Int.neg_mul_neg]
  · simp only [s1, s2, decide_true, decide_false, Bool.bne_false, cond_true]
    rw [Int.neg_mul, m, show (an.natAbs : Int) = -an from by omega, show (bn.natAbs : Int) = bn from by omega, Int.neg_mul, Int.neg_mul, Int.neg_neg]
  · simp only [s1, s2, decide_true, decide_false, Bool.false_bne, cond_true]
    rw [Int.neg_mul, m, show (an.natAbs : Int) = an from by omega, show (bn.natAbs : Int) = -bn from by omega, Int.mul_neg, Int.neg_mul, Int.neg_neg]
  · simp only [s1, s2, decide_false, bne_self_eq_false, cond_false]
    rw [m, show (an.natAbs : Int) = an from by omega, show (bn.natAbs : Int) = bn from by omega]

theorem frac_none {n d n' d' : Int} (hd : d ≠ 0) (hd' : 1 ≤ d') (e : n' * d = n * d') (g : Int.gcd n' d' = 1) (big : 1099511627776 < n' ∨ n' < -1099511627776) : IsFrac n d 0 0 4 := by
  refine Or.inr ⟨rfl, rfl, rfl, fun x y hv h => ?_⟩
  obtain ⟨b1, b2, b3, b4, b5⟩ := vldB_true.1 hv
  have : x * d' = n' * y := by
    refine Int.eq_of_mul_eq_mul_right hd ?_
    calc x * d' * d = (x * d) * d' := by ac_rfl
      _ = n * d' * y := by rw [h]; ac_rfl
      _ = n' * y * d := by rw [← e]; ac_rfl
  obtain ⟨u, v⟩ := cop_unique (by omega) (by omega) b5 g this
  omega

end Go.Proofs.YtacliakmhkebbaaDoor
