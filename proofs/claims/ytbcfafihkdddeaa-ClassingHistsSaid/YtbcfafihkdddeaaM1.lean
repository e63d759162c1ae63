/- Plain facts on fractions in lowest terms: no Go in sight. -/
import Derived.Test.YtbcfafihkdddeaaB3
namespace Go.Proofs.Ytbcfafihkdddeaa
open Go.RowKit
set_option linter.unusedVariables false
set_option linter.unusedSimpArgs false

/-- V/D is n/d in lowest terms within the limits (E = 0), or there is none (E = 4). -/
def IsFrac (n d V D E : Int) : Prop :=
  (E = 0 ∧ vldB V D = true ∧ V * d = n * D) ∨ (E = 4 ∧ V = 0 ∧ D = 0 ∧ ∀ x y, vldB x y = true → x * d ≠ n * y)

theorem dvd_cop {k m n : Int} (h : Int.gcd k n = 1) (hd : k ∣ m * n) : k ∣ m :=
  Int.natAbs_dvd_natAbs.1 (Nat.Coprime.dvd_of_dvd_mul_right (k := k.natAbs) (n := n.natAbs) h (by rw [← Int.natAbs_mul]; exact Int.natAbs_dvd_natAbs.2 hd))

theorem cop_unique {x y a b : Int} (hy : 0 < y) (hb : 0 < b) (h1 : Int.gcd x y = 1) (h2 : Int.gcd a b = 1) (h : x * b = a * y) : x = a ∧ y = b := by
  have d1 : y ∣ b := dvd_cop (n := x) (by rw [Int.gcd_comm]; exact h1) ⟨a, by rw [Int.mul_comm, h, Int.mul_comm]⟩
  have d2 : b ∣ y := dvd_cop (n := a) (by rw [Int.gcd_comm]; exact h2) ⟨x, by rw [Int.mul_comm, ← h, Int.mul_comm]⟩
  have e : y = b := Int.dvd_antisymm (by omega) (by omega) d1 d2
  subst e
  exact ⟨Int.eq_of_mul_eq_mul_right (by omega) h, rfl⟩

theorem frac_unique {n d V D E V' D' E' : Int} (hd : d ≠ 0) (h : IsFrac n d V D E) (h' : IsFrac n d V' D' E') : V = V' ∧ D = D' ∧ E = E' := by
  rcases h with ⟨h1, h2, h3⟩ | ⟨h1, h2, h3, h4⟩ <;> rcases h' with ⟨k1, k2, k3⟩ | ⟨k1, k2, k3, k4⟩
  · obtain ⟨a1, a2, a3, a4, a5⟩ := vldB_true.1 h2
    obtain ⟨b1, b2, b3, b4, b5⟩ := vldB_true.1 k2
    have e : V * D' = V' * D := by
      refine Int.eq_of_mul_eq_mul_right hd ?_
      calc V * D' * d = (V * d) * D' := by ac_rfl
        _ = n * D * D' := by rw [h3]
        _ = (n * D') * D := by ac_rfl
        _ = V' * d * D := by rw [k3]
        _ = V' * D * d := by ac_rfl
    obtain ⟨u, v⟩ := cop_unique (by omega) (by omega) a5 b5 e
    exact ⟨u, v, by omega⟩
  · exact absurd h3 (k4 _ _ h2)
  · exact absurd k3 (h4 _ _ k2)
  · exact ⟨by omega, by omega, by omega⟩

/-- The parts of a pair in lowest terms. -/
theorem low_parts (n d : Int) (hd : 1 ≤ d) : Int.gcd (n / Int.gcd n d) (d / Int.gcd n d) = 1 ∧ 1 ≤ d / Int.gcd n d ∧ (n / Int.gcd n d) * d = n * (d / Int.gcd n d) := by
  have g0 : 0 < Int.gcd n d := Int.gcd_pos_of_ne_zero_right _ (by omega)
  have e1 : (Int.gcd n d : Int) * (n / Int.gcd n d) = n := Int.mul_ediv_cancel' (Int.gcd_dvd_left _ _)
  have e2 : (Int.gcd n d : Int) * (d / Int.gcd n d) = d := Int.mul_ediv_cancel' (Int.gcd_dvd_right _ _)
  refine ⟨Int.gcd_ediv_gcd_ediv_gcd g0, ?_, ?_⟩
  · rw [Int.le_ediv_iff_mul_le (by omega)]
    have := Int.le_of_dvd (by omega) (Int.gcd_dvd_right n d); omega
  · calc (n / Int.gcd n d) * d = (n / Int.gcd n d) * ((Int.gcd n d : Int) * (d / Int.gcd n d)) := by rw [e2]
      _ = ((Int.gcd n d : Int) * (n / Int.gcd n d)) * (d / Int.gcd n d) := by ac_rfl
      _ = n * (d / Int.gcd n d) := by rw [e1]

/-- What 'lowest' computes is the fraction in lowest terms. -/
theorem low_frac (neg : Bool) (n d : Int) (hn : 0 ≤ n) (hd : 1 ≤ d) : IsFrac (bif neg then -n else n) d (lowV neg n d) (lowD n d) (lowE n d) := by
  obtain ⟨c1, c2, c3⟩ := low_parts n d hd
  have q0 : 0 ≤ n / Int.gcd n d := Int.ediv_nonneg hn (by omega)
  unfold lowV lowD lowE
  generalize n / Int.gcd n d = a at *
  generalize d / Int.gcd n d = b at *
  by_cases h : a ≤ 1099511627776 ∧ b ≤ 1048576
  · rw [if_pos h, if_pos h, if_pos h]
    left
    cases neg
    · exact ⟨rfl, vldB_true.2 ⟨by omega, by omega, by simp; omega, by simp; omega, c1⟩, c3⟩
    · refine ⟨rfl, vldB_true.2 ⟨by omega, by omega, by simp; omega, by simp; omega, by simpa using c1⟩, ?_⟩
      simp only [cond_true, Int.neg_mul]; rw [c3]
  · rw [if_neg h, if_neg h, if_neg h]
    right
    refine ⟨rfl, rfl, rfl, fun x y hv e => ?_⟩
    obtain ⟨b1, b2, b3, b4, b5⟩ := vldB_true.1 hv
    cases neg
    · simp only [cond_false] at e
      have e' : x * b = a * y := by
        refine Int.eq_of_mul_eq_mul_right (a := d) (by omega) ?_
        calc x * b * d = (x * d) * b := by ac_rfl
          _ = n * b * y := by rw [e]; ac_rfl
          _ = a * y * d := by rw [← c3]; ac_rfl
      obtain ⟨u, v⟩ := cop_unique (by omega) (by omega) b5 c1 e'
      omega
    · simp only [cond_true] at e
      have e' : x * b = -a * y := by
        refine Int.eq_of_mul_eq_mul_right (a := d) (by omega) ?_
        calc x * b * d = (x * d) * b := by ac_rfl
          _ = -(n * b) * y := by rw [e, Int.neg_mul, Int.neg_mul, Int.neg_mul]; congr 1; ac_rfl
          _ = -a * y * d := by rw [← c3, Int.neg_mul, Int.neg_mul, Int.neg_mul]; congr 1; ac_rfl
      obtain ⟨u, v⟩ := cop_unique (by omega) (by omega) b5 (by simpa using c1) e'
      omega

theorem frac_neg {n d V D E : Int} (h : IsFrac (-n) (-d) V D E) : IsFrac n d V D E := by
  rcases h with ⟨h1, h2, h3⟩ | ⟨h1, h2, h3, h4⟩
  · refine Or.inl ⟨h1, h2, ?_⟩
    rw [Int.mul_neg, Int.neg_mul] at h3; omega
  · refine Or.inr ⟨h1, h2, h3, fun x y hv e => h4 x y hv ?_⟩
    rw [Int.mul_neg, Int.neg_mul, e]

theorem frac_size {n d V D E : Int} (hd : d ≠ 0) (h : IsFrac (bif (decide (n < 0) != decide (d < 0)) then -(n.natAbs : Int) else n.natAbs) d.natAbs V D E) : IsFrac n d V D E := by
  by_cases h1 : n < 0 <;> by_cases h2 : d < 0
  · refine frac_neg ?_
    simp only [h1, h2, decide_true, bne_self_eq_false, cond_false] at h
    rwa [show ((n.natAbs : Int)) = -n from by omega, show ((d.natAbs : Int)) = -d from by omega] at h
  · simp only [h1, h2, decide_true, decide_false, Bool.bne_false, cond_true] at h
    rwa [show -((n.natAbs : Int)) = n from by omega, show ((d.natAbs : Int)) = d from by omega] at h
  · refine frac_neg ?_
    simp only [h1, h2, decide_true, decide_false, Bool.false_bne, cond_true] at h
    rwa [show ((n.natAbs : Int)) = n from by omega, show ((d.natAbs : Int)) = -d from by omega] at h
  · simp only [h1, h2, decide_false, bne_self_eq_false, cond_false] at h
    rwa [show ((n.natAbs : Int)) = n from by omega, show ((d.natAbs : Int)) = d from by omega] at h
end Go.Proofs.Ytbcfafihkdddeaa
