/- The law NumModes: the plain facts on the five modes. -/
import Derived.Test.YtegphjgiobokdabDoorF1
namespace Go.Proofs.YtegphjgiobokdabDoor.numModes
open Go.RowKit
set_option linter.unusedVariables false
set_option linter.unusedSimpArgs false

theorem tmod2 {x : Int} (h : x % 2 = 0) : x.tmod 2 = 0 := Int.tmod_eq_zero_of_dvd (Int.dvd_of_emod_eq_zero h)

theorem rest_facts {n d : Int} (hd : 1 ≤ d) (hg : Int.gcd n d = 1) : ((n.natAbs : Int) % d = 0 → d = 1) ∧ (2 * ((n.natAbs : Int) % d) = d → d = 2) ∧ (d = 2 → (n.natAbs : Int) % d = 1) ∧ (d = 1 → (n.natAbs : Int) % d = 0) := by
  have hg' : Int.gcd (n.natAbs : Int) d = 1 := by rw [Int.gcd] at hg ⊢; simpa using hg
  have e : d * ((n.natAbs : Int) / d) + (n.natAbs : Int) % d = n.natAbs := Int.mul_ediv_add_emod _ _
  have k1 : (n.natAbs : Int) % d = 0 → d = 1 := fun h => by
    have dv : d ∣ (n.natAbs : Int) := Int.dvd_of_emod_eq_zero h
    have : Int.gcd (n.natAbs : Int) d = d.natAbs := Int.gcd_eq_natAbs_right dv
    omega
  refine ⟨k1, fun h => ?_, fun h => ?_, fun h => by rw [h]; exact Int.emod_one _⟩
  · generalize (n.natAbs : Int) % d = r at *
    have d1 : r ∣ d := ⟨2, by omega⟩
    have d2 : r ∣ (n.natAbs : Int) := by
      rw [← e]
      exact Int.dvd_add (Int.dvd_trans d1 (Int.dvd_mul_right _ _)) (Int.dvd_refl _)
    have d3 : r ∣ ((Int.gcd (n.natAbs : Int) d : Nat) : Int) := Int.dvd_coe_gcd d2 d1
    rw [hg'] at d3
    have := Int.le_of_dvd (by omega) d3
    omega
  · have : ¬ (n.natAbs : Int) % d = 0 := fun h' => by have := k1 h'; omega
    subst h
    omega

theorem modes (n d : Int) (hv : vldB n d = true) : ∃ q0 q1 q2 q3 q4 qb, rndV (decide (n < 0)) n.natAbs d 0 = q0 ∧ rndV (decide (n < 0)) n.natAbs d 1 = q1 ∧ rndV (decide (n < 0)) n.natAbs d 2 = q2 ∧ rndV (decide (n < 0)) n.natAbs d 3 = q3 ∧
    rndV (decide (n < 0)) n.natAbs d 4 = q4 ∧ rndV (decide (-n < 0)) (-n).natAbs d 0 = qb ∧ (∀ m, rndE (decide (n < 0)) n.natAbs d m = 0) ∧ (∀ m, rndE (decide (-n < 0)) (-n).natAbs d m = 0) ∧
    MC n d q0 q1 q2 q3 q4 qb ∧ -1099511627777 ≤ q0 ∧ q0 ≤ 1099511627777 := by
  obtain ⟨b1, b2, b3, b4, b5⟩ := vldB_true.1 hv
  obtain ⟨k1, k2, k3, k4⟩ := rest_facts b1 b5
  have m0 : 0 ≤ (n.natAbs : Int) % d := Int.emod_nonneg _ (by omega)
  have m1 : (n.natAbs : Int) % d < d := Int.emod_lt_of_pos _ (by omega)
  have p0 : 0 ≤ (n.natAbs : Int) / d := Int.ediv_nonneg (by omega) (by omega)
  have p1 : (n.natAbs : Int) / d ≤ n.natAbs := Int.ediv_le_self _ (by omega)
  have z0 : n = 0 → (n.natAbs : Int) / d = 0 ∧ (n.natAbs : Int) % d = 0 := fun h => by subst h; simp
  have bq : ∀ (neg : Bool) (m : Int), rndQ neg n.natAbs d m ≤ 1125899906842624 := fun neg m => by
    unfold rndQ; cases upB neg ((n.natAbs : Int) / d) ((n.natAbs : Int) % d) d m <;> simp <;> omega
  have bv : ∀ (neg : Bool) (m : Int), rndV neg n.natAbs d m = bif neg then -((n.natAbs : Int) / d + (bif upB neg ((n.natAbs : Int) / d) ((n.natAbs : Int) % d) d m then 1 else 0)) else ((n.natAbs : Int) / d + (bif upB neg ((n.natAbs : Int) / d) ((n.natAbs : Int) % d) d m then 1 else 0)) := fun neg m => (rnd_ok (bq neg m)).1
  have be : ∀ (neg : Bool) (m : Int), rndE neg n.natAbs d m = 0 := fun neg m => (rnd_ok (bq neg m)).2
  rw [show (-n).natAbs = n.natAbs from Int.natAbs_neg n]
  refine ⟨_, _, _, _, _, _, rfl, rfl, rfl, rfl, rfl, rfl, be _, be _, ?_⟩
  simp only [bv]
  have hn : (n.natAbs : Int) = n ∨ (n.natAbs : Int) = -n := by omega
  generalize (n.natAbs : Int) / d = q at *
  generalize (n.natAbs : Int) % d = r at *
  clear bq bv be b5 hv
  rcases (by omega : r = 0 ∨ (0 < r ∧ 2 * r < d) ∨ (0 < r ∧ d < 2 * r) ∨ (0 < r ∧ 2 * r = d)) with h | ⟨h, h'⟩ | ⟨h, h'⟩ | ⟨h, h'⟩
  · have := k1 h
    subst this
    subst h
    rcases (by omega : n < 0 ∨ n = 0 ∨ 0 < n) with s | s | s
    · have s1 : decide (n < 0) = true := by simp; omega
      have s2 : decide (-n < 0) = false := by simp; omega
      simp only [s1, s2]
      simp [upB, MC]; omega
    · obtain ⟨z1, z2⟩ := z0 s
      subst s; simp [upB, MC]; omega
    · have s1 : decide (n < 0) = false := by simp; omega
      have s2 : decide (-n < 0) = true := by simp; omega
      simp only [s1, s2]
      simp [upB, MC]; omega
  · have hd : ¬ d = 2 := fun e => by have := k3 e; omega
    have hd1 : ¬ d = 1 := fun e => by have := k4 e; omega
    have h1 : ¬ d < 2 * r := by omega
    have h2 : ¬ 2 * r = d := by omega
    have hn0 : ¬ n = 0 := fun e => by have := z0 e; omega
    rcases (by omega : n < 0 ∨ 0 < n) with s | s
    · have s1 : decide (n < 0) = true := by simp; omega
      have s2 : decide (-n < 0) = false := by simp; omega
      simp only [s1, s2]
      simp [upB, MC, h, h1, h2]; omega
    · have s1 : decide (n < 0) = false := by simp; omega
      have s2 : decide (-n < 0) = true := by simp; omega
      simp only [s1, s2]
      simp [upB, MC, h, h1, h2]; omega
  · have hd : ¬ d = 2 := fun e => by have := k3 e; omega
    have hd1 : ¬ d = 1 := fun e => by have := k4 e; omega
    have h2 : ¬ 2 * r = d := by omega
    have hn0 : ¬ n = 0 := fun e => by have := z0 e; omega
    rcases (by omega : n < 0 ∨ 0 < n) with s | s
    · have s1 : decide (n < 0) = true := by simp; omega
      have s2 : decide (-n < 0) = false := by simp; omega
      simp only [s1, s2]
      simp [upB, MC, h, h', h2]; omega
    · have s1 : decide (n < 0) = false := by simp; omega
      have s2 : decide (-n < 0) = true := by simp; omega
      simp only [s1, s2]
      simp [upB, MC, h, h', h2]; omega
  · have hd : d = 2 := k2 h'
    subst hd
    have hr : r = 1 := by omega
    subst hr
    have hn0 : ¬ n = 0 := fun e => by have := z0 e; omega
    rcases (by omega : q % 2 = 0 ∨ q % 2 = 1) with t | t
    · have t1 : q.tmod 2 = 0 := tmod2 t
      have t2 : (-q).tmod 2 = 0 := tmod2 (by omega)
      have t3 : (-(q + 1) + 1).tmod 2 = 0 := tmod2 (by omega)
      rcases (by omega : n < 0 ∨ 0 < n) with s | s
      · have s1 : decide (n < 0) = true := by simp; omega
        have s2 : decide (-n < 0) = false := by simp; omega
        simp only [s1, s2]
        simp only [upB, MC]
        simp [t, t1, t2, t3]; omega
      · have s1 : decide (n < 0) = false := by simp; omega
        have s2 : decide (-n < 0) = true := by simp; omega
        simp only [s1, s2]
        simp only [upB, MC]
        simp [t, t1, t2, t3]; omega
    · have t1 : (q + 1).tmod 2 = 0 := tmod2 (by omega)
      have t2 : (-(q + 1)).tmod 2 = 0 := tmod2 (by omega)
      rcases (by omega : n < 0 ∨ 0 < n) with s | s
      · have s1 : decide (n < 0) = true := by simp; omega
        have s2 : decide (-n < 0) = false := by simp; omega
        simp only [s1, s2]
        simp only [upB, MC]
        simp [t, t1, t2]; omega
      · have s1 : decide (n < 0) = false := by simp; omega
        have s2 : decide (-n < 0) = true := by simp; omega
        simp only [s1, s2]
        simp only [upB, MC]
        simp [t, t1, t2]; omega
end Go.Proofs.YtegphjgiobokdabDoor.numModes
