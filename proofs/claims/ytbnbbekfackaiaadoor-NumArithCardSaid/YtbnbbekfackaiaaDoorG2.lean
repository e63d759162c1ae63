/- The field's laws on results: plain facts. -/
import Derived.Test.YtbnbbekfackaiaaDoorG1
namespace Go.Proofs.YtbnbbekfackaiaaDoor
open Go.RowKit
set_option linter.unusedVariables false
set_option linter.unusedSimpArgs false

theorem vld00 : vldB 0 0 = false := by kernel_rfl
theorem OpR_bd {v : Bool} {n d V D E : Int} (h : OpR v n d V D E) : -1099511627776 ≤ V ∧ V ≤ 1099511627776 := by
  rcases h with ⟨_, ⟨_, hv, _⟩ | ⟨_, h1, _, _⟩⟩ | ⟨_, h1, _, _⟩
  · obtain ⟨a1, a2, a3, a4, a5⟩ := vldB_true.1 hv; omega
  · omega
  · omega
theorem OpR_unique {v : Bool} {n d V D E V' D' E' : Int} (hd : v = true → d ≠ 0) (h : OpR v n d V D E) (h' : OpR v n d V' D' E') : V = V' ∧ D = D' ∧ E = E' := by
  rcases h with ⟨h1, h2⟩ | ⟨h1, h2, h3, h4⟩ <;> rcases h' with ⟨k1, k2⟩ | ⟨k1, k2, k3, k4⟩
  · exact frac_unique (hd h1) h2 k2
  · rw [h1] at k1; cases k1
  · rw [h1] at k1; cases k1
  · exact ⟨by omega, by omega, by omega⟩
/-- The results with E = 0. -/
theorem OpR_ok {v : Bool} {n d V D E : Int} (h : OpR v n d V D E) (hE : E = 0) : v = true ∧ vldB V D = true ∧ V * d = n * D := by
  rcases h with ⟨hv, ⟨_, h2, h3⟩ | ⟨h1, _⟩⟩ | ⟨_, _, _, h1⟩
  · exact ⟨hv, h2, h3⟩
  · omega
  · omega
/-- A valid result has E = 0. -/
theorem OpR_vld {v : Bool} {n d V D E : Int} (h : OpR v n d V D E) (hv : vldB V D = true) : E = 0 := by
  rcases h with ⟨_, ⟨h1, _, _⟩ | ⟨_, h1, h2, _⟩⟩ | ⟨_, h1, h2, _⟩
  · exact h1
  · subst h1 h2; rw [vld00] at hv; cases hv
  · subst h1 h2; rw [vld00] at hv; cases hv
theorem OpR_err {v : Bool} {n d V D E : Int} (h : OpR v n d V D E) (hE : E ≠ 0) : V = 0 ∧ D = 0 := by
  rcases h with ⟨_, ⟨h1, _, _⟩ | ⟨_, h1, h2, _⟩⟩ | ⟨_, h1, h2, _⟩
  · exact absurd h1 hE
  · exact ⟨h1, h2⟩
  · exact ⟨h1, h2⟩
theorem den_pos {n d : Int} (h : vldB n d = true) : 1 ≤ d := (vldB_true.1 h).1
theorem den_ne {n d n' d' : Int} (h : (vldB n d && vldB n' d') = true) : d * d' ≠ 0 := by
  rw [Bool.and_eq_true] at h
  have h1 := den_pos h.1; have h2 := den_pos h.2
  exact Int.mul_ne_zero (by omega) (by omega)
theorem frac_is {n d x y V D E : Int} (hd : d ≠ 0) (hv : vldB x y = true) (e : x * d = n * y) (h : IsFrac n d V D E) : V = x ∧ D = y ∧ E = 0 :=
  frac_unique hd h (Or.inl ⟨rfl, hv, e⟩)

theorem add_comm_res {an ad bn bd V D E V' D' E' : Int} (h : OpR (vldB an ad && vldB bn bd) (an * bd + bn * ad) (ad * bd) V D E) (h' : OpR (vldB bn bd && vldB an ad) (bn * ad + an * bd) (bd * ad) V' D' E') : V = V' ∧ D = D' ∧ E = E' := by
  rw [Bool.and_comm, Int.add_comm, Int.mul_comm bd ad] at h'
  exact OpR_unique den_ne h h'
theorem mul_comm_res {an ad bn bd V D E V' D' E' : Int} (h : OpR (vldB an ad && vldB bn bd) (an * bn) (ad * bd) V D E) (h' : OpR (vldB bn bd && vldB an ad) (bn * an) (bd * ad) V' D' E') : V = V' ∧ D = D' ∧ E = E' := by
  rw [Bool.and_comm, Int.mul_comm bn an, Int.mul_comm bd ad] at h'
  exact OpR_unique den_ne h h'
theorem sub_back {an ad bn bd V D E V' D' E' : Int} (h : OpR (vldB an ad && vldB bn bd) (an * bd + bn * ad) (ad * bd) V D E) (h' : OpR (vldB V D && vldB bn bd) (V * bd + -bn * D) (D * bd) V' D' E') (hE : E = 0) : V' = an ∧ D' = ad ∧ E' = 0 := by
  obtain ⟨hv, hV, e⟩ := OpR_ok h hE
  rw [Bool.and_eq_true] at hv
  have h1 := den_pos hv.1; have h2 := den_pos hv.2; have h3 := den_pos hV
  rcases h' with ⟨_, r⟩ | ⟨k, _⟩
  · refine frac_is (Int.mul_ne_zero (by omega) (by omega)) hv.1 ?_ r
    have e' : V * bd * ad = (an * bd + bn * ad) * D := by rw [← e]; ac_rfl
    rw [Int.add_mul, e', Int.add_mul, Int.neg_mul, Int.neg_mul]
    have a1 : bn * ad * D = bn * D * ad := by ac_rfl
    have a2 : an * bd * D = an * (D * bd) := by ac_rfl
    omega
  · rw [hV, hv.2] at k; cases k
theorem div_back {an ad bn bd V D E V' D' E' : Int} (h : OpR (vldB an ad && vldB bn bd) (an * bn) (ad * bd) V D E) (h' : DivR (vldB V D && vldB bn bd) V D bn bd V' D' E') (hE : E = 0) (h0 : bn ≠ 0) : V' = an ∧ D' = ad ∧ E' = 0 := by
  obtain ⟨hv, hV, e⟩ := OpR_ok h hE
  rw [Bool.and_eq_true] at hv
  have h1 := den_pos hv.1; have h2 := den_pos hv.2; have h3 := den_pos hV
  rcases h' with ⟨_, _, r⟩ | ⟨_, k, _⟩ | ⟨k, _⟩
  · refine frac_is (Int.mul_ne_zero (by omega) h0) hv.1 ?_ r
    calc an * (D * bn) = an * bn * D := by ac_rfl
      _ = V * bd * ad := by rw [← e]; ac_rfl
  · exact absurd k h0
  · rw [hV, hv.2] at k; cases k
theorem assoc_res {an ad bn bd cn cd V D E L M F B C G R S H : Int} (h1 : OpR (vldB an ad && vldB bn bd) (an * bd + bn * ad) (ad * bd) V D E) (h2 : OpR (vldB V D && vldB cn cd) (V * cd + cn * D) (D * cd) L M F)
    (h3 : OpR (vldB bn bd && vldB cn cd) (bn * cd + cn * bd) (bd * cd) B C G) (h4 : OpR (vldB an ad && vldB B C) (an * C + B * ad) (ad * C) R S H) (hF : F = 0) (hG : G = 0) (hH : H = 0) : L = R ∧ M = S := by
  obtain ⟨v2, k2, e2⟩ := OpR_ok h2 hF
  obtain ⟨v3, k3, e3⟩ := OpR_ok h3 hG
  obtain ⟨v4, k4, e4⟩ := OpR_ok h4 hH
  rw [Bool.and_eq_true] at v2 v3 v4
  obtain ⟨v1, k1, e1⟩ := OpR_ok h1 (OpR_vld h1 v2.1)
  rw [Bool.and_eq_true] at v1
  have p1 := den_pos v1.1; have p2 := den_pos v1.2; have p3 := den_pos v2.2; have p4 := den_pos k1; have p5 := den_pos k3
  have q1 : D * cd ≠ 0 := Int.mul_ne_zero (by omega) (by omega)
  have q2 : ad * C ≠ 0 := Int.mul_ne_zero (by omega) (by omega)
  have q3 : ad * bd * cd ≠ 0 := Int.mul_ne_zero (Int.mul_ne_zero (by omega) (by omega)) (by omega)
  have l : IsFrac ((an * bd + bn * ad) * cd + cn * (ad * bd)) (ad * bd * cd) L M 0 := by
    refine frac_cross q1 q3 ?_ (Or.inl ⟨rfl, k2, e2⟩)
    calc (V * cd + cn * D) * (ad * bd * cd) = (V * (ad * bd)) * (cd * cd) + cn * D * (ad * bd * cd) := by rw [Int.add_mul]; congr 1; ac_rfl
      _ = ((an * bd + bn * ad) * D) * (cd * cd) + cn * D * (ad * bd * cd) := by rw [e1]
      _ = ((an * bd + bn * ad) * cd + cn * (ad * bd)) * (D * cd) := by rw [Int.add_mul ((an * bd + bn * ad) * cd)]; congr 1 <;> ac_rfl
  have r : IsFrac ((an * bd + bn * ad) * cd + cn * (ad * bd)) (ad * bd * cd) R S 0 := by
    refine frac_cross q2 q3 ?_ (Or.inl ⟨rfl, k4, e4⟩)
    calc (an * C + B * ad) * (ad * bd * cd) = an * C * (ad * bd * cd) + (B * (bd * cd)) * (ad * ad) := by rw [Int.add_mul]; congr 1; ac_rfl
      _ = an * C * (ad * bd * cd) + ((bn * cd + cn * bd) * C) * (ad * ad) := by rw [e3]
      _ = ((an * bd + bn * ad) * cd + cn * (ad * bd)) * (ad * C) := by simp only [Int.add_mul]; ac_rfl
  obtain ⟨x, y, _⟩ := frac_unique q3 l r
  exact ⟨x, y⟩
theorem distr_res {an ad bn bd cn cd B C G P Q I W X J K N T S Z Y : Int} (h3 : OpR (vldB bn bd && vldB cn cd) (bn * cd + cn * bd) (bd * cd) B C G) (h5 : OpR (vldB an ad && vldB bn bd) (an * bn) (ad * bd) P Q I)
    (h6 : OpR (vldB an ad && vldB B C) (an * B) (ad * C) W X J) (h7 : OpR (vldB an ad && vldB cn cd) (an * cn) (ad * cd) K N T) (h8 : OpR (vldB P Q && vldB K N) (P * N + K * Q) (Q * N) S Z Y) (hJ : J = 0) (hT : T = 0) (hY : Y = 0) : W = S ∧ X = Z := by
  obtain ⟨v6, k6, e6⟩ := OpR_ok h6 hJ
  obtain ⟨v7, k7, e7⟩ := OpR_ok h7 hT
  obtain ⟨v8, k8, e8⟩ := OpR_ok h8 hY
  rw [Bool.and_eq_true] at v6 v7 v8
  obtain ⟨v3, k3, e3⟩ := OpR_ok h3 (OpR_vld h3 v6.2)
  obtain ⟨v5, k5, e5⟩ := OpR_ok h5 (OpR_vld h5 v8.1)
  rw [Bool.and_eq_true] at v3 v5
  have p1 := den_pos v5.1; have p2 := den_pos v5.2; have p3 := den_pos v7.2; have p4 := den_pos k3; have p5 := den_pos k5; have p6 := den_pos k7
  have q1 : ad * C ≠ 0 := Int.mul_ne_zero (by omega) (by omega)
  have q2 : Q * N ≠ 0 := Int.mul_ne_zero (by omega) (by omega)
  have q3 : ad * (bd * cd) ≠ 0 := Int.mul_ne_zero (by omega) (Int.mul_ne_zero (by omega) (by omega))
  have l : IsFrac (an * (bn * cd + cn * bd)) (ad * (bd * cd)) W X 0 := by
    refine frac_cross q1 q3 ?_ (Or.inl ⟨rfl, k6, e6⟩)
    calc an * B * (ad * (bd * cd)) = an * ad * (B * (bd * cd)) := by ac_rfl
      _ = an * (bn * cd + cn * bd) * (ad * C) := by rw [e3]; ac_rfl
  have r : IsFrac (an * (bn * cd + cn * bd)) (ad * (bd * cd)) S Z 0 := by
    refine frac_cross q2 q3 ?_ (Or.inl ⟨rfl, k8, e8⟩)
    calc (P * N + K * Q) * (ad * (bd * cd)) = (P * (ad * bd)) * (N * cd) + (K * (ad * cd)) * (Q * bd) := by rw [Int.add_mul]; congr 1 <;> ac_rfl
      _ = (an * bn * Q) * (N * cd) + (an * cn * N) * (Q * bd) := by rw [e5, e7]
      _ = an * (bn * cd + cn * bd) * (Q * N) := by simp only [Int.mul_add, Int.add_mul]; ac_rfl
  obtain ⟨x, y, _⟩ := frac_unique q3 l r
  exact ⟨x, y⟩
end Go.Proofs.YtbnbbekfackaiaaDoor
