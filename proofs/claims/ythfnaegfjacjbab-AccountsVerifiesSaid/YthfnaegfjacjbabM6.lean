/- Rows of digits to the base 10000: what the reference's loops over them keep. -/
import Derived.Test.YthfnaegfjacjbabM5
namespace Go.Proofs.Ythfnaegfjacjbab
open Go.RowKit
set_option linter.unusedVariables false
set_option linter.unusedSimpArgs false

/-- The digits, without a highest 0, of v. -/
structure Can (l : List Int) (v : Int) : Prop where
  digs : Digs l
  norm : Norm l
  val : dval l = v
theorem Can.nonneg {l : List Int} {v : Int} (c : Can l v) : 0 ≤ v := by rw [← c.val]; exact dval_nonneg c.digs
theorem Can.one {a b : List Int} {v : Int} (c : Can a v) (d : Can b v) : a = b := dval_inj c.digs d.digs c.norm d.norm (c.val.trans d.val.symm)
theorem Norm.nil : Norm [] := fun h => absurd rfl h
theorem Can.nil : Can [] 0 := ⟨Digs.nil, Norm.nil, rfl⟩
theorem Can.empty {l : List Int} {v : Int} (c : Can l v) : l = [] ↔ v = 0 := by
  constructor
  · intro h; rw [← c.val, h]; rfl
  · intro h; exact c.one (h ▸ Can.nil)
theorem Can.length_zero {l : List Int} {v : Int} (c : Can l v) : l.length = 0 ↔ v = 0 := by rw [List.length_eq_zero_iff]; exact c.empty
theorem Can.digit {d : Int} (h1 : 1 ≤ d) (h2 : d < 10000) : Can [d] d := ⟨by intro x m; simp at m; omega, by intro h; simp; omega, by simp [dval]⟩

theorem dval_zeros : ∀ {l : List Int}, (∀ x ∈ l, x = 0) → dval l = 0
  | [], _ => rfl
  | d :: l, h => by simp only [dval, dval_zeros (fun x m => h x (.tail _ m)), h d (.head _)]; omega
theorem dval_take_zeros {l : List Int} {k : Nat} (h : ∀ x ∈ l.drop k, x = 0) : dval (l.take k) = dval l := by
  have e := dval_app (l.take k) (l.drop k)
  rw [List.take_append_drop, dval_zeros h] at e
  omega
theorem Digs.take {l : List Int} (h : Digs l) (k : Nat) : Digs (l.take k) := fun x m => h x (List.mem_of_mem_take m)
theorem Digs.drop {l : List Int} (h : Digs l) (k : Nat) : Digs (l.drop k) := fun x m => h x (List.mem_of_mem_drop m)
theorem dval_set : ∀ (l : List Int) (i : Nat) (h : i < l.length) (x : Int), dval (l.set i x) = dval l + 10000 ^ i * (x - l[i])
  | [], i, h, _ => by simp at h
  | d :: l, 0, h, x => by simp [dval]; omega
  | d :: l, i + 1, h, x => by
    simp only [List.set_cons_succ, dval, dval_set l i (by simpa using h) x, Int.pow_succ, List.getElem_cons_succ]
    rw [Int.mul_add, Int.mul_comm (10000 ^ i) 10000, Int.mul_assoc]
    omega
theorem Digs.set {l : List Int} (h : Digs l) (i : Nat) {x : Int} (hx : 0 ≤ x ∧ x < 10000) : Digs (l.set i x) := fun y m => by
  rcases List.mem_or_eq_of_mem_set m with m | m
  · exact h y m
  · exact m ▸ hx

/-- The digit at a place, 0 beyond the row. -/
def gd (l : List Int) (k : Nat) : Int := (l[k]?).getD 0
theorem gd_in {l : List Int} {k : Nat} (h : k < l.length) : gd l k = l[k] := by simp [gd, h]
theorem gd_out {l : List Int} {k : Nat} (h : l.length ≤ k) : gd l k = 0 := by simp [gd, h]
theorem gd_le {l : List Int} (h : Digs l) (k : Nat) : 0 ≤ gd l k ∧ gd l k < 10000 := by
  by_cases c : k < l.length
  · rw [gd_in c]; exact h _ (List.getElem_mem c)
  · rw [gd_out (by omega)]; omega
theorem dval_drop (l : List Int) (k : Nat) : dval (l.drop k) = gd l k + 10000 * dval (l.drop (k + 1)) := by
  by_cases c : k < l.length
  · rw [List.drop_eq_getElem_cons c, gd_in c]; rfl
  · rw [List.drop_of_length_le (by omega), List.drop_of_length_le (by omega), gd_out (by omega)]; rfl
theorem carry_step {P u m z : Int} (h : u = m + 10000 * z) : P * u = P * m + P * 10000 * z := by rw [h, Int.mul_add, Int.mul_assoc]

/-- One step of the sum. -/
theorem add_step {a b o : List Int} {k : Nat} {c X : Int} (hl : o.length = k)
    (h : dval o + 10000 ^ k * (c + dval (a.drop k) + dval (b.drop k)) = X) :
    dval (o ++ [(c + gd a k + gd b k) % 10000]) + 10000 ^ (k + 1) * ((c + gd a k + gd b k) / 10000 + dval (a.drop (k + 1)) + dval (b.drop (k + 1))) = X := by
  rw [dval_snoc, hl, ← h, Int.pow_succ]
  rw [carry_step (P := 10000 ^ k) (u := c + dval (a.drop k) + dval (b.drop k)) (m := (c + gd a k + gd b k) % 10000) (z := (c + gd a k + gd b k) / 10000 + dval (a.drop (k + 1)) + dval (b.drop (k + 1)))
    (by rw [dval_drop a k, dval_drop b k]; omega)]
  omega
/-- One step of the difference. -/
theorem sub_step {a b o : List Int} {k : Nat} {c s c' X : Int} (hl : o.length = k) (hs : s - 10000 * c' = gd a k - gd b k - c)
    (h : dval o + 10000 ^ k * (dval (a.drop k) - dval (b.drop k) - c) = X) :
    dval (o ++ [s]) + 10000 ^ (k + 1) * (dval (a.drop (k + 1)) - dval (b.drop (k + 1)) - c') = X := by
  rw [dval_snoc, hl, ← h, Int.pow_succ]
  rw [carry_step (P := 10000 ^ k) (u := dval (a.drop k) - dval (b.drop k) - c) (m := s) (z := dval (a.drop (k + 1)) - dval (b.drop (k + 1)) - c')
    (by rw [dval_drop a k, dval_drop b k]; omega)]
  omega
theorem sub_end {o : List Int} {n : Nat} {c X : Int} (ho : Digs o) (hl : o.length = n) (h : dval o + 10000 ^ n * (0 - 0 - c) = X) (hc : c = 0 ∨ c = 1) (hX : 0 ≤ X) : dval o = X := by
  have q := dval_lt ho
  rw [hl] at q
  rcases hc with rfl | rfl
  · omega
  · rw [show ((0 : Int) - 0 - 1) = -1 from rfl, Int.mul_neg, Int.mul_one] at h; omega
/-- One step of a row times a digit, added in place. -/
theorem mul_step {b O : List Int} {i k : Nat} {ai c X : Int} (hi : i + k < O.length)
    (h : dval O + 10000 ^ (i + k) * (c + ai * dval (b.drop k)) = X) :
    dval (O.set (i + k) ((O[i + k] + ai * gd b k + c) % 10000)) + 10000 ^ (i + (k + 1)) * ((O[i + k] + ai * gd b k + c) / 10000 + ai * dval (b.drop (k + 1))) = X := by
  rw [dval_set _ _ hi, ← h, ← Nat.add_assoc, Int.pow_succ]
  have e : ai * dval (b.drop k) = ai * gd b k + 10000 * (ai * dval (b.drop (k + 1))) := by
    rw [dval_drop b k, Int.mul_add]; congr 1; rw [← Int.mul_assoc, ← Int.mul_assoc, Int.mul_comm ai 10000]
  rw [carry_step (P := 10000 ^ (i + k)) (u := c + ai * dval (b.drop k)) (m := (O[i + k] + ai * gd b k + c) % 10000 - O[i + k]) (z := (O[i + k] + ai * gd b k + c) / 10000 + ai * dval (b.drop (k + 1)))
    (by rw [e]; omega)]
  omega
theorem mul_carry {x y z c : Int} (hx : 0 ≤ x ∧ x < 10000) (hy : 0 ≤ y ∧ y < 10000) (hz : 0 ≤ z ∧ z < 10000) (hc : 0 ≤ c ∧ c < 10000) : 0 ≤ y * z ∧ y * z ≤ 99980001 ∧ 0 ≤ x + y * z + c ∧ x + y * z + c ≤ 99999999 := by
  have a : 0 ≤ y * z := Int.mul_nonneg hy.1 hz.1
  have b : y * z ≤ 9999 * z := Int.mul_le_mul_of_nonneg_right (by omega) hz.1
  omega
/-- The last carry of a row. -/
theorem mul_last {a b O : List Int} {i : Nat} {c X T : Int} (hi : i + b.length < O.length) (h0 : O[i + b.length] = 0)
    (h : dval O + 10000 ^ (i + b.length) * (c + gd a i * dval (b.drop b.length)) = T + 10000 ^ i * (gd a i * dval b))
    (hT : T + 10000 ^ i * (dval (a.drop i) * dval b) = X) :
    dval (O.set (i + b.length) c) + 10000 ^ (i + 1) * (dval (a.drop (i + 1)) * dval b) = X := by
  rw [dval_set _ _ hi, h0]
  rw [List.drop_length] at h
  simp only [dval, Int.mul_zero, Int.add_zero] at h
  rw [← hT, Int.pow_succ]
  have e : dval (a.drop i) * dval b = gd a i * dval b + 10000 * (dval (a.drop (i + 1)) * dval b) := by
    rw [dval_drop a i, Int.add_mul, Int.mul_assoc]
  rw [carry_step (P := 10000 ^ i) e]
  have e2 : c - 0 = c := by omega
  rw [e2]
  omega
/-- One digit of the quotient. -/
theorem div_step {a Q : List Int} {k : Nat} {B R r q : Int} (hk : k < Q.length)
    (h : dval (a.drop (k + 1)) = B * dval (Q.drop (k + 1)) + R) (hr : gd a k + 10000 * R = B * q + r) :
    dval (a.drop k) = B * dval ((Q.set k q).drop k) + r := by
  have e : (Q.set k q).drop k = q :: Q.drop (k + 1) := by
    rw [List.drop_eq_getElem_cons (by simpa using hk)]
    simp [List.drop_set]
  rw [dval_drop a k, h, e]
  simp only [dval]
  rw [Int.mul_add B q, ← Int.mul_assoc B 10000, Int.mul_comm B 10000, Int.mul_assoc 10000]
  omega
theorem div_bound {B R d : Int} (hR : 0 ≤ R ∧ R < B) (hd : 0 ≤ d ∧ d < 10000) : d + 10000 * R < B * 10000 := by omega
theorem div_end {A B q r : Int} (h : A = B * q + r) (h0 : 0 ≤ r) (h1 : r < B) : q = A / B ∧ r = A % B := by
  have hB : B ≠ 0 := by omega
  have e1 : A / B = q := by
    rw [h, Int.add_comm, Int.add_mul_ediv_left _ _ hB, Int.ediv_eq_zero_of_lt h0 h1]; omega
  have e2 := Int.mul_ediv_add_emod A B
  rw [e1] at e2
  exact ⟨e1.symm, by omega⟩
end Go.Proofs.Ythfnaegfjacjbab
