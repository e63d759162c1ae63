/- Numbers as rows of digits to the base 10000, the lowest first: plain facts for the reference's Big. -/
import Derived.Test.YthfnaegfjacjbabB0
namespace Go.Proofs.Ythfnaegfjacjbab
open Go.RowKit
set_option linter.unusedVariables false
set_option linter.unusedSimpArgs false

def dval : List Int → Int
  | [] => 0
  | d :: l => d + 10000 * dval l
def Digs (l : List Int) : Prop := ∀ x ∈ l, 0 ≤ x ∧ x < 10000
/-- No highest digit 0. -/
def Norm (l : List Int) : Prop := ∀ h : l ≠ [], l.getLast h ≠ 0

theorem Digs.nil : Digs [] := fun _ h => by cases h
theorem Digs.cons {d : Int} {l : List Int} : Digs (d :: l) ↔ (0 ≤ d ∧ d < 10000) ∧ Digs l := by simp [Digs]
theorem Digs.app {a b : List Int} : Digs (a ++ b) ↔ Digs a ∧ Digs b := by
  simp only [Digs, List.mem_append]
  exact ⟨fun h => ⟨fun x m => h x (.inl m), fun x m => h x (.inr m)⟩, fun ⟨h, k⟩ x m => m.elim (h x) (k x)⟩

theorem pow_pos' (n : Nat) : (1 : Int) ≤ 10000 ^ n := by
  induction n with
  | zero => simp
  | succ n ih => rw [Int.pow_succ]; omega
theorem pow_mono {a b : Nat} (h : a ≤ b) : (10000 : Int) ^ a ≤ 10000 ^ b := by
  obtain ⟨k, rfl⟩ := Nat.le.dest h
  rw [Int.pow_add]
  have := Int.mul_le_mul_of_nonneg_left (pow_pos' k) (show 0 ≤ (10000 : Int) ^ a by have := pow_pos' a; omega)
  omega

theorem dval_nonneg : ∀ {l : List Int}, Digs l → 0 ≤ dval l
  | [], _ => by simp [dval]
  | d :: l, h => by have ⟨a, b⟩ := Digs.cons.1 h; have := dval_nonneg b; simp only [dval]; omega
theorem dval_lt : ∀ {l : List Int}, Digs l → dval l < 10000 ^ l.length
  | [], _ => by simp [dval]
  | d :: l, h => by
    have ⟨a, b⟩ := Digs.cons.1 h
    have k := dval_lt b
    simp only [dval, List.length_cons, Int.pow_succ]
    omega
theorem dval_app : ∀ (a b : List Int), dval (a ++ b) = dval a + 10000 ^ a.length * dval b
  | [], b => by simp [dval]
  | d :: l, b => by
    simp only [List.cons_append, dval, dval_app l b, List.length_cons, Int.pow_succ]
    rw [Int.mul_add, Int.mul_comm (10000 ^ l.length) 10000, Int.mul_assoc]
    omega
theorem dval_snoc (a : List Int) (d : Int) : dval (a ++ [d]) = dval a + 10000 ^ a.length * d := by rw [dval_app]; simp [dval]
theorem snoc_of {l : List Int} (h : l ≠ []) : ∃ a, l = a ++ [l.getLast h] := ⟨l.dropLast, (List.dropLast_concat_getLast h).symm⟩

/-- A row without a highest digit 0 is at least the power of its length less one. -/
theorem Norm.ge {l : List Int} (n : Norm l) (h : Digs l) (e : l ≠ []) : (10000 : Int) ^ (l.length - 1) ≤ dval l := by
  obtain ⟨a, ha⟩ := snoc_of e
  have k := n e
  generalize l.getLast e = d at ha k
  subst ha
  have ⟨h1, h2⟩ := Digs.app.1 h
  have h3 := (Digs.cons.1 h2).1
  have p := dval_nonneg h1
  rw [dval_snoc]
  simp only [List.length_append, List.length_cons, List.length_nil, Nat.zero_add, Nat.add_sub_cancel]
  have q : (10000 : Int) ^ a.length * 1 ≤ 10000 ^ a.length * d := Int.mul_le_mul_of_nonneg_left (by omega) (by have := pow_pos' a.length; omega)
  omega
/-- A shorter row is less. -/
theorem dval_shorter {a b : List Int} (ha : Digs a) (hb : Digs b) (n : Norm b) (h : a.length < b.length) : dval a < dval b := by
  have e : b ≠ [] := by intro e; subst e; simp at h
  have k1 := dval_lt ha
  have k2 := n.ge hb e
  have k3 : (10000 : Int) ^ a.length ≤ 10000 ^ (b.length - 1) := pow_mono (by omega)
  omega
/-- Two rows that agree above a digit are told apart by it. -/
theorem dval_at {a b c : List Int} {x y : Int} (ha : Digs a) (hb : Digs b) (h : a.length = b.length) (t : x < y) : dval (a ++ x :: c) < dval (b ++ y :: c) := by
  rw [dval_app, dval_app, h]
  simp only [dval]
  have k1 := dval_lt ha
  have k2 := dval_nonneg hb
  rw [h] at k1
  have k3 : (10000 : Int) ^ b.length * (x + 10000 * dval c + 1) ≤ 10000 ^ b.length * (y + 10000 * dval c) := Int.mul_le_mul_of_nonneg_left (by omega) (by have := pow_pos' b.length; omega)
  rw [Int.mul_add _ _ 1] at k3
  omega
/-- Two rows of digits of one length and one value are one. -/
theorem dval_same : ∀ {a b : List Int}, Digs a → Digs b → a.length = b.length → dval a = dval b → a = b
  | [], [], _, _, _, _ => rfl
  | [], _ :: _, _, _, h, _ => by simp at h
  | _ :: _, [], _, _, h, _ => by simp at h
  | x :: a, y :: b, ha, hb, h, e => by
    have ⟨p, q⟩ := Digs.cons.1 ha
    have ⟨r, s⟩ := Digs.cons.1 hb
    simp only [dval] at e
    have e1 : x = y := by omega
    have e2 : dval a = dval b := by omega
    rw [e1, dval_same q s (by simpa using h) e2]
/-- Two such rows of one value are one. -/
theorem dval_inj {a b : List Int} (ha : Digs a) (hb : Digs b) (na : Norm a) (nb : Norm b) (e : dval a = dval b) : a = b := by
  refine dval_same ha hb ?_ e
  rcases Nat.lt_trichotomy a.length b.length with t | t | t
  · have := dval_shorter ha hb nb t; omega
  · exact t
  · have := dval_shorter hb ha na t; omega
end Go.Proofs.Ythfnaegfjacjbab
