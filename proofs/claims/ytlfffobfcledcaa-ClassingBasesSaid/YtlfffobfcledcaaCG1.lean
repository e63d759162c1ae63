/- Several texts in one: B0 M5 M6 R2 R4 R5 R6 R7 R8 R9 R10 R11 R12. -/
import Derived.Test.YtlfffobfcledcaaChecked
import Derived.WalkKit
import Derived.WalkSpells
import Derived.WalkLawsBesides
import Derived.Outline
import Derived.Handy
import Derived.PlainAid
import Derived.Lib.Hide
import Derived.Deep.QuietTactic
import Derived.BigQuiet
import Derived.Laws.AppendOwnNone
import Derived.Deep.RegionWith
import Derived.Deep.RegionHeld3
import Derived.Deep.CutBlock
import Derived.IntWalk

/- Small helpers that every walk uses. -/
namespace Go.Proofs.Ytlfffobfcledcaa
open Go.RowKit
set_option linter.unusedVariables false
set_option linter.unusedSimpArgs false

theorem ret_i {k : IntKind} {a b : Int} (h : a = b) : Ending.returned (.int k a) = .returned (.int k b) := by rw [h]
theorem ret_b {a b : Bool} (h : a = b) : Ending.returned (.bool a) = .returned (.bool b) := by rw [h]

/-- What 'Below' gives the walk: old cells and marks read as they did. -/
theorem bcell {W w1 : World} (hb : Below W.heap.size W w1) : (∀ b o, b < W.heap.size → w1.cell? ⟨b, o, none⟩ = W.cell? ⟨b, o, none⟩) ∧ (∀ b o, b < W.heap.size → w1.frozen? ⟨b, o, none⟩ = W.frozen? ⟨b, o, none⟩) :=
  ⟨fun b o h => hb.cell (p := ⟨b, o, none⟩) h, fun b o h => hb.frozen (p := ⟨b, o, none⟩) h⟩

theorem flip {P : Program} {f : FuncId} {args : Array Value} {w : World} {v : Value} (h : Calls P f args w fun e w' => e = .returned v ∧ w = w') : Calls P f args w fun e w' => e = .returned v ∧ w' = w :=
  h.mono fun _ _ ⟨a, b⟩ => ⟨a, b.symm⟩

end Go.Proofs.Ytlfffobfcledcaa

/- Numbers as rows of digits to the base 10000, the lowest first: plain facts for the reference's Big. -/
namespace Go.Proofs.Ytlfffobfcledcaa
open Go.RowKit
set_option linter.unusedVariables false
set_option linter.unusedSimpArgs false

def dval : List Int → Int
  | [] => 0
  | d :: l => d + 10000 * dval l
def Digs (l : List Int) : Prop := ∀ x ∈ l, 0 ≤ x ∧ x < 10000
/-- No highest digit 0. -/
def Norm (l : List Int) : Prop := ∀ h : l ≠ [], l.getLast h ≠ 0

theorem Digs.nil : Digs [] := fun _ h => by cases h
theorem Digs.cons {d : Int} {l : List Int} : Digs (d :: l) ↔ (0 ≤ d ∧ d < 10000) ∧ Digs l := by simp [Digs]
theorem Digs.app {a b : List Int} : Digs (a ++ b) ↔ Digs a ∧ Digs b := by
  simp only [Digs, List.mem_append]
  exact ⟨fun h => ⟨fun x m => h x (.inl m), fun x m => h x (.inr m)⟩, fun ⟨h, k⟩ x m => m.elim (h x) (k x)⟩

theorem pow_pos' (n : Nat) : (1 : Int) ≤ 10000 ^ n := by
  induction n with
  | zero => simp
  | succ n ih => rw [Int.pow_succ]; omega
theorem pow_mono {a b : Nat} (h : a ≤ b) : (10000 : Int) ^ a ≤ 10000 ^ b := by
  obtain ⟨k, rfl⟩ := Nat.le.dest h
  rw [Int.pow_add]
  have := Int.mul_le_mul_of_nonneg_left (pow_pos' k) (show 0 ≤ (10000 : Int) ^ a by have := pow_pos' a; omega)
  omega

theorem dval_nonneg : ∀ {l : List Int}, Digs l → 0 ≤ dval l
  | [], _ => by simp [dval]
  | d :: l, h => by have ⟨a, b⟩ := Digs.cons.1 h; have := dval_nonneg b; simp only [dval]; omega
theorem dval_lt : ∀ {l : List Int}, Digs l → dval l < 10000 ^ l.length
  | [], _ => by simp [dval]
  | d :: l, h => by
    have ⟨a, b⟩ := Digs.cons.1 h
    have k := dval_lt b
    simp only [dval, List.length_cons, Int.pow_succ]
    omega
theorem dval_app : ∀ (a b : List Int), dval (a ++ b) = dval a + 10000 ^ a.length * dval b
  | [], b => by simp [dval]
  | d :: l, b => by
    simp only [List.cons_append, dval, dval_app l b, List.length_cons, Int.pow_succ]
    rw [Int.mul_add, Int.mul_comm (10000 ^ l.length) 10000, Int.mul_assoc]
    omega
theorem dval_snoc (a : List Int) (d : Int) : dval (a ++ [d]) = dval a + 10000 ^ a.length * d := by rw [dval_app]; simp [dval]
theorem snoc_of {l : List Int} (h : l ≠ []) : ∃ a, l = a ++ [l.getLast h] := ⟨l.dropLast, (List.dropLast_concat_getLast h).symm⟩

/-- A row without a highest digit 0 is at least the power of its length less one. -/
theorem Norm.ge {l : List Int} (n : Norm l) (h : Digs l) (e : l ≠ []) : (10000 : Int) ^ (l.length - 1) ≤ dval l := by
  obtain ⟨a, ha⟩ := snoc_of e
  have k := n e
  generalize l.getLast e = d at ha k
  subst ha
  have ⟨h1, h2⟩ := Digs.app.1 h
  have h3 := (Digs.cons.1 h2).1
  have p := dval_nonneg h1
  rw [dval_snoc]
  simp only [List.length_append, List.length_cons, List.length_nil, Nat.zero_add, Nat.add_sub_cancel]
  have q : (10000 : Int) ^ a.length * 1 ≤ 10000 ^ a.length * d := Int.mul_le_mul_of_nonneg_left (by omega) (by have := pow_pos' a.length; omega)
  omega
/-- A shorter row is less. -/
theorem dval_shorter {a b : List Int} (ha : Digs a) (hb : Digs b) (n : Norm b) (h : a.length < b.length) : dval a < dval b := by
  have e : b ≠ [] := by intro e; subst e; simp at h
  have k1 := dval_lt ha
  have k2 := n.ge hb e
  have k3 : (10000 : Int) ^ a.length ≤ 10000 ^ (b.length - 1) := pow_mono (by omega)
  omega
/-- Two rows that agree above a digit are told apart by it. -/
theorem dval_at {a b c : List Int} {x y : Int} (ha : Digs a) (hb : Digs b) (h : a.length = b.length) (t : x < y) : dval (a ++ x :: c) < dval (b ++ y :: c) := by
  rw [dval_app, dval_app, h]
  simp only [dval]
  have k1 := dval_lt ha
  have k2 := dval_nonneg hb
  rw [h] at k1
  have k3 : (10000 : Int) ^ b.length * (x + 10000 * dval c + 1) ≤ 10000 ^ b.length * (y + 10000 * dval c) := Int.mul_le_mul_of_nonneg_left (by omega) (by have := pow_pos' b.length; omega)
  rw [Int.mul_add _ _ 1] at k3
  omega
/-- Two rows of digits of one length and one value are one. -/
theorem dval_same : ∀ {a b : List Int}, Digs a → Digs b → a.length = b.length → dval a = dval b → a = b
  | [], [], _, _, _, _ => rfl
  | [], _ :: _, _, _, h, _ => by simp at h
  | _ :: _, [], _, _, h, _ => by simp at h
  | x :: a, y :: b, ha, hb, h, e => by
    have ⟨p, q⟩ := Digs.cons.1 ha
    have ⟨r, s⟩ := Digs.cons.1 hb
    simp only [dval] at e
    have e1 : x = y := by omega
    have e2 : dval a = dval b := by omega
    rw [e1, dval_same q s (by simpa using h) e2]
/-- Two such rows of one value are one. -/
theorem dval_inj {a b : List Int} (ha : Digs a) (hb : Digs b) (na : Norm a) (nb : Norm b) (e : dval a = dval b) : a = b := by
  refine dval_same ha hb ?_ e
  rcases Nat.lt_trichotomy a.length b.length with t | t | t
  · have := dval_shorter ha hb nb t; omega
  · exact t
  · have := dval_shorter hb ha na t; omega
end Go.Proofs.Ytlfffobfcledcaa

/- Rows of digits to the base 10000: what the reference's loops over them keep. -/
namespace Go.Proofs.Ytlfffobfcledcaa
open Go.RowKit
set_option linter.unusedVariables false
set_option linter.unusedSimpArgs false

/-- The digits, without a highest 0, of v. -/
structure Can (l : List Int) (v : Int) : Prop where
  digs : Digs l
  norm : Norm l
  val : dval l = v
theorem Can.nonneg {l : List Int} {v : Int} (c : Can l v) : 0 ≤ v := by rw [← c.val]; exact dval_nonneg c.digs
theorem Can.one {a b : List Int} {v : Int} (c : Can a v) (d : Can b v) : a = b := dval_inj c.digs d.digs c.norm d.norm (c.val.trans d.val.symm)
theorem Norm.nil : Norm [] := fun h => absurd rfl h
theorem Can.nil : Can [] 0 := ⟨Digs.nil, Norm.nil, rfl⟩
theorem Can.empty {l : List Int} {v : Int} (c : Can l v) : l = [] ↔ v = 0 := by
  constructor
  · intro h; rw [← c.val, h]; rfl
  · intro h; exact c.one (h ▸ Can.nil)
theorem Can.length_zero {l : List Int} {v : Int} (c : Can l v) : l.length = 0 ↔ v = 0 := by rw [List.length_eq_zero_iff]; exact c.empty
theorem Can.digit {d : Int} (h1 : 1 ≤ d) (h2 : d < 10000) : Can [d] d := ⟨by intro x m; simp at m; omega, by intro h; simp; omega, by simp [dval]⟩

theorem dval_zeros : ∀ {l : List Int}, (∀ x ∈ l, x = 0) → dval l = 0
  | [], _ => rfl
  | d :: l, h => by simp only [dval, dval_zeros (fun x m => h x (.tail _ m)), h d (.head _)]; omega
theorem dval_take_zeros {l : List Int} {k : Nat} (h : ∀ x ∈ l.drop k, x = 0) : dval (l.take k) = dval l := by
  have e := dval_app (l.take k) (l.drop k)
  rw [List.take_append_drop, dval_zeros h] at e
  omega
theorem Digs.take {l : List Int} (h : Digs l) (k : Nat) : Digs (l.take k) := fun x m => h x (List.mem_of_mem_take m)
theorem Digs.drop {l : List Int} (h : Digs l) (k : Nat) : Digs (l.drop k) := fun x m => h x (List.mem_of_mem_drop m)
theorem dval_set : ∀ (l : List Int) (i : Nat) (h : i < l.length) (x : Int), dval (l.set i x) = dval l + 10000 ^ i * (x - l[i])
  | [], i, h, _ => by simp at h
  | d :: l, 0, h, x => by simp [dval]; omega
  | d :: l, i + 1, h, x => by
    simp only [List.set_cons_succ, dval, dval_set l i (by simpa using h) x, Int.pow_succ, List.getElem_cons_succ]
    rw [Int.mul_add, Int.mul_comm (10000 ^ i) 10000, Int.mul_assoc]
    omega
theorem Digs.set {l : List Int} (h : Digs l) (i : Nat) {x : Int} (hx : 0 ≤ x ∧ x < 10000) : Digs (l.set i x) := fun y m => by
  rcases List.mem_or_eq_of_mem_set m with m | m
  · exact h y m
  · exact m ▸ hx

/-- The digit at a place, 0 beyond the row. -/
def gd (l : List Int) (k : Nat) : Int := (l[k]?).getD 0
theorem gd_in {l : List Int} {k : Nat} (h : k < l.length) : gd l k = l[k] := by simp [gd, h]
theorem gd_out {l : List Int} {k : Nat} (h : l.length ≤ k) : gd l k = 0 := by simp [gd, h]
theorem gd_le {l : List Int} (h : Digs l) (k : Nat) : 0 ≤ gd l k ∧ gd l k < 10000 := by
  by_cases c : k < l.length
  · rw [gd_in c]; exact h _ (List.getElem_mem c)
  · rw [gd_out (by omega)]; omega
theorem dval_drop (l : List Int) (k : Nat) : dval (l.drop k) = gd l k + 10000 * dval (l.drop (k + 1)) := by
  by_cases c : k < l.length
  · rw [List.drop_eq_getElem_cons c, gd_in c]; rfl
  · rw [List.drop_of_length_le (by omega), List.drop_of_length_le (by omega), gd_out (by omega)]; rfl
theorem carry_step {P u m z : Int} (h : u = m + 10000 * z) : P * u = P * m + P * 10000 * z := by rw [h, Int.mul_add, Int.mul_assoc]

/-- One step of the sum. -/
theorem add_step {a b o : List Int} {k : Nat} {c X : Int} (hl : o.length = k)
    (h : dval o + 10000 ^ k * (c + dval (a.drop k) + dval (b.drop k)) = X) :
    dval (o ++ [(c + gd a k + gd b k) % 10000]) + 10000 ^ (k + 1) * ((c + gd a k + gd b k) / 10000 + dval (a.drop (k + 1)) + dval (b.drop (k + 1))) = X := by
  rw [dval_snoc, hl, ← h, Int.pow_succ]
  rw [carry_step (P := 10000 ^ k) (u := c + dval (a.drop k) + dval (b.drop k)) (m := (c + gd a k + gd b k) % 10000) (z := (c + gd a k + gd b k) / 10000 + dval (a.drop (k + 1)) + dval (b.drop (k + 1)))
    (by rw [dval_drop a k, dval_drop b k]; omega)]
  omega
/-- One step of the difference. -/
theorem sub_step {a b o : List Int} {k : Nat} {c s c' X : Int} (hl : o.length = k) (hs : s - 10000 * c' = gd a k - gd b k - c)
    (h : dval o + 10000 ^ k * (dval (a.drop k) - dval (b.drop k) - c) = X) :
    dval (o ++ [s]) + 10000 ^ (k + 1) * (dval (a.drop (k + 1)) - dval (b.drop (k + 1)) - c') = X := by
  rw [dval_snoc, hl, ← h, Int.pow_succ]
  rw [carry_step (P := 10000 ^ k) (u := dval (a.drop k) - dval (b.drop k) - c) (m := s) (z := dval (a.drop (k + 1)) - dval (b.drop (k + 1)) - c')
    (by rw [dval_drop a k, dval_drop b k]; omega)]
  omega
theorem sub_end {o : List Int} {n : Nat} {c X : Int} (ho : Digs o) (hl : o.length = n) (h : dval o + 10000 ^ n * (0 - 0 - c) = X) (hc : c = 0 ∨ c = 1) (hX : 0 ≤ X) : dval o = X := by
  have q := dval_lt ho
  rw [hl] at q
  rcases hc with rfl | rfl
  · omega
  · rw [show ((0 : Int) - 0 - 1) = -1 from rfl, Int.mul_neg, Int.mul_one] at h; omega
/-- One step of a row times a digit, added in place. -/
theorem mul_step {b O : List Int} {i k : Nat} {ai c X : Int} (hi : i + k < O.length)
    (h : dval O + 10000 ^ (i + k) * (c + ai * dval (b.drop k)) = X) :
    dval (O.set (i + k) ((O[i + k] + ai * gd b k + c) % 10000)) + 10000 ^ (i + (k + 1)) * ((O[i + k] + ai * gd b k + c) / 10000 + ai * dval (b.drop (k + 1))) = X := by
  rw [dval_set _ _ hi, ← h, ← Nat.add_assoc, Int.pow_succ]
  have e : ai * dval (b.drop k) = ai * gd b k + 10000 * (ai * dval (b.drop (k + 1))) := by
    rw [dval_drop b k, Int.mul_add]; congr 1; rw [← Int.mul_assoc, ← Int.mul_assoc, Int.mul_comm ai 10000]
  rw [carry_step (P := 10000 ^ (i + k)) (u := c + ai * dval (b.drop k)) (m := (O[i + k] + ai * gd b k + c) % 10000 - O[i + k]) (z := (O[i + k] + ai * gd b k + c) / 10000 + ai * dval (b.drop (k + 1)))
    (by rw [e]; omega)]
  omega
theorem mul_carry {x y z c : Int} (hx : 0 ≤ x ∧ x < 10000) (hy : 0 ≤ y ∧ y < 10000) (hz : 0 ≤ z ∧ z < 10000) (hc : 0 ≤ c ∧ c < 10000) : 0 ≤ y * z ∧ y * z ≤ 99980001 ∧ 0 ≤ x + y * z + c ∧ x + y * z + c ≤ 99999999 := by
  have a : 0 ≤ y * z := Int.mul_nonneg hy.1 hz.1
  have b : y * z ≤ 9999 * z := Int.mul_le_mul_of_nonneg_right (by omega) hz.1
  omega
/-- The last carry of a row. -/
theorem mul_last {a b O : List Int} {i : Nat} {c X T : Int} (hi : i + b.length < O.length) (h0 : O[i + b.length] = 0)
    (h : dval O + 10000 ^ (i + b.length) * (c + gd a i * dval (b.drop b.length)) = T + 10000 ^ i * (gd a i * dval b))
    (hT : T + 10000 ^ i * (dval (a.drop i) * dval b) = X) :
    dval (O.set (i + b.length) c) + 10000 ^ (i + 1) * (dval (a.drop (i + 1)) * dval b) = X := by
  rw [dval_set _ _ hi, h0]
  rw [List.drop_length] at h
  simp only [dval, Int.mul_zero, Int.add_zero] at h
  rw [← hT, Int.pow_succ]
  have e : dval (a.drop i) * dval b = gd a i * dval b + 10000 * (dval (a.drop (i + 1)) * dval b) := by
    rw [dval_drop a i, Int.add_mul, Int.mul_assoc]
  rw [carry_step (P := 10000 ^ i) e]
  have e2 : c - 0 = c := by omega
  rw [e2]
  omega
/-- One digit of the quotient. -/
theorem div_step {a Q : List Int} {k : Nat} {B R r q : Int} (hk : k < Q.length)
    (h : dval (a.drop (k + 1)) = B * dval (Q.drop (k + 1)) + R) (hr : gd a k + 10000 * R = B * q + r) :
    dval (a.drop k) = B * dval ((Q.set k q).drop k) + r := by
  have e : (Q.set k q).drop k = q :: Q.drop (k + 1) := by
    rw [List.drop_eq_getElem_cons (by simpa using hk)]
    simp [List.drop_set]
  rw [dval_drop a k, h, e]
  simp only [dval]
  rw [Int.mul_add B q, ← Int.mul_assoc B 10000, Int.mul_comm B 10000, Int.mul_assoc 10000]
  omega
theorem div_bound {B R d : Int} (hR : 0 ≤ R ∧ R < B) (hd : 0 ≤ d ∧ d < 10000) : d + 10000 * R < B * 10000 := by omega
theorem div_end {A B q r : Int} (h : A = B * q + r) (h0 : 0 ≤ r) (h1 : r < B) : q = A / B ∧ r = A % B := by
  have hB : B ≠ 0 := by omega
  have e1 : A / B = q := by
    rw [h, Int.add_comm, Int.add_mul_ediv_left _ _ hB, Int.ediv_eq_zero_of_lt h0 h1]; omega
  have e2 := Int.mul_ediv_add_emod A B
  rw [e1] at e2
  exact ⟨e1.symm, by omega⟩
end Go.Proofs.Ytlfffobfcledcaa

/- The reference's rows of digits: cmpD. -/
namespace Go.Proofs.Ytlfffobfcledcaa
open Go.RowKit
set_option linter.unusedVariables false
set_option linter.unusedSimpArgs false

/-- The slice reads as this row. -/
def RowR (w : World) (p : Option Addr) (l : List Int) : Prop := ∀ i (h : i < l.length), ∃ g, p = some ⟨g, 0, none⟩ ∧ g < w.heap.size ∧ w.cell? ⟨g, i, none⟩ = some (.int .i64 l[i])

theorem RowR.below {w w' : World} {p : Option Addr} {l : List Int} (r : RowR w p l) (hb : Below w.heap.size w w') : RowR w' p l := fun i h => by
  obtain ⟨g, e, k, c⟩ := r i h
  exact ⟨g, e, Nat.lt_of_lt_of_le k hb.size, by rw [(bcell hb).1 g i k]; exact c⟩

/-- cmpD's answer. -/
def cmpZ (a b : Int) : Int := if a < b then -1 else if b < a then 1 else 0

theorem cmpD_any (pa pb : Option Addr) (ca cb : Nat) (a b : List Int) (w : World) (ha : Digs a) (hb : Digs b) (na : Norm a) (nb : Norm b) (ra : RowR w pa a) (rb : RowR w pb b) (la : a.length ≤ 1000000) (lb : b.length ≤ 1000000) :
    Calls Try.prog 74 #[.slice pa a.length ca, .slice pb b.length cb] w fun e w' => e = .returned (.int .i64 (cmpZ (dval a) (dval b))) ∧ ∃ n, w' = w.drewN n := by
  by_cases h1 : a.length < b.length
  · have k := dval_shorter ha hb nb h1
    have K : Hid (-1 = cmpZ (dval a) (dval b)) := by show -1 = cmpZ _ _; unfold cmpZ; rw [if_pos k]
    clear k ra rb na nb ha hb
    generalize cmpZ (dval a) (dval b) = V at *
    generalize a.length = x at *
    generalize b.length = y at *
    go_enter Try.func74, Try.ntmps74
    go_wp2
    go_ret
    exact ⟨ret_i K.out, 0, rfl⟩
  by_cases h2 : b.length < a.length
  · have k := dval_shorter hb ha na h2
    have K : Hid (1 = cmpZ (dval a) (dval b)) := by show 1 = cmpZ _ _; unfold cmpZ; rw [if_neg (by omega), if_pos k]
    clear k ra rb na nb ha hb
    generalize cmpZ (dval a) (dval b) = V at *
    generalize a.length = x at *
    generalize b.length = y at *
    go_enter Try.func74, Try.ntmps74
    go_wp2
    go_ret
    exact ⟨ret_i K.out, 0, rfl⟩
  have h3 : a.length = b.length := by omega
  have H3 := Lib.hid h3
  generalize hx : a.length = x at *
  rw [← h3]
  clear h3 h1 h2
  generalize hV : cmpZ (dval a) (dval b) = V
  have HV := Lib.hid hV
  clear hV
  have Ra := Lib.hid ra
  have Rb := Lib.hid rb
  have Da := Lib.hid ha
  have Db := Lib.hid hb
  have Hx := Lib.hid hx
  clear ra rb ha hb na nb hx
  go_enter Try.func74, Try.ntmps74
  go_wp2
  go_loopw [5] (fun v wr => ∃ k : Nat, k ≤ x ∧ v = .int .i64 ((k : Int) - 1) ∧ Hid (a.drop k = b.drop k) ∧ ∃ n, wr = w.drewN n) (fun v _ => (intOf v + 1).toNat)
  case atStart => exact ⟨x, Nat.le_refl _, rfl, by show a.drop x = b.drop x; rw [List.drop_of_length_le (by have := Hx.out; omega), List.drop_of_length_le (by have := H3.out; omega)], 0, rfl⟩
  case round =>
    obtain ⟨k, hk, rfl, hd, n, rfl⟩ := hrel
    rcases k with _ | j
    · have K : Hid (0 = V) := by
        have e : a = b := by simpa using hd.out
        show 0 = V
        rw [← HV.out, e]; unfold cmpZ; rw [if_neg (by omega), if_neg (by omega)]
      clear hd
      go_wp2
      go_ret
      exact ⟨ret_i K.out, n, rfl⟩
    · have ja : j < a.length := by have := Hx.out; omega
      have jb : j < b.length := by have := H3.out; omega
      obtain ⟨ga, rfl, ka, cA⟩ := Ra.out j ja
      obtain ⟨gb, rfl, kb, cB⟩ := Rb.out j jb
      have eA : a = a.take j ++ a[j] :: a.drop (j + 1) := by simp
      have eB : b = b.take j ++ b[j] :: b.drop (j + 1) := by simp
      have dA : Digs (a.take j) := fun x m => Da.out x (List.mem_of_mem_take m)
      have dB : Digs (b.take j) := fun x m => Db.out x (List.mem_of_mem_take m)
      have rA := Da.out a[j] (List.getElem_mem ja)
      have rB := Db.out b[j] (List.getElem_mem jb)
      have lenE : (a.take j).length = (b.take j).length := by simp; omega
      have kLt : a[j] < b[j] → Hid (-1 = V) := fun t => by
        have := dval_at (c := b.drop (j + 1)) dA dB lenE t
        rw [← hd.out, ← eA, hd.out, ← eB] at this
        show -1 = V
        rw [← HV.out]; unfold cmpZ; rw [if_pos this]
      have kGt : b[j] < a[j] → Hid (1 = V) := fun t => by
        have := dval_at (c := b.drop (j + 1)) dB dA lenE.symm t
        rw [← eB, ← hd.out, ← eA] at this
        show 1 = V
        rw [← HV.out]; unfold cmpZ; rw [if_neg (by omega), if_pos this]
      have kEq : a[j] = b[j] → Hid (a.drop j = b.drop j) := fun t => by
        show a.drop j = b.drop j
        rw [List.drop_eq_getElem_cons ja, List.drop_eq_getElem_cons jb, t, hd.out]
      have e1 : (((j + 1 : Nat) : Int) - 1) = (j : Int) := by omega
      have j0 : (0 : Int) ≤ (j : Int) := by omega
      have jx : (j : Int) < (x : Int) := by omega
      rw [e1]
      generalize a[j] = u at *
      generalize b[j] = v at *
      clear eA eB dA dB lenE hd e1 ka kb
      rcases (by omega : u < v ∨ v < u ∨ (u ≤ v ∧ v ≤ u)) with t | t | ⟨t, t'⟩
      · have K := kLt t
        clear kLt kGt kEq
        go_wp2
        go_quiet (fail)
        go_wp2
        go_ret
        exact ⟨ret_i K.out, _, World.drewN_drewN _ _ _⟩
      · have K := kGt t
        clear kLt kGt kEq
        go_wp2
        go_quiet (fail)
        go_wp2
        go_quiet (fail)
        go_wp2
        go_ret
        exact ⟨ret_i K.out, _, by rw [World.drewN_drewN, World.drewN_drewN]⟩
      · have K := kEq (by omega)
        clear kLt kGt kEq
        go_wp2
        go_quiet (fail)
        go_wp2
        go_quiet (fail)
        go_wp2
        go_roundw
        case rel => exact ⟨j, by omega, rfl, K, _, by first | rfl | rw [World.drewN_drewN, World.drewN_drewN]⟩
        case measure => simp [intOf]
end Go.Proofs.Ytlfffobfcledcaa

/- The reference's rows: trim. -/
namespace Go.Proofs.Ytlfffobfcledcaa
open Go.RowKit
set_option linter.unusedVariables false
set_option linter.unusedSimpArgs false

theorem intInfo : (Try.prog.info? 3).map (fun i => (i.zero, i.size, i.bytes)) = some (some (.int .i64 0), 1, 8) := by kernel_rfl

/-- A call's result is a slice in new memory that reads as the digits of x. -/
def RowRes (x : Int) (n : Nat) (w : World) (e : Ending) (w' : World) : Prop :=
  ∃ t p c, e = .returned (.slice p t.length c) ∧ Can t x ∧ t.length ≤ n ∧ RowR w' p t ∧ (p = none → c = 0) ∧ (∀ a, p = some a → w.heap.size ≤ a.block) ∧ Below w.heap.size w w'

/-- What an owned row reads as. -/
theorem own_row {w : World} {base E : Nat} {v : Value} {n : Nat} {l : List Int} (h : w.ownsRow base E 1 v n (l.map (Value.int .i64))) :
    ∃ p c, v = .slice p l.length c ∧ l.length = n ∧ RowR w p l ∧ (p = none → c = 0) ∧ (∀ a, p = some a → base ≤ a.block) := by
  have hn : l.length = n := by have := h.1; simpa using this
  rcases h.2 with ⟨rfl, h0⟩ | ⟨g, cap, cur, rfl, hb, hg, _⟩
  · have l0 : l = [] := List.eq_nil_of_length_eq_zero (by omega)
    subst l0
    exact ⟨none, 0, rfl, hn, fun i hi => by simp at hi, fun _ => rfl, fun a ha => by cases ha⟩
  · refine ⟨some ⟨g, 0, none⟩, cap, by rw [hn], hn, fun i hi => ⟨g, rfl, (Array.getElem?_eq_some_iff.1 hg).1, ?_⟩, (fun e => by cases e), (fun a ha => by cases ha; exact hb)⟩
    rw [h.cellAt i (by omega)]
    simp [hi]

theorem own_lt {w : World} {base E : Nat} {v : Value} {n : Nat} {xs : List Value} (h : w.ownsRow base E 1 v n xs) : ∀ k, v.ownBlock = some k → base ≤ k := fun k hk => (h.lt k hk).1
theorem own_below {w w' : World} {base E : Nat} {v : Value} {n : Nat} {xs : List Value} (h : w.ownsRow base E 1 v n xs) (hb : Below w.heap.size w w') : w'.ownsRow base E 1 v n xs :=
  h.kept (row := none) ⟨hb.os, hb.tape, hb.output, hb.size, fun k hk _ => hb.block k hk⟩ (by
    rcases h.2 with ⟨rfl, _⟩ | ⟨g, cap, cur, rfl, _⟩
    · exact .inl rfl
    · exact .inr (by simp [Value.ownBlock]))

/-- One more element: what the laws on append leave, put together. -/
theorem own_snoc {W w w2 : World} {E : Nat} {v v' : Value} {k : Nat} {l : List Int} {x : Int} {xs : List Value} (o : Obj) (e : xs = l.map (Value.int .i64))
    (hb : Below W.heap.size W w) (hown : w.ownsRow W.heap.size E 1 v k (l.map (Value.int .i64)))
    (h1 : w2.ownsRow W.heap.size E 1 v' (k + 1) (xs ++ [.int .i64 x])) (h2 : (w.alloc o).grownBy w2 v.ownBlock) :
    w2.ownsRow W.heap.size E 1 v' (k + 1) ((l ++ [x]).map (Value.int .i64)) ∧ Below W.heap.size W w2 :=
  ⟨by subst e; simpa using h1, (hb.alloc hb.size o).grown h2 (by have := hb.size; simp; omega) (own_lt hown)⟩

theorem take_norm {l : List Int} {j : Nat} (h : j < l.length) (z : l[j] ≠ 0) : Norm (l.take (j + 1)) := by
  intro e
  rw [List.getLast_eq_getElem]
  simp only [List.length_take, Nat.min_eq_left (show j + 1 ≤ l.length by omega), Nat.add_sub_cancel, List.getElem_take]
  exact z

theorem trim_can {l : List Int} {k : Nat} (hd : Digs l) (hz : ∀ y ∈ l.drop k, y = 0) (hn : Norm (l.take k)) : Can (l.take k) (dval l) := ⟨hd.take k, hn, dval_take_zeros hz⟩

set_option maxHeartbeats 400000 in
theorem trim_any (p : Option Addr) (c : Nat) (l : List Int) (w : World) (hd : Digs l) (r : RowR w p l) (ln : l.length ≤ 1000000) :
    Calls Try.prog 96 #[.slice p l.length c] w (RowRes (dval l) l.length w) := by
  obtain ⟨i0, hi, hz0, hz1, hz2⟩ := info_parts intInfo
  generalize hx : l.length = x at *
  have Hx := Lib.hid hx; clear hx
  have R := Lib.hid r; clear r
  have D := Lib.hid hd; clear hd
  go_enter Try.func96, Try.ntmps96
  go_upto_block 0 with fail
  go_cut [3] from 8 to 19 (fun n wx => ∃ k : Nat, k ≤ x ∧ n = .int .i64 k ∧ Hid (Can (l.take k) (dval l)) ∧ wx = w)
  case first =>
    go_wp2_with fail
    go_loop [3] (fun n => ∃ k : Nat, k ≤ x ∧ n = .int .i64 k ∧ Hid (∀ y ∈ l.drop k, y = 0)) (fun n => (intOf n).toNat)
    case atStart => exact ⟨x, Nat.le_refl _, rfl, by show ∀ y ∈ l.drop x, y = 0; rw [List.drop_of_length_le (by have := Hx.out; omega)]; intro y m; cases m⟩
    case round =>
      obtain ⟨k, hk, rfl, hz⟩ := hrel
      rcases k with _ | j
      · have K := Lib.hid (trim_can D.out hz.out (by rw [List.take_zero]; exact Norm.nil))
        clear hz
        go_wp2_with fail
        go_meet
        exact ⟨0, Nat.zero_le _, rfl, K, rfl⟩
      · have ja : j < l.length := by have := Hx.out; omega
        obtain ⟨ga, rfl, ka, cA⟩ := R.out j ja
        have j0 : (0 : Int) ≤ (j : Int) := by omega
        have jx : (j : Int) < (x : Int) := by omega
        have K1 := Lib.hid (fun (z : l[j] ≠ 0) => trim_can D.out hz.out (take_norm ja z))
        have K2 := Lib.hid (fun (z : l[j] = 0) => show ∀ y ∈ l.drop j, y = 0 by
          rw [List.drop_eq_getElem_cons ja]; intro y m; rcases List.mem_cons.1 m with m | m; exact m.trans z; exact hz.out y m)
        generalize l[j] = u at *
        clear hz ka
        by_cases t : u = 0
        · subst t
          go_wp2_with fail
          go_round
          case rel => exact ⟨j, by omega, by go_num, K2.out rfl⟩
          case measure => simp [intOf]
        · have t' : (u == 0) = false := by simpa using t
          have T := Lib.hid t; clear t
          go_wp2_with fail
          go_meet
          exact ⟨j + 1, hk, by go_num, K1.out T.out, rfl⟩
  case rest =>
    obtain ⟨k, hk, rfl, hc, rfl⟩ := hcut
    go_wp2_with fail
    go_loopw [4, 5] (fun v i wr => ∃ m : Nat, m ≤ k ∧ i = .int .i64 m ∧ wr.ownsRow wc.heap.size 3 1 v m ((l.take m).map (Value.int .i64)) ∧ Below wc.heap.size wc wr) (fun _ i _ => k - (intOf i).toNat)
    case atStart => exact ⟨0, Nat.zero_le _, rfl, World.ownsRow_nil _ _ _ _, Below.refl _ _⟩
    case round =>
      obtain ⟨m, hm, rfl, hown, hb⟩ := hrel
      by_cases hmk : m < k
      · have ja : m < l.length := by have := Hx.out; omega
        obtain ⟨ga, rfl, ka, cA⟩ := R.out m ja
        have j0 : (0 : Int) ≤ (m : Int) := by omega
        have jx : (m : Int) < (x : Int) := by omega
        have cB : wr.cell? ⟨ga, m, none⟩ = some (.int .i64 l[m]) := by rw [hb.cell (by exact ka)]; exact cA
        have ET := Lib.hid (show l.take m ++ [l[m]] = l.take (m + 1) by simp)
        generalize l[m] = u at *
        clear cA ka
        go_wp2_with (first
          | (at_builtin; refine wpList_append_own _ rfl _ _ 26 rfl wc.heap.size 3 i0 (.int .i64 0) 1 8 Try.underlying26 hi hz0 hz1 hz2 rfl (by decide) _ _ _ rfl (hown.alloc _) ⟨wr.heap.size, 0, none⟩ 1 1 [.int .i64 u] rfl rfl ?c1 ?c2 ?c3 ?c4 ?c5 ?_))
        case c1 =>
          intro j u hj
          match j, hj with
          | 0, hj => simp at hj; subst hj; simp [Addr.add]
        case c2 => intro u hu; simp at hu; subst hu; rfl
        case c3 => unfold maxLen; omega
        case c4 => omega
        case c5 => have := hb.size; simp; omega
        intro v' w1 hown' hgrow _
        have RR := own_snoc (l := l.take m) _ (by simp) hb hown hown' hgrow
        rw [ET.out] at RR
        clear hown' hgrow hown hb cB
        go_wp2
        go_roundw
        case rel => exact ⟨m + 1, by omega, by go_num, RR.1, RR.2⟩
        case measure => simp [intOf]; omega
      · have e : m = k := by omega
        obtain ⟨q, cc, hv, hlen, hr, hn, hf⟩ := own_row hown
        have E := Lib.hid e
        subst hv
        have HL := Lib.hid hlen; clear hlen e
        go_wp2
        go_ret
        refine ⟨_, q, cc, rfl, ?_, ?_, hr, hn, hf, hb⟩
        · rw [E.out]; exact hc.out
        · have := HL.out; omega
end Go.Proofs.Ytlfffobfcledcaa

/- The reference's rows: whole, Of, addD, subD. -/
namespace Go.Proofs.Ytlfffobfcledcaa
open Go.RowKit
set_option linter.unusedVariables false
set_option linter.unusedSimpArgs false

theorem RowR.setCell {w : World} {p : Option Addr} {l : List Int} (r : RowR w p l) {q : Addr} (h : ∀ a, p = some a → a.block ≠ q.block) (v : Value) : RowR (w.setCell q v) p l := fun i hi => by
  obtain ⟨g, e, k, c⟩ := r i hi
  refine ⟨g, e, by simpa [World.setCell] using k, ?_⟩
  rw [World.cell?_setCell_other _ _ _ _ (fun e2 => h _ e (by subst e2; rfl))]
  exact c

/-- The reference's whole number x. -/
structure BigR (n : Nat) (w : World) (p : Option Addr) (l : List Int) (x : Int) : Prop where
  can : Can l x.natAbs
  size : l.length ≤ n
  row : RowR w p l
theorem BigR.below {n : Nat} {w w' : World} {p : Option Addr} {l : List Int} {x : Int} (r : BigR n w p l x) (hb : Below w.heap.size w w') : BigR n w' p l x := ⟨r.can, r.size, r.row.below hb⟩
theorem BigR.more {n m : Nat} {w : World} {p : Option Addr} {l : List Int} {x : Int} (r : BigR n w p l x) (h : n ≤ m) : BigR m w p l x := ⟨r.can, by have := r.size; omega, r.row⟩
/-- A call's result is the whole number x. -/
def BigRes (n : Nat) (x : Int) (w : World) (e : Ending) (w' : World) : Prop :=
  ∃ p l c, e = .returned (.agg #[.bool (decide (x < 0)), .slice p l.length c]) ∧ BigR n w' p l x ∧ (∀ a, p = some a → w.heap.size ≤ a.block) ∧ Below w.heap.size w w'

theorem whole_sign {t : List Int} {v : Int} (s : Bool) (h : Can t v) : decide ((bif s then -v else v) < 0) = (s && decide (0 < t.length)) := by
  have k := h.nonneg
  have z := h.length_zero
  cases s
  · simp; omega
  · simp only [cond_true, Bool.true_and]
    rw [Bool.eq_iff_iff]
    simp only [decide_eq_true_eq]
    omega
theorem whole_abs {v : Int} (s : Bool) (h : 0 ≤ v) : ((bif s then -v else v).natAbs : Int) = v := by cases s <;> simp <;> omega

set_option maxHeartbeats 400000 in
theorem whole_any (s : Bool) (p : Option Addr) (c : Nat) (l : List Int) (w : World) (hd : Digs l) (r : RowR w p l) (ln : l.length ≤ 1000000) :
    Calls Try.prog 70 #[.bool s, .slice p l.length c] w (BigRes l.length (bif s then -dval l else dval l) w) := by
  have nn := dval_nonneg hd
  have AB := Lib.hid (whole_abs s nn)
  have R := Lib.hid r; clear r
  have D := Lib.hid hd; clear hd
  go_enter Try.func70, Try.ntmps70
  go_wp2_with fail
  refine (trim_any p c l _ D.out (R.out.below (by go_grown)) ln).mono ?_
  rintro e w1 ⟨t, q, cc, rfl, hcan, hlen, hr, hn, hf, hb1⟩
  obtain ⟨hc, hfz⟩ := bcell hb1
  have hz : w.heap.size < w1.heap.size := by have := hb1.size; simp at this; omega
  have WS := Lib.hid (whole_sign s hcan)
  have fin : ∀ b : Bool, b = (s && decide (0 < t.length)) → BigRes l.length (bif s then -dval l else dval l) w (.returned (.agg #[.bool b, .slice q t.length cc])) ((w1.setCell ⟨w.heap.size, 0, none⟩ (.bool b)).setCell ⟨w.heap.size, 1, none⟩ (.slice q t.length cc)) := by
    intro b hb
    have hq : ∀ a, q = some a → a.block ≠ w.heap.size := fun a ha => by have := hf a ha; simp at this; omega
    refine ⟨q, t, cc, by rw [hb, ← WS.out], ⟨by rw [AB.out]; exact hcan, hlen, (hr.setCell (q := ⟨w.heap.size, 0, none⟩) hq _).setCell (q := ⟨w.heap.size, 1, none⟩) hq _⟩, fun a ha => by have := hf a ha; simp at this; omega, ?_⟩
    exact (((((Below.refl _ _).alloc (Nat.le_refl _) _).trans (hb1.mono (by simp))).setCell (by simp) _).setCell (by simp) _)
  clear WS AB hcan hr hn hf hb1 hlen
  generalize t.length = n at *
  have key : (s = false) ∨ (s = true ∧ n = 0) ∨ (s = true ∧ 0 < n) := by cases s <;> simp <;> omega
  rcases key with rfl | ⟨rfl, rfl⟩ | ⟨rfl, h0⟩
  · have F := Lib.hid (fin false (by simp)); clear fin
    go_wp2_with fail
    exact bodyPost_ret (v := .agg #[.bool false, .slice q n cc]) (by simp [results, Try.results70, go_sem, hc, hz]) rfl F.out
  · have F := Lib.hid (fin false (by simp)); clear fin
    go_wp2_with fail
    exact bodyPost_ret (v := .agg #[.bool false, .slice q 0 cc]) (by simp [results, Try.results70, go_sem, hc, hz]) rfl F.out
  · have F := Lib.hid (fin true (by simp; omega)); clear fin
    go_wp2_with fail
    exact bodyPost_ret (v := .agg #[.bool true, .slice q n cc]) (by simp [results, Try.results70, go_sem, hc, hz]) rfl F.out
end Go.Proofs.Ytlfffobfcledcaa

/- The reference's rows: addD, subD. -/
namespace Go.Proofs.Ytlfffobfcledcaa
open Go.RowKit
set_option linter.unusedVariables false
set_option linter.unusedSimpArgs false

/-- A sum's digits: no word on a highest 0. -/
def SumRes (x : Int) (n : Nat) (w : World) (e : Ending) (w' : World) : Prop :=
  ∃ t p c, e = .returned (.slice p t.length c) ∧ Digs t ∧ dval t = x ∧ t.length ≤ n ∧ RowR w' p t ∧ Below w.heap.size w w'

theorem Digs.snoc {l : List Int} {d : Int} (h : Digs l) (h0 : 0 ≤ d) (h1 : d < 10000) : Digs (l ++ [d]) := Digs.app.2 ⟨h, by intro x m; simp at m; omega⟩

theorem one_cell {w : World} (x : Int) : ∀ j u, ([Value.int .i64 x])[j]? = some u → (w.alloc (Obj.cells #[Value.int .i64 x] 3)).cell? ((⟨w.heap.size, 0, none⟩ : Addr).add j) = some u := by
  intro j u hj
  match j, hj with
  | 0, hj => simp at hj; subst hj; simp [Addr.add, go_sem]
theorem one_one {x : Int} : ∀ u ∈ [Value.int .i64 x], u.oneCell' = true := by intro u hu; simp at hu; subst hu; rfl

set_option maxHeartbeats 1000000 in
theorem addD_any (pa pb : Option Addr) (ca cb : Nat) (a b : List Int) (w : World) (M : Nat) (ha : Digs a) (hb : Digs b) (ra : RowR w pa a) (rb : RowR w pb b) (la : a.length ≤ M) (lb : b.length ≤ M) (hM : M ≤ 1000000) :
    Calls Try.prog 101 #[.slice pa a.length ca, .slice pb b.length cb] w (SumRes (dval a + dval b) (M + 1) w) := by
  obtain ⟨i0, hi, hz0, hz1, hz2⟩ := info_parts intInfo
  obtain ⟨N, hN⟩ : ∃ N, N = max a.length b.length := ⟨_, rfl⟩
  have hN1 : a.length ≤ N := by omega
  have hN2 : b.length ≤ N := by omega
  have hN3 : N ≤ M := by omega
  have hN4 : N ≤ a.length ∨ N ≤ b.length := by omega
  clear hN la lb
  have Ra := Lib.hid ra; clear ra
  have Rb := Lib.hid rb; clear rb
  have Da := Lib.hid ha; clear ha
  have Db := Lib.hid hb; clear hb
  generalize hx : a.length = x at *
  generalize hy : b.length = y at *
  have Hx := Lib.hid hx; clear hx
  have Hy := Lib.hid hy; clear hy
  go_enter Try.func101, Try.ntmps101
  go_wp2
  go_loopw [5, 6, 7] (fun v cv i wr => ∃ (k : Nat) (o : List Int) (c : Int), (k ≤ N ∨ (k ≤ N + 1 ∧ c ≤ 0)) ∧ 0 ≤ c ∧ c ≤ 1 ∧ cv = .int .i64 c ∧ i = .int .i64 k ∧ Hid (o.length = k) ∧ Hid (Digs o) ∧
      Hid (dval o + 10000 ^ k * (c + dval (a.drop k) + dval (b.drop k)) = dval a + dval b) ∧ wr.ownsRow w.heap.size 3 1 v k (o.map (Value.int .i64)) ∧ Below w.heap.size w wr) (fun _ _ i _ => N + 1 - (intOf i).toNat)
  case atStart => exact ⟨0, [], 0, .inl (Nat.zero_le _), by omega, by omega, rfl, rfl, rfl, Digs.nil, by show _ = _; simp [dval], World.ownsRow_nil _ _ _ _, Below.refl _ _⟩
  case round =>
    obtain ⟨k, o, c, hk, c0, c1, rfl, rfl, hol, hod, hval, hown, hbel⟩ := hrel
    have G1 := gd_le Da.out k
    have G2 := gd_le Db.out k
    have S := Lib.hid (add_step hol.out hval.out)
    have step : ∀ s v' w1, 0 ≤ s → s = c + gd a k + gd b k → w1.ownsRow w.heap.size 3 1 v' (k + 1) (o.map (Value.int .i64) ++ [.int .i64 (s % 10000)]) → (wr.alloc (Obj.cells #[Value.int .i64 (s % 10000)] 3)).grownBy w1 (u5).ownBlock →
        Hid ((o ++ [s % 10000]).length = k + 1) ∧ Hid (Digs (o ++ [s % 10000])) ∧ Hid (dval (o ++ [s % 10000]) + 10000 ^ (k + 1) * (s / 10000 + dval (a.drop (k + 1)) + dval (b.drop (k + 1))) = dval a + dval b) ∧ w1.ownsRow w.heap.size 3 1 v' (k + 1) ((o ++ [s % 10000]).map (Value.int .i64)) ∧ Below w.heap.size w w1 := by
      intro s v' w1 hs e h1 h2
      subst e
      have RR := own_snoc (l := o) _ rfl hbel hown h1 h2
      exact ⟨by show _ = _; have := hol.out; simp [this], hod.out.snoc (by omega) (by omega), S.out, RR.1, RR.2⟩
    have hbs : ∀ o, w.heap.size ≤ (wr.alloc o).heap.size := fun o => by have := hbel.size; simp; omega
    clear S
    by_cases t1 : k < x
    · have l1 : k < a.length := by have := Hx.out; omega
      obtain ⟨ga, rfl, ka, cA⟩ := Ra.out k l1
      have cA2 : wr.cell? ⟨ga, k, none⟩ = some (.int .i64 (gd a k)) := by rw [hbel.cell (by exact ka), cA, gd_in l1]
      clear cA ka
      by_cases t2 : k < y
      · have l2 : k < b.length := by have := Hy.out; omega
        obtain ⟨gb, rfl, kb, cB⟩ := Rb.out k l2
        have cB2 : wr.cell? ⟨gb, k, none⟩ = some (.int .i64 (gd b k)) := by rw [hbel.cell (by exact kb), cB, gd_in l2]
        clear cB kb
        have st := Lib.hid (fun v' w1 h => step (c + gd a k + gd b k) v' w1 h rfl)
        clear step
        generalize gd a k = u at *
        generalize gd b k = v at *
        go_wp2_with (first
          | (at_builtin; refine wpList_append_own _ rfl _ _ 26 rfl w.heap.size 3 i0 (.int .i64 0) 1 8 Try.underlying26 hi hz0 hz1 hz2 rfl (by decide) _ _ _ rfl (hown.alloc _) ⟨wr.heap.size, 0, none⟩ 1 1 [.int .i64 ((c + u + v) % 10000)] rfl rfl (one_cell _) one_one (by unfold maxLen; omega) (by omega) (hbs _) ?_))
        intro v' w1 hown' hgrow _
        have RR := st.out v' w1 (by omega) hown' hgrow
        clear hown' hgrow hown hbel st hbs hol hod hval
        go_wp2
        go_roundw
        case rel => exact ⟨k + 1, _, (c + u + v) / 10000, .inl (by omega), by omega, by omega, rfl, by go_num, RR.1, RR.2.1, RR.2.2.1, RR.2.2.2.1, RR.2.2.2.2⟩
        case measure => simp [intOf]; omega
      · have e2 : gd b k = 0 := gd_out (by have := Hy.out; omega)
        have st := Lib.hid (fun v' w1 h => step (c + gd a k) v' w1 h (by rw [e2, Int.add_zero]))
        clear step e2
        generalize gd a k = u at *
        go_wp2_with (first
          | (at_builtin; refine wpList_append_own _ rfl _ _ 26 rfl w.heap.size 3 i0 (.int .i64 0) 1 8 Try.underlying26 hi hz0 hz1 hz2 rfl (by decide) _ _ _ rfl (hown.alloc _) ⟨wr.heap.size, 0, none⟩ 1 1 [.int .i64 ((c + u) % 10000)] rfl rfl (one_cell _) one_one (by unfold maxLen; omega) (by omega) (hbs _) ?_))
        intro v' w1 hown' hgrow _
        have RR := st.out v' w1 (by omega) hown' hgrow
        clear hown' hgrow hown hbel st hbs hol hod hval
        go_wp2
        go_roundw
        case rel => exact ⟨k + 1, _, (c + u) / 10000, .inl (by omega), by omega, by omega, rfl, by go_num, RR.1, RR.2.1, RR.2.2.1, RR.2.2.2.1, RR.2.2.2.2⟩
        case measure => simp [intOf]; omega
    · have e1 : gd a k = 0 := gd_out (by have := Hx.out; omega)
      by_cases t2 : k < y
      · have l2 : k < b.length := by have := Hy.out; omega
        obtain ⟨gb, rfl, kb, cB⟩ := Rb.out k l2
        have cB2 : wr.cell? ⟨gb, k, none⟩ = some (.int .i64 (gd b k)) := by rw [hbel.cell (by exact kb), cB, gd_in l2]
        clear cB kb
        have st := Lib.hid (fun v' w1 h => step (c + gd b k) v' w1 h (by rw [e1, Int.add_zero]))
        clear step e1
        generalize gd b k = v at *
        go_wp2_with (first
          | (at_builtin; refine wpList_append_own _ rfl _ _ 26 rfl w.heap.size 3 i0 (.int .i64 0) 1 8 Try.underlying26 hi hz0 hz1 hz2 rfl (by decide) _ _ _ rfl (hown.alloc _) ⟨wr.heap.size, 0, none⟩ 1 1 [.int .i64 ((c + v) % 10000)] rfl rfl (one_cell _) one_one (by unfold maxLen; omega) (by omega) (hbs _) ?_))
        intro v' w1 hown' hgrow _
        have RR := st.out v' w1 (by omega) hown' hgrow
        clear hown' hgrow hown hbel st hbs hol hod hval
        go_wp2
        go_roundw
        case rel => exact ⟨k + 1, _, (c + v) / 10000, .inl (by omega), by omega, by omega, rfl, by go_num, RR.1, RR.2.1, RR.2.2.1, RR.2.2.2.1, RR.2.2.2.2⟩
        case measure => simp [intOf]; omega
      · have e2 : gd b k = 0 := gd_out (by have := Hy.out; omega)
        by_cases t3 : 0 < c
        · have st := Lib.hid (fun v' w1 h => step c v' w1 h (by rw [e1, e2, Int.add_zero, Int.add_zero]))
          clear step e1 e2
          go_wp2_with (first
            | (at_builtin; refine wpList_append_own _ rfl _ _ 26 rfl w.heap.size 3 i0 (.int .i64 0) 1 8 Try.underlying26 hi hz0 hz1 hz2 rfl (by decide) _ _ _ rfl (hown.alloc _) ⟨wr.heap.size, 0, none⟩ 1 1 [.int .i64 (c % 10000)] rfl rfl (one_cell _) one_one (by unfold maxLen; omega) (by omega) (hbs _) ?_))
          intro v' w1 hown' hgrow _
          have RR := st.out v' w1 (by omega) hown' hgrow
          clear hown' hgrow hown hbel st hbs hol hod hval
          go_wp2
          go_roundw
          case rel => exact ⟨k + 1, _, c / 10000, .inr ⟨by omega, by omega⟩, by omega, by omega, rfl, by go_num, RR.1, RR.2.1, RR.2.2.1, RR.2.2.2.1, RR.2.2.2.2⟩
          case measure => simp [intOf]; omega
        · have vv : dval o = dval a + dval b := by
            have h := hval.out
            rw [List.drop_of_length_le (by have := Hx.out; omega), List.drop_of_length_le (by have := Hy.out; omega), show c = 0 from by omega] at h
            simpa [dval] using h
          obtain ⟨q, cc, hv, hlen, hr, hn, hf⟩ := own_row hown
          have VV := Lib.hid vv
          have HL := Lib.hid hlen
          clear vv hlen e1 e2 step
          subst hv
          go_wp2
          go_ret
          exact ⟨_, q, cc, rfl, hod.out, VV.out, by have := HL.out; omega, hr, hbel⟩
end Go.Proofs.Ytlfffobfcledcaa

/- The reference's rows: subD, Of. -/
namespace Go.Proofs.Ytlfffobfcledcaa
open Go.RowKit
set_option linter.unusedVariables false
set_option linter.unusedSimpArgs false

theorem RowRes.from {x : Int} {n m : Nat} {w w1 w2 : World} {e : Ending} (h : RowRes x m w1 e w2) (hb : Below w.heap.size w w1) (hm : m ≤ n) : RowRes x n w e w2 := by
  obtain ⟨t, p, c, rfl, h1, h2, h3, h4, h5, h6⟩ := h
  exact ⟨t, p, c, rfl, h1, by omega, h3, h4, fun a ha => Nat.le_trans hb.size (h5 a ha), hb.trans (h6.mono hb.size)⟩

set_option maxHeartbeats 1000000 in
theorem subD_any (pa pb : Option Addr) (ca cb : Nat) (a b : List Int) (w : World) (ha : Digs a) (hb : Digs b) (ra : RowR w pa a) (rb : RowR w pb b) (la : a.length ≤ 1000000) (lb : b.length ≤ a.length) (hv : dval b ≤ dval a) :
    Calls Try.prog 97 #[.slice pa a.length ca, .slice pb b.length cb] w (RowRes (dval a - dval b) a.length w) := by
  obtain ⟨i0, hi, hz0, hz1, hz2⟩ := info_parts intInfo
  have HV := Lib.hid hv; clear hv
  have Ra := Lib.hid ra; clear ra
  have Rb := Lib.hid rb; clear rb
  have Da := Lib.hid ha; clear ha
  have Db := Lib.hid hb; clear hb
  generalize hx : a.length = x at *
  generalize hy : b.length = y at *
  have Hx := Lib.hid hx; clear hx
  have Hy := Lib.hid hy; clear hy
  go_enter Try.func97, Try.ntmps97
  go_wp2
  go_loopw [5, 6, 7] (fun v cv i wr => ∃ (k : Nat) (o : List Int) (c : Int), k ≤ x ∧ 0 ≤ c ∧ c ≤ 1 ∧ cv = .int .i64 c ∧ i = .int .i64 k ∧ Hid (o.length = k) ∧ Hid (Digs o) ∧
      Hid (dval o + 10000 ^ k * (dval (a.drop k) - dval (b.drop k) - c) = dval a - dval b) ∧ wr.ownsRow w.heap.size 3 1 v k (o.map (Value.int .i64)) ∧ Below w.heap.size w wr) (fun _ _ i _ => x - (intOf i).toNat)
  case atStart => exact ⟨0, [], 0, Nat.zero_le _, by omega, by omega, rfl, rfl, rfl, Digs.nil, by show _ = _; simp [dval], World.ownsRow_nil _ _ _ _, Below.refl _ _⟩
  case round =>
    obtain ⟨k, o, c, hk, c0, c1, rfl, rfl, hol, hod, hval, hown, hbel⟩ := hrel
    have G1 := gd_le Da.out k
    have G2 := gd_le Db.out k
    have step : ∀ s c' v' w1, 0 ≤ s → s < 10000 → s - 10000 * c' = gd a k - gd b k - c → w1.ownsRow w.heap.size 3 1 v' (k + 1) (o.map (Value.int .i64) ++ [.int .i64 s]) → (wr.alloc (Obj.cells #[Value.int .i64 s] 3)).grownBy w1 (u5).ownBlock →
        Hid ((o ++ [s]).length = k + 1) ∧ Hid (Digs (o ++ [s])) ∧ Hid (dval (o ++ [s]) + 10000 ^ (k + 1) * (dval (a.drop (k + 1)) - dval (b.drop (k + 1)) - c') = dval a - dval b) ∧ w1.ownsRow w.heap.size 3 1 v' (k + 1) ((o ++ [s]).map (Value.int .i64)) ∧ Below w.heap.size w w1 := by
      intro s c' v' w1 hs hs' e h1 h2
      have RR := own_snoc (l := o) _ rfl hbel hown h1 h2
      exact ⟨by show _ = _; have := hol.out; simp [this], hod.out.snoc (by omega) (by omega), sub_step hol.out e hval.out, RR.1, RR.2⟩
    have hbs : ∀ o, w.heap.size ≤ (wr.alloc o).heap.size := fun o => by have := hbel.size; simp; omega
    by_cases t1 : k < x
    · have l1 : k < a.length := by have := Hx.out; omega
      obtain ⟨ga, rfl, ka, cA⟩ := Ra.out k l1
      have cA2 : wr.cell? ⟨ga, k, none⟩ = some (.int .i64 (gd a k)) := by rw [hbel.cell (by exact ka), cA, gd_in l1]
      clear cA ka
      by_cases t2 : k < y
      · have l2 : k < b.length := by have := Hy.out; omega
        obtain ⟨gb, rfl, kb, cB⟩ := Rb.out k l2
        have cB2 : wr.cell? ⟨gb, k, none⟩ = some (.int .i64 (gd b k)) := by rw [hbel.cell (by exact kb), cB, gd_in l2]
        clear cB kb
        generalize gd a k = u at *
        generalize gd b k = v at *
        by_cases t3 : u - c - v < 0
        · have st := Lib.hid (fun v' w1 h h' => step (u - c - v + 10000) 1 v' w1 h h' (by omega))
          clear step
          go_wp2_with (first
            | (at_builtin; refine wpList_append_own _ rfl _ _ 26 rfl w.heap.size 3 i0 (.int .i64 0) 1 8 Try.underlying26 hi hz0 hz1 hz2 rfl (by decide) _ _ _ rfl (hown.alloc _) ⟨wr.heap.size, 0, none⟩ 1 1 [.int .i64 (u - c - v + 10000)] rfl rfl (one_cell _) one_one (by unfold maxLen; omega) (by omega) (hbs _) ?_))
          intro v' w1 hown' hgrow _
          have RR := st.out v' w1 (by omega) (by omega) hown' hgrow
          clear hown' hgrow hown hbel st hbs hol hod hval
          go_wp2
          go_roundw
          case rel => exact ⟨k + 1, _, 1, by omega, by omega, by omega, rfl, by go_num, RR.1, RR.2.1, RR.2.2.1, RR.2.2.2.1, RR.2.2.2.2⟩
          case measure => simp [intOf]; omega
        · have st := Lib.hid (fun v' w1 h h' => step (u - c - v) 0 v' w1 h h' (by omega))
          clear step
          go_wp2_with (first
            | (at_builtin; refine wpList_append_own _ rfl _ _ 26 rfl w.heap.size 3 i0 (.int .i64 0) 1 8 Try.underlying26 hi hz0 hz1 hz2 rfl (by decide) _ _ _ rfl (hown.alloc _) ⟨wr.heap.size, 0, none⟩ 1 1 [.int .i64 (u - c - v)] rfl rfl (one_cell _) one_one (by unfold maxLen; omega) (by omega) (hbs _) ?_))
          intro v' w1 hown' hgrow _
          have RR := st.out v' w1 (by omega) (by omega) hown' hgrow
          clear hown' hgrow hown hbel st hbs hol hod hval
          go_wp2
          go_roundw
          case rel => exact ⟨k + 1, _, 0, by omega, by omega, by omega, rfl, by go_num, RR.1, RR.2.1, RR.2.2.1, RR.2.2.2.1, RR.2.2.2.2⟩
          case measure => simp [intOf]; omega
      · have e2 : gd b k = 0 := gd_out (by have := Hy.out; omega)
        generalize gd a k = u at *
        by_cases t3 : u - c < 0
        · have st := Lib.hid (fun v' w1 h h' => step (u - c + 10000) 1 v' w1 h h' (by omega))
          clear step e2
          go_wp2_with (first
            | (at_builtin; refine wpList_append_own _ rfl _ _ 26 rfl w.heap.size 3 i0 (.int .i64 0) 1 8 Try.underlying26 hi hz0 hz1 hz2 rfl (by decide) _ _ _ rfl (hown.alloc _) ⟨wr.heap.size, 0, none⟩ 1 1 [.int .i64 (u - c + 10000)] rfl rfl (one_cell _) one_one (by unfold maxLen; omega) (by omega) (hbs _) ?_))
          intro v' w1 hown' hgrow _
          have RR := st.out v' w1 (by omega) (by omega) hown' hgrow
          clear hown' hgrow hown hbel st hbs hol hod hval
          go_wp2
          go_roundw
          case rel => exact ⟨k + 1, _, 1, by omega, by omega, by omega, rfl, by go_num, RR.1, RR.2.1, RR.2.2.1, RR.2.2.2.1, RR.2.2.2.2⟩
          case measure => simp [intOf]; omega
        · have st := Lib.hid (fun v' w1 h h' => step (u - c) 0 v' w1 h h' (by omega))
          clear step e2
          go_wp2_with (first
            | (at_builtin; refine wpList_append_own _ rfl _ _ 26 rfl w.heap.size 3 i0 (.int .i64 0) 1 8 Try.underlying26 hi hz0 hz1 hz2 rfl (by decide) _ _ _ rfl (hown.alloc _) ⟨wr.heap.size, 0, none⟩ 1 1 [.int .i64 (u - c)] rfl rfl (one_cell _) one_one (by unfold maxLen; omega) (by omega) (hbs _) ?_))
          intro v' w1 hown' hgrow _
          have RR := st.out v' w1 (by omega) (by omega) hown' hgrow
          clear hown' hgrow hown hbel st hbs hol hod hval
          go_wp2
          go_roundw
          case rel => exact ⟨k + 1, _, 0, by omega, by omega, by omega, rfl, by go_num, RR.1, RR.2.1, RR.2.2.1, RR.2.2.2.1, RR.2.2.2.2⟩
          case measure => simp [intOf]; omega
    · have ek : k = x := by omega
      have vv : dval o = dval a - dval b := by
        have h := hval.out
        rw [List.drop_of_length_le (by have := Hx.out; omega), List.drop_of_length_le (by have := Hy.out; omega)] at h
        refine sub_end hod.out hol.out h (by omega) (by have := HV.out; omega)
      obtain ⟨q, cc, hv, hlen, hr, hn, hf⟩ := own_row hown
      have VV := Lib.hid vv
      have HL := Lib.hid hlen
      have HR := Lib.hid hr
      have EK := Lib.hid ek
      clear vv hlen ek step hr hn hf hown hval hol hbs
      subst hv
      go_wp2_with fail
      refine (trim_any q cc o _ hod.out (HR.out.below (Below.refl _ _)) (by have := HL.out; omega)).mono ?_
      intro e w2 hres
      have H2 := hres.from hbel (n := x) (by have := HL.out; have := EK.out; omega)
      rw [VV.out] at H2
      clear hres
      obtain ⟨t, p', c', rfl, rest⟩ := H2
      have RST := Lib.hid rest
      clear rest hbel hod
      go_wp2_with fail
      go_ret
      exact ⟨t, p', c', rfl, RST.out⟩
end Go.Proofs.Ytlfffobfcledcaa

/- The reference's rows: mulD. -/
namespace Go.Proofs.Ytlfffobfcledcaa
open Go.RowKit
set_option linter.unusedVariables false
set_option linter.unusedSimpArgs false

/-- The row that a product is made in. -/
def Made (w wr : World) (N : Nat) (O : List Int) : Prop := O.length = N ∧ Digs O ∧ wr.ownsRow w.heap.size 3 1 (.slice (some ⟨w.heap.size, 0, none⟩) N N) N (O.map (Value.int .i64)) ∧ Below w.heap.size w wr
theorem Made.set {w wr : World} {N : Nat} {O : List Int} (h : Made w wr N O) (j : Nat) {x : Int} (h0 : 0 ≤ x) (h1 : x < 10000) : Made w (wr.setCell ⟨w.heap.size, j, none⟩ (.int .i64 x)) N (O.set j x) := by
  obtain ⟨a, b, c, d⟩ := h
  refine ⟨by simpa using a, b.set j ⟨h0, h1⟩, ?_, d.setCell (Nat.le_refl _) _⟩
  have := (c.stored j (.int .i64 x)).1
  rwa [← List.map_set] at this
theorem Made.drewN {w wr : World} {N : Nat} {O : List Int} (h : Made w wr N O) (n : Nat) : Made w (wr.drewN n) N O := ⟨h.1, h.2.1, h.2.2.1, below_drewN h.2.2.2 n⟩
theorem Made.cell {w wr : World} {N : Nat} {O : List Int} (h : Made w wr N O) (j : Nat) (hj : j < O.length) : wr.cell? ⟨w.heap.size, j, none⟩ = some (.int .i64 O[j]) := by
  rw [h.2.2.1.cellAt j (by have := h.1; omega)]
  simp [hj]
theorem Made.frozen {w wr : World} {N : Nat} {O : List Int} (h : Made w wr N O) (j : Nat) : wr.frozen? ⟨w.heap.size, j, none⟩ = false := h.2.2.1.frozenAt j
theorem Made.lt {w wr : World} {N : Nat} {O : List Int} (h : Made w wr N O) : w.heap.size < wr.heap.size := (h.2.2.1.lt _ rfl).2
theorem made_zeros (n : Nat) : (madeCells (Value.int .i64 0).cells (n * 1)).toList = (List.replicate n (0 : Int)).map (Value.int .i64) := by
  rw [Nat.mul_one, show (Value.int .i64 0).cells = #[.int .i64 0] from rfl, toList_madeCells_one, List.map_replicate]
theorem dval_replicate (n : Nat) : dval (List.replicate n 0) = 0 := dval_zeros (fun x m => List.eq_of_mem_replicate m)

theorem mul_last' {a b O : List Int} {i y k : Nat} {c X T : Int} (hy : b.length = y) (hk : k = y) (hi : i + y < O.length) (h0 : O[i + y] = 0)
    (h : dval O + 10000 ^ (i + k) * (c + gd a i * dval (b.drop k)) = T + 10000 ^ i * (gd a i * dval b))
    (hT : T + 10000 ^ i * (dval (a.drop i) * dval b) = X) :
    dval (O.set (i + y) c) + 10000 ^ (i + 1) * (dval (a.drop (i + 1)) * dval b) = X := by
  subst hk hy
  exact mul_last hi h0 h hT

set_option maxRecDepth 100000 in
set_option maxHeartbeats 1600000 in
theorem mulD_any (pa pb : Option Addr) (ca cb : Nat) (a b : List Int) (w : World) (ha : Digs a) (hb : Digs b) (ra : RowR w pa a) (rb : RowR w pb b) (la : a.length ≤ 100000) (lb : b.length ≤ 100000) :
    Calls Try.prog 79 #[.slice pa a.length ca, .slice pb b.length cb] w (RowRes (dval a * dval b) (a.length + b.length) w) := by
  obtain ⟨i0, hi, hz0, hz1, hz2⟩ := info_parts intInfo
  have Ra := Lib.hid ra; clear ra
  have Rb := Lib.hid rb; clear rb
  have Da := Lib.hid ha; clear ha
  have Db := Lib.hid hb; clear hb
  generalize hx : a.length = x at *
  generalize hy : b.length = y at *
  have Hx := Lib.hid hx; clear hx
  have Hy := Lib.hid hy; clear hy
  go_enter Try.func79, Try.ntmps79
  go_wp2_with (first
    | (at_make; refine wpList_make_full _ rfl _ _ 26 rfl w.heap.size 3 i0 (.int .i64 0) 1 Try.underlying26 hi hz0 hz1 .i64 .i64 _ _ (x + y) rfl rfl (by omega) (by omega) (by rw [hz2]; omega) (by unfold maxLen; omega) (Nat.le_refl _) ?_; intro w0 hown0 hgrow0))
  rw [made_zeros] at hown0
  have M0 := Lib.hid (show Made w w0 (x + y) (List.replicate (x + y) 0) from ⟨by simp, fun z m => by rw [List.eq_of_mem_replicate m]; omega, hown0, (Below.refl _ _).grown hgrow0 (Nat.le_refl _) (fun k e => by cases e)⟩)
  clear hown0 hgrow0
  go_wp2
  go_loopw [6] (fun iv wr => ∃ (i : Nat) (O : List Int), i ≤ x ∧ iv = .int .i64 i ∧ Hid (Made w wr (x + y) O) ∧ Hid (∀ j (h : j < O.length), i + y ≤ j → O[j] = 0) ∧
      Hid (dval O + 10000 ^ i * (dval (a.drop i) * dval b) = dval a * dval b)) (fun iv _ => x - (intOf iv).toNat)
  case atStart => exact ⟨0, _, Nat.zero_le _, rfl, M0, by intro j h _; simp, by show _ = _; rw [dval_replicate]; simp⟩
  case round =>
    obtain ⟨i, O, hik, rfl, MO, hz, hval⟩ := hrel
    by_cases t1 : i < x
    · have l1 : i < a.length := by have := Hx.out; omega
      obtain ⟨ga, rfl, ka, cA⟩ := Ra.out i l1
      have G1 := gd_le Da.out i
      have CA := Lib.hid (show w.cell? ⟨ga, i, none⟩ = some (.int .i64 (gd a i)) by rw [cA, gd_in l1])
      have KA := Lib.hid ka
      clear cA ka
      obtain ⟨wo, hwo⟩ : ∃ wo : World, wo = wr := ⟨_, rfl⟩
      subst hwo
      go_wp2
      go_loopw [7, 8] (fun cv kv wr => ∃ (k : Nat) (Q : List Int) (c : Int), k ≤ y ∧ 0 ≤ c ∧ c < 10000 ∧ cv = .int .i64 c ∧ kv = .int .i64 k ∧ Hid (Made w wr (x + y) Q) ∧ Hid (∀ j (h : j < Q.length), i + y ≤ j → Q[j] = 0) ∧
        Hid (dval Q + 10000 ^ (i + k) * (c + gd a i * dval (b.drop k)) = dval O + 10000 ^ i * (gd a i * dval b))) (fun _ kv _ => y - (intOf kv).toNat)
      case atStart => exact ⟨0, O, 0, Nat.zero_le _, by omega, by omega, rfl, rfl, MO, hz, by show _ = _; simp⟩
      case round =>
        obtain ⟨k, Q, c, hk, c0, c1, rfl, rfl, MQ, hz2, hval2⟩ := hrel
        by_cases t2 : k < y
        · have l2 : k < b.length := by have := Hy.out; omega
          obtain ⟨gb, rfl, kb, cB⟩ := Rb.out k l2
          have G2 := gd_le Db.out k
          have cB2 : wr.cell? ⟨gb, k, none⟩ = some (.int .i64 (gd b k)) := by rw [MQ.out.2.2.2.cell (by exact kb), cB, gd_in l2]
          have cA2 : wr.cell? ⟨ga, i, none⟩ = some (.int .i64 (gd a i)) := by rw [MQ.out.2.2.2.cell (by exact KA.out)]; exact CA.out
          have lQ : i + k < Q.length := by have := MQ.out.1; omega
          have cQ : wr.cell? ⟨w.heap.size, i + k, none⟩ = some (.int .i64 Q[i + k]) := MQ.out.cell _ lQ
          have fQ : wr.frozen? ⟨w.heap.size, i + k, none⟩ = false := MQ.out.frozen _
          have gQ := MQ.out.lt
          have G3 := MQ.out.2.1 _ (List.getElem_mem lQ)
          have S := Lib.hid (mul_step lQ hval2.out)
          obtain ⟨B1, B2, B3, B4⟩ := mul_carry G3 G1 G2 ⟨c0, c1⟩
          have hz3 := Lib.hid (show ∀ z, ∀ j (h : j < (Q.set (i + k) z).length), i + y ≤ j → (Q.set (i + k) z)[j] = 0 by
            intro z j h hj
            rw [List.getElem_set_ne (by omega)]
            exact hz2.out j (by simpa using h) hj)
          have ST := Lib.hid (fun (nq : Nat) (z : Int) x0 x1 => (MQ.out.drewN nq).set (i + k) (x := z) x0 x1)
          clear cB kb hz2 hval2
          generalize gd b k = v at *
          generalize Q[i + k] = q at *
          generalize gd a i = u at *
          have e1 : IntKind.i64.wrap ((i : Int) + k) = i + k := IntWalk.i64_in _ (by omega)
          have e2 : IntKind.i64.wrap (u * v) = u * v := IntWalk.i64_in _ (by omega)
          have e3 : IntKind.i64.wrap (q + u * v) = q + u * v := IntWalk.i64_in _ (by omega)
          have e4 : IntKind.i64.wrap (q + u * v + c) = q + u * v + c := IntWalk.i64_in _ (by omega)
          have e5 : ((i : Int) + k).toNat = i + k := by omega
          have i1 : (0 : Int) ≤ i + k := by omega
          have i2 : (i : Int) + k < ((x + y : Nat) : Int) := by omega
          have i3 : (i : Int) < (x : Int) := by omega
          have i4 : (k : Int) < (y : Int) := by omega
          go_wp2
          go_quiet (fail)
          clear e1 e2 e3 e4 e5 cA2 cB2
          go_wp2
          go_roundw
          case rel => exact ⟨k + 1, _, (q + u * v + c) / 10000, by omega, by omega, by omega, rfl, by go_num, ST.out nq _ (by omega) (by omega), hz3.out _, S.out⟩
          case measure => simp [intOf]; omega
        · have ek : k = y := by omega
          have lQ : i + y < Q.length := by have := MQ.out.1; omega
          have cQ : wr.cell? ⟨w.heap.size, i + y, none⟩ = some (.int .i64 Q[i + y]) := MQ.out.cell _ lQ
          have fQ : wr.frozen? ⟨w.heap.size, i + y, none⟩ = false := MQ.out.frozen _
          have gQ := MQ.out.lt
          have S := Lib.hid (mul_last' Hy.out ek lQ (hz2.out _ lQ (Nat.le_refl _)) hval2.out hval.out)
          have hz3 := Lib.hid (show ∀ z, ∀ j (h : j < (Q.set (i + y) z).length), i + 1 + y ≤ j → (Q.set (i + y) z)[j] = 0 by
            intro z j h hj
            rw [List.getElem_set_ne (by omega)]
            exact hz2.out j (by simpa using h) (by omega))
          have ST := Lib.hid (MQ.out.set (i + y) c0 c1)
          have EK := Lib.hid ek
          clear ek hval2 hval hz2
          generalize Q[i + y] = q at *
          have i1 : (0 : Int) ≤ i + y := by omega
          have i2 : (i : Int) + y < ((x + y : Nat) : Int) := by omega
          have i3 : (y : Int) ≤ (k : Int) := by omega
          go_wp2
          go_roundw
          case rel => exact ⟨i + 1, _, by omega, by go_num, ST, hz3.out _, S.out⟩
          case measure => simp [intOf]; omega
    · have vv : dval O = dval a * dval b := by
        have h := hval.out
        rw [List.drop_of_length_le (by have := Hx.out; omega)] at h
        simpa [dval] using h
      have T := trim_any (some ⟨w.heap.size, 0, none⟩) (x + y) O wr MO.out.2.1 (fun j h => ⟨w.heap.size, rfl, MO.out.lt, MO.out.cell j h⟩) (by have := MO.out.1; omega)
      rw [MO.out.1, vv] at T
      have TT := Lib.hid T
      clear T vv hval hz
      go_wp2_with fail
      refine (TT.out).mono ?_
      intro e w2 hres
      have H2 := hres.from MO.out.2.2.2 (Nat.le_refl _)
      clear hres TT
      obtain ⟨t, p', c', rfl, rest⟩ := H2
      have RST := Lib.hid rest
      clear rest
      go_wp2_with fail
      go_ret
      exact ⟨t, p', c', rfl, RST.out⟩
end Go.Proofs.Ytlfffobfcledcaa

/- The reference's rows: divD. -/
namespace Go.Proofs.Ytlfffobfcledcaa
open Go.RowKit
set_option linter.unusedVariables false
set_option linter.unusedSimpArgs false

theorem trim1 (g : Nat) (x : Int) (c : Nat) (w : World) (h0 : 0 ≤ x) (h1 : x < 10000) (hg : g < w.heap.size) (hc : w.cell? ⟨g, 0, none⟩ = some (.int .i64 x)) :
    Calls Try.prog 96 #[.slice (some ⟨g, 0, none⟩) 1 c] w (RowRes x 1 w) := by
  have T := trim_any (some ⟨g, 0, none⟩) c [x] w (by intro y m; simp at m; omega) (fun i hi => ⟨g, rfl, hg, by
    simp at hi; subst hi; simpa using hc⟩) (by simp)
  have e : dval [x] = x := by simp [dval]
  rw [e] at T
  exact T
theorem Made.below {w wr w1 : World} {N : Nat} {O : List Int} (h : Made w wr N O) (hb : Below wr.heap.size wr w1) : Made w w1 N O :=
  ⟨h.1, h.2.1, own_below h.2.2.1 hb, h.2.2.2.trans (hb.mono h.2.2.2.size)⟩
theorem can_len {a b : List Int} {x y : Int} (ha : Can a x) (hb : Can b y) (h : x ≤ y) : a.length ≤ b.length := by
  rcases Nat.lt_or_ge b.length a.length with t | t
  · have := dval_shorter hb.digs ha.digs ha.norm t
    rw [ha.val, hb.val] at this; omega
  · exact t

/-- The two results of a division. -/
def DivRes (A B : Int) (n m : Nat) (w : World) (e : Ending) (w' : World) : Prop :=
  ∃ q pq cq r pr cr, e = .returned (.tuple #[.slice pq q.length cq, .slice pr r.length cr]) ∧ Can q (A / B) ∧ q.length ≤ n ∧ RowR w' pq q ∧ Can r (A % B) ∧ r.length ≤ m ∧ RowR w' pr r ∧ Below w.heap.size w w'

/-- What a round of the division knows. -/
structure DivK (w wr : World) (a : List Int) (B : Int) (x : Nat) (k : Nat) (Q R : List Int) (r : Int) (pr : Option Addr) (cr : Nat) : Prop where
  can : Can R r
  lt : r < B
  eq : dval (a.drop k) = B * dval (Q.drop k) + r
  made : Made w wr x Q
  row : RowR wr pr R
  nil : pr = none → cr = 0
  fresh : ∀ ad, pr = some ad → w.heap.size < ad.block

theorem bin_mid {lo hi : Int} (h : lo < hi) : lo < (lo + hi + 1) / 2 ∧ (lo + hi + 1) / 2 ≤ hi := by omega

theorem RowR.news {w : World} {ad : Addr} {l : List Int} (r : RowR w (some ad) l) : ∀ j u, (l.map (Value.int .i64))[j]? = some u → w.cell? (ad.add j) = some u := by
  intro j u h
  have hj : j < l.length := by
    rcases Nat.lt_or_ge j l.length with t | t
    · exact t
    · rw [List.getElem?_eq_none (by simpa using t)] at h; cases h
  obtain ⟨g, e, _, c⟩ := r j hj
  injection e with e
  subst e
  rw [List.getElem?_map, List.getElem?_eq_getElem hj] at h
  simp at h
  subst h
  by_cases j0 : j = 0
  · subst j0; simpa [Addr.add] using c
  · simpa [Addr.add, j0] using c

/-- What is left, with the next digit ahead of it. -/
def RemR (V : Int) (n : Nat) (wo wx : World) (v : Value) : Prop :=
  ∃ t p c, v = .slice p t.length c ∧ Can t V ∧ t.length ≤ n ∧ RowR wx p t ∧ (p = none → c = 0) ∧ (∀ a, p = some a → wo.heap.size ≤ a.block) ∧ Below wo.heap.size wo wx

theorem mulB (pb p1 : Option Addr) (cb c1 : Nat) (b t : List Int) (y : Nat) (hy : b.length = y) (B x : Int) (w : World) (hb : Can b B) (ht : Can t x) (rb : RowR w pb b) (rt : RowR w p1 t) (lb : y ≤ 100000) (lt : t.length ≤ 100000) :
    Calls Try.prog 79 #[.slice pb y cb, .slice p1 t.length c1] w (RowRes (B * x) (y + t.length) w) := by
  subst hy
  have := mulD_any pb p1 cb c1 b t w hb.digs ht.digs rb rt lb lt
  rwa [hb.val, ht.val] at this

set_option maxRecDepth 100000 in
set_option maxHeartbeats 1600000 in
theorem divD_any (pa pb : Option Addr) (ca cb : Nat) (a b : List Int) (B : Int) (w : World) (ha : Digs a) (hb : Can b B) (hB : 0 < B) (ra : RowR w pa a) (rb : RowR w pb b) (la : a.length ≤ 90000) (lb : b.length ≤ 90000) :
    Calls Try.prog 69 #[.slice pa a.length ca, .slice pb b.length cb] w (DivRes (dval a) B a.length b.length w) := by
  obtain ⟨i0, hi, hz0, hz1, hz2⟩ := info_parts intInfo
  have y0 : 0 < b.length := by
    rcases Nat.eq_zero_or_pos b.length with t | t
    · have := hb.length_zero.1 t; omega
    · exact t
  have Ra := Lib.hid ra; clear ra
  have Rb := Lib.hid rb; clear rb
  have Da := Lib.hid ha; clear ha
  have Db := Lib.hid hb; clear hb
  have HB := Lib.hid hB; clear hB
  generalize hx : a.length = x at *
  generalize hy : b.length = y at *
  have Hx := Lib.hid hx; clear hx
  have Hy := Lib.hid hy; clear hy
  go_enter Try.func69, Try.ntmps69
  go_wp2_with (first
    | (at_make; refine wpList_make_full _ rfl _ _ 26 rfl w.heap.size 3 i0 (.int .i64 0) 1 Try.underlying26 hi hz0 hz1 .i64 .i64 _ _ x rfl rfl rfl rfl (by rw [hz2]; omega) (by unfold maxLen; omega) (Nat.le_refl _) ?_; intro w0 hown0 hgrow0))
  rw [made_zeros] at hown0
  have M0 := Lib.hid (show Made w w0 x (List.replicate x 0) from ⟨by simp, fun z m => by rw [List.eq_of_mem_replicate m]; omega, hown0, (Below.refl _ _).grown hgrow0 (Nat.le_refl _) (fun k e => by cases e)⟩)
  clear hown0 hgrow0
  go_wp2
  go_loopw [7, 8] (fun rv iv wr => ∃ (k : Nat) (Q R : List Int) (r : Int) (pr : Option Addr) (cr : Nat), k ≤ x ∧ rv = .slice pr R.length cr ∧ iv = .int .i64 ((k : Int) - 1) ∧ Hid (DivK w wr a B x k Q R r pr cr)) (fun _ iv _ => (intOf iv + 1).toNat)
  case atStart =>
    refine ⟨x, List.replicate x 0, [], 0, none, 0, Nat.le_refl _, rfl, rfl, ?_⟩
    refine ⟨Can.nil, HB.out, ?_, M0.out, fun i h => by simp at h, fun _ => rfl, fun ad h => by cases h⟩
    rw [List.drop_of_length_le (by have := Hx.out; omega), List.drop_of_length_le (by simp)]; simp [dval]
  case round =>
    obtain ⟨k, Q, R, r, pr, cr, hk, rfl, rfl, K⟩ := hrel
    rcases k with _ | j
    · have M := K.out.made
      have T := trim_any (some ⟨w.heap.size, 0, none⟩) x Q wr M.2.1 (fun j h => ⟨w.heap.size, rfl, M.lt, M.cell j h⟩) (by have := M.1; omega)
      obtain ⟨q1, q2⟩ := div_end K.out.eq K.out.can.nonneg K.out.lt
      rw [List.drop_zero] at q1 q2
      rw [List.drop_zero] at q1
      rw [M.1, q1] at T
      have TT := Lib.hid T
      have Q2 := Lib.hid q2
      have HM := Lib.hid M
      clear M T q1 q2
      go_wp2_with fail
      refine (TT.out).mono ?_
      rintro e w1 ⟨t1, p1, c1, rfl, A1, A2, A3, A4, A5, A6⟩
      have RR := Lib.hid (K.out.row.below A6)
      have lR := can_len K.out.can Db.out (by have := K.out.lt; omega)
      have LR := Lib.hid lR
      have FIN := Lib.hid (show DivRes (dval a) B x y w (.returned (.tuple #[.slice p1 t1.length c1, .slice pr R.length cr])) w1 from
        ⟨t1, p1, c1, R, pr, cr, rfl, A1, A2, A3, by rw [← Q2.out]; exact K.out.can, by have := Hy.out; have := LR.out; omega, RR.out, HM.out.2.2.2.trans (A6.mono HM.out.2.2.2.size)⟩)
      clear A1 A2 A3 A4 A5 A6 TT RR lR LR
      go_wp2_with fail
      go_ret2
      exact FIN.out
    · have l1 : j < a.length := by have := Hx.out; omega
      obtain ⟨ga, rfl, ka, cA⟩ := Ra.out j l1
      have G1 := gd_le Da.out j
      have cA2 : wr.cell? ⟨ga, j, none⟩ = some (.int .i64 (gd a j)) := by rw [K.out.made.2.2.2.cell (by exact ka), cA, gd_in l1]
      have lR : R.length ≤ y := by have := can_len K.out.can Db.out (by have := K.out.lt; omega); have := Hy.out; omega
      clear cA ka
      obtain ⟨wo, hwo⟩ : ∃ wo : World, wo = wr := ⟨_, rfl⟩
      subst hwo
      have gO := K.out.made.lt
      have e1 : (((j + 1 : Nat) : Int) - 1) = (j : Int) := by omega
      rw [e1]
      clear e1
      have CA := Lib.hid cA2
      go_upto_region 9 with fail
      go_cut [7] from 32 to 35 (fun v wx => RemR (gd a j + 10000 * r) (y + 1) wo wx v)
      case first =>
        have D1 : Digs (gd a j :: R) := Digs.cons.2 ⟨G1, K.out.can.digs⟩
        have E1 : dval (gd a j :: R) = gd a j + 10000 * r := by simp only [dval]; rw [K.out.can.val]
        have hown := World.ownsRow_lit (base := wo.heap.size) (e := 3) (size := 1) wo #[.int .i64 (gd a j)] 1 (Nat.le_refl _) (by unfold maxLen; omega) rfl
        have bel : ∀ v' w1, w1.ownsRow wo.heap.size 3 1 v' (R.length + 1) ((gd a j :: R).map (Value.int .i64)) → Below wo.heap.size wo w1 → ∃ p c, v' = .slice p (R.length + 1) c ∧ Calls Try.prog 96 #[.slice p (R.length + 1) c] w1 (fun e w2 => ∃ v, e = .returned v ∧ RemR (gd a j + 10000 * r) (y + 1) wo w2 v) := by
          intro v' w1 h1 h2
          obtain ⟨q, cc, hv, hlen, hr, hn, hf⟩ := own_row h1
          have T := trim_any q cc (gd a j :: R) w1 D1 hr (by simp; omega)
          rw [E1] at T
          rw [hlen] at hv T
          refine ⟨q, cc, hv, T.mono ?_⟩
          rintro e w2 ⟨t, p', c', rfl, k1, k2, k3, k4, k5, k6⟩
          exact ⟨_, rfl, t, p', c', rfl, k1, by omega, k3, k4, fun ad h => Nat.le_trans h2.size (k5 ad h), h2.trans (k6.mono h2.size)⟩
        have KR := Lib.hid K.out.row
        have KN := Lib.hid K.out.nil
        generalize gd a j = u at *
        have BEL := Lib.hid bel
        have LR := Lib.hid lR
        clear bel D1 E1 K
        cases pr with
        | none =>
          have R0 : R = [] := by
            rcases R with _ | ⟨x1, R1⟩
            · rfl
            · obtain ⟨g, h, _⟩ := KR.out 0 (by simp); cases h
          have c0 := KN.out rfl
          subst R0 c0
          obtain ⟨p2, c2, hv, TT⟩ := BEL.out _ _ (by simpa using hown) ((Below.refl _ _).alloc (Nat.le_refl _) _)
          have HT := Lib.hid TT
          have HV := Lib.hid hv
          clear hv TT BEL KR KN LR
          go_wp2_with (first
            | (at_builtin; refine wpList_append_own_none rfl _ _ 26 rfl wo.heap.size 3 i0 1 Try.underlying26 hi _ 1 _ rfl hown rfl ?_))
          obtain ⟨rfl, rfl⟩ : p2 = some ⟨wo.heap.size, 0, none⟩ ∧ c2 = 1 := by have := HV.out; simp at this; exact ⟨this.1.symm, this.2.symm⟩
          clear HV hown
          go_wp2_with fail
          refine (HT.out).mono ?_
          rintro e w2 ⟨v, rfl, hrem⟩
          have HR := Lib.hid hrem
          clear hrem HT
          go_wp2_with fail
          go_meet
          exact HR.out
        | some ad =>
          have hnews := (KR.out.below ((Below.refl _ _).alloc (Nat.le_refl _) (Obj.cells #[Value.int .i64 u] 3))).news
          have NW := Lib.hid hnews
          clear hnews KR KN
          go_wp2_with (first
            | (at_builtin; refine wpList_append_own _ rfl _ _ 26 rfl wo.heap.size 3 i0 (.int .i64 0) 1 8 Try.underlying26 hi hz0 hz1 hz2 rfl (by decide) _ 1 _ rfl hown ad R.length cr (R.map (Value.int .i64)) rfl (by simp) NW.out (by intro u hu; simp at hu; obtain ⟨z, _, rfl⟩ := hu; rfl) (by unfold maxLen; omega) (by omega) (by simp) ?_))
          intro v' w1 hown' hgrow _
          obtain ⟨p2, c2, hv, TT⟩ := BEL.out v' w1 (by rw [Nat.add_comm]; simpa using hown') (((Below.refl _ _).alloc (Nat.le_refl _) _).grown hgrow (by simp) (fun k h => by simp [Value.ownBlock] at h; omega))
          subst hv
          have HT := Lib.hid TT
          clear TT BEL LR hown' hgrow hown NW
          go_wp2_with fail
          refine (HT.out).mono ?_
          rintro e w2 ⟨v, rfl, hrem⟩
          have HR := Lib.hid hrem
          clear hrem HT
          go_wp2_with fail
          go_meet
          exact HR.out
      case rest =>
        obtain ⟨t, p0, c0, rfl, T1, T2, T3, T4, T5, T6⟩ := hcut
        obtain ⟨V, hV⟩ : ∃ V, V = gd a j + 10000 * r := ⟨_, rfl⟩
        rw [← hV] at T1
        have VB : V < B * 10000 := by have := div_bound ⟨K.out.can.nonneg, K.out.lt⟩ G1; omega
        have V0 : 0 ≤ V := T1.nonneg
        have HVV := Lib.hid hV
        have T1' := Lib.hid T1
        have T3' := Lib.hid T3
        have T4' := Lib.hid T4
        have T5' := Lib.hid T5
        have T6' := Lib.hid T6
        have VB' := Lib.hid VB
        clear hV T1 T3 T4 T5 T6 VB CA cA2
        go_wp2_with fail
        go_loopw [10, 11] (fun lov hiv wr => ∃ lo hi : Int, 0 ≤ lo ∧ lo ≤ hi ∧ hi ≤ 9999 ∧ lov = .int .i64 lo ∧ hiv = .int .i64 hi ∧ Hid (B * lo ≤ V) ∧ Hid (V < B * (hi + 1)) ∧ Below wc.heap.size wc wr) (fun lov hiv _ => (intOf hiv - intOf lov).toNat)
        case atStart => exact ⟨0, 9999, by omega, by omega, by omega, rfl, rfl, by show _ ≤ _; omega, VB', Below.refl _ _⟩
        case round =>
          obtain ⟨lo, hi', b1, b2, b3, rfl, rfl, g1, g2, hbl⟩ := hrel
          have T6a := T6'.out.trans (hbl.mono T6'.out.size)
          by_cases tt : lo < hi'
          · obtain ⟨m1, m2⟩ := bin_mid tt
            obtain ⟨mid, hm⟩ : ∃ m, m = (lo + hi' + 1) / 2 := ⟨_, rfl⟩
            rw [← hm] at m1 m2
            have HM := Lib.hid hm
            clear hm
            have hm' : (lo + hi' + 1) / 2 = mid := HM.out.symm
            go_wp2_with fail
            refine (trim1 wr.heap.size mid 1 _ (by omega) (by omega) (by simp) (by simp [go_sem])).mono ?_
            rintro e w1 ⟨t1, p1, c1, rfl, A1, A2, A3, A4, A5, A6⟩
            have MU := mulB pb p1 cb c1 b t1 y Hy.out B mid w1 Db.out A1 (Rb.out.below ((K.out.made.2.2.2.trans (T6a.mono (by have := K.out.made.2.2.2.size; omega))).trans ((((Below.refl _ _).alloc (Nat.le_refl _) _).trans (A6.mono (by simp))).mono (by have := K.out.made.2.2.2.size; have := T6a.size; omega)))) A3 (by omega) (by omega)
            have MU' := Lib.hid MU
            have A6' := Lib.hid A6
            have A2' := Lib.hid A2
            clear MU A1 A2 A3 A4 A5 A6 hm'
            go_wp2_with fail
            refine (MU'.out).mono ?_
            rintro e w2 ⟨t2, p2, c2, rfl, C1, C2, C3, C4, C5, C6⟩
            have hb1 : Below wr.heap.size wr w1 := ((Below.refl _ _).alloc (Nat.le_refl _) _).trans (A6'.out.mono (by simp))
            have hb2 : Below wr.heap.size wr w2 := hb1.trans (C6.mono hb1.size)
            have CM := cmpD_any p2 p0 c2 c0 t2 t w2 C1.digs T1'.out.digs C1.norm T1'.out.norm C3 ((T3'.out.below hbl).below hb2) (by have := A2'.out; omega) (by omega)
            rw [C1.val, T1'.out.val] at CM
            have CM' := Lib.hid CM
            have HB2 := Lib.hid hb2
            clear CM C1 C2 C3 C4 C5 C6 hb1 hb2 A6' MU'
            go_wp2_with fail
            refine (CM'.out).mono ?_
            rintro e w3 ⟨rfl, n3, rfl⟩
            by_cases hle : B * mid ≤ V
            · have z1 : cmpZ (B * mid) V ≤ 0 := by unfold cmpZ; split; omega; split <;> omega
              have z2 : -1 ≤ cmpZ (B * mid) V := by unfold cmpZ; split; omega; split <;> omega
              generalize cmpZ (B * mid) V = z at *
              have HLE := Lib.hid hle
              clear hle CM'
              go_wp2
              go_roundw
              case rel => exact ⟨mid, hi', by omega, by omega, by omega, by rw [HM.out], rfl, HLE.out, g2, below_drewN (hbl.trans (HB2.out.mono hbl.size)) _⟩
              case measure => have := HM.out; simp [intOf]; omega
            · have z1 : 0 < cmpZ (B * mid) V := by unfold cmpZ; split; omega; split <;> omega
              have z2 : cmpZ (B * mid) V ≤ 1 := by unfold cmpZ; split; omega; split <;> omega
              generalize cmpZ (B * mid) V = z at *
              have HLE := Lib.hid (show V < B * (mid - 1 + 1) by rw [Int.sub_add_cancel]; omega)
              clear hle CM'
              go_wp2
              go_roundw
              case rel => exact ⟨lo, mid - 1, by omega, by omega, by omega, rfl, by rw [HM.out], g1, HLE.out, below_drewN (hbl.trans (HB2.out.mono hbl.size)) _⟩
              case measure => have := HM.out; simp [intOf]; omega
          · have e : hi' = lo := by omega
            rw [e] at g2
            have E := Lib.hid e
            clear e
            have hM1 := K.out.made.below T6a
            have lQ : j < Q.length := by have := hM1.1; omega
            have cQ := hM1.cell j lQ
            have fQ := hM1.frozen j
            have hM2 := Lib.hid (hM1.set j (x := lo) (by omega) (by omega))
            have gQ := hM1.lt
            have RT := Lib.hid ((T3'.out.below hbl).setCell (q := ⟨w.heap.size, j, none⟩) (fun ad h => by have := T5'.out ad h; show ad.block ≠ w.heap.size; omega) (.int .i64 lo))
            have EQ := Lib.hid (div_step (q := lo) (r := V - B * lo) lQ K.out.eq (by rw [Int.add_comm, ← Int.add_comm, ← HVV.out]; omega))
            have LT := Lib.hid (show V - B * lo < B by have := g2.out; rw [Int.mul_add, Int.mul_one] at this; omega)
            generalize Q[j] = qj at *
            have HM1 := Lib.hid hM1
            have HT6 := Lib.hid T6a
            clear hM1 T6a hbl
            go_wp2_with fail
            have hWs : (wr.setCell ⟨w.heap.size, j, none⟩ (.int .i64 lo)).heap.size = wr.heap.size := by simp [World.setCell]
            have HWS := Lib.hid hWs
            clear hWs cQ fQ
            obtain ⟨W1, hW1⟩ : ∃ W, W = wr.setCell ⟨w.heap.size, j, none⟩ (.int .i64 lo) := ⟨_, rfl⟩
            rw [← hW1] at hM2 RT HWS ⊢
            have HW1 := Lib.hid hW1
            clear hW1
            have bW : Below w.heap.size w W1 := hM2.out.2.2.2
            have BW := Lib.hid bW
            clear bW
            have sz := HWS.out
            rw [← sz]
            clear sz
            refine (trim1 W1.heap.size lo 1 _ (by omega) (by omega) (by simp) (by simp [go_sem])).mono ?_
            rintro e w1 ⟨t1, p1, c1, rfl, A1, A2, A3, A4, A5, A6⟩
            have hb1 : Below W1.heap.size W1 w1 := ((Below.refl _ _).alloc (Nat.le_refl _) _).trans (A6.mono (by simp))
            have MU := mulB pb p1 cb c1 b t1 y Hy.out B lo w1 Db.out A1 (Rb.out.below (BW.out.trans (hb1.mono BW.out.size))) A3 (by omega) (by omega)
            have MU' := Lib.hid MU
            have A2' := Lib.hid A2
            have HB1 := Lib.hid hb1
            clear MU A1 A2 A3 A4 A5 A6 hb1
            go_wp2_with fail
            refine (MU'.out).mono ?_
            rintro e w2 ⟨t2, p2, c2, rfl, C1, C2, C3, C4, C5, C6⟩
            have hb2 : Below W1.heap.size W1 w2 := HB1.out.trans (C6.mono HB1.out.size)
            have SU := subD_any p0 p2 c0 c2 t t2 w2 T1'.out.digs C1.digs (RT.out.below hb2) C3 (by omega) (can_len C1 T1'.out g1.out) (by rw [C1.val, T1'.out.val]; exact g1.out)
            rw [C1.val, T1'.out.val] at SU
            have SU' := Lib.hid SU
            have HB2 := Lib.hid hb2
            clear SU C1 C2 C3 C4 C5 C6 hb2 MU' HB1
            go_wp2_with fail
            refine (SU'.out).mono ?_
            rintro e w3 ⟨t3, p3, c3, rfl, D1, D2, D3, D4, D5, D6⟩
            have FIN := Lib.hid (show DivK w w3 a B x j (Q.set j lo) t3 (V - B * lo) p3 c3 from ⟨D1, LT.out, EQ.out, (hM2.out.below HB2.out).below D6, D3, D4, fun ad h => by have := D5 ad h; have := HB2.out.size; have := HWS.out; omega⟩)
            clear D1 D2 D3 D4 D5 D6 SU'
            go_wp2
            go_roundw
            case rel => exact ⟨j, _, t3, _, p3, c3, by omega, rfl, rfl, FIN⟩
            case measure => simp [intOf]
end Go.Proofs.Ytlfffobfcledcaa

/- The reference's Big: Zero, Compare, Neg. -/
namespace Go.Proofs.Ytlfffobfcledcaa
open Go.RowKit
set_option linter.unusedVariables false
set_option linter.unusedSimpArgs false

theorem BigR.val {n : Nat} {w : World} {p : Option Addr} {l : List Int} {x : Int} (r : BigR n w p l x) : (bif decide (x < 0) then -dval l else dval l) = x := by
  rw [r.can.val]
  by_cases h : x < 0 <;> simp [h] <;> omega
theorem BigRes.stored {n : Nat} {x : Int} {w v w2 : World} {r : Nat} {p : Option Addr} {l : List Int} {c : Nat} (hv : Below w.heap.size w v) (hr : w.heap.size ≤ r) (hr2 : r < v.heap.size)
    (R : BigR n w2 p l x) (hf : ∀ a, p = some a → v.heap.size ≤ a.block) (hb : Below v.heap.size v w2) :
    BigRes n x w (.returned (.agg #[.bool (decide (x < 0)), .slice p l.length c])) ((w2.setCell ⟨r, 0, none⟩ (.bool (decide (x < 0)))).setCell ⟨r, 1, none⟩ (.slice p l.length c)) := by
  have hq : ∀ a, p = some a → a.block ≠ r := fun a ha => by have := hf a ha; omega
  refine ⟨p, l, c, rfl, ⟨R.can, R.size, (R.row.setCell (q := ⟨r, 0, none⟩) hq _).setCell (q := ⟨r, 1, none⟩) hq _⟩, fun a ha => by have := hf a ha; have := hv.size; omega, ?_⟩
  exact (((hv.trans (hb.mono hv.size)).setCell hr _).setCell hr _)

theorem Zero_any (s : Bool) (p : Option Addr) (n c : Nat) (w : World) :
    Calls Try.prog 76 #[.agg #[.bool s, .slice p n c]] w fun e w' => e = .returned (.bool (decide (n = 0))) ∧ Below w.heap.size w w' := by
  go_enter Try.func76, Try.ntmps76
  go_wp2
  go_ret
  refine ⟨ret_b ?_, by go_grown⟩
  first | (rw [Bool.eq_iff_iff]; simp; omega) | (rw [Bool.eq_iff_iff]; simp)

theorem cmpZ_neg (a b : Int) : -cmpZ a b = cmpZ (-a) (-b) := by
  unfold cmpZ
  rcases Int.lt_trichotomy a b with q | q | q
  · rw [if_pos q, if_neg (by omega), if_pos (by omega)]; rfl
  · rw [if_neg (by omega), if_neg (by omega), if_neg (by omega), if_neg (by omega)]; rfl
  · rw [if_neg (by omega), if_pos q, if_pos (by omega)]
theorem cmpZ_le (a b : Int) : -1 ≤ cmpZ a b ∧ cmpZ a b ≤ 1 := by unfold cmpZ; split; omega; split <;> omega
theorem Compare_any {n m : Nat} (pa pb : Option Addr) (ca cb : Nat) (a b : List Int) (x y : Int) (w : World) (A : BigR n w pa a x) (B : BigR m w pb b y) (hn : n ≤ 1000000) (hm : m ≤ 1000000) :
    Calls Try.prog 77 #[.agg #[.bool (decide (x < 0)), .slice pa a.length ca], .agg #[.bool (decide (y < 0)), .slice pb b.length cb]] w fun e w' => e = .returned (.int .i64 (cmpZ x y)) ∧ Below w.heap.size w w' := by
  have CM := fun W (h : Below w.heap.size w W) => cmpD_any pa pb ca cb a b W A.can.digs B.can.digs A.can.norm B.can.norm (A.row.below h) (B.row.below h) (by have := A.size; omega) (by have := B.size; omega)
  have CM' := Lib.hid CM
  have K1 : x < 0 → y < 0 → Hid (-cmpZ (dval a) (dval b) = cmpZ x y) := fun h1 h2 => by
    show _ = _
    rw [A.can.val, B.can.val, cmpZ_neg]; congr 1 <;> omega
  have K2 : ¬ x < 0 → ¬ y < 0 → Hid (cmpZ (dval a) (dval b) = cmpZ x y) := fun h1 h2 => by
    show _ = _
    rw [A.can.val, B.can.val]; congr 1 <;> omega
  have Q := Lib.hid (cmpZ_le (dval a) (dval b))
  clear A B CM
  generalize a.length = la at *
  generalize b.length = lb at *
  generalize cmpZ (dval a) (dval b) = V at *
  by_cases h1 : x < 0 <;> by_cases h2 : y < 0
  · have K := K1 h1 h2
    have e1 : decide (x < 0) = true := by simpa using h1
    have e2 : decide (y < 0) = true := by simpa using h2
    rw [e1, e2]
    obtain ⟨q1, q2⟩ := Q.out
    clear K1 K2 e1 e2
    go_enter Try.func77, Try.ntmps77
    go_wp2_with fail
    refine (CM'.out _ (by go_grown)).mono ?_
    rintro e w' ⟨rfl, k, rfl⟩
    clear CM'
    go_wp2_with fail
    go_ret
    exact ⟨ret_i K.out, by refine below_drewN ?_ _; go_grown⟩
  · have K : Hid (-1 = cmpZ x y) := by show _ = _; unfold cmpZ; rw [if_pos (by omega)]
    have e1 : decide (x < 0) = true := by simpa using h1
    have e2 : decide (y < 0) = false := by simpa using h2
    rw [e1, e2]
    clear K1 K2 e1 e2 CM' Q
    go_enter Try.func77, Try.ntmps77
    go_wp2_with fail
    go_ret
    exact ⟨ret_i K.out, by go_grown⟩
  · have K : Hid (1 = cmpZ x y) := by show _ = _; unfold cmpZ; rw [if_neg (by omega), if_pos (by omega)]
    have e1 : decide (x < 0) = false := by simpa using h1
    have e2 : decide (y < 0) = true := by simpa using h2
    rw [e1, e2]
    clear K1 K2 e1 e2 CM' Q
    go_enter Try.func77, Try.ntmps77
    go_wp2_with fail
    go_ret
    exact ⟨ret_i K.out, by go_grown⟩
  · have K := K2 h1 h2
    have e1 : decide (x < 0) = false := by simpa using h1
    have e2 : decide (y < 0) = false := by simpa using h2
    rw [e1, e2]
    obtain ⟨q1, q2⟩ := Q.out
    clear K1 K2 e1 e2
    go_enter Try.func77, Try.ntmps77
    go_wp2_with fail
    refine (CM'.out _ (by go_grown)).mono ?_
    rintro e w' ⟨rfl, k, rfl⟩
    clear CM'
    go_wp2_with fail
    go_ret
    exact ⟨ret_i K.out, by refine below_drewN ?_ _; go_grown⟩

theorem Neg_any {n : Nat} (p : Option Addr) (c : Nat) (l : List Int) (x : Int) (w : World) (A : BigR n w p l x) (hn : n ≤ 1000000) :
    Calls Try.prog 67 #[.agg #[.bool (decide (x < 0)), .slice p l.length c]] w (BigRes n (-x) w) := by
  have WH := fun s W (h : Below w.heap.size w W) => whole_any s p c l W A.can.digs (A.row.below h) (by have := A.size; omega)
  have E : (bif !decide (x < 0) then -dval l else dval l) = -x := by
    rw [A.can.val]; by_cases h : x < 0 <;> simp [h] <;> omega
  have SZ := A.size
  have HE := Lib.hid E
  have WH' := Lib.hid WH
  clear WH E A
  go_enter Try.func67, Try.ntmps67
  go_wp2_with fail
  refine (WH'.out _ _ (by go_grown)).mono ?_
  rw [HE.out]
  rintro e w1 ⟨q, t, cc, rfl, R, hf, hb1⟩
  have FIN := Lib.hid (BigRes.stored (c := cc) (r := w.heap.size + 1) (((Below.refl w.heap.size w).alloc (Nat.le_refl _) (Obj.cells #[Value.bool (decide (x < 0)), Value.slice p l.length c] 76)).alloc (by simp) (Obj.cells #[Value.bool false, Value.slice none 0 0] 76)) (by omega) (by simp) (R.more SZ) hf hb1)
  obtain ⟨hc, hfz⟩ := bcell hb1
  have hz : w.heap.size + 1 < w1.heap.size := by have := hb1.size; simp at this; omega
  clear R hf hb1 WH' HE
  generalize decide (-x < 0) = sg at *
  go_wp2_with fail
  exact bodyPost_ret (v := .agg #[.bool sg, .slice q t.length cc]) (by simp [results, Try.results67, go_sem, hc, hz]) rfl FIN.out
end Go.Proofs.Ytlfffobfcledcaa

/- The reference's Big: Times, Plus, Minus. -/
namespace Go.Proofs.Ytlfffobfcledcaa
open Go.RowKit
set_option linter.unusedVariables false
set_option linter.unusedSimpArgs false

/-- Two boxed numbers and a result's box. -/
structure Box3 (w v : World) (s t : Bool) (P Q : Value) : Prop where
  a0 : v.cell? ⟨w.heap.size, 0, none⟩ = some (.bool s)
  a1 : v.cell? ⟨w.heap.size, 1, none⟩ = some P
  b0 : v.cell? ⟨w.heap.size + 1, 0, none⟩ = some (.bool t)
  b1 : v.cell? ⟨w.heap.size + 1, 1, none⟩ = some Q
  c0 : v.cell? ⟨w.heap.size + 1 + 1, 0, none⟩ = some (.bool false)
  c1 : v.cell? ⟨w.heap.size + 1 + 1, 1, none⟩ = some (.slice none 0 0)
  f0 : v.frozen? ⟨w.heap.size + 1 + 1, 0, none⟩ = false
  f1 : v.frozen? ⟨w.heap.size + 1 + 1, 1, none⟩ = false
  sz : w.heap.size + 1 + 1 < v.heap.size
  bel : Below w.heap.size w v
theorem Box3.below {w v v' : World} {s t : Bool} {P Q : Value} (h : Box3 w v s t P Q) (hb : Below v.heap.size v v') : Box3 w v' s t P Q := by
  obtain ⟨h1, h2, h3, h4, h5, h6, h7, h8, h9, h10⟩ := h
  have z0 : w.heap.size < v.heap.size := by omega
  have z1 : w.heap.size + 1 < v.heap.size := by omega
  exact ⟨(hb.cell (p := ⟨w.heap.size, 0, none⟩) z0).trans h1, (hb.cell (p := ⟨w.heap.size, 1, none⟩) z0).trans h2, (hb.cell (p := ⟨w.heap.size + 1, 0, none⟩) z1).trans h3, (hb.cell (p := ⟨w.heap.size + 1, 1, none⟩) z1).trans h4,
    (hb.cell (p := ⟨w.heap.size + 1 + 1, 0, none⟩) h9).trans h5, (hb.cell (p := ⟨w.heap.size + 1 + 1, 1, none⟩) h9).trans h6, (hb.frozen (p := ⟨w.heap.size + 1 + 1, 0, none⟩) h9).trans h7, (hb.frozen (p := ⟨w.heap.size + 1 + 1, 1, none⟩) h9).trans h8, Nat.lt_of_lt_of_le h9 hb.size, h10.trans (hb.mono h10.size)⟩
theorem Box3.new (w : World) (s t : Bool) (P Q : Value) : Box3 w (((w.alloc (Obj.cells #[Value.bool s, P] 76)).alloc (Obj.cells #[Value.bool t, Q] 76)).alloc (Obj.cells #[Value.bool false, Value.slice none 0 0] 76)) s t P Q := by
  refine ⟨?_, ?_, ?_, ?_, ?_, ?_, ?_, ?_, ?_, by go_grown⟩ <;> simp [go_sem]
theorem Box3.drew {w v : World} {s t : Bool} {P Q : Value} (h : Box3 w v s t P Q) : Box3 w v.drew s t P Q := ⟨h.a0, h.a1, h.b0, h.b1, h.c0, h.c1, h.f0, h.f1, h.sz, h.bel.drew⟩

theorem sgn_mul (x y : Int) : (bif (decide (x < 0) != decide (y < 0)) then -((x.natAbs : Int) * y.natAbs) else (x.natAbs : Int) * y.natAbs) = x * y := by
  rcases (by omega : x = x.natAbs ∨ x = -(x.natAbs : Int)) with h | h <;> rcases (by omega : y = y.natAbs ∨ y = -(y.natAbs : Int)) with k | k
  all_goals generalize x.natAbs = p at *
  all_goals generalize y.natAbs = q at *
  all_goals subst h k
  · have a : ¬ ((p : Int) < 0) := by omega
    have b : ¬ ((q : Int) < 0) := by omega
    simp [a, b]
  · have a : ¬ ((p : Int) < 0) := by omega
    by_cases z : q = 0
    · subst z; simp
    · have b : (-(q : Int) < 0) := by omega
      simp only [a, b, decide_false, decide_true, Bool.false_bne, cond_true]; rw [Int.mul_neg]
  · have b : ¬ ((q : Int) < 0) := by omega
    by_cases z : p = 0
    · subst z; simp
    · have a : (-(p : Int) < 0) := by omega
      simp only [a, b, decide_false, decide_true, Bool.bne_false, cond_true]; rw [Int.neg_mul]
  · by_cases z : p = 0
    · subst z; simp
    · by_cases z' : q = 0
      · subst z'; simp
      · have a : (-(p : Int) < 0) := by omega
        have b : (-(q : Int) < 0) := by omega
        simp only [a, b, decide_true, bne_self_eq_false, cond_false]; rw [Int.neg_mul_neg]

set_option maxHeartbeats 1000000 in
theorem Times_any {n m : Nat} (pa pb : Option Addr) (ca cb : Nat) (a b : List Int) (x y : Int) (w : World) (A : BigR n w pa a x) (B : BigR m w pb b y) (hn : n ≤ 90000) (hm : m ≤ 90000) :
    Calls Try.prog 52 #[.agg #[.bool (decide (x < 0)), .slice pa a.length ca], .agg #[.bool (decide (y < 0)), .slice pb b.length cb]] w (BigRes (n + m) (x * y) w) := by
  have SA := A.size
  have SB := B.size
  have G := Lib.hid (fun W (h : Below w.heap.size w W) => mulD_any pa pb ca cb a b W A.can.digs B.can.digs (A.row.below h) (B.row.below h) (by omega) (by omega))
  have E : (bif (!(decide (x < 0) == decide (y < 0))) then -(dval a * dval b) else dval a * dval b) = x * y := by
    rw [A.can.val, B.can.val]; exact sgn_mul x y
  have WH := Lib.hid (fun (p : Option Addr) (c : Nat) (l : List Int) W (h1 : Can l (dval a * dval b)) (h2 : RowR W p l) (h3 : l.length ≤ 1000000) => by
    have := whole_any (!(decide (x < 0) == decide (y < 0))) p c l W h1.digs h2 h3
    rw [h1.val, E] at this
    exact this)
  have K := Box3.new w (decide (x < 0)) (decide (y < 0)) (.slice pa a.length ca) (.slice pb b.length cb)
  clear E A B
  generalize decide (x < 0) = s at *
  generalize decide (y < 0) = t at *
  generalize x * y = X at *
  go_enter Try.func52, Try.ntmps52
  go_wp2_with fail
  generalize (((w.alloc (Obj.cells #[Value.bool s, Value.slice pa a.length ca] 76)).alloc (Obj.cells #[Value.bool t, Value.slice pb b.length cb] 76)).alloc (Obj.cells #[Value.bool false, Value.slice none 0 0] 76)) = v at *
  have HK := Lib.hid K
  obtain ⟨k1, k2, k3, k4, k5, k6, k7, k8, k9, kb⟩ := K
  go_region_held3 (fun w' => w'.cell? ⟨w.heap.size, 0, none⟩ = some (.bool s) ∧ w'.cell? ⟨w.heap.size, 1, none⟩ = some (.slice pa a.length ca) ∧ w'.cell? ⟨w.heap.size + 1, 0, none⟩ = some (.bool t) ∧ w'.cell? ⟨w.heap.size + 1, 1, none⟩ = some (.slice pb b.length cb))
    (first | exact ⟨k1, k2, k3, k4⟩ | (refine ⟨?_, ?_, ?_, ?_⟩ <;> simp [go_sem, k1, k2, k3, k4]; done))
    (first
      | (go_at_call 79; refine (G.out _ (by first | exact kb | exact kb.drew)).mono ?_; rintro e w1 ⟨l1, p1, c1, rfl, d1, d2, d3, d4, d5, d6⟩; have K1 := Lib.hid (show Box3 w w1 s t _ _ from (by first | exact HK.out.below d6 | exact HK.out.drew.below d6)); clear k1 k2 k3 k4 k5 k6 k7 k8 k9 kb; obtain ⟨k1, k2, k3, k4, k5, k6, k7, k8, k9, kb⟩ := K1.out; have D1 := Lib.hid d1; have D2 := Lib.hid d2; have D3 := Lib.hid d3; clear d1 d2 d3 d4 d5 d6)
      | (go_at_call 70; refine (WH.out p1 c1 l1 _ D1.out (by exact D3.out) (by have := D2.out; omega)).mono ?_; rintro e w2 ⟨p2, l2, c2, rfl, r1, r2, r3⟩; have K2 := Lib.hid (show Box3 w w2 s t _ _ from (by first | exact K1.out.below r3 | exact K1.out.drew.below r3)); clear k1 k2 k3 k4 k5 k6 k7 k8 k9 kb; obtain ⟨k1, k2, k3, k4, k5, k6, k7, k8, k9, kb⟩ := K2.out; have R1 := Lib.hid r1; have R2 := Lib.hid r2; have R3 := Lib.hid r3; clear r1 r2 r3))
  have FIN := Lib.hid (BigRes.stored (c := c2) (r := w.heap.size + 1 + 1) K1.out.bel (by omega) K1.out.sz (R1.out.more (m := n + m) (by have := D2.out; omega)) R2.out R3.out)
  clear WH G HK K1 K2 D1 D2 D3 R1 R2 R3
  generalize decide (X < 0) = sg at *
  go_wp2_with fail
  exact bodyPost_ret (v := .agg #[.bool sg, .slice p2 l2.length c2]) (by simp [results, Try.results52, go_sem, k5, k6, k9]) rfl FIN.out
end Go.Proofs.Ytlfffobfcledcaa

/- The reference's Big: Plus, Minus. -/
namespace Go.Proofs.Ytlfffobfcledcaa
open Go.RowKit
set_option linter.unusedVariables false
set_option linter.unusedSimpArgs false

theorem whole_to {s : Bool} {V X : Int} (E : (bif s then -V else V) = X) (p : Option Addr) (c : Nat) (l : List Int) (W : World) (h1 : Digs l) (h1' : dval l = V) (h2 : RowR W p l) (h3 : l.length ≤ 1000000) :
    Calls Try.prog 70 #[.bool s, .slice p l.length c] W (BigRes l.length X W) := by
  have := whole_any s p c l W h1 h2 h3
  rw [h1', E] at this
  exact this

set_option maxHeartbeats 1000000 in
theorem Plus_any {k : Nat} (pa pb : Option Addr) (ca cb : Nat) (a b : List Int) (x y : Int) (w : World) (A : BigR k w pa a x) (B : BigR k w pb b y) (hk : k ≤ 90000) :
    Calls Try.prog 78 #[.agg #[.bool (decide (x < 0)), .slice pa a.length ca], .agg #[.bool (decide (y < 0)), .slice pb b.length cb]] w (BigRes (k + 1) (x + y) w) := by
  have SA := A.size
  have SB := B.size
  have K := Box3.new w (decide (x < 0)) (decide (y < 0)) (.slice pa a.length ca) (.slice pb b.length cb)
  by_cases st : decide (x < 0) = decide (y < 0)
  · have E : (bif decide (x < 0) then -(dval a + dval b) else dval a + dval b) = x + y := by
      rw [A.can.val, B.can.val]
      by_cases h : x < 0 <;> simp [h] at st ⊢ <;> omega
    have G := Lib.hid (fun W (h : Below w.heap.size w W) => addD_any pa pb ca cb a b W k A.can.digs B.can.digs (A.row.below h) (B.row.below h) (by omega) (by omega) (by omega))
    have WH := Lib.hid (whole_to E)
    rw [← st] at K ⊢
    clear E A B st
    generalize decide (x < 0) = s at *
    generalize x + y = X at *
    have ss : (s == s) = true := by simp
    go_enter Try.func78, Try.ntmps78
    go_wp2_with fail
    generalize (((w.alloc (Obj.cells #[Value.bool s, Value.slice pa a.length ca] 76)).alloc (Obj.cells #[Value.bool s, Value.slice pb b.length cb] 76)).alloc (Obj.cells #[Value.bool false, Value.slice none 0 0] 76)) = v at *
    have HK := Lib.hid K
    obtain ⟨k1, k2, k3, k4, k5, k6, k7, k8, k9, kb⟩ := K
    go_region_held3 (fun w' => w'.cell? ⟨w.heap.size, 0, none⟩ = some (.bool s) ∧ w'.cell? ⟨w.heap.size, 1, none⟩ = some (.slice pa a.length ca) ∧ w'.cell? ⟨w.heap.size + 1, 0, none⟩ = some (.bool s) ∧ w'.cell? ⟨w.heap.size + 1, 1, none⟩ = some (.slice pb b.length cb))
      (first | exact ⟨k1, k2, k3, k4⟩ | (refine ⟨?_, ?_, ?_, ?_⟩ <;> simp [go_sem, k1, k2, k3, k4]; done))
      (first
        | (go_at_call 101; refine (G.out _ (by first | exact kb | exact kb.drew)).mono ?_; rintro e w1 ⟨l1, p1, c1, rfl, d1, dv, d2, d3, d6⟩; have K1 := Lib.hid (show Box3 w w1 s s _ _ from (by first | exact HK.out.below d6 | exact HK.out.drew.below d6)); clear k1 k2 k3 k4 k5 k6 k7 k8 k9 kb; obtain ⟨k1, k2, k3, k4, k5, k6, k7, k8, k9, kb⟩ := K1.out; have D1 := Lib.hid d1; have DV := Lib.hid dv; have D2 := Lib.hid d2; have D3 := Lib.hid d3; clear d1 dv d2 d3 d6)
        | (go_at_call 70; refine (WH.out p1 c1 l1 _ D1.out DV.out (by exact D3.out) (by have := D2.out; omega)).mono ?_; rintro e w2 ⟨p2, l2, c2, rfl, r1, r2, r3⟩; have K2 := Lib.hid (show Box3 w w2 s s _ _ from (by first | exact K1.out.below r3 | exact K1.out.drew.below r3)); clear k1 k2 k3 k4 k5 k6 k7 k8 k9 kb; obtain ⟨k1, k2, k3, k4, k5, k6, k7, k8, k9, kb⟩ := K2.out; have R1 := Lib.hid r1; have R2 := Lib.hid r2; have R3 := Lib.hid r3; clear r1 r2 r3))
    have FIN := Lib.hid (BigRes.stored (c := c2) (r := w.heap.size + 1 + 1) K1.out.bel (by omega) K1.out.sz (R1.out.more (m := k + 1) (by have := D2.out; omega)) R2.out R3.out)
    clear WH G HK K1 K2 D1 D2 D3 DV R1 R2 R3
    generalize decide (X < 0) = sg at *
    go_wp2_with fail
    exact bodyPost_ret (v := .agg #[.bool sg, .slice p2 l2.length c2]) (by simp [results, Try.results78, go_sem, k5, k6, k9]) rfl FIN.out
  · have CM := Lib.hid (fun W (h : Below w.heap.size w W) => cmpD_any pa pb ca cb a b W A.can.digs B.can.digs A.can.norm B.can.norm (A.row.below h) (B.row.below h) (by omega) (by omega))
    by_cases hle : dval b ≤ dval a
    · have E : (bif decide (x < 0) then -(dval a - dval b) else dval a - dval b) = x + y := by
        rw [A.can.val, B.can.val]
        rw [A.can.val, B.can.val] at hle
        by_cases h : x < 0 <;> by_cases h' : y < 0 <;> simp [h, h'] at st ⊢ <;> omega
      have LL := can_len B.can A.can (by rw [← A.can.val, ← B.can.val]; exact hle)
      have G := Lib.hid (fun W (h : Below w.heap.size w W) => subD_any pa pb ca cb a b W A.can.digs B.can.digs (A.row.below h) (B.row.below h) (by omega) LL hle)
      have WH := Lib.hid (whole_to E)
      have Z1 : 0 ≤ cmpZ (dval a) (dval b) := by unfold cmpZ; split; omega; split <;> omega
      have Z2 := (cmpZ_le (dval a) (dval b)).2
      have st' : (decide (x < 0) == decide (y < 0)) = false := by simpa using st
      clear E A B st hle LL
      generalize decide (x < 0) = s at *
      generalize decide (y < 0) = t at *
      generalize x + y = X at *
      generalize cmpZ (dval a) (dval b) = z at *
      go_enter Try.func78, Try.ntmps78
      go_wp2_with fail
      refine (CM.out _ (by go_grown)).mono ?_
      rintro e w3 ⟨rfl, n3, rfl⟩
      replace K := K.below (below_drewN (Below.refl _ _) n3)
      clear CM
      generalize (((w.alloc (Obj.cells #[Value.bool s, Value.slice pa a.length ca] 76)).alloc (Obj.cells #[Value.bool t, Value.slice pb b.length cb] 76)).alloc (Obj.cells #[Value.bool false, Value.slice none 0 0] 76)).drewN n3 = v at *
      go_wp2_with fail
      have HK := Lib.hid K
      obtain ⟨k1, k2, k3, k4, k5, k6, k7, k8, k9, kb⟩ := K
      go_region_held3 (fun w' => w'.cell? ⟨w.heap.size, 0, none⟩ = some (.bool s) ∧ w'.cell? ⟨w.heap.size, 1, none⟩ = some (.slice pa a.length ca) ∧ w'.cell? ⟨w.heap.size + 1, 0, none⟩ = some (.bool t) ∧ w'.cell? ⟨w.heap.size + 1, 1, none⟩ = some (.slice pb b.length cb))
        (first | exact ⟨k1, k2, k3, k4⟩ | (refine ⟨?_, ?_, ?_, ?_⟩ <;> simp [go_sem, k1, k2, k3, k4]; done))
        (first
          | (go_at_call 97; refine (G.out _ (by first | exact kb | exact kb.drew)).mono ?_; rintro e w1 ⟨l1, p1, c1, rfl, dc, d2, d3, d4, d5, d6⟩; have K1 := Lib.hid (show Box3 w w1 s t _ _ from (by first | exact HK.out.below d6 | exact HK.out.drew.below d6)); clear k1 k2 k3 k4 k5 k6 k7 k8 k9 kb; obtain ⟨k1, k2, k3, k4, k5, k6, k7, k8, k9, kb⟩ := K1.out; have D1 := Lib.hid dc.digs; have DV := Lib.hid dc.val; have D2 := Lib.hid d2; have D3 := Lib.hid d3; clear dc d2 d3 d4 d5 d6)
          | (go_at_call 70; refine (WH.out p1 c1 l1 _ D1.out DV.out (by exact D3.out) (by have := D2.out; omega)).mono ?_; rintro e w2 ⟨p2, l2, c2, rfl, r1, r2, r3⟩; have K2 := Lib.hid (show Box3 w w2 s t _ _ from (by first | exact K1.out.below r3 | exact K1.out.drew.below r3)); clear k1 k2 k3 k4 k5 k6 k7 k8 k9 kb; obtain ⟨k1, k2, k3, k4, k5, k6, k7, k8, k9, kb⟩ := K2.out; have R1 := Lib.hid r1; have R2 := Lib.hid r2; have R3 := Lib.hid r3; clear r1 r2 r3))
      have FIN := Lib.hid (BigRes.stored (c := c2) (r := w.heap.size + 1 + 1) K1.out.bel (by omega) K1.out.sz (R1.out.more (m := k + 1) (by have := D2.out; omega)) R2.out R3.out)
      clear WH G HK K1 K2 D1 D2 D3 DV R1 R2 R3
      generalize decide (X < 0) = sg at *
      go_wp2_with fail
      exact bodyPost_ret (v := .agg #[.bool sg, .slice p2 l2.length c2]) (by simp [results, Try.results78, go_sem, k5, k6, k9]) rfl FIN.out
    · have E : (bif decide (y < 0) then -(dval b - dval a) else dval b - dval a) = x + y := by
        rw [A.can.val, B.can.val]
        rw [A.can.val, B.can.val] at hle
        by_cases h : x < 0 <;> by_cases h' : y < 0 <;> simp [h, h'] at st ⊢ <;> omega
      have LL := can_len A.can B.can (by rw [← A.can.val, ← B.can.val]; omega)
      have G := Lib.hid (fun W (h : Below w.heap.size w W) => subD_any pb pa cb ca b a W B.can.digs A.can.digs (B.row.below h) (A.row.below h) (by omega) LL (by omega))
      have WH := Lib.hid (whole_to E)
      have Z1 : cmpZ (dval a) (dval b) < 0 := by unfold cmpZ; rw [if_pos (by omega)]; omega
      have Z2 := (cmpZ_le (dval a) (dval b)).1
      have st' : (decide (x < 0) == decide (y < 0)) = false := by simpa using st
      clear E A B st hle LL
      generalize decide (x < 0) = s at *
      generalize decide (y < 0) = t at *
      generalize x + y = X at *
      generalize cmpZ (dval a) (dval b) = z at *
      go_enter Try.func78, Try.ntmps78
      go_wp2_with fail
      refine (CM.out _ (by go_grown)).mono ?_
      rintro e w3 ⟨rfl, n3, rfl⟩
      replace K := K.below (below_drewN (Below.refl _ _) n3)
      clear CM
      generalize (((w.alloc (Obj.cells #[Value.bool s, Value.slice pa a.length ca] 76)).alloc (Obj.cells #[Value.bool t, Value.slice pb b.length cb] 76)).alloc (Obj.cells #[Value.bool false, Value.slice none 0 0] 76)).drewN n3 = v at *
      go_wp2_with fail
      have HK := Lib.hid K
      obtain ⟨k1, k2, k3, k4, k5, k6, k7, k8, k9, kb⟩ := K
      go_region_held3 (fun w' => w'.cell? ⟨w.heap.size, 0, none⟩ = some (.bool s) ∧ w'.cell? ⟨w.heap.size, 1, none⟩ = some (.slice pa a.length ca) ∧ w'.cell? ⟨w.heap.size + 1, 0, none⟩ = some (.bool t) ∧ w'.cell? ⟨w.heap.size + 1, 1, none⟩ = some (.slice pb b.length cb))
        (first | exact ⟨k1, k2, k3, k4⟩ | (refine ⟨?_, ?_, ?_, ?_⟩ <;> simp [go_sem, k1, k2, k3, k4]; done))
        (first
          | (go_at_call 97; refine (G.out _ (by first | exact kb | exact kb.drew)).mono ?_; rintro e w1 ⟨l1, p1, c1, rfl, dc, d2, d3, d4, d5, d6⟩; have K1 := Lib.hid (show Box3 w w1 s t _ _ from (by first | exact HK.out.below d6 | exact HK.out.drew.below d6)); clear k1 k2 k3 k4 k5 k6 k7 k8 k9 kb; obtain ⟨k1, k2, k3, k4, k5, k6, k7, k8, k9, kb⟩ := K1.out; have D1 := Lib.hid dc.digs; have DV := Lib.hid dc.val; have D2 := Lib.hid d2; have D3 := Lib.hid d3; clear dc d2 d3 d4 d5 d6)
          | (go_at_call 70; refine (WH.out p1 c1 l1 _ D1.out DV.out (by exact D3.out) (by have := D2.out; omega)).mono ?_; rintro e w2 ⟨p2, l2, c2, rfl, r1, r2, r3⟩; have K2 := Lib.hid (show Box3 w w2 s t _ _ from (by first | exact K1.out.below r3 | exact K1.out.drew.below r3)); clear k1 k2 k3 k4 k5 k6 k7 k8 k9 kb; obtain ⟨k1, k2, k3, k4, k5, k6, k7, k8, k9, kb⟩ := K2.out; have R1 := Lib.hid r1; have R2 := Lib.hid r2; have R3 := Lib.hid r3; clear r1 r2 r3))
      have FIN := Lib.hid (BigRes.stored (c := c2) (r := w.heap.size + 1 + 1) K1.out.bel (by omega) K1.out.sz (R1.out.more (m := k + 1) (by have := D2.out; omega)) R2.out R3.out)
      clear WH G HK K1 K2 D1 D2 D3 DV R1 R2 R3
      generalize decide (X < 0) = sg at *
      go_wp2_with fail
      exact bodyPost_ret (v := .agg #[.bool sg, .slice p2 l2.length c2]) (by simp [results, Try.results78, go_sem, k5, k6, k9]) rfl FIN.out
end Go.Proofs.Ytlfffobfcledcaa
