/- A run of closed code, whatever the memory: tables, values told without their addresses, and how they stand to a world. -/
import Derived.WalkKit
import Derived.Orders
import Derived.MapKept
import Derived.Laws.StructEq
namespace Go.Proofs.Ytmdhmpfagekonaa.Ev
open Go.RowKit
set_option linter.unusedVariables false
set_option linter.unusedSimpArgs false

/-- A table over numbers, by their binary digits. -/
inductive Tr (α : Type) where
  | nil
  | leaf (k : Nat) (a : α)
  | node (l r : Tr α)

noncomputable def Tr.get {α : Type} (t : Tr α) : Nat → Nat → Option α :=
  Tr.rec (motive := fun _ => Nat → Nat → Option α) (fun _ _ => none) (fun q a _ k => Bool.rec (motive := fun _ => Option α) none (some a) (Nat.beq q k))
    (fun _ _ gl gr n k => Bool.rec (motive := fun _ => Option α) (gr (Nat.div n 2) k) (gl (Nat.div n 2) k) (Nat.beq (Nat.mod n 2) 0)) t

noncomputable def Tr.set {α : Type} (k : Nat) (a : α) (d : Nat) : Tr α → Nat → Tr α :=
  Nat.rec (motive := fun _ => Tr α → Nat → Tr α) (fun _ _ => .leaf k a)
    (fun _ ih t n => Tr.rec (motive := fun _ => Tr α) (Bool.rec (motive := fun _ => Tr α) (.node .nil (ih .nil (Nat.div n 2))) (.node (ih .nil (Nat.div n 2)) .nil) (Nat.beq (Nat.mod n 2) 0))
      (fun _ _ => Bool.rec (motive := fun _ => Tr α) (.node .nil (ih .nil (Nat.div n 2))) (.node (ih .nil (Nat.div n 2)) .nil) (Nat.beq (Nat.mod n 2) 0))
      (fun l r _ _ => Bool.rec (motive := fun _ => Tr α) (.node l (ih r (Nat.div n 2))) (.node (ih l (Nat.div n 2)) r) (Nat.beq (Nat.mod n 2) 0)) t) d

theorem Tr.get_nil {α : Type} (n k : Nat) : Tr.get (α := α) .nil n k = none := rfl
theorem Tr.get_leaf {α : Type} (q : Nat) (a : α) (n k : Nat) : Tr.get (.leaf q a) n k = bif Nat.beq q k then some a else none := by show Bool.rec (motive := fun _ => Option α) none (some a) (Nat.beq q k) = _; cases Nat.beq q k <;> rfl
theorem Tr.get_node {α : Type} (l r : Tr α) (n k : Nat) : Tr.get (.node l r) n k = bif Nat.beq (Nat.mod n 2) 0 then Tr.get l (Nat.div n 2) k else Tr.get r (Nat.div n 2) k := by
  show Bool.rec (motive := fun _ => Option α) (Tr.get r (Nat.div n 2) k) (Tr.get l (Nat.div n 2) k) (Nat.beq (Nat.mod n 2) 0) = _; cases Nat.beq (Nat.mod n 2) 0 <;> rfl
theorem Tr.set_zero {α : Type} (k : Nat) (a : α) (t : Tr α) (n : Nat) : Tr.set k a 0 t n = .leaf k a := rfl
theorem Tr.set_nil {α : Type} (k : Nat) (a : α) (d n : Nat) : Tr.set k a (d + 1) .nil n = bif Nat.beq (Nat.mod n 2) 0 then .node (Tr.set k a d .nil (Nat.div n 2)) .nil else .node .nil (Tr.set k a d .nil (Nat.div n 2)) := by
  show Bool.rec (motive := fun _ => Tr α) (.node .nil (Tr.set k a d .nil (Nat.div n 2))) (.node (Tr.set k a d .nil (Nat.div n 2)) .nil) (Nat.beq (Nat.mod n 2) 0) = _; cases Nat.beq (Nat.mod n 2) 0 <;> rfl
theorem Tr.set_leaf {α : Type} (k : Nat) (a : α) (d q : Nat) (b : α) (n : Nat) : Tr.set k a (d + 1) (.leaf q b) n = bif Nat.beq (Nat.mod n 2) 0 then .node (Tr.set k a d .nil (Nat.div n 2)) .nil else .node .nil (Tr.set k a d .nil (Nat.div n 2)) := by
  show Bool.rec (motive := fun _ => Tr α) (.node .nil (Tr.set k a d .nil (Nat.div n 2))) (.node (Tr.set k a d .nil (Nat.div n 2)) .nil) (Nat.beq (Nat.mod n 2) 0) = _; cases Nat.beq (Nat.mod n 2) 0 <;> rfl
theorem Tr.set_node {α : Type} (k : Nat) (a : α) (d : Nat) (l r : Tr α) (n : Nat) : Tr.set k a (d + 1) (.node l r) n = bif Nat.beq (Nat.mod n 2) 0 then .node (Tr.set k a d l (Nat.div n 2)) r else .node l (Tr.set k a d r (Nat.div n 2)) := by
  show Bool.rec (motive := fun _ => Tr α) (.node l (Tr.set k a d r (Nat.div n 2))) (.node (Tr.set k a d l (Nat.div n 2)) r) (Nat.beq (Nat.mod n 2) 0) = _; cases Nat.beq (Nat.mod n 2) 0 <;> rfl

def deep : Nat := 12
noncomputable def Tr.at {α : Type} (t : Tr α) (k : Nat) : Option α := Tr.get t k k
noncomputable def Tr.put {α : Type} (t : Tr α) (k : Nat) (a : α) : Tr α := Tr.set k a deep t k

theorem beq_of_eq {a b : Nat} (h : a = b) : Nat.beq a b = true := by subst h; simp
theorem beq_of_ne {a b : Nat} (h : a ≠ b) : Nat.beq a b = false := by
  cases e : Nat.beq a b
  · rfl
  · exact absurd (Nat.eq_of_beq_eq_true e) h

/-- A leaf lies at the bottom only. -/
def Tr.fine {α : Type} : Nat → Tr α → Prop
  | _, .nil => True
  | 0, .leaf _ _ => True
  | d + 1, .node l r => Tr.fine d l ∧ Tr.fine d r
  | _, _ => False
theorem Tr.fine_nil {α : Type} (d : Nat) : Tr.fine (α := α) d .nil := by cases d <;> trivial

theorem Tr.get_set {α : Type} (k : Nat) (a : α) : ∀ (d : Nat) (t : Tr α) (n : Nat), Tr.get (Tr.set k a d t n) n k = some a
  | 0, t, n => by simp [Tr.set_zero, Tr.get_leaf]
  | d + 1, t, n => by
    cases t <;> simp only [Tr.set_nil, Tr.set_leaf, Tr.set_node] <;> cases h : Nat.beq (Nat.mod n 2) 0 <;> simp only [cond_true, cond_false, Tr.get_node, h] <;> exact Tr.get_set k a d _ _

/-- What is read behind a put is what was put, or what was there. -/
theorem Tr.get_set_some {α : Type} (k k' : Nat) (a v : α) (hk : k ≠ k') : ∀ (d : Nat) (t : Tr α) (n n' : Nat), Tr.fine d t → Tr.get (Tr.set k a d t n) n' k' = some v → Tr.get t n' k' = some v
  | 0, t, n, n', _, h => by
    simp [Tr.set_zero, Tr.get_leaf, beq_of_ne hk] at h
  | d + 1, t, n, n', hf, h => by
    cases t with
    | nil =>
      simp only [Tr.set_nil] at h
      cases e : Nat.beq (Nat.mod n 2) 0 <;> simp only [e, cond_true, cond_false, Tr.get_node] at h <;> cases e' : Nat.beq (Nat.mod n' 2) 0 <;> simp only [e', cond_true, cond_false] at h
      · exact absurd (Tr.get_set_some k k' a v hk d _ _ _ (Tr.fine_nil d) h) (by simp [Tr.get_nil])
      · simp [Tr.get_nil] at h
      · simp [Tr.get_nil] at h
      · exact absurd (Tr.get_set_some k k' a v hk d _ _ _ (Tr.fine_nil d) h) (by simp [Tr.get_nil])
    | leaf q b => exact hf.elim
    | node l r =>
      obtain ⟨fl, fr⟩ := hf
      simp only [Tr.set_node] at h
      cases e : Nat.beq (Nat.mod n 2) 0 <;> simp only [e, cond_true, cond_false, Tr.get_node] at h ⊢ <;> cases e' : Nat.beq (Nat.mod n' 2) 0 <;> simp only [e', cond_true, cond_false] at h ⊢
      · exact Tr.get_set_some k k' a v hk d _ _ _ fr h
      · exact h
      · exact h
      · exact Tr.get_set_some k k' a v hk d _ _ _ fl h

theorem Tr.fine_set {α : Type} (k : Nat) (a : α) : ∀ (d : Nat) (t : Tr α) (n : Nat), Tr.fine d t → Tr.fine d (Tr.set k a d t n)
  | 0, t, n, _ => by simp [Tr.set_zero, Tr.fine]
  | d + 1, t, n, hf => by
    cases t with
    | nil =>
      simp only [Tr.set_nil]
      cases Nat.beq (Nat.mod n 2) 0 <;> simp only [cond_true, cond_false, Tr.fine]
      · exact ⟨trivial, Tr.fine_set k a d _ _ (Tr.fine_nil d)⟩
      · exact ⟨Tr.fine_set k a d _ _ (Tr.fine_nil d), trivial⟩
    | leaf q b => exact hf.elim
    | node l r =>
      simp only [Tr.set_node]
      cases Nat.beq (Nat.mod n 2) 0 <;> simp only [cond_true, cond_false, Tr.fine]
      · exact ⟨hf.1, Tr.fine_set k a d _ _ hf.2⟩
      · exact ⟨Tr.fine_set k a d _ _ hf.1, hf.2⟩

theorem mod_key {n n' d : Nat} (h : n % 2 ^ (d + 1) ≠ n' % 2 ^ (d + 1)) (e : n % 2 = n' % 2) : Nat.div n 2 % 2 ^ d ≠ Nat.div n' 2 % 2 ^ d := by
  intro f
  apply h
  have f' : n / 2 % 2 ^ d = n' / 2 % 2 ^ d := f
  rw [Nat.pow_succ, Nat.mul_comm, Nat.mod_mul, Nat.mod_mul, e, f']
theorem par_ff {n n' : Nat} (e : Nat.beq (Nat.mod n 2) 0 = false) (e' : Nat.beq (Nat.mod n' 2) 0 = false) : n % 2 = n' % 2 := by
  have h1 : n % 2 ≠ 0 := Nat.ne_of_beq_eq_false e
  have h2 : n' % 2 ≠ 0 := Nat.ne_of_beq_eq_false e'
  omega
theorem par_tt {n n' : Nat} (e : Nat.beq (Nat.mod n 2) 0 = true) (e' : Nat.beq (Nat.mod n' 2) 0 = true) : n % 2 = n' % 2 := by
  have h1 : n % 2 = 0 := Nat.eq_of_beq_eq_true e
  have h2 : n' % 2 = 0 := Nat.eq_of_beq_eq_true e'
  omega

theorem Tr.get_set_other {α : Type} (k k' : Nat) (a : α) : ∀ (d : Nat) (t : Tr α) (n n' : Nat), Tr.fine d t → n % 2 ^ d ≠ n' % 2 ^ d → Tr.get (Tr.set k a d t n) n' k' = Tr.get t n' k'
  | 0, t, n, n', _, h => by simp [Nat.mod_one] at h
  | d + 1, t, n, n', hf, h => by
    cases t with
    | nil =>
      simp only [Tr.set_nil, Tr.get_nil]
      cases e : Nat.beq (Nat.mod n 2) 0 <;> cases e' : Nat.beq (Nat.mod n' 2) 0 <;> simp only [cond_true, cond_false, Tr.get_node, e', Tr.get_nil]
      · exact Tr.get_set_other k k' a d .nil _ _ (Tr.fine_nil d) (mod_key h (par_ff e e'))
      · exact Tr.get_set_other k k' a d .nil _ _ (Tr.fine_nil d) (mod_key h (par_tt e e'))
    | leaf q b => exact hf.elim
    | node l r =>
      simp only [Tr.set_node]
      cases e : Nat.beq (Nat.mod n 2) 0 <;> cases e' : Nat.beq (Nat.mod n' 2) 0 <;> simp only [cond_true, cond_false, Tr.get_node, e']
      · exact Tr.get_set_other k k' a d r _ _ hf.2 (mod_key h (par_ff e e'))
      · exact Tr.get_set_other k k' a d l _ _ hf.1 (mod_key h (par_tt e e'))

/-- Two puts at places apart in their first d digits commute. -/
theorem Tr.set_comm {α : Type} (k k' : Nat) (a b : α) : ∀ (d : Nat) (t : Tr α) (n n' : Nat), n % 2 ^ d ≠ n' % 2 ^ d → Tr.set k a d (Tr.set k' b d t n') n = Tr.set k' b d (Tr.set k a d t n) n'
  | 0, t, n, n', h => by simp [Nat.mod_one] at h
  | d + 1, t, n, n', h => by
    cases t <;> simp only [Tr.set_nil, Tr.set_leaf, Tr.set_node] <;> cases e : Nat.beq (Nat.mod n 2) 0 <;> cases e' : Nat.beq (Nat.mod n' 2) 0 <;> simp only [cond_true, cond_false, Tr.set_node, e, e'] <;>
      first
        | rfl
        | (congr 1; exact Tr.set_comm k k' a b d _ _ _ (mod_key h (par_ff e e')))
        | (congr 1; exact Tr.set_comm k k' a b d _ _ _ (mod_key h (par_tt e e')))

theorem Tr.at_put {α : Type} (t : Tr α) (k : Nat) (a : α) : (t.put k a).at k = some a := Tr.get_set k a deep t k
theorem Tr.at_put_some {α : Type} {t : Tr α} {k k' : Nat} {a v : α} (f : Tr.fine deep t) (h : (t.put k a).at k' = some v) : (k = k' ∧ v = a) ∨ (k ≠ k' ∧ t.at k' = some v) := by
  by_cases e : k = k'
  · subst e; rw [Tr.at_put] at h; cases h; exact .inl ⟨rfl, rfl⟩
  · exact .inr ⟨e, Tr.get_set_some k k' a v e deep t k k' f h⟩
theorem Tr.at_put_ne {α : Type} {t : Tr α} {k k' : Nat} {a : α} (f : Tr.fine deep t) (h : k ≠ k') (hk : k < 2 ^ deep) (hk' : k' < 2 ^ deep) : (t.put k a).at k' = t.at k' :=
  Tr.get_set_other k k' a deep t k k' f (by rw [Nat.mod_eq_of_lt hk, Nat.mod_eq_of_lt hk']; exact h)
theorem Tr.put_fine {α : Type} {t : Tr α} (k : Nat) (a : α) (f : Tr.fine deep t) : Tr.fine deep (t.put k a) := Tr.fine_set k a deep t k f
theorem Tr.put_comm {α : Type} (t : Tr α) {k k' : Nat} (a b : α) (h : k ≠ k') (hk : k < 2 ^ deep) (hk' : k' < 2 ^ deep) : (t.put k' b).put k a = (t.put k a).put k' b :=
  Tr.set_comm k k' a b deep t k k' (by rw [Nat.mod_eq_of_lt hk, Nat.mod_eq_of_lt hk']; exact h)

/-- The same for small numbers: slots and cells. -/
noncomputable def Tr.putS {α : Type} (t : Tr α) (k : Nat) (a : α) : Tr α := Tr.set k a 9 t k
theorem Tr.at_putS {α : Type} (t : Tr α) (k : Nat) (a : α) : (t.putS k a).at k = some a := Tr.get_set k a 9 t k
theorem Tr.at_putS_some {α : Type} {t : Tr α} {k k' : Nat} {a v : α} (f : Tr.fine 9 t) (h : (t.putS k a).at k' = some v) : (k = k' ∧ v = a) ∨ (k ≠ k' ∧ t.at k' = some v) := by
  by_cases e : k = k'
  · subst e; rw [Tr.at_putS] at h; cases h; exact .inl ⟨rfl, rfl⟩
  · exact .inr ⟨e, Tr.get_set_some k k' a v e 9 t k k' f h⟩
theorem Tr.at_putS_ne {α : Type} {t : Tr α} {k k' : Nat} {a : α} (f : Tr.fine 9 t) (h : k ≠ k') (hk : k < 512) (hk' : k' < 512) : (t.putS k a).at k' = t.at k' :=
  Tr.get_set_other k k' a 9 t k k' f (by rw [Nat.mod_eq_of_lt (by simpa using hk), Nat.mod_eq_of_lt (by simpa using hk')]; exact h)
theorem Tr.putS_fine {α : Type} {t : Tr α} (k : Nat) (a : α) (f : Tr.fine 9 t) : Tr.fine 9 (t.putS k a) := Tr.fine_set k a 9 t k f
theorem Tr.putS_comm {α : Type} (t : Tr α) {k k' : Nat} (a b : α) (h : k ≠ k') (hk : k < 512) (hk' : k' < 512) : (t.putS k' b).putS k a = (t.putS k a).putS k' b :=
  Tr.set_comm k k' a b 9 t k k' (by rw [Nat.mod_eq_of_lt (by simpa using hk), Nat.mod_eq_of_lt (by simpa using hk')]; exact h)

def eqBy : List UInt8 → List UInt8 → Bool
  | [], [] => true
  | x :: xs, y :: ys => Nat.beq x.toNat y.toNat && eqBy xs ys
  | _, _ => false
theorem eqBy_ok : ∀ {xs ys : List UInt8}, eqBy xs ys = true → xs = ys
  | [], [], _ => rfl
  | x :: xs, y :: ys, h => by
    simp only [eqBy, Bool.and_eq_true] at h
    rw [UInt8.toNat_inj.1 (Nat.eq_of_beq_eq_true h.1), eqBy_ok h.2]
  | [], _ :: _, h => by cases h
  | _ :: _, [], h => by cases h
theorem eqBy_self : ∀ xs : List UInt8, eqBy xs xs = true
  | [] => rfl
  | x :: xs => by simp [eqBy, eqBy_self xs]
theorem eqBy_eq (a b : ByteArray) : (a == b) = eqBy a.data.toList b.data.toList := by
  rw [Bool.eq_iff_iff]
  constructor
  · intro h
    have := (Go.MapKept.bytes_beq a b).1 h
    subst this
    exact eqBy_self _
  · intro h
    obtain ⟨a⟩ := a
    obtain ⟨b⟩ := b
    have := Array.ext' (eqBy_ok h)
    subst this
    exact (Go.MapKept.bytes_beq _ _).2 rfl
theorem eqBy_list (a b : ByteArray) : (a.toList == b.toList) = eqBy a.data.toList b.data.toList := by rw [← beq_toListBytes, eqBy_eq]

/-- What a value is, its addresses told by names: the name of a block stands where the block's number is; of a slice the last number tells its room: 2 * room + 1, or, where it is not known, 2 * (cells of an element). -/
def Room (cc cap o R : Nat) : Prop := cc = 2 * cap + 1 ∨ ∃ s, cc = 2 * s ∧ o + cap * s ≤ R
/-- The function that a loop over a function hands out. -/
def isYield : Fn → Bool | .yield _ => true | _ => false
/-- How values stand to values. -/
inductive VR (m : Nat → Option (Nat × Nat × Nat)) : Value → Value → Prop
  | bool (b : Bool) : VR m (.bool b) (.bool b)
  | int (k : IntKind) (n : Int) : VR m (.int k n) (.int k n)
  | float (k : FloatKind) (n : Nat) : VR m (.float k n) (.float k n)
  | string (s : ByteArray) : VR m (.string s) (.string s)
  | pnil : VR m (.pointer none) (.pointer none)
  | snil : VR m (.slice none 0 0) (.slice none 0 0)
  | mnil : VR m (.map none) (.map none)
  | fnil : VR m .nilFunc .nilFunc
  | inil : VR m .nilIface .nilIface
  | ptr (b o C k : Nat) {R : Nat} (h : m b = some (C, k, R)) : VR m (.pointer (some ⟨b, o, none⟩)) (.pointer (some ⟨C, k + o, none⟩))
  | slice (b o C k len cap cc : Nat) {R : Nat} (h : m b = some (C, k, R)) (hl : len ≤ cap) (hc : Room cc cap o R) :
      VR m (.slice (some ⟨b, o, none⟩) len cc) (.slice (some ⟨C, k + o, none⟩) len cap)
  | func (fn : Fn) (hf : isYield fn = false) (xs ys us vs : Array Value) (hs : xs.size = ys.size) (h : ∀ (i : Nat) (x y : Value), xs[i]? = some x → ys[i]? = some y → VR m x y)
      (hs' : us.size = vs.size) (h' : ∀ (i : Nat) (x y : Value), us[i]? = some x → vs[i]? = some y → VR m x y) : VR m (.func fn xs us) (.func fn ys vs)
  | iface (t : TypeId) (x y : Value) (h : VR m x y) : VR m (.iface t x) (.iface t y)
  | agg (xs ys : Array Value) (hs : xs.size = ys.size) (h : ∀ (i : Nat) (x y : Value), xs[i]? = some x → ys[i]? = some y → VR m x y) : VR m (.agg xs) (.agg ys)
  | tuple (xs ys : Array Value) (hs : xs.size = ys.size) (h : ∀ (i : Nat) (x y : Value), xs[i]? = some x → ys[i]? = some y → VR m x y) : VR m (.tuple xs) (.tuple ys)
  | mapr (b C : Nat) {R : Nat} (h : m b = some (C, 0, R)) : VR m (.map (some b)) (.map (some C))
  | yld (b C : Nat) {R : Nat} (h : m b = some (C, 0, R)) : VR m (.func (.yield b) #[] #[]) (.func (.yield C) #[] #[])
  | hole (n : Nat) (v : Value) (h : v.oneCell' = true) : VR m (.complex .f64 n 0) v
  | holeU (z : Int) (h0 : 0 ≤ z) (h1 : z ≤ 65535) : VR m (.complex .f64 0 1) (.int .u16 z)
  | holeI (z : Int) (h0 : 0 ≤ z) (h1 : z ≤ 65535) : VR m (.complex .f64 0 2) (.int .i64 z)

def Sub (m m' : Nat → Option (Nat × Nat × Nat)) : Prop := ∀ b x, m b = some x → m' b = some x
theorem Sub.refl (m : Nat → Option (Nat × Nat × Nat)) : Sub m m := fun _ _ h => h
theorem Sub.trans {a b c : Nat → Option (Nat × Nat × Nat)} (h : Sub a b) (k : Sub b c) : Sub a c := fun _ _ e => k _ _ (h _ _ e)

theorem VR.mono {m m' : Nat → Option (Nat × Nat × Nat)} (s : Sub m m') {x y : Value} (h : VR m x y) : VR m' x y := by
  induction h with
  | bool b => exact .bool b
  | int k n => exact .int k n
  | float k n => exact .float k n
  | string s => exact .string s
  | pnil => exact .pnil
  | snil => exact .snil
  | mnil => exact .mnil
  | fnil => exact .fnil
  | inil => exact .inil
  | ptr b o C k h => exact .ptr b o C k (s _ _ h)
  | slice b o C k len cap cc h hl hc => exact .slice b o C k len cap cc (s _ _ h) hl hc
  | func fn hf xs ys us vs hs h hs' h' ih ih' => exact .func fn hf xs ys us vs hs ih hs' ih'
  | iface t x y h ih => exact .iface t x y ih
  | agg xs ys hs h ih => exact .agg xs ys hs ih
  | tuple xs ys hs h ih => exact .tuple xs ys hs ih
  | mapr b C h => exact .mapr b C (s _ _ h)
  | yld b C h => exact .yld b C (s _ _ h)
  | hole n v h => exact .hole n v h
  | holeU z h0 h1 => exact .holeU z h0 h1
  | holeI z h0 h1 => exact .holeI z h0 h1

/-- Rows of values, one by one. -/
def VRs (m : Nat → Option (Nat × Nat × Nat)) (xs ys : Array Value) : Prop := xs.size = ys.size ∧ ∀ (i : Nat) (x y : Value), xs[i]? = some x → ys[i]? = some y → VR m x y

/-- A value of the text, without an address. -/
def plain1 : Value → Bool
  | .bool _ | .int _ _ | .float _ _ | .string _ | .pointer none | .slice none 0 0 | .map none | .nilFunc | .nilIface => true
  | _ => false
def plain2 : Value → Bool
  | .agg xs => xs.toList.all plain1
  | .tuple xs => xs.toList.all plain1
  | v => plain1 v
theorem VR.of1 {m : Nat → Option (Nat × Nat × Nat)} {v : Value} (h : plain1 v = true) : VR m v v := by
  unfold plain1 at h
  split at h <;> first | constructor | cases h
theorem all_get {xs : Array Value} {p : Value → Bool} (h : xs.toList.all p = true) {i : Nat} {x : Value} (hx : xs[i]? = some x) : p x = true := by
  rw [List.all_eq_true] at h
  refine h x ?_
  rw [← Array.getElem?_toList] at hx
  exact List.mem_of_getElem? hx
theorem VR.of2 {m : Nat → Option (Nat × Nat × Nat)} {v : Value} (h : plain2 v = true) : VR m v v := by
  unfold plain2 at h
  split at h
  · exact .agg _ _ rfl fun i x y hx hy => by rw [hx] at hy; cases hy; exact VR.of1 (all_get h hx)
  · exact .tuple _ _ rfl fun i x y hx hy => by rw [hx] at hy; cases hy; exact VR.of1 (all_get h hx)
  · exact VR.of1 h

/-- A loop over a function: the slots as they stood, how many, where the arguments go, what is assigned ahead, the body. -/
structure LoopT where
  T : Tr Value
  N : Nat
  params : List Nat
  assign : Code
  body : Code
/-- A block: its element's type, its cells as far as they are known, how many, and whether it may still be used; or a map (its entries in the cells), the record of a loop over a function (n: 0 ready, 1 busy, 2 left by ret, 3 + id left by exit), or a block for deferred calls in which there are none. -/
structure Blk where
  elem : TypeId
  cells : Tr Value
  n : Nat
  live : Bool
  mp : Bool
  lp : Option LoopT := none
  df : Bool := false
def Blk.own (B : Blk) : Bool := B.mp || B.lp.isSome || B.df
/-- A map's entries: key and value of each, one behind the other. -/
def MapAt (m : Nat → Option (Nat × Nat × Nat)) (B : Blk) (es : Array MapEntry) : Prop := es.size = B.n ∧ ∀ i, i < B.n → ∃ e k v, es[i]? = some e ∧ B.cells.at (2 * i) = some k ∧ B.cells.at (2 * i + 1) = some v ∧ e.key = k ∧ VR m v e.val
theorem MapAt.mono {m m' : Nat → Option (Nat × Nat × Nat)} (s : Sub m m') {B : Blk} {es : Array MapEntry} (h : MapAt m B es) : MapAt m' B es :=
  ⟨h.1, fun i hi => let ⟨e, k, v, a, b, c, d, f⟩ := h.2 i hi; ⟨e, k, v, a, b, c, d, f.mono s⟩⟩
/-- A loop's record. -/
def StateAt (n : Nat) (s : LoopState) (p : Option Code) : Prop := (n = 0 ∧ s = .ready ∧ p = none) ∨ (n = 1 ∧ s = .busy) ∨ (n = 2 ∧ s = .done ∧ p = some .ret) ∨ (3 ≤ n ∧ s = .done ∧ p = some (.exit (n - 3)))
structure LoopAt (m : Nat → Option (Nat × Nat × Nat)) (B : Blk) (L : LoopT) (r : Loop) : Prop where
  fine : Tr.fine 9 L.T
  tmps : ∀ i v, L.T.at i = some v → ∃ v', r.tmps[i]? = some v' ∧ VR m v v'
  size : L.N ≤ r.tmps.size
  params : r.params.toList = L.params
  assign : r.assign = L.assign
  body : r.body = L.body
  state : StateAt B.n r.state r.pending
theorem LoopAt.mono {m m' : Nat → Option (Nat × Nat × Nat)} (s : Sub m m') {B : Blk} {L : LoopT} {r : Loop} (h : LoopAt m B L r) : LoopAt m' B L r :=
  ⟨h.fine, fun i v e => let ⟨v', a, b⟩ := h.tmps i v e; ⟨v', a, b.mono s⟩, h.size, h.params, h.assign, h.body, h.state⟩
/-- What a block that is no row of cells stands for. -/
inductive Fits (m : Nat → Option (Nat × Nat × Nat)) (B : Blk) : Obj → Prop
  | map (es : Array MapEntry) (cl : Nat) (h1 : B.mp = true) (h2 : B.live = false) (h3 : Tr.fine 9 B.cells) (h4 : B.n ≤ 200) (h5 : MapAt m B es) : Fits m B (.map es cl)
  | loop (L : LoopT) (r : Loop) (h0 : B.mp = false) (h1 : B.lp = some L) (h2 : B.live = false) (h3 : LoopAt m B L r) : Fits m B (.loop r)
  | defd (h0 : B.mp = false) (h1 : B.lp = none) (h2 : B.live = false) (h3 : B.df = true) : Fits m B (.deferred (some []))
theorem Fits.mono {m m' : Nat → Option (Nat × Nat × Nat)} (s : Sub m m') {B : Blk} {o : Obj} (h : Fits m B o) : Fits m' B o := by
  cases h with
  | map es cl h1 h2 h3 h4 h5 => exact .map es cl h1 h2 h3 h4 (h5.mono s)
  | loop L r h0 h1 h2 h3 => exact .loop L r h0 h1 h2 (h3.mono s)
  | defd h0 h1 h2 h3 => exact .defd h0 h1 h2 h3
def NoCells (o : Obj) : Prop := ∀ c e f, o ≠ .cells c e f
theorem Fits.noCells {m : Nat → Option (Nat × Nat × Nat)} {B : Blk} {o : Obj} (h : Fits m B o) : NoCells o := by
  intro c e f k
  cases h <;> cases k
theorem Fits.dead {m : Nat → Option (Nat × Nat × Nat)} {B : Blk} {o : Obj} (h : Fits m B o) : B.live = false := by cases h <;> assumption
/-- The blocks that are no rows of cells. -/
structure Oth (w0 : World) (m : Nat → Option (Nat × Nat × Nat)) (H : Tr Blk) (w : World) : Prop where
  own : ∀ b B, H.at b = some B → B.own = true → ∃ C R o, m b = some (C, 0, R) ∧ w0.heap.size ≤ C ∧ w.heap[C]? = some o ∧ Fits m B o
  apart : ∀ b b' B B' C k R C' k' R', H.at b = some B → H.at b' = some B' → B.own = true → B'.own = true → b ≠ b' → m b = some (C, k, R) → m b' = some (C', k', R') → C ≠ C'
/-- Where rows of cells alone are turned and no such block is named anew. -/
theorem Oth.keep {w0 : World} {m m' : Nat → Option (Nat × Nat × Nat)} {H H' : Tr Blk} {w w' : World} (o : Oth w0 m H w) (s : Sub m m') (hH : ∀ b B, H'.at b = some B → B.own = true → H.at b = some B)
    (hw : ∀ (C : Nat) (x : Obj), w.heap[C]? = some x → NoCells x → w'.heap[C]? = some x) : Oth w0 m' H' w' := by
  have back : ∀ b B C k R, H'.at b = some B → B.own = true → m' b = some (C, k, R) → m b = some (C, k, R) := fun b B C k R hB ho hm => by
    obtain ⟨C0, R0, x, a1, _⟩ := o.own b B (hH b B hB ho) ho
    rw [s _ _ a1] at hm; rw [a1]; exact hm
  refine ⟨fun b B hB ho => ?_, fun b b' B B' C k R C' k' R' hB hB' ho ho' hne hm hm' => o.apart b b' B B' C k R C' k' R' (hH b B hB ho) (hH b' B' hB' ho') ho ho' hne (back b B C k R hB ho hm) (back b' B' C' k' R' hB' ho' hm')⟩
  obtain ⟨C, R, x, a1, a2, a3, a4⟩ := o.own b B (hH b B hB ho) ho
  exact ⟨C, R, x, s _ _ a1, a2, hw C x a3 a4.noCells, a4.mono s⟩
/-- One such block new, or turned. -/
theorem Oth.upd {w0 : World} {m m' : Nat → Option (Nat × Nat × Nat)} {H H' : Tr Blk} {w w' : World} (o : Oth w0 m H w) (s : Sub m m') {b : Nat} {B : Blk} {C R : Nat} {x : Obj} (hm : m' b = some (C, 0, R)) (hC : w0.heap.size ≤ C)
    (hx : w'.heap[C]? = some x) (hf : Fits m' B x) (hb : ∀ B', H'.at b = some B' → B' = B) (hH : ∀ b' B', b' ≠ b → H'.at b' = some B' → B'.own = true → H.at b' = some B')
    (hw : ∀ (C' : Nat) (x : Obj), C' ≠ C → w.heap[C']? = some x → NoCells x → w'.heap[C']? = some x)
    (hn : ∀ b' B' C' k' R', b' ≠ b → H.at b' = some B' → B'.own = true → m b' = some (C', k', R') → C' ≠ C) : Oth w0 m' H' w' := by
  have back : ∀ b' B' C' k' R', b' ≠ b → H'.at b' = some B' → B'.own = true → m' b' = some (C', k', R') → m b' = some (C', k', R') := fun b' B' C' k' R' hne hB ho hm => by
    obtain ⟨C0, R0, x, a1, _⟩ := o.own b' B' (hH b' B' hne hB ho) ho
    rw [s _ _ a1] at hm; rw [a1]; exact hm
  refine ⟨fun b' B' hB ho => ?_, fun b1 b2 B1 B2 C1 k1 R1 C2 k2 R2 h1 h2 o1 o2 hne m1 m2 => ?_⟩
  · by_cases e : b' = b
    · subst e
      rw [hb B' hB]
      exact ⟨C, R, x, hm, hC, hx, hf⟩
    · obtain ⟨C', R', x', a1, a2, a3, a4⟩ := o.own b' B' (hH b' B' e hB ho) ho
      exact ⟨C', R', x', s _ _ a1, a2, hw C' x' (hn b' B' C' 0 R' e (hH b' B' e hB ho) ho a1) a3 a4.noCells, a4.mono s⟩
  · by_cases e1 : b1 = b
    · subst e1
      have e2 : b2 ≠ b1 := Ne.symm hne
      rw [hm] at m1; cases m1
      exact Ne.symm (hn b2 B2 C2 k2 R2 e2 (hH b2 B2 e2 h2 o2) o2 (back b2 B2 C2 k2 R2 e2 h2 o2 m2))
    · by_cases e2 : b2 = b
      · subst e2
        rw [hm] at m2; cases m2
        exact hn b1 B1 C1 k1 R1 e1 (hH b1 B1 e1 h1 o1) o1 (back b1 B1 C1 k1 R1 e1 h1 o1 m1)
      · exact o.apart b1 b2 B1 B2 C1 k1 R1 C2 k2 R2 (hH b1 B1 e1 h1 o1) (hH b2 B2 e2 h2 o2) o1 o2 hne (back b1 B1 C1 k1 R1 e1 h1 o1 m1) (back b2 B2 C2 k2 R2 e2 h2 o2 m2)

/-- The blocks that the run has made, in a world over w0. -/
structure Rel (w0 : World) (m : Nat → Option (Nat × Nat × Nat)) (H : Tr Blk) (w : World) : Prop where
  bel : Below w0.heap.size w0 w
  fine : Tr.fine deep H
  dom : ∀ b x, m b = some x → b < 2 ^ deep ∧ ∃ B, H.at b = some B
  blk : ∀ b B, H.at b = some B → B.live = true → ∃ C k R c, m b = some (C, k, R) ∧ w0.heap.size ≤ C ∧ w.heap[C]? = some (.cells c B.elem (0, 0)) ∧ Tr.fine 9 B.cells ∧
    (B.n ≤ R ∧ k + R ≤ c.size) ∧ ∀ i v, B.cells.at i = some v → ∃ v', c[k + i]? = some v' ∧ VR m v v' ∧ v.oneCell' = true
  inj : ∀ b b' B B' C k R C' k' R', H.at b = some B → H.at b' = some B' → B.live = true → B'.live = true → b ≠ b' → m b = some (C, k, R) → m b' = some (C', k', R') → C ≠ C'
  oth : Oth w0 m H w
theorem Rel.mps {w0 : World} {m : Nat → Option (Nat × Nat × Nat)} {H : Tr Blk} {w : World} (r : Rel w0 m H w) (b : Nat) (B : Blk) (hB : H.at b = some B) (hp : B.mp = true) :
    B.live = false ∧ Tr.fine 9 B.cells ∧ B.n ≤ 200 ∧ ∃ C R es clock, m b = some (C, 0, R) ∧ w0.heap.size ≤ C ∧ w.heap[C]? = some (.map es clock) ∧ MapAt m B es := by
  obtain ⟨C, R, o, a1, a2, a3, a4⟩ := r.oth.own b B hB (by simp [Blk.own, hp])
  cases a4 with
  | map es cl h1 h2 h3 h4 h5 => exact ⟨h2, h3, h4, C, R, es, cl, a1, a2, a3, h5⟩
  | loop L r h0 h1 h2 h3 => rw [hp] at h0; cases h0
  | defd h0 h1 h2 h3 => rw [hp] at h0; cases h0
theorem own_of_mp {B : Blk} (h : B.mp = true) : B.own = true := by simp [Blk.own, h]

/-- The slots. -/
def RelT (m : Nat → Option (Nat × Nat × Nat)) (T : Tr Value) (tm : Array Value) : Prop := Tr.fine 9 T ∧ ∀ i v, T.at i = some v → ∃ v', tm[i]? = some v' ∧ VR m v v'

theorem RelT.mono {m m' : Nat → Option (Nat × Nat × Nat)} (s : Sub m m') {T : Tr Value} {tm : Array Value} (h : RelT m T tm) : RelT m' T tm :=
  ⟨h.1, fun i v e => let ⟨v', a, b⟩ := h.2 i v e; ⟨v', a, b.mono s⟩⟩
theorem RelT.put {m : Nat → Option (Nat × Nat × Nat)} {T : Tr Value} {tm : Array Value} (h : RelT m T tm) {d : Nat} {v v' : Value} (hd : d < tm.size) (hv : VR m v v') : RelT m (T.putS d v) (tm.setIfInBounds d v') := by
  refine ⟨Tr.putS_fine _ _ h.1, fun i u e => ?_⟩
  rcases Tr.at_putS_some h.1 e with ⟨rfl, rfl⟩ | ⟨hne, e⟩
  · exact ⟨v', by simp [hd], hv⟩
  · obtain ⟨u', a, b⟩ := h.2 i u e
    exact ⟨u', by rw [Array.getElem?_setIfInBounds_ne hne]; exact a, b⟩

end Go.Proofs.Ytmdhmpfagekonaa.Ev
