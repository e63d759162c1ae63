/- Ascending lists of keys with values, and balanced trees: the plain part. -/
namespace Go.Proofs.Ytbphmcjjanchlaa
set_option linter.unusedVariables false
set_option linter.unusedSimpArgs false

section
variable {κ ν : Type}
/-- Trees: a node's key and value, and both sides. -/
inductive Tr (κ ν : Type) where
  | nil
  | node (k : κ) (v : ν) (l r : Tr κ ν)

def Tr.rows : Tr κ ν → List (κ × ν)
  | .nil => []
  | .node k v l r => l.rows ++ (k, v) :: r.rows
def Tr.sz : Tr κ ν → Nat
  | .nil => 0
  | .node _ _ l r => l.sz + 1 + r.sz
def Tr.dep : Tr κ ν → Nat
  | .nil => 0
  | .node _ _ l r => max l.dep r.dep + 1
def Tr.Avl : Tr κ ν → Prop
  | .nil => True
  | .node _ _ l r => l.Avl ∧ r.Avl ∧ l.dep ≤ r.dep + 1 ∧ r.dep ≤ l.dep + 1

theorem Tr.sz_eq : ∀ t : Tr κ ν, t.rows.length = t.sz
  | .nil => rfl
  | .node _ _ l r => by simp [Tr.rows, Tr.sz, l.sz_eq, r.sz_eq]; omega
theorem Tr.dep_le : ∀ t : Tr κ ν, t.dep ≤ t.sz
  | .nil => Nat.le_refl _
  | .node _ _ l r => by have := l.dep_le; have := r.dep_le; simp only [Tr.dep, Tr.sz]; omega
theorem Tr.sz_lt : ∀ t : Tr κ ν, t.sz < 2 ^ t.dep
  | .nil => by simp [Tr.sz, Tr.dep]
  | .node _ _ l r => by
    have a := l.sz_lt; have b := r.sz_lt
    have c : 2 ^ l.dep ≤ 2 ^ max l.dep r.dep := Nat.pow_le_pow_right (by omega) (by omega)
    have d : 2 ^ r.dep ≤ 2 ^ max l.dep r.dep := Nat.pow_le_pow_right (by omega) (by omega)
    simp only [Tr.dep, Tr.sz, Nat.pow_succ]; omega
theorem pow_half {a b : Nat} (h : a ≤ b) : 2 ^ a ≤ 2 ^ b := Nat.pow_le_pow_right (by omega) h
theorem Tr.avl_sz : ∀ t : Tr κ ν, t.Avl → 2 ^ (t.dep / 2) ≤ t.sz + 1 ∧ 2 ^ ((t.dep + 1) / 2) ≤ 2 * t.sz + 1
  | .nil, _ => by simp [Tr.sz, Tr.dep]
  | .node _ _ l r, ⟨hl, hr, h1, h2⟩ => by
    obtain ⟨a, b⟩ := l.avl_sz hl; obtain ⟨c, d⟩ := r.avl_sz hr
    simp only [Tr.dep, Tr.sz]
    have e0 : (max l.dep r.dep + 1 + 1) / 2 = max l.dep r.dep / 2 + 1 := by omega
    rw [e0, Nat.pow_succ]
    rcases Nat.le_total l.dep r.dep with g | g
    · rw [Nat.max_eq_right g]
      have e1 := pow_half (a := (r.dep + 1) / 2) (b := l.dep / 2 + 1) (by omega)
      have e2 : 2 ^ (l.dep / 2 + 1) = 2 * 2 ^ (l.dep / 2) := by rw [Nat.pow_succ]; omega
      have e3 : r.dep / 2 ≤ (l.dep + 1) / 2 := by omega
      have e4 := pow_half e3
      omega
    · rw [Nat.max_eq_left g]
      have e1 := pow_half (a := (l.dep + 1) / 2) (b := r.dep / 2 + 1) (by omega)
      have e2 : 2 ^ (r.dep / 2 + 1) = 2 * 2 ^ (r.dep / 2) := by rw [Nat.pow_succ]; omega
      have e3 : l.dep / 2 ≤ (r.dep + 1) / 2 := by omega
      have e4 := pow_half e3
      omega
/-- The bound on the depth. -/
def most : Nat → Nat → Nat
  | 0, _ => 0
  | f + 1, n => if n = 0 then 0 else 3 + most f (n / 2)
theorem most_ge : ∀ (f n d : Nat), n < 2 ^ f → 2 ^ d ≤ n → 3 * (d + 1) ≤ most f n
  | 0, n, d, h, g => by have : 0 < 2 ^ d := Nat.pow_pos (by omega); simp at h; omega
  | f + 1, n, 0, h, g => by simp [most]; have : n ≠ 0 := by simp at g; omega
                            simp [this]
  | f + 1, n, d + 1, h, g => by
    have : 0 < 2 ^ d := Nat.pow_pos (by omega)
    rw [Nat.pow_succ] at h g
    have hn : n ≠ 0 := by omega
    have := most_ge f (n / 2) d (by omega) (by omega)
    simp only [most, hn, if_false]; omega
theorem depth_most (t : Tr κ ν) (h : t.Avl) (f : Nat) (hf : t.sz < 2 ^ f) : t.dep ≤ most f t.sz := by
  by_cases hz : t.sz = 0
  · have := t.dep_le; omega
  obtain ⟨a, b⟩ := t.avl_sz h
  by_cases h2 : t.dep / 2 = 0
  · have := most_ge f t.sz 0 hf (by simp; omega); omega
  obtain ⟨d, hd⟩ : ∃ d, t.dep / 2 = d + 1 := ⟨t.dep / 2 - 1, by omega⟩
  rw [hd, Nat.pow_succ] at a
  have : 0 < 2 ^ d := Nat.pow_pos (by omega)
  have := most_ge f t.sz d hf (by omega); omega

/-- What a rotation makes. -/
structure LvQ (l : Tr κ ν) (k : κ) (v : ν) (r t : Tr κ ν) : Prop where
  rows : t.rows = l.rows ++ (k, v) :: r.rows
  avl : t.Avl
  lo : max l.dep r.dep ≤ t.dep
  hi : t.dep ≤ max l.dep r.dep + 1
  eq : l.dep ≤ r.dep + 1 → r.dep ≤ l.dep + 1 → t.dep = max l.dep r.dep + 1
theorem lv_tie {l r : Tr κ ν} {k : κ} {v : ν} (al : l.Avl) (ar : r.Avl) (h1 : l.dep ≤ r.dep + 1) (h2 : r.dep ≤ l.dep + 1) : LvQ l k v r (.node k v l r) :=
  ⟨rfl, ⟨al, ar, h1, h2⟩, by simp only [Tr.dep]; omega, by simp only [Tr.dep]; omega, fun _ _ => rfl⟩
theorem lv_l1 {a c d r : Tr κ ν} {k k1 k2 : κ} {v v1 v2 : ν} (al : (Tr.node k1 v1 a (.node k2 v2 c d)).Avl) (ar : r.Avl) (h1 : r.dep + 1 < (Tr.node k1 v1 a (.node k2 v2 c d)).dep) (h2 : (Tr.node k1 v1 a (.node k2 v2 c d)).dep ≤ r.dep + 2) (h3 : a.dep < (Tr.node k2 v2 c d).dep) :
    LvQ (.node k1 v1 a (.node k2 v2 c d)) k v r (.node k2 v2 (.node k1 v1 a c) (.node k v d r)) := by
  simp only [Tr.Avl, Tr.dep] at *
  refine ⟨by simp [Tr.rows], by simp only [Tr.Avl, Tr.dep]; refine ⟨⟨?_, ?_, ?_, ?_⟩, ⟨?_, ?_, ?_, ?_⟩, ?_, ?_⟩ <;> first | exact al.1 | exact al.2.1.1 | exact al.2.1.2.1 | exact ar | omega, by simp only [Tr.dep]; omega, by simp only [Tr.dep]; omega, fun _ _ => by simp only [Tr.dep] at *; omega⟩
theorem lv_l2 {a b r : Tr κ ν} {k k1 : κ} {v v1 : ν} (al : (Tr.node k1 v1 a b).Avl) (ar : r.Avl) (h1 : r.dep + 1 < (Tr.node k1 v1 a b).dep) (h2 : (Tr.node k1 v1 a b).dep ≤ r.dep + 2) (h3 : ¬ a.dep < b.dep) :
    LvQ (.node k1 v1 a b) k v r (.node k1 v1 a (.node k v b r)) := by
  simp only [Tr.Avl, Tr.dep] at *
  refine ⟨by simp [Tr.rows], by simp only [Tr.Avl, Tr.dep]; refine ⟨?_, ⟨?_, ?_, ?_, ?_⟩, ?_, ?_⟩ <;> first | exact al.1 | exact al.2.1 | exact ar | omega, by simp only [Tr.dep]; omega, by simp only [Tr.dep]; omega, fun _ _ => by simp only [Tr.dep] at *; omega⟩
theorem lv_r1 {l c d b : Tr κ ν} {k k1 k2 : κ} {v v1 v2 : ν} (al : l.Avl) (ar : (Tr.node k1 v1 (.node k2 v2 c d) b).Avl) (h1 : l.dep + 1 < (Tr.node k1 v1 (.node k2 v2 c d) b).dep) (h2 : (Tr.node k1 v1 (.node k2 v2 c d) b).dep ≤ l.dep + 2) (h3 : b.dep < (Tr.node k2 v2 c d).dep) :
    LvQ l k v (.node k1 v1 (.node k2 v2 c d) b) (.node k2 v2 (.node k v l c) (.node k1 v1 d b)) := by
  simp only [Tr.Avl, Tr.dep] at *
  refine ⟨by simp [Tr.rows], by simp only [Tr.Avl, Tr.dep]; refine ⟨⟨?_, ?_, ?_, ?_⟩, ⟨?_, ?_, ?_, ?_⟩, ?_, ?_⟩ <;> first | exact ar.2.1 | exact ar.1.1 | exact ar.1.2.1 | exact al | omega, by simp only [Tr.dep]; omega, by simp only [Tr.dep]; omega, fun _ _ => by simp only [Tr.dep] at *; omega⟩
theorem lv_r2 {l a b : Tr κ ν} {k k1 : κ} {v v1 : ν} (al : l.Avl) (ar : (Tr.node k1 v1 a b).Avl) (h1 : l.dep + 1 < (Tr.node k1 v1 a b).dep) (h2 : (Tr.node k1 v1 a b).dep ≤ l.dep + 2) (h3 : ¬ b.dep < a.dep) :
    LvQ l k v (.node k1 v1 a b) (.node k1 v1 (.node k v l a) b) := by
  simp only [Tr.Avl, Tr.dep] at *
  refine ⟨by simp [Tr.rows], by simp only [Tr.Avl, Tr.dep]; refine ⟨⟨?_, ?_, ?_, ?_⟩, ?_, ?_, ?_⟩ <;> first | exact ar.1 | exact ar.2.1 | exact al | omega, by simp only [Tr.dep]; omega, by simp only [Tr.dep]; omega, fun _ _ => by simp only [Tr.dep] at *; omega⟩
/-- What linking makes. -/
structure LkQ (l : Tr κ ν) (k : κ) (v : ν) (r t : Tr κ ν) : Prop where
  rows : t.rows = l.rows ++ (k, v) :: r.rows
  avl : t.Avl
  lo : max l.dep r.dep ≤ t.dep
  hi : t.dep ≤ max l.dep r.dep + 1
theorem LkQ.sz {l r t : Tr κ ν} {k : κ} {v : ν} (h : LkQ l k v r t) : t.sz = l.sz + 1 + r.sz := by
  rw [← t.sz_eq, h.rows, List.length_append, List.length_cons, l.sz_eq, r.sz_eq]; omega
theorem lk_tie {l r : Tr κ ν} {k : κ} {v : ν} (al : l.Avl) (ar : r.Avl) (h1 : l.dep ≤ r.dep + 1) (h2 : r.dep ≤ l.dep + 1) : LkQ l k v r (.node k v l r) :=
  ⟨rfl, ⟨al, ar, h1, h2⟩, by simp only [Tr.dep]; omega, by simp only [Tr.dep]; omega⟩
theorem lk_l {a b r t u : Tr κ ν} {k k1 : κ} {v v1 : ν} (al : (Tr.node k1 v1 a b).Avl) (h1 : r.dep + 1 < (Tr.node k1 v1 a b).dep) (h : LkQ b k v r t) (g : LvQ a k1 v1 t u) : LkQ (.node k1 v1 a b) k v r u := by
  simp only [Tr.Avl, Tr.dep] at *
  have := h.lo; have := h.hi; have := g.lo; have := g.hi; have := g.eq
  refine ⟨by rw [g.rows, h.rows]; simp [Tr.rows], g.avl, ?_, ?_⟩
  · simp only [Tr.dep]
    by_cases c : a.dep ≤ t.dep + 1 ∧ t.dep ≤ a.dep + 1
    · have := g.eq c.1 c.2; omega
    · omega
  · simp only [Tr.dep]; omega
theorem lk_r {l a b t u : Tr κ ν} {k k1 : κ} {v v1 : ν} (ar : (Tr.node k1 v1 a b).Avl) (h1 : l.dep + 1 < (Tr.node k1 v1 a b).dep) (h : LkQ l k v a t) (g : LvQ t k1 v1 b u) : LkQ l k v (.node k1 v1 a b) u := by
  simp only [Tr.Avl, Tr.dep] at *
  have := h.lo; have := h.hi; have := g.lo; have := g.hi; have := g.eq
  refine ⟨by rw [g.rows, h.rows]; simp [Tr.rows], g.avl, ?_, ?_⟩
  · simp only [Tr.dep]
    by_cases c : t.dep ≤ b.dep + 1 ∧ b.dep ≤ t.dep + 1
    · have := g.eq c.1 c.2; omega
    · omega
  · simp only [Tr.dep]; omega
end
/-- What keys are: strictly and totally ordered. -/
class KO (κ : Type) where
  lt : κ → κ → Prop
  irr : ∀ a, ¬ lt a a
  tr : ∀ {a b c}, lt a b → lt b c → lt a c
  tot : ∀ a b, lt a b ∨ a = b ∨ lt b a
  dec : ∀ a b, Decidable (lt a b)
  deq : DecidableEq κ

instance (κ : Type) [KO κ] (a b : κ) : Decidable (KO.lt a b) := KO.dec a b
instance (κ : Type) [KO κ] : DecidableEq κ := KO.deq
instance : KO Int := ⟨fun a b => a < b, fun a => Int.lt_irrefl a, fun h g => Int.lt_trans h g, fun a b => by omega, fun a b => inferInstance, inferInstance⟩

variable {κ ν : Type} [KO κ]
theorem KO.asym {a b : κ} (h : KO.lt a b) : ¬ KO.lt b a := fun g => KO.irr a (KO.tr h g)
theorem KO.ne {a b : κ} (h : KO.lt a b) : a ≠ b := fun e => by subst e; exact KO.irr _ h

/-- Strictly ascending keys. -/
def Asc (l : List (κ × ν)) : Prop := l.Pairwise fun a b => KO.lt a.1 b.1
/-- The value of a key. -/
def val (l : List (κ × ν)) (k : κ) : Option ν := (l.find? fun x => decide (x.1 = k)).map (·.2)

theorem val_nil (k : κ) : val ([] : List (κ × ν)) k = none := rfl
theorem val_cons (x : κ × ν) (l : List (κ × ν)) (k : κ) : val (x :: l) k = if x.1 = k then some x.2 else val l k := by
  unfold val; rw [List.find?_cons]; by_cases h : x.1 = k <;> simp [h]
theorem val_append (l m : List (κ × ν)) (k : κ) : val (l ++ m) k = (val l k).or (val m k) := by
  induction l with
  | nil => simp [val_nil]
  | cons x l ih => rw [List.cons_append, val_cons, val_cons, ih]; by_cases h : x.1 = k <;> simp [h]
theorem val_none {l : List (κ × ν)} {k : κ} : val l k = none ↔ ∀ x ∈ l, x.1 ≠ k := by
  induction l with
  | nil => simp [val_nil]
  | cons x l ih => rw [val_cons]; by_cases h : x.1 = k <;> simp [h, ih]
theorem val_mem {l : List (κ × ν)} {k : κ} {v : ν} (h : val l k = some v) : (k, v) ∈ l := by
  induction l with
  | nil => simp [val_nil] at h
  | cons x l ih =>
    rw [val_cons] at h
    by_cases e : x.1 = k
    · simp [e] at h; subst h; subst e; exact List.mem_cons_self
    · rw [if_neg e] at h; exact List.mem_cons_of_mem _ (ih h)
theorem val_some {l : List (κ × ν)} (h : Asc l) {x : κ × ν} (hx : x ∈ l) : val l x.1 = some x.2 := by
  induction l with
  | nil => cases hx
  | cons y l ih =>
    have h' := List.pairwise_cons.1 h
    rw [val_cons]
    rcases List.mem_cons.1 hx with rfl | hx
    · simp
    · rw [if_neg (KO.ne (h'.1 x hx))]; exact ih h'.2 hx

theorem Asc.nil : Asc ([] : List (κ × ν)) := List.Pairwise.nil
theorem asc_append {l m : List (κ × ν)} : Asc (l ++ m) ↔ Asc l ∧ Asc m ∧ ∀ a ∈ l, ∀ b ∈ m, KO.lt a.1 b.1 := List.pairwise_append
theorem asc_cons {x : κ × ν} {m : List (κ × ν)} : Asc (x :: m) ↔ (∀ b ∈ m, KO.lt x.1 b.1) ∧ Asc m := List.pairwise_cons
theorem asc_mid {l m : List (κ × ν)} {x : κ × ν} : Asc (l ++ x :: m) ↔ Asc l ∧ Asc m ∧ (∀ a ∈ l, KO.lt a.1 x.1) ∧ (∀ b ∈ m, KO.lt x.1 b.1) := by
  rw [asc_append, asc_cons]
  constructor
  · rintro ⟨a, ⟨b, c⟩, d⟩; exact ⟨a, c, fun y hy => d y hy x List.mem_cons_self, b⟩
  · rintro ⟨a, c, d, b⟩
    refine ⟨a, ⟨b, c⟩, fun y hy z hz => ?_⟩
    rcases List.mem_cons.1 hz with rfl | hz
    · exact d y hy
    · exact KO.tr (d y hy) (b z hz)

/-- Two ascending lists with the same values are one. -/
theorem asc_ext : ∀ {l m : List (κ × ν)}, Asc l → Asc m → (∀ k, val l k = val m k) → l = m
  | [], [], _, _, _ => rfl
  | [], y :: m, _, _, h => by have := h y.1; simp [val_nil, val_cons] at this
  | x :: l, [], _, _, h => by have := h x.1; simp [val_nil, val_cons] at this
  | x :: l, y :: m, hl, hm, h => by
    have hl' := asc_cons.1 hl; have hm' := asc_cons.1 hm
    have ek : x.1 = y.1 := by
      rcases KO.tot x.1 y.1 with c | c | c
      · have := h x.1
        rw [val_cons, if_pos rfl, val_cons, if_neg (KO.ne c).symm] at this
        have := val_mem this.symm
        exact absurd (hm'.1 _ this) (KO.asym c)
      · exact c
      · have := h y.1
        rw [val_cons (x := y), if_pos rfl, val_cons, if_neg (KO.ne c).symm] at this
        have := val_mem this
        exact absurd (hl'.1 _ this) (KO.asym c)
    have ev : x.2 = y.2 := by have := h x.1; rw [val_cons, val_cons, if_pos rfl, if_pos ek.symm] at this; simpa using this
    have : l = m := asc_ext hl'.2 hm'.2 fun k => by
      have := h k
      rw [val_cons, val_cons] at this
      by_cases e : x.1 = k
      · have e' : y.1 = k := ek ▸ e
        have a : val l k = none := val_none.2 fun z hz => (KO.ne (e ▸ hl'.1 z hz)).symm
        have b : val m k = none := val_none.2 fun z hz => (KO.ne (e' ▸ hm'.1 z hz)).symm
        rw [a, b]
      · rw [if_neg e, if_neg (ek ▸ e)] at this; exact this
    rw [this]; congr 1; exact Prod.ext ek ev

theorem val_in {l : List (κ × ν)} {k : κ} : val l k ≠ none ↔ ∃ x ∈ l, x.1 = k := by
  rw [Ne, val_none]
  constructor
  · intro h
    apply Classical.byContradiction
    intro g; exact h fun x hx e => g ⟨x, hx, e⟩
  · rintro ⟨x, hx, e⟩ h; exact h x hx e
/-- All keys are below, above k. -/
def Dn (l : List (κ × ν)) (k : κ) : Prop := ∀ q, val l q ≠ none → KO.lt q k
def Up (l : List (κ × ν)) (k : κ) : Prop := ∀ q, val l q ≠ none → KO.lt k q
theorem dn_iff {l : List (κ × ν)} {k : κ} : Dn l k ↔ ∀ a ∈ l, KO.lt a.1 k :=
  ⟨fun h a ha => h _ (val_in.2 ⟨a, ha, rfl⟩), fun h q hq => by obtain ⟨x, hx, rfl⟩ := val_in.1 hq; exact h x hx⟩
theorem up_iff {l : List (κ × ν)} {k : κ} : Up l k ↔ ∀ a ∈ l, KO.lt k a.1 :=
  ⟨fun h a ha => h _ (val_in.2 ⟨a, ha, rfl⟩), fun h q hq => by obtain ⟨x, hx, rfl⟩ := val_in.1 hq; exact h x hx⟩
theorem asc_node {l m : List (κ × ν)} {x : κ × ν} : Asc (l ++ x :: m) ↔ Asc l ∧ Asc m ∧ Dn l x.1 ∧ Up m x.1 := by
  rw [asc_mid, dn_iff, up_iff]
theorem Dn.none {l : List (κ × ν)} {k q : κ} (h : Dn l k) (g : ¬ KO.lt q k) : val l q = none := by
  apply Classical.byContradiction; intro e; exact g (h q e)
theorem Up.none {l : List (κ × ν)} {k q : κ} (h : Up l k) (g : ¬ KO.lt k q) : val l q = none := by
  apply Classical.byContradiction; intro e; exact g (h q e)
theorem val_node (l m : List (κ × ν)) (x : κ × ν) (q : κ) : val (l ++ x :: m) q = (val l q).or (if x.1 = q then some x.2 else val m q) := by rw [val_append, val_cons]
theorem val_lt {l m : List (κ × ν)} {x : κ × ν} (h : Asc (l ++ x :: m)) {q : κ} (g : KO.lt q x.1) : val (l ++ x :: m) q = val l q := by
  have h := asc_node.1 h
  rw [val_node, if_neg (KO.ne g).symm, h.2.2.2.none (KO.asym g)]; simp
theorem val_gt {l m : List (κ × ν)} {x : κ × ν} (h : Asc (l ++ x :: m)) {q : κ} (g : KO.lt x.1 q) : val (l ++ x :: m) q = val m q := by
  have h := asc_node.1 h
  rw [val_node, if_neg (KO.ne g), h.2.2.1.none (KO.asym g)]; simp
theorem val_at {l m : List (κ × ν)} {x : κ × ν} (h : Asc (l ++ x :: m)) : val (l ++ x :: m) x.1 = some x.2 := by
  have h := asc_node.1 h
  rw [val_node, if_pos rfl, h.2.2.1.none (KO.irr _)]; rfl

/-- What the operations make, told by the values. -/
structure PutT (t t' : List (κ × ν)) (k : κ) (v : ν) : Prop where
  asc : Asc t'
  v : ∀ q, val t' q = if q = k then some v else val t q
structure DelT (t t' : List (κ × ν)) (k : κ) : Prop where
  asc : Asc t'
  v : ∀ q, val t' q = if q = k then none else val t q

theorem put_nil (k : κ) (v : ν) : PutT [] [(k, v)] k v :=
  ⟨List.pairwise_singleton _ _, fun q => by rw [val_cons, val_nil]; by_cases h : k = q <;> simp [h, eq_comm]⟩
theorem put_lt {l m l' : List (κ × ν)} {x : κ × ν} {k : κ} {v : ν} (h : Asc (l ++ x :: m)) (g : KO.lt k x.1) (p : PutT l l' k v) : PutT (l ++ x :: m) (l' ++ x :: m) k v := by
  obtain ⟨a, b, c, d⟩ := asc_node.1 h
  refine ⟨asc_node.2 ⟨p.asc, b, fun q hq => ?_, d⟩, fun q => ?_⟩
  · rw [p.v] at hq; by_cases e : q = k
    · exact e ▸ g
    · rw [if_neg e] at hq; exact c q hq
  · rw [val_node, val_node, p.v]; by_cases e : q = k
    · simp [e]
    · simp [e]
theorem put_gt {l m m' : List (κ × ν)} {x : κ × ν} {k : κ} {v : ν} (h : Asc (l ++ x :: m)) (g : KO.lt x.1 k) (p : PutT m m' k v) : PutT (l ++ x :: m) (l ++ x :: m') k v := by
  obtain ⟨a, b, c, d⟩ := asc_node.1 h
  refine ⟨asc_node.2 ⟨a, p.asc, c, fun q hq => ?_⟩, fun q => ?_⟩
  · rw [p.v] at hq; by_cases e : q = k
    · exact e ▸ g
    · rw [if_neg e] at hq; exact d q hq
  · rw [val_node, val_node, p.v]; by_cases e : q = k
    · subst e; rw [c.none (KO.asym g)]; simp [KO.ne g]
    · simp [e]
theorem put_eq {l m : List (κ × ν)} {k : κ} {u v : ν} (h : Asc (l ++ (k, u) :: m)) : PutT (l ++ (k, u) :: m) (l ++ (k, v) :: m) k v := by
  obtain ⟨a, b, c, d⟩ := asc_node.1 h
  refine ⟨asc_node.2 ⟨a, b, c, d⟩, fun q => ?_⟩
  rw [val_node, val_node]
  by_cases e : q = k
  · subst e; rw [c.none (KO.irr _)]; simp
  · simp [e, Ne.symm e]
theorem del_lt {l m l' : List (κ × ν)} {x : κ × ν} {k : κ} (h : Asc (l ++ x :: m)) (g : KO.lt k x.1) (p : DelT l l' k) : DelT (l ++ x :: m) (l' ++ x :: m) k := by
  obtain ⟨a, b, c, d⟩ := asc_node.1 h
  refine ⟨asc_node.2 ⟨p.asc, b, fun q hq => ?_, d⟩, fun q => ?_⟩
  · rw [p.v] at hq; by_cases e : q = k
    · exact e ▸ g
    · rw [if_neg e] at hq; exact c q hq
  · rw [val_node, val_node, p.v]; by_cases e : q = k
    · subst e; rw [d.none (KO.asym g)]; simp [(KO.ne g).symm]
    · simp [e]
theorem del_gt {l m m' : List (κ × ν)} {x : κ × ν} {k : κ} (h : Asc (l ++ x :: m)) (g : KO.lt x.1 k) (p : DelT m m' k) : DelT (l ++ x :: m) (l ++ x :: m') k := by
  obtain ⟨a, b, c, d⟩ := asc_node.1 h
  refine ⟨asc_node.2 ⟨a, p.asc, c, fun q hq => ?_⟩, fun q => ?_⟩
  · rw [p.v] at hq; by_cases e : q = k
    · exact e ▸ g
    · rw [if_neg e] at hq; exact d q hq
  · rw [val_node, val_node, p.v]; by_cases e : q = k
    · subst e; rw [c.none (KO.asym g)]; simp [KO.ne g]
    · simp [e]
theorem del_eq {l m : List (κ × ν)} {k : κ} {u : ν} (h : Asc (l ++ (k, u) :: m)) : DelT (l ++ (k, u) :: m) (l ++ m) k := by
  obtain ⟨a, b, c, d⟩ := asc_node.1 h
  refine ⟨asc_append.2 ⟨a, b, fun y hy z hz => KO.tr (dn_iff.1 c y hy) (up_iff.1 d z hz)⟩, fun q => ?_⟩
  rw [val_append, val_node]
  by_cases e : q = k
  · subst e; rw [c.none (KO.irr _), d.none (KO.irr _)]; simp
  · simp [e, Ne.symm e]
theorem del_same {l : List (κ × ν)} {k : κ} (h : Asc l) (g : val l k = none) : DelT l l k :=
  ⟨h, fun q => by by_cases e : q = k <;> simp [e, g]⟩

/-- What is below k, and above it. -/
structure LoT (t t' : List (κ × ν)) (k : κ) : Prop where
  asc : Asc t'
  v : ∀ q, val t' q = if KO.lt q k then val t q else none
structure HiT (t t' : List (κ × ν)) (k : κ) : Prop where
  asc : Asc t'
  v : ∀ q, val t' q = if KO.lt k q then val t q else none
theorem lo_nil (k : κ) : LoT ([] : List (κ × ν)) [] k := ⟨Asc.nil, fun q => by simp [val_nil]⟩
theorem hi_nil (k : κ) : HiT ([] : List (κ × ν)) [] k := ⟨Asc.nil, fun q => by simp [val_nil]⟩
theorem LoT.dn {t t' : List (κ × ν)} {k : κ} (h : LoT t t' k) : Dn t' k := fun q hq => by
  rw [h.v] at hq; apply Classical.byContradiction; intro e; rw [if_neg e] at hq; exact hq rfl
theorem HiT.up {t t' : List (κ × ν)} {k : κ} (h : HiT t t' k) : Up t' k := fun q hq => by
  rw [h.v] at hq; apply Classical.byContradiction; intro e; rw [if_neg e] at hq; exact hq rfl
theorem lo_lt {l m l' : List (κ × ν)} {x : κ × ν} {k : κ} (h : Asc (l ++ x :: m)) (g : KO.lt k x.1) (p : LoT l l' k) : LoT (l ++ x :: m) l' k := by
  refine ⟨p.asc, fun q => ?_⟩
  rw [p.v]; by_cases e : KO.lt q k
  · rw [if_pos e, if_pos e, val_lt h (KO.tr e g)]
  · rw [if_neg e, if_neg e]
theorem hi_lt {l m l' : List (κ × ν)} {x : κ × ν} {k : κ} (h : Asc (l ++ x :: m)) (g : KO.lt k x.1) (p : HiT l l' k) : HiT (l ++ x :: m) (l' ++ x :: m) k := by
  obtain ⟨a, b, c, d⟩ := asc_node.1 h
  refine ⟨asc_node.2 ⟨p.asc, b, fun q hq => ?_, d⟩, fun q => ?_⟩
  · rw [p.v] at hq; by_cases e : KO.lt k q
    · rw [if_pos e] at hq; exact c q hq
    · rw [if_neg e] at hq; exact absurd rfl hq
  · rw [val_node, val_node, p.v]; by_cases e : KO.lt k q
    · simp [e]
    · have e1 : x.1 ≠ q := fun e2 => e (e2 ▸ g)
      have e2 : ¬ KO.lt x.1 q := fun e3 => e (KO.tr g e3)
      simp [e, e1, d.none e2]
theorem hi_gt {l m m' : List (κ × ν)} {x : κ × ν} {k : κ} (h : Asc (l ++ x :: m)) (g : KO.lt x.1 k) (p : HiT m m' k) : HiT (l ++ x :: m) m' k := by
  refine ⟨p.asc, fun q => ?_⟩
  rw [p.v]; by_cases e : KO.lt k q
  · rw [if_pos e, if_pos e, val_gt h (KO.tr g e)]
  · rw [if_neg e, if_neg e]
theorem lo_gt {l m m' : List (κ × ν)} {x : κ × ν} {k : κ} (h : Asc (l ++ x :: m)) (g : KO.lt x.1 k) (p : LoT m m' k) : LoT (l ++ x :: m) (l ++ x :: m') k := by
  obtain ⟨a, b, c, d⟩ := asc_node.1 h
  refine ⟨asc_node.2 ⟨a, p.asc, c, fun q hq => ?_⟩, fun q => ?_⟩
  · rw [p.v] at hq; by_cases e : KO.lt q k
    · rw [if_pos e] at hq; exact d q hq
    · rw [if_neg e] at hq; exact absurd rfl hq
  · rw [val_node, val_node, p.v]; by_cases e : KO.lt q k
    · simp [e]
    · have e1 : x.1 ≠ q := fun e2 => e (e2 ▸ g)
      have e2 : ¬ KO.lt q x.1 := fun e3 => e (KO.tr e3 g)
      simp [e, e1, c.none e2]
theorem lo_eq {l m : List (κ × ν)} {k : κ} {u : ν} (h : Asc (l ++ (k, u) :: m)) : LoT (l ++ (k, u) :: m) l k := by
  obtain ⟨a, b, c, d⟩ := asc_node.1 h
  refine ⟨a, fun q => ?_⟩
  by_cases e : KO.lt q k
  · rw [if_pos e, val_lt h e]
  · rw [if_neg e, c.none e]
theorem hi_eq {l m : List (κ × ν)} {k : κ} {u : ν} (h : Asc (l ++ (k, u) :: m)) : HiT (l ++ (k, u) :: m) m k := by
  obtain ⟨a, b, c, d⟩ := asc_node.1 h
  refine ⟨b, fun q => ?_⟩
  by_cases e : KO.lt k q
  · rw [if_pos e, val_gt h e]
  · rw [if_neg e, d.none e]
structure UniT (a b t : List (κ × ν)) : Prop where
  asc : Asc t
  v : ∀ q, val t q = (val b q).or (val a q)
structure IntT (a b t : List (κ × ν)) : Prop where
  asc : Asc t
  v : ∀ q, val t q = if val a q = none then none else val b q
structure SubT (a b t : List (κ × ν)) : Prop where
  asc : Asc t
  v : ∀ q, val t q = if val b q = none then val a q else none
structure RngT (a t : List (κ × ν)) (x y : κ) : Prop where
  asc : Asc t
  v : ∀ q, val t q = if ¬ KO.lt q x ∧ KO.lt q y then val a q else none

theorem uni_nil1 {b : List (κ × ν)} (h : Asc b) : UniT [] b b := ⟨h, fun q => by simp [val_nil]⟩
theorem uni_nil2 {a : List (κ × ν)} (h : Asc a) : UniT a [] a := ⟨h, fun q => by simp [val_nil]⟩
theorem asc_dn_up {l m : List (κ × ν)} {k : κ} (a : Asc l) (b : Asc m) (c : Dn l k) (d : Up m k) : Asc (l ++ m) :=
  asc_append.2 ⟨a, b, fun y hy z hz => KO.tr (dn_iff.1 c y hy) (up_iff.1 d z hz)⟩
theorem uni_node {a l m a1 a2 u1 u2 : List (κ × ν)} {x : κ × ν} (h : Asc (l ++ x :: m)) (p1 : LoT a a1 x.1) (p2 : HiT a a2 x.1) (q1 : UniT a1 l u1) (q2 : UniT a2 m u2) : UniT a (l ++ x :: m) (u1 ++ x :: u2) := by
  obtain ⟨_, _, c, d⟩ := asc_node.1 h
  have e1 : Dn u1 x.1 := fun q hq => by
    rw [q1.v, p1.v] at hq
    apply Classical.byContradiction; intro g
    rw [if_neg g, c.none g] at hq; exact hq rfl
  have e2 : Up u2 x.1 := fun q hq => by
    rw [q2.v, p2.v] at hq
    apply Classical.byContradiction; intro g
    rw [if_neg g, d.none g] at hq; exact hq rfl
  refine ⟨asc_node.2 ⟨q1.asc, q2.asc, e1, e2⟩, fun q => ?_⟩
  rw [val_node, val_node]
  rcases KO.tot q x.1 with g | g | g
  · rw [if_neg (KO.ne g).symm, if_neg (KO.ne g).symm, e2.none (KO.asym g), d.none (KO.asym g), q1.v, p1.v, if_pos g]; simp
  · rw [if_pos g.symm, if_pos g.symm, e1.none (g ▸ KO.irr _), c.none (g ▸ KO.irr _)]; simp
  · rw [if_neg (KO.ne g), if_neg (KO.ne g), e1.none (KO.asym g), c.none (KO.asym g), q2.v, p2.v, if_pos g]; simp
theorem int_nil1 {b : List (κ × ν)} : IntT [] b [] := ⟨Asc.nil, fun q => by simp [val_nil]⟩
theorem int_nil2 {a : List (κ × ν)} : IntT a [] [] := ⟨Asc.nil, fun q => by simp [val_nil]⟩
theorem int_dn {a l a1 u1 : List (κ × ν)} {k : κ} (c : Dn l k) (q1 : IntT a1 l u1) : Dn u1 k := fun q hq => c q (by
  intro e; rw [q1.v, e] at hq; by_cases g : val a1 q = none <;> simp [g] at hq)
theorem int_up {a l a1 u1 : List (κ × ν)} {k : κ} (c : Up l k) (q1 : IntT a1 l u1) : Up u1 k := fun q hq => c q (by
  intro e; rw [q1.v, e] at hq; by_cases g : val a1 q = none <;> simp [g] at hq)
theorem int_some {a l m a1 a2 u1 u2 : List (κ × ν)} {x : κ × ν} (h : Asc (l ++ x :: m)) (p1 : LoT a a1 x.1) (p2 : HiT a a2 x.1) (q1 : IntT a1 l u1) (q2 : IntT a2 m u2) (f : val a x.1 ≠ none) : IntT a (l ++ x :: m) (u1 ++ x :: u2) := by
  obtain ⟨_, _, c, d⟩ := asc_node.1 h
  have e1 := int_dn (a := a) c q1
  have e2 := int_up (a := a) d q2
  refine ⟨asc_node.2 ⟨q1.asc, q2.asc, e1, e2⟩, fun q => ?_⟩
  rw [val_node, val_node]
  rcases KO.tot q x.1 with g | g | g
  · rw [if_neg (KO.ne g).symm, if_neg (KO.ne g).symm, e2.none (KO.asym g), d.none (KO.asym g), q1.v, p1.v, if_pos g]; simp
  · rw [if_pos g.symm, if_pos g.symm, e1.none (g ▸ KO.irr _), c.none (g ▸ KO.irr _)]; subst g; simp [f]
  · rw [if_neg (KO.ne g), if_neg (KO.ne g), e1.none (KO.asym g), c.none (KO.asym g), q2.v, p2.v, if_pos g]; simp
theorem int_none {a l m a1 a2 u1 u2 : List (κ × ν)} {x : κ × ν} (h : Asc (l ++ x :: m)) (p1 : LoT a a1 x.1) (p2 : HiT a a2 x.1) (q1 : IntT a1 l u1) (q2 : IntT a2 m u2) (f : val a x.1 = none) : IntT a (l ++ x :: m) (u1 ++ u2) := by
  obtain ⟨_, _, c, d⟩ := asc_node.1 h
  have e1 := int_dn (a := a) c q1
  have e2 := int_up (a := a) d q2
  refine ⟨asc_dn_up q1.asc q2.asc e1 e2, fun q => ?_⟩
  rw [val_append, val_node]
  rcases KO.tot q x.1 with g | g | g
  · rw [if_neg (KO.ne g).symm, e2.none (KO.asym g), d.none (KO.asym g), q1.v, p1.v, if_pos g]; simp
  · rw [if_pos g.symm, e1.none (g ▸ KO.irr _), c.none (g ▸ KO.irr _), e2.none (g ▸ KO.irr _)]; subst g; simp [f]
  · rw [if_neg (KO.ne g), e1.none (KO.asym g), c.none (KO.asym g), q2.v, p2.v, if_pos g]; simp
theorem sub_nil1 {b : List (κ × ν)} : SubT [] b [] := ⟨Asc.nil, fun q => by simp [val_nil]⟩
theorem sub_nil2 {a : List (κ × ν)} (h : Asc a) : SubT a [] a := ⟨h, fun q => by simp [val_nil]⟩
theorem sub_dn {l a1 u1 : List (κ × ν)} {k : κ} (c : Dn a1 k) (q1 : SubT a1 l u1) : Dn u1 k := fun q hq => c q (by
  intro e; rw [q1.v, e] at hq; by_cases g : val l q = none <;> simp [g] at hq)
theorem sub_up {l a1 u1 : List (κ × ν)} {k : κ} (c : Up a1 k) (q1 : SubT a1 l u1) : Up u1 k := fun q hq => c q (by
  intro e; rw [q1.v, e] at hq; by_cases g : val l q = none <;> simp [g] at hq)
theorem sub_node {a l m a1 a2 u1 u2 : List (κ × ν)} {x : κ × ν} (h : Asc (l ++ x :: m)) (p1 : LoT a a1 x.1) (p2 : HiT a a2 x.1) (q1 : SubT a1 l u1) (q2 : SubT a2 m u2) : SubT a (l ++ x :: m) (u1 ++ u2) := by
  obtain ⟨_, _, c, d⟩ := asc_node.1 h
  have e1 := sub_dn p1.dn q1
  have e2 := sub_up p2.up q2
  refine ⟨asc_dn_up q1.asc q2.asc e1 e2, fun q => ?_⟩
  rw [val_append, val_node]
  rcases KO.tot q x.1 with g | g | g
  · rw [if_neg (KO.ne g).symm, e2.none (KO.asym g), d.none (KO.asym g), q1.v, p1.v, if_pos g]; simp
  · rw [if_pos g.symm, e1.none (g ▸ KO.irr _), c.none (g ▸ KO.irr _), e2.none (g ▸ KO.irr _)]; simp
  · rw [if_neg (KO.ne g), e1.none (KO.asym g), c.none (KO.asym g), q2.v, p2.v, if_pos g]; by_cases g2 : val m q = none <;> simp [g2]
theorem rng_none {a h t : List (κ × ν)} {x y : κ} (p : HiT a h x) (f : val a x = none) (q : LoT h t y) : RngT a t x y := by
  refine ⟨q.asc, fun k => ?_⟩
  rw [q.v, p.v]
  by_cases e : KO.lt k y
  · rcases KO.tot k x with g | g | g
    · simp [e, g, KO.asym g]
    · subst g; simp [e, KO.irr, f]
    · simp [e, g, KO.asym g]
  · simp [e]
theorem rng_some {a h h' t : List (κ × ν)} {x y : κ} {v : ν} (p : HiT a h x) (f : val a x = some v) (r : PutT h h' x v) (q : LoT h' t y) : RngT a t x y := by
  refine ⟨q.asc, fun k => ?_⟩
  rw [q.v, r.v, p.v]
  by_cases e : KO.lt k y
  · rcases KO.tot k x with g | g | g
    · simp [e, g, KO.asym g, KO.ne g]
    · subst g; simp [e, KO.irr, f]
    · simp [e, g, KO.asym g, (KO.ne g).symm]
  · simp [e]

/-- How many keys are less. -/
def rnk (l : List (κ × ν)) (k : κ) : Nat := l.countP fun x => decide (KO.lt x.1 k)
theorem rnk_le (l : List (κ × ν)) (k : κ) : rnk l k ≤ l.length := List.countP_le_length
theorem rnk_node (l m : List (κ × ν)) (x : κ × ν) (k : κ) : rnk (l ++ x :: m) k = rnk l k + (if KO.lt x.1 k then 1 else 0) + rnk m k := by
  unfold rnk; rw [List.countP_append, List.countP_cons]; by_cases h : KO.lt x.1 k <;> simp [h]; omega
theorem rnk_dn {l : List (κ × ν)} {k q : κ} (h : Dn l k) (g : ¬ KO.lt q k) : rnk l q = l.length := by
  unfold rnk; rw [List.countP_eq_length]
  intro x hx
  have a := dn_iff.1 h x hx
  rcases KO.tot q k with c | c | c
  · exact absurd c g
  · subst c; simpa using a
  · simpa using KO.tr a c
theorem rnk_up {l : List (κ × ν)} {k q : κ} (h : Up l k) (g : ¬ KO.lt k q) : rnk l q = 0 := by
  unfold rnk; rw [List.countP_eq_zero]
  intro x hx
  have a := up_iff.1 h x hx
  simp only [decide_eq_true_eq]
  intro c
  exact g (KO.tr a c)
theorem rnk_lt {l m : List (κ × ν)} {x : κ × ν} {k : κ} (h : Asc (l ++ x :: m)) (g : KO.lt x.1 k) : rnk (l ++ x :: m) k = l.length + 1 + rnk m k := by
  rw [rnk_node, if_pos g, rnk_dn (asc_node.1 h).2.2.1 (KO.asym g)]
theorem rnk_ge {l m : List (κ × ν)} {x : κ × ν} {k : κ} (h : Asc (l ++ x :: m)) (g : ¬ KO.lt x.1 k) : rnk (l ++ x :: m) k = rnk l k := by
  rw [rnk_node, if_neg g, rnk_up (asc_node.1 h).2.2.2 g]; omega

end Go.Proofs.Ytbphmcjjanchlaa
