/- Flow, plain: the steps of arcs with amounts; a round step by step; what Potentials answers. -/
import Derived.Test.YtbcfafihkdddeaaFN3
namespace Go.Proofs.Ytbcfafihkdddeaa
open Go.RowKit
set_option linter.unusedVariables false
set_option linter.unusedSimpArgs false

theorem rnd1_snoc (s : St) : ∀ (L : List St) (p : Nat → Int), rnd1 (L ++ [s]) p = rx (rnd1 L p) s
  | [], p => rfl
  | t :: L, p => rnd1_snoc s L (rx p t)
theorem mvB_snoc (s : St) : ∀ (L : List St) (p : Nat → Int), mvB (L ++ [s]) p = (mvB L p || decide (rnd1 L p s.1 + s.2.2 < rnd1 L p s.2.1))
  | [], p => by
    show (decide (p s.1 + s.2.2 < p s.2.1) || false) = (false || decide (p s.1 + s.2.2 < p s.2.1))
    simp
  | t :: L, p => by
    show (decide (p t.1 + t.2.2 < p t.2.1) || mvB (L ++ [s]) (rx p t)) = (decide (p t.1 + t.2.2 < p t.2.1) || mvB L (rx p t) || _)
    rw [mvB_snoc s L (rx p t), Bool.or_assoc]
    rfl
/-- Steps of a network of n nodes. -/
def StOk (n : Nat) (L : List St) : Prop := ∀ s ∈ L, s.1 < n ∧ s.2.1 < n ∧ -32768 ≤ s.2.2 ∧ s.2.2 ≤ 32768
theorem rnd1_bd {n : Nat} : ∀ {L : List St} {p : Nat → Int} {b : Int}, StOk n L → 0 ≤ b → (∀ v, v < n → -b ≤ p v ∧ p v ≤ 0) → ∀ v, v < n → -(b + L.length * 32768) ≤ rnd1 L p v ∧ rnd1 L p v ≤ 0
  | [], p, b, _, _, h, v, hv => by have := h v hv; simp [rnd1]; omega
  | s :: L, p, b, ok, b0, h, v, hv => by
    obtain ⟨o1, o2, o3, o4⟩ := ok s (List.mem_cons_self ..)
    have := rnd1_bd (L := L) (p := rx p s) (b := b + 32768) (fun t ht => ok t (List.mem_cons_of_mem _ ht)) (by omega) (fun v hv => rx_bd h b0 o1 o2 ⟨o3, o4⟩ v hv) v hv
    simp only [List.length_cons]
    show -(b + ((L.length + 1 : Nat) : Int) * 32768) ≤ rnd1 L (rx p s) v ∧ rnd1 L (rx p s) v ≤ 0
    omega
theorem rds_bd {n : Nat} {L : List St} (ok : StOk n L) (len : L.length ≤ 256) : ∀ (k : Nat) (v : Nat), v < n → -((k : Int) * 8388608) ≤ rds L k v ∧ rds L k v ≤ 0
  | 0, v, _ => by simp [rds]
  | k + 1, v, hv => by
    have := rnd1_bd (L := L) (p := rds L k) (b := (k : Int) * 8388608) ok (by omega) (fun v hv => rds_bd ok len k v hv) v hv
    show _ ≤ rnd1 L (rds L k) v ∧ rnd1 L (rds L k) v ≤ 0
    omega
/-- The numbers in the midst of a round. -/
theorem mid_bd {n : Nat} {L : List St} (ok : StOk n L) (len : L.length ≤ 256) {k i : Nat} (hk : k ≤ 33) : ∀ v, v < n → -300000000 ≤ rnd1 (L.take i) (rds L k) v ∧ rnd1 (L.take i) (rds L k) v ≤ 0 := fun v hv => by
  have h1 := rnd1_bd (L := L.take i) (p := rds L k) (b := (k : Int) * 8388608) (fun s hs => ok s (List.mem_of_mem_take hs)) (by omega) (fun v hv => rds_bd ok len k v hv) v hv
  have : (L.take i).length ≤ 256 := by rw [List.length_take]; omega
  omega
/-- Once nothing moves, nothing moves any more. -/
theorem rds_still {L : List St} {k : Nat} (h : mvB L (rds L k) = false) : ∀ j, rds L (k + j) = rds L k
  | 0 => rfl
  | j + 1 => by
    show rnd1 L (rds L (k + j)) = rds L k
    rw [rds_still h j]
    exact (mvB_still h).1
theorem rds_one {L : List St} {a b : Nat} (h : mvB L (rds L a) = false) (g : mvB L (rds L b) = false) : rds L a = rds L b := by
  rcases Nat.le_total a b with c | c
  · have := rds_still h (b - a)
    rw [show a + (b - a) = b by omega] at this
    exact this.symm
  · have := rds_still g (a - b)
    rwa [show b + (a - b) = a by omega] at this
/-- A step with its arc. -/
structure Sp where
  s : St
  arc : Nat
  on : Bool
def fwd (A : Nat → Ar) (i : Nat) : St := ((A i).fr.toNat, (A i).to'.toNat, (A i).cost)
def bwd (A : Nat → Ar) (i : Nat) : St := ((A i).to'.toNat, (A i).fr.toNat, -(A i).cost)
/-- The steps of the first i arcs. -/
def stps (A : Nat → Ar) (M : Nat → Int) : Nat → List Sp
  | 0 => []
  | i + 1 => (stps A M i ++ if M i < (A i).cap then [⟨fwd A i, i, true⟩] else []) ++ if 0 < M i then [⟨bwd A i, i, false⟩] else []
def stL (A : Nat → Ar) (M : Nat → Int) (i : Nat) : List St := (stps A M i).map Sp.s
theorem stps_len (A : Nat → Ar) (M : Nat → Int) : ∀ i, (stps A M i).length ≤ 2 * i
  | 0 => Nat.le_refl _
  | i + 1 => by
    have := stps_len A M i
    unfold stps
    simp only [List.length_append]
    split <;> split <;> simp <;> omega
theorem stL_ok {n : Nat} {A : Nat → Ar} {M : Nat → Int} : ∀ {i : Nat}, (∀ j, j < i → arOk n (A j)) → StOk n (stL A M i)
  | 0, _ => fun s hs => by simp [stL, stps] at hs
  | i + 1, h => fun s hs => by
    have ih := stL_ok (M := M) (i := i) (fun j hj => h j (by omega))
    obtain ⟨h1, h2, h3, h4, h5, h6, h7, h8, h9⟩ := h i (by omega)
    unfold stL stps at hs
    simp only [List.map_append, List.mem_append] at hs
    rcases hs with (hs | hs) | hs
    · exact ih s hs
    · split at hs
      · simp only [List.map_cons, List.map_nil, List.mem_singleton] at hs
        subst hs
        show (A i).fr.toNat < n ∧ (A i).to'.toNat < n ∧ -32768 ≤ (A i).cost ∧ (A i).cost ≤ 32768
        omega
      · cases hs
    · split at hs
      · simp only [List.map_cons, List.map_nil, List.mem_singleton] at hs
        subst hs
        show (A i).to'.toNat < n ∧ (A i).fr.toNat < n ∧ -32768 ≤ -(A i).cost ∧ -(A i).cost ≤ 32768
        omega
      · cases hs
def spV (s : Sp) : List Value := [.int .i64 (s.s.1 : Int), .int .i64 (s.s.2.1 : Int), .int .i64 s.s.2.2, .int .i64 (s.arc : Int), .bool s.on]
def rowS (l : List Sp) : List Value := l.flatMap spV
theorem rowS_snoc (l : List Sp) (s : Sp) : rowS (l ++ [s]) = rowS l ++ spV s := by simp [rowS]
theorem rowS_at : ∀ {l : List Sp} {i : Nat} (h : i < l.length) (d : Nat), d < 5 → (rowS l)[i * 5 + d]? = (spV l[i])[d]?
  | s :: l, 0, h, d, hd => by
    have : d < (spV s).length := by simpa [spV] using hd
    simp [rowS, List.flatMap_cons, List.getElem?_append_left this]
  | s :: l, i + 1, h, d, hd => by
    have ih := rowS_at (l := l) (i := i) (by simpa using h) d hd
    have e : (rowS (s :: l))[(i + 1) * 5 + d]? = (rowS l)[i * 5 + d]? := by
      unfold rowS
      rw [List.flatMap_cons, List.getElem?_append_right (by simp [spV]; omega)]
      congr 1
      simp [spV]; omega
    rw [e, ih]
    rfl
/-- The steps in memory. -/
def StR (w : World) (p : Option Addr) (l : List Sp) : Prop := ∀ i (h : i < l.length), ∃ x : Addr, p = some x ∧ (x.add (i * 5)).block < w.heap.size ∧ w.cell? (x.add (i * 5)) = some (.int .i64 (l[i].s.1 : Int)) ∧ w.cell? ⟨(x.add (i * 5)).block, (x.add (i * 5)).off + 1, none⟩ = some (.int .i64 (l[i].s.2.1 : Int)) ∧ w.cell? ⟨(x.add (i * 5)).block, (x.add (i * 5)).off + 2, none⟩ = some (.int .i64 l[i].s.2.2)
theorem StR.below {w w' : World} {p : Option Addr} {l : List Sp} (r : StR w p l) (hb : Below w.heap.size w w') : StR w' p l := fun i h => by
  obtain ⟨x, e, k, c0, c1, c2⟩ := r i h
  exact ⟨x, e, Nat.lt_of_lt_of_le k hb.size, (hb.cell k).trans c0, (hb.cell (p := ⟨(x.add (i * 5)).block, (x.add (i * 5)).off + 1, none⟩) k).trans c1, (hb.cell (p := ⟨(x.add (i * 5)).block, (x.add (i * 5)).off + 2, none⟩) k).trans c2⟩
theorem own_steps {w : World} {base : Nat} {E : TypeId} {v : Value} {l : List Sp} (h : w.ownsRow base E 5 v l.length (rowS l)) : ∃ p c, v = .slice p l.length c ∧ StR w p l := by
  rcases h.2 with ⟨rfl, h0⟩ | ⟨g, cap, cur, rfl, hb, hg, _⟩
  · have l0 : l = [] := List.eq_nil_of_length_eq_zero (by omega)
    subst l0
    exact ⟨none, 0, rfl, fun i hi => by simp at hi⟩
  · refine ⟨some ⟨g, 0, none⟩, cap, rfl, fun i hi => ⟨⟨g, 0, none⟩, rfl, ?_, ?_, ?_, ?_⟩⟩
    · rw [add0]; exact (Array.getElem?_eq_some_iff.1 hg).1
    · rw [add0, h.cellAt (i * 5) (by omega)]
      have := rowS_at hi 0 (by omega)
      simpa [spV] using this
    · rw [add0]
      show w.cell? ⟨g, i * 5 + 1, none⟩ = _
      rw [h.cellAt (i * 5 + 1) (by omega), rowS_at hi 1 (by omega)]
      rfl
    · rw [add0]
      show w.cell? ⟨g, i * 5 + 2, none⟩ = _
      rw [h.cellAt (i * 5 + 2) (by omega), rowS_at hi 2 (by omega)]
      rfl
/-- An edge: a step and its room. -/
structure Ed where
  s : St
  left : Int
def eds (A : Nat → Ar) (M : Nat → Int) : Nat → List Ed
  | 0 => []
  | i + 1 => eds A M i ++ [⟨fwd A i, (A i).cap - M i⟩, ⟨bwd A i, M i⟩]
theorem eds_len (A : Nat → Ar) (M : Nat → Int) : ∀ i, (eds A M i).length = 2 * i
  | 0 => rfl
  | i + 1 => by simp [eds, eds_len A M i]; omega
/-- The edges with room. -/
def open' (l : List Ed) : List St := (l.filter fun e => decide (0 < e.left)).map Ed.s
theorem open_snoc (l : List Ed) (e : Ed) : open' (l ++ [e]) = open' l ++ if 0 < e.left then [e.s] else [] := by
  unfold open'
  rw [List.filter_append, List.map_append]
  by_cases h : 0 < e.left <;> simp [List.filter, h]
theorem open_eds (A : Nat → Ar) (M : Nat → Int) : ∀ i, open' (eds A M i) = stL A M i
  | 0 => rfl
  | i + 1 => by
    have ih := open_eds A M i
    have e : eds A M (i + 1) = (eds A M i ++ [⟨fwd A i, (A i).cap - M i⟩]) ++ [⟨bwd A i, M i⟩] := by simp [eds]
    rw [e, open_snoc, open_snoc, ih]
    unfold stL
    simp only [stps, List.map_append]
    have c : (0 < (A i).cap - M i) = (M i < (A i).cap) := by apply propext; omega
    simp only [c]
    split <;> split <;> simp
/-- What Potentials answers. -/
def PoQ (n : Int) (m : Nat) (A : Nat → Ar) (k : Nat) (M : Nat → Int) (w : World) (e : Ending) (w' : World) : Prop := ∃ x v, e = .returned (.tuple #[v, .int .i64 x]) ∧ Below w.heap.size w w' ∧ ((x ≠ 0 ∧ AErr n m A k M x ∧ v = .slice none 0 0) ∨ (AErr n m A k M 0 ∧ x = 13 ∧ v = .slice none 0 0 ∧ ∀ j, j ≤ n.toNat → mvB (stL A M m) (rds (stL A M m) j) = true) ∨ (AErr n m A k M 0 ∧ x = 0 ∧ ∃ b j, v = .slice (some ⟨b, 0, none⟩) n.toNat n.toNat ∧ w.heap.size ≤ b ∧ mvB (stL A M m) (rds (stL A M m) j) = false ∧ IR w' b 3 n.toNat (rds (stL A M m) j) ∧ j ≤ n.toNat))
/-- No step undercuts these numbers. -/
def fine (L : List St) (p : Nat → Int) : Prop := ∀ s ∈ L, ¬ p s.1 + s.2.2 < p s.2.1
/-- What Check answers. -/
def ChQ (n : Int) (m : Nat) (A : Nat → Ar) (k : Nat) (M : Nat → Int) (l : Nat) (P : Nat → Int) (b : Bool) (x : Int) : Prop := (x ≠ 0 ∧ AErr n m A k M x ∧ b = false) ∨ (AErr n m A k M 0 ∧ (l : Int) ≠ n ∧ x = 2 ∧ b = false) ∨ (AErr n m A k M 0 ∧ (l : Int) = n ∧ ¬ (∀ i, i < l → -1125899906842624 ≤ P i ∧ P i ≤ 1125899906842624) ∧ x = 2 ∧ b = false) ∨ (AErr n m A k M 0 ∧ (l : Int) = n ∧ (∀ i, i < l → -1125899906842624 ≤ P i ∧ P i ≤ 1125899906842624) ∧ x = 0 ∧ (b = true ↔ fine (stL A M m) P))
theorem ChQ.det {n : Int} {m : Nat} {A : Nat → Ar} {k : Nat} {M : Nat → Int} {l : Nat} {P : Nat → Int} {b c : Bool} {x y : Int} (h : ChQ n m A k M l P b x) (g : ChQ n m A k M l P c y) : c = b ∧ y = x := by
  rcases h with ⟨h1, h2, h3⟩ | ⟨h1, h2, h3, h4⟩ | ⟨h1, h2, h3, h4, h5⟩ | ⟨h1, h2, h3, h4, h5⟩ <;> rcases g with ⟨g1, g2, g3⟩ | ⟨g1, g2, g3, g4⟩ | ⟨g1, g2, g3, g4, g5⟩ | ⟨g1, g2, g3, g4, g5⟩
  · exact ⟨by rw [h3, g3], AErr.det h2 g2⟩
  · exact absurd (AErr.det h2 g1) (by omega)
  · exact absurd (AErr.det h2 g1) (by omega)
  · exact absurd (AErr.det h2 g1) (by omega)
  · exact absurd (AErr.det h1 g2) (by omega)
  · exact ⟨by rw [h4, g4], by omega⟩
  · exact absurd g2 h2
  · exact absurd g2 h2
  · exact absurd (AErr.det h1 g2) (by omega)
  · exact absurd h2 g2
  · exact ⟨by rw [h5, g5], by omega⟩
  · exact absurd g3 h3
  · exact absurd (AErr.det h1 g2) (by omega)
  · exact absurd h2 g2
  · exact absurd h3 g3
  · refine ⟨?_, by omega⟩
    rw [Bool.eq_iff_iff, h5, g5]
end Go.Proofs.Ytbcfafihkdddeaa
