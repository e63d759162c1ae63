/- TreeDepth: the boxes of its three maps; its walk. -/
import Derived.Test.YtkagdbodjjbinaaK15
import Derived.Test.YtkagdbodjjbinaaK22v
namespace Go.Proofs.Ytkagdbodjjbinaa.Mii
open Go.RowKit
set_option linter.unusedVariables false
set_option linter.unusedSimpArgs false

abbrev TI := Tr Int Value
/-- A map that a box holds: shallow, in order, and no larger than N. -/
structure Good (t : TI) (N : Nat) : Prop where
  avl : t.Avl
  asc : Asc t.rows
  sz : t.sz ≤ N
/-- The three maps in their boxes. -/
structure DB (w : World) (pu pd pw : Option Addr) (tu td tw : TI) (W : World) : Prop where
  c0 : W.cell? ⟨w.heap.size, 0, none⟩ = some (.pointer pu)
  c1 : W.cell? ⟨w.heap.size + 1, 0, none⟩ = some (.pointer pd)
  c2 : W.cell? ⟨w.heap.size + 1 + 1, 0, none⟩ = some (.pointer pw)
  f0 : W.frozen? ⟨w.heap.size, 0, none⟩ = false
  f1 : W.frozen? ⟨w.heap.size + 1, 0, none⟩ = false
  f2 : W.frozen? ⟨w.heap.size + 1 + 1, 0, none⟩ = false
  sz : w.heap.size + 1 + 1 < W.heap.size
  au : At W pu tu
  ad : At W pd td
  aw : At W pw tw
  bel : Below w.heap.size w W
theorem DB.grow {w A B : World} {pu pd pw : Option Addr} {tu td tw : TI} (st : Below A.heap.size A B) (h : DB w pu pd pw tu td tw A) : DB w pu pd pw tu td tw B :=
  ⟨cell_gr st h.c0, cell_gr st h.c1, cell_gr st h.c2, fro_gr st h.c0 h.f0, fro_gr st h.c1 h.f1, fro_gr st h.c2 h.f2, Nat.lt_of_lt_of_le h.sz st.size, h.au.grow st, h.ad.grow st, h.aw.grow st, h.bel.trans (st.mono h.bel.size)⟩
theorem DB.set0 {w A : World} {pu pd pw q : Option Addr} {tu td tw t : TI} (h : DB w pu pd pw tu td tw A) (a : At A q t) : DB w q pd pw t td tw (A.setCell ⟨w.heap.size, 0, none⟩ (.pointer q)) :=
  ⟨World.cell?_setCell_same' _ _ _ (by rw [h.c0]; rfl), cell_st (by dsimp only; omega) h.c1, cell_st (by dsimp only; omega) h.c2, by rw [World.frozen?_setCell]; exact h.f0, by rw [World.frozen?_setCell]; exact h.f1, by rw [World.frozen?_setCell]; exact h.f2, by simpa using h.sz, a.set _ h.c0, h.ad.set _ h.c0, h.aw.set _ h.c0, h.bel.setCell (Nat.le_refl _) _⟩
theorem DB.set1 {w A : World} {pu pd pw q : Option Addr} {tu td tw t : TI} (h : DB w pu pd pw tu td tw A) (a : At A q t) : DB w pu q pw tu t tw (A.setCell ⟨w.heap.size + 1, 0, none⟩ (.pointer q)) :=
  ⟨cell_st (by dsimp only; omega) h.c0, World.cell?_setCell_same' _ _ _ (by rw [h.c1]; rfl), cell_st (by dsimp only; omega) h.c2, by rw [World.frozen?_setCell]; exact h.f0, by rw [World.frozen?_setCell]; exact h.f1, by rw [World.frozen?_setCell]; exact h.f2, by simpa using h.sz, h.au.set _ h.c1, a.set _ h.c1, h.aw.set _ h.c1, h.bel.setCell (by dsimp only; omega) _⟩
theorem DB.set2 {w A : World} {pu pd pw q : Option Addr} {tu td tw t : TI} (h : DB w pu pd pw tu td tw A) (a : At A q t) : DB w pu pd q tu td t (A.setCell ⟨w.heap.size + 1 + 1, 0, none⟩ (.pointer q)) :=
  ⟨cell_st (by dsimp only; omega) h.c0, cell_st (by dsimp only; omega) h.c1, World.cell?_setCell_same' _ _ _ (by rw [h.c2]; rfl), by rw [World.frozen?_setCell]; exact h.f0, by rw [World.frozen?_setCell]; exact h.f1, by rw [World.frozen?_setCell]; exact h.f2, by simpa using h.sz, h.au.set _ h.c2, h.ad.set _ h.c2, a.set _ h.c2, h.bel.setCell (by dsimp only; omega) _⟩
/-- The keys of an ascending build. -/
def UpT (l : List (Int × Value)) (i : Int) : Prop := Asc l ∧ ∀ q, val l q = if 0 ≤ q ∧ q < i then some (.int .i64 q) else none
theorem up_zero : UpT [] 0 := ⟨Asc.nil, fun q => by rw [if_neg (by omega)]; rfl⟩
theorem up_put {l l' : List (Int × Value)} {i : Int} (hi : 0 ≤ i) (h : UpT l i) (p : PutT l l' i (.int .i64 i)) : UpT l' (i + 1) := ⟨p.asc, fun q => by
  rw [p.v, h.2]
  by_cases e : q = i
  · subst e; rw [if_pos rfl, if_pos (by omega)]
  · rw [if_neg e]
    by_cases g : 0 ≤ q ∧ q < i
    · rw [if_pos g, if_pos (by omega)]
    · rw [if_neg g, if_neg (by omega)]⟩
/-- The list of so many numbers, each of them a step. -/
def nums (a b : Int) (n : Nat) : List (Int × Value) := (List.range n).map fun (j : Nat) => (a * (j : Int) + b, .int .i64 (a * (j : Int) + b))
theorem nums_asc {a : Int} (b : Int) (n : Nat) (ha : 0 < a) : Asc (nums a b n) := by
  unfold nums Asc
  rw [List.pairwise_map]
  refine List.Pairwise.imp ?_ List.pairwise_lt_range
  intro x y h
  show a * x + b < a * y + b
  have := Int.mul_lt_mul_of_pos_left (show (x : Int) < y by omega) ha
  omega
theorem nums_val {a b : Int} {n : Nat} (ha : 0 < a) (q : Int) (hq : ∃ j : Nat, j < n ∧ q = a * j + b) : val (nums a b n) q = some (.int .i64 q) := by
  obtain ⟨j, hj, rfl⟩ := hq
  exact val_some (nums_asc b n ha) (x := (a * j + b, .int .i64 (a * j + b))) (List.mem_map.2 ⟨j, List.mem_range.2 hj, rfl⟩)
theorem nums_none {a b : Int} {n : Nat} (q : Int) (hq : ¬ ∃ j : Nat, j < n ∧ q = a * j + b) : val (nums a b n) q = none := by
  rw [val_none]
  intro x hx e
  obtain ⟨j, hj, rfl⟩ := List.mem_map.1 hx
  exact hq ⟨j, List.mem_range.1 hj, e.symm⟩
theorem up_len {l : List (Int × Value)} {i : Int} (hi : 0 ≤ i) (h : UpT l i) : (l.length : Int) = i := by
  have e : l = nums 1 0 i.toNat := asc_ext h.1 (nums_asc 0 _ (by omega)) fun q => by
    rw [h.2]
    by_cases g : 0 ≤ q ∧ q < i
    · rw [if_pos g, nums_val (by omega) q ⟨q.toNat, by omega, by omega⟩]
    · rw [if_neg g, nums_none q (by rintro ⟨j, hj, e⟩; exact g (by omega))]
  rw [e]; simp [nums]; omega
/-- What is left behind the deletion of the even keys below 2k. -/
def OddT (l : List (Int × Value)) (S : Int) (k : Int) : Prop := Asc l ∧ ∀ q, val l q = if 0 ≤ q ∧ q < S ∧ (q % 2 = 1 ∨ 2 * k ≤ q) then some (.int .i64 q) else none
theorem odd_zero {l : List (Int × Value)} {S : Int} (h : UpT l S) : OddT l S 0 := ⟨h.1, fun q => by
  rw [h.2]
  by_cases g : 0 ≤ q ∧ q < S
  · rw [if_pos g, if_pos (by omega)]
  · rw [if_neg g, if_neg (by omega)]⟩
theorem odd_del {l l' : List (Int × Value)} {S k : Int} (h : OddT l S k) (d : DelT l l' (2 * k)) : OddT l' S (k + 1) := ⟨d.asc, fun q => by
  rw [d.v, h.2]
  by_cases e : q = 2 * k
  · rw [if_pos e, if_neg (by omega)]
  · rw [if_neg e]
    by_cases g : 0 ≤ q ∧ q < S ∧ (q % 2 = 1 ∨ 2 * k ≤ q)
    · rw [if_pos g, if_pos (by omega)]
    · rw [if_neg g, if_neg (by omega)]⟩
theorem odd_len {l : List (Int × Value)} {S k : Int} (hS : 0 ≤ S) (hk : S ≤ 2 * k) (h : OddT l S k) : (l.length : Int) = S / 2 := by
  have e : l = nums 2 1 (S / 2).toNat := asc_ext h.1 (nums_asc 1 _ (by omega)) fun q => by
    rw [h.2]
    by_cases g : 0 ≤ q ∧ q < S ∧ (q % 2 = 1 ∨ 2 * k ≤ q)
    · rw [if_pos g, nums_val (by omega) q ⟨(q / 2).toNat, by omega, by omega⟩]
    · rw [if_neg g, nums_none q (by rintro ⟨j, hj, e⟩; exact g (by omega))]
  rw [e]; simp [nums]; omega
end Go.Proofs.Ytkagdbodjjbinaa.Mii
