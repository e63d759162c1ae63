/- Flow: a network in memory. -/
import Derived.Test.YtbcfafihkdddeaaFN8
namespace Go.Proofs.Ytbcfafihkdddeaa
open Go.RowKit
set_option linter.unusedVariables false
set_option linter.unusedSimpArgs false

theorem own_blk {w w' : World} {base : Nat} {e : TypeId} {s : Nat} {v : Value} {n : Nat} {xs : List Value} (h : w.ownsRow base e s v n xs) (k : ∀ q, v.ownBlock = some q → w'.heap[q]? = w.heap[q]?) : w'.ownsRow base e s v n xs := by
  refine ⟨h.1, ?_⟩
  rcases h.2 with h0 | ⟨g, cap, cur, rfl, hbg, hg, r⟩
  · exact .inl h0
  · exact .inr ⟨g, cap, cur, rfl, hbg, by rw [k g (by simp [Value.ownBlock])]; exact hg, r⟩
def edV (e : Ed) : List Value := [.int .i64 (e.s.1 : Int), .int .i64 (e.s.2.1 : Int), .int .i64 e.left, .int .i64 e.s.2.2]
def rowE (l : List Ed) : List Value := l.flatMap edV
theorem rowE_add (l m : List Ed) : rowE (l ++ m) = rowE l ++ rowE m := by simp [rowE]
theorem rowE_at : ∀ {l : List Ed} {i : Nat} (h : i < l.length) (d : Nat), d < 4 → (rowE l)[i * 4 + d]? = (edV l[i])[d]?
  | s :: l, 0, h, d, hd => by
    have : d < (edV s).length := by simpa [edV] using hd
    simp [rowE, List.flatMap_cons, List.getElem?_append_left this]
  | s :: l, i + 1, h, d, hd => by
    have ih := rowE_at (l := l) (i := i) (by simpa using h) d hd
    have e : (rowE (s :: l))[(i + 1) * 4 + d]? = (rowE l)[i * 4 + d]? := by
      unfold rowE
      rw [List.flatMap_cons, List.getElem?_append_right (by simp [edV]; omega)]
      congr 1
      simp [edV]; omega
    rw [e, ih]
    rfl
/-- The cells of the rows of what leaves. -/
def lvC (n : Nat) (lv : Nat → Value) : Array Value := ((List.range n).map lv).toArray
theorem lvC_at {n : Nat} {lv : Nat → Value} {i : Nat} (h : i < n) : (lvC n lv)[i]? = some (lv i) := by simp [lvC, h]
theorem lvC_set {n : Nat} {lv : Nat → Value} {s : Nat} (v : Value) : (lvC n lv).setIfInBounds s v = lvC n (fun i => if i = s then v else lv i) := by
  unfold lvC
  apply Array.ext'
  simp only [Array.toList_setIfInBounds]
  apply List.ext_getElem
  · simp
  · intro i h1 h2
    simp only [List.getElem_set, List.getElem_map, List.getElem_range]
    by_cases c : s = i
    · subst c; simp
    · rw [if_neg c, if_neg (fun e => c e.symm)]
/-- A network: its box at b, its edges, the rows of what leaves at rl, the prices at rp. -/
structure NW (base b rl rp n K : Nat) (ve : Value) (E : List Ed) (lv : Nat → Value) (P : Nat → Int) (W : World) : Prop where
  box : W.heap[b]? = some (.cells #[ve, .slice (some ⟨rl, 0, none⟩) n n, .slice (some ⟨rp, 0, none⟩) n n] 137 (0, 0))
  eg : W.ownsRow base 143 4 ve E.length (rowE E)
  lr : W.heap[rl]? = some (.cells (lvC n lv) 40 (0, 0))
  pr : IR W rp 3 n P
  lo : ∀ i, i < n → ∃ k xs, W.ownsRow base 3 1 (lv i) k xs ∧ k ≤ K
  ap : ∀ i j, i < n → j < n → i ≠ j → ∀ k, (lv i).ownBlock = some k → (lv j).ownBlock ≠ some k
  d1 : ve.ownBlock ≠ some b ∧ ve.ownBlock ≠ some rl ∧ ve.ownBlock ≠ some rp
  d2 : ∀ i, i < n → (lv i).ownBlock ≠ some b ∧ (lv i).ownBlock ≠ some rl ∧ (lv i).ownBlock ≠ some rp
  d3 : ∀ i, i < n → ∀ k, (lv i).ownBlock = some k → ve.ownBlock ≠ some k
  ne : b ≠ rl ∧ b ≠ rp ∧ rl ≠ rp ∧ base ≤ b ∧ base ≤ rl ∧ base ≤ rp
section
variable {base b rl rp n K : Nat} {ve : Value} {E : List Ed} {lv : Nat → Value} {P : Nat → Int} {W W' : World}
theorem NW.lt (h : NW base b rl rp n K ve E lv P W) : b < W.heap.size ∧ rl < W.heap.size ∧ rp < W.heap.size := ⟨(Array.getElem?_eq_some_iff.1 h.box).1, (Array.getElem?_eq_some_iff.1 h.lr).1, h.pr.lt⟩
theorem NW.elt (h : NW base b rl rp n K ve E lv P W) {k : Nat} (e : ve.ownBlock = some k) : base ≤ k ∧ k < W.heap.size := World.ownsRow.lt h.eg k e
theorem NW.llt (h : NW base b rl rp n K ve E lv P W) {i k : Nat} (hi : i < n) (e : (lv i).ownBlock = some k) : base ≤ k ∧ k < W.heap.size := by
  obtain ⟨m, xs, o, _⟩ := h.lo i hi
  exact World.ownsRow.lt o k e
theorem NW.keep (h : NW base b rl rp n K ve E lv P W) (k : ∀ q, q < W.heap.size → W'.heap[q]? = W.heap[q]?) : NW base b rl rp n K ve E lv P W' := by
  obtain ⟨l1, l2, l3⟩ := h.lt
  refine ⟨(k _ l1).trans h.box, own_blk h.eg (fun q e => k q (h.elt e).2), (k _ l2).trans h.lr, h.pr.keep (k _ l3), fun i hi => ?_, h.ap, h.d1, h.d2, h.d3, h.ne⟩
  obtain ⟨m, xs, o, c⟩ := h.lo i hi
  exact ⟨m, xs, own_blk o (fun q e => k q (h.llt hi e).2), c⟩
theorem NW.below (h : NW base b rl rp n K ve E lv P W) (hb : Below W.heap.size W W') : NW base b rl rp n K ve E lv P W' := h.keep hb.block
theorem NW.more {K' : Nat} (h : NW base b rl rp n K ve E lv P W) (hk : K ≤ K') : NW base b rl rp n K' ve E lv P W :=
  ⟨h.box, h.eg, h.lr, h.pr, fun i hi => by obtain ⟨m, xs, o, c⟩ := h.lo i hi; exact ⟨m, xs, o, by omega⟩, h.ap, h.d1, h.d2, h.d3, h.ne⟩
theorem NW.cells (h : NW base b rl rp n K ve E lv P W) : W.cell? ⟨b, 0, none⟩ = some ve ∧ W.cell? ⟨b, 1, none⟩ = some (.slice (some ⟨rl, 0, none⟩) n n) ∧ W.cell? ⟨b, 2, none⟩ = some (.slice (some ⟨rp, 0, none⟩) n n) ∧ W.frozen? ⟨b, 0, none⟩ = false := by
  have := h.box
  refine ⟨?_, ?_, ?_, ?_⟩ <;> simp [World.cell?, World.frozen?, this]
theorem NW.lcell (h : NW base b rl rp n K ve E lv P W) {i : Nat} (hi : i < n) : W.cell? ⟨rl, i, none⟩ = some (lv i) ∧ W.frozen? ⟨rl, i, none⟩ = false := by
  have := h.lr
  refine ⟨?_, ?_⟩
  · simp [World.cell?, this, lvC_at hi]
  · simp [World.frozen?, this]
/-- Edges are added. -/
theorem NW.edge {obj : Obj} {w1 : World} {hh cap : Nat} {E2 : List Ed} (h : NW base b rl rp n K ve E lv P W) (ho : w1.ownsRow base 143 4 (.slice (some ⟨hh, 0, none⟩) (E.length + 2) cap) (E.length + 2) (rowE E ++ rowE E2)) (l2 : E2.length = 2) (hg : (W.alloc obj).grownBy w1 ve.ownBlock) (hl : ve.ownBlock = some hh ∨ hh = W.heap.size + 1) :
    NW base b rl rp n K (.slice (some ⟨hh, 0, none⟩) (E.length + 2) cap) (E ++ E2) lv P (w1.setCell ⟨b, 0, none⟩ (.slice (some ⟨hh, 0, none⟩) (E.length + 2) cap)) ∧ w1.cell? ⟨b, 0, none⟩ = some ve ∧ w1.frozen? ⟨b, 0, none⟩ = false := by
  obtain ⟨l1, l3, l4⟩ := h.lt
  have s1 : (W.alloc obj).heap.size = W.heap.size + 1 := by simp
  have k1 : ∀ q, q < W.heap.size → ve.ownBlock ≠ some q → w1.heap[q]? = W.heap[q]? := fun q hq hn => by
    rw [hg.block q (by omega) (fun e => hn e.symm), Below.heap_alloc _ _ _ hq]
  have kb := (k1 b l1 h.d1.1).trans h.box
  have ob : (Value.slice (some ⟨hh, 0, none⟩) (E.length + 2) cap).ownBlock = some hh := rfl
  -- the new block is none of the others
  have hn : ∀ q, q < W.heap.size → ve.ownBlock ≠ some q → hh ≠ q := fun q hq hne e => by
    rcases hl with k | k
    · exact hne (by rw [k, e])
    · omega
  have k2 : ∀ q, q ≠ b → (w1.setCell ⟨b, 0, none⟩ (.slice (some ⟨hh, 0, none⟩) (E.length + 2) cap)).heap[q]? = w1.heap[q]? := fun q hq => Below.heap_setCell _ _ _ _ hq
  refine ⟨⟨?_, ?_, ?_, ?_, ?_, h.ap, ?_, h.d2, ?_, h.ne⟩, ?_, ?_⟩
  · rw [heap_setCell_same _ _ _ _ _ _ kb]; simp
  · have := own_blk ho (w' := w1.setCell ⟨b, 0, none⟩ (.slice (some ⟨hh, 0, none⟩) (E.length + 2) cap)) (fun q e => k2 q (by rw [ob] at e; have := hn b l1 h.d1.1; injection e with e; omega))
    rw [rowE_add, List.length_append, l2]; exact this
  · rw [k2 rl (Ne.symm h.ne.1), k1 rl l3 h.d1.2.1]; exact h.lr
  · exact h.pr.keep (by rw [k2 rp (Ne.symm h.ne.2.1), k1 rp l4 h.d1.2.2])
  · intro i hi
    obtain ⟨m, xs, o, c⟩ := h.lo i hi
    refine ⟨m, xs, own_blk o (fun q e => ?_), c⟩
    rw [k2 q (fun e2 => (h.d2 i hi).1 (by rw [e, e2])), k1 q (h.llt hi e).2 (h.d3 i hi q e)]
  · rw [ob]
    refine ⟨fun e => ?_, fun e => ?_, fun e => ?_⟩
    · injection e with e; exact hn b l1 h.d1.1 e
    · injection e with e; exact hn rl l3 h.d1.2.1 e
    · injection e with e; exact hn rp l4 h.d1.2.2 e
  · intro i hi k e e2
    rw [ob] at e2
    injection e2 with e2
    exact hn k (h.llt hi e).2 (h.d3 i hi k e) e2
  · simp [World.cell?, kb]
  · simp [World.frozen?, kb]
/-- A number is added to a row of what leaves. -/
theorem NW.leave {obj : Obj} {w1 : World} {hh cap k s : Nat} {xs : List Value} (h : NW base b rl rp n K ve E lv P W) (hs : s < n) (hk : k ≤ K) (ho : w1.ownsRow base 3 1 (.slice (some ⟨hh, 0, none⟩) (k + 1) cap) (k + 1) xs) (hg : (W.alloc obj).grownBy w1 (lv s).ownBlock) (hl : (lv s).ownBlock = some hh ∨ hh = W.heap.size + 1) :
    NW base b rl rp n (K + 1) ve E (fun i => if i = s then .slice (some ⟨hh, 0, none⟩) (k + 1) cap else lv i) P (w1.setCell ⟨rl, s, none⟩ (.slice (some ⟨hh, 0, none⟩) (k + 1) cap)) ∧ w1.cell? ⟨rl, s, none⟩ = some (lv s) ∧ w1.frozen? ⟨rl, s, none⟩ = false := by
  obtain ⟨l1, l3, l4⟩ := h.lt
  have s1 : (W.alloc obj).heap.size = W.heap.size + 1 := by simp
  have k1 : ∀ q, q < W.heap.size → (lv s).ownBlock ≠ some q → w1.heap[q]? = W.heap[q]? := fun q hq hn => by
    rw [hg.block q (by omega) (fun e => hn e.symm), Below.heap_alloc _ _ _ hq]
  have kl := (k1 rl l3 (h.d2 s hs).2.1).trans h.lr
  have ob : (Value.slice (some ⟨hh, 0, none⟩) (k + 1) cap).ownBlock = some hh := rfl
  have hn : ∀ q, q < W.heap.size → (lv s).ownBlock ≠ some q → hh ≠ q := fun q hq hne e => by
    rcases hl with k | k
    · exact hne (by rw [k, e])
    · omega
  have k2 : ∀ q, q ≠ rl → (w1.setCell ⟨rl, s, none⟩ (.slice (some ⟨hh, 0, none⟩) (k + 1) cap)).heap[q]? = w1.heap[q]? := fun q hq => Below.heap_setCell _ _ _ _ hq
  have vne : ∀ q, ve.ownBlock = some q → (lv s).ownBlock ≠ some q := fun q e e2 => h.d3 s hs q e2 e
  refine ⟨⟨?_, ?_, ?_, ?_, ?_, ?_, h.d1, ?_, ?_, h.ne⟩, ?_, ?_⟩
  · rw [k2 b h.ne.1, k1 b l1 (h.d2 s hs).1]; exact h.box
  · refine own_blk h.eg (fun q e => ?_)
    rw [k2 q (fun e2 => h.d1.2.1 (by rw [e, e2])), k1 q (h.elt e).2 (vne q e)]
  · rw [heap_setCell_same _ _ _ _ _ _ kl, lvC_set]
  · exact h.pr.keep (by rw [k2 rp (Ne.symm h.ne.2.2.1), k1 rp l4 (h.d2 s hs).2.2])
  · intro i hi
    by_cases c : i = s
    · subst c
      simp only [if_true]
      exact ⟨k + 1, xs, own_blk ho (fun q e => k2 q (by rw [ob] at e; have := hn rl l3 (h.d2 i hi).2.1; injection e with e; omega)), by omega⟩
    · simp only [if_neg c]
      obtain ⟨m, ys, o, cc⟩ := h.lo i hi
      refine ⟨m, ys, own_blk o (fun q e => ?_), by omega⟩
      rw [k2 q (fun e2 => (h.d2 i hi).2.1 (by rw [e, e2])), k1 q (h.llt hi e).2 (h.ap i s hi hs c q e)]
  · intro i j hi hj ij q e
    by_cases c : i = s
    · subst c
      simp only [if_true] at e
      rw [ob] at e
      injection e with e
      subst e
      rw [if_neg (fun e => ij e.symm)]
      intro e2
      exact hn hh (h.llt hj e2).2 (h.ap j i hj hi (fun e => ij e.symm) hh e2) rfl
    · simp only [if_neg c] at e
      by_cases c2 : j = s
      · subst c2
        simp only [if_true]
        rw [ob]
        intro e2
        injection e2 with e2
        exact hn q (h.llt hi e).2 (h.ap i j hi hj ij q e) e2
      · simp only [if_neg c2]
        exact h.ap i j hi hj ij q e
  · intro i hi
    by_cases c : i = s
    · subst c
      simp only [if_true]
      rw [ob]
      refine ⟨fun e => ?_, fun e => ?_, fun e => ?_⟩
      · injection e with e; exact hn b l1 (h.d2 i hi).1 e
      · injection e with e; exact hn rl l3 (h.d2 i hi).2.1 e
      · injection e with e; exact hn rp l4 (h.d2 i hi).2.2 e
    · simp only [if_neg c]; exact h.d2 i hi
  · intro i hi q e
    by_cases c : i = s
    · subst c
      simp only [if_true] at e
      rw [ob] at e
      injection e with e
      subst e
      intro e2
      exact hn hh (h.elt e2).2 (vne hh e2) rfl
    · simp only [if_neg c] at e
      exact h.d3 i hi q e
  · simp [World.cell?, kl, lvC_at hs]
  · simp [World.frozen?, kl]
end
/-- A box apart from a network. -/
def Aw (g b rl n : Nat) (ve : Value) (lv : Nat → Value) : Prop := g ≠ b ∧ g ≠ rl ∧ ve.ownBlock ≠ some g ∧ ∀ i, i < n → (lv i).ownBlock ≠ some g
/-- What goes with adding. -/
theorem NW.edge_more {base b rl rp n K : Nat} {ve : Value} {E : List Ed} {lv : Nat → Value} {P : Nat → Int} {W w0 w1 : World} {obj : Obj} {hh cap g len : Nat} {v0 v1 v2 v3 : Int} (h : NW base b rl rp n K ve E lv P W) (hg : (W.alloc obj).grownBy w1 ve.ownBlock) (hl : ve.ownBlock = some hh ∨ hh = W.heap.size + 1) (hb : Below base w0 W) (bs : base ≤ W.heap.size) (pt : AB g v0 v1 v2 v3 W) (aw : Aw g b rl n ve lv) :
    Below base w0 (w1.setCell ⟨b, 0, none⟩ (.slice (some ⟨hh, 0, none⟩) len cap)) ∧ AB g v0 v1 v2 v3 (w1.setCell ⟨b, 0, none⟩ (.slice (some ⟨hh, 0, none⟩) len cap)) ∧ Aw g b rl n (.slice (some ⟨hh, 0, none⟩) len cap) lv ∧ base ≤ (w1.setCell ⟨b, 0, none⟩ (.slice (some ⟨hh, 0, none⟩) len cap)).heap.size ∧ AB g v0 v1 v2 v3 w1 := by
  have s1 : (W.alloc obj).heap.size = W.heap.size + 1 := by simp
  have sz := hg.size
  have e1 : w1.heap[g]? = W.heap[g]? := by rw [hg.block g (by have := pt.sz; omega) (fun e => aw.2.2.1 e.symm), Below.heap_alloc _ _ _ pt.sz]
  have p1 : AB g v0 v1 v2 v3 w1 := pt.keep (by omega) e1
  refine ⟨((hb.alloc bs obj).grown hg (by omega) (own_ltF h.eg)).setCell h.ne.2.2.2.1 _, p1.set (Ne.symm aw.1) _ _, ⟨aw.1, aw.2.1, fun e => ?_, aw.2.2.2⟩, by simp [World.setCell]; omega, p1⟩
  have e' : hh = g := by simpa [Value.ownBlock] using e
  rcases hl with k | k
  · exact aw.2.2.1 (by rw [k, e'])
  · have := pt.sz; omega
theorem NW.leave_more {base b rl rp n K : Nat} {ve : Value} {E : List Ed} {lv : Nat → Value} {P : Nat → Int} {W w0 w1 : World} {obj : Obj} {hh cap g s k : Nat} {v0 v1 v2 v3 : Int} (h : NW base b rl rp n K ve E lv P W) (hs : s < n) (hg : (W.alloc obj).grownBy w1 (lv s).ownBlock) (hl : (lv s).ownBlock = some hh ∨ hh = W.heap.size + 1) (hb : Below base w0 W) (bs : base ≤ W.heap.size) (pt : AB g v0 v1 v2 v3 W) (aw : Aw g b rl n ve lv) :
    Below base w0 (w1.setCell ⟨rl, s, none⟩ (.slice (some ⟨hh, 0, none⟩) k cap)) ∧ AB g v0 v1 v2 v3 (w1.setCell ⟨rl, s, none⟩ (.slice (some ⟨hh, 0, none⟩) k cap)) ∧ Aw g b rl n ve (fun i => if i = s then .slice (some ⟨hh, 0, none⟩) k cap else lv i) ∧ base ≤ (w1.setCell ⟨rl, s, none⟩ (.slice (some ⟨hh, 0, none⟩) k cap)).heap.size ∧ AB g v0 v1 v2 v3 w1 ∧ w1.heap[b]? = W.heap[b]? := by
  have s1 : (W.alloc obj).heap.size = W.heap.size + 1 := by simp
  have sz := hg.size
  obtain ⟨m, xs, o, _⟩ := h.lo s hs
  have e1 : w1.heap[g]? = W.heap[g]? := by rw [hg.block g (by have := pt.sz; omega) (fun e => aw.2.2.2 s hs e.symm), Below.heap_alloc _ _ _ pt.sz]
  have p1 : AB g v0 v1 v2 v3 w1 := pt.keep (by omega) e1
  refine ⟨((hb.alloc bs obj).grown hg (by omega) (own_ltF o)).setCell h.ne.2.2.2.2.1 _, p1.set (Ne.symm aw.2.1) _ _, ⟨aw.1, aw.2.1, aw.2.2.1, fun i hi => ?_⟩, by simp [World.setCell]; omega, p1, ?_⟩
  · by_cases c : i = s
    · subst c
      simp only [if_true]
      intro e
      have e' : hh = g := by simpa [Value.ownBlock] using e
      rcases hl with k | k
      · exact aw.2.2.2 i hi (by rw [k, e'])
      · have := pt.sz; omega
    · simp only [if_neg c]; exact aw.2.2.2 i hi
  · rw [hg.block b (by have := h.lt.1; omega) (fun e => (h.d2 s hs).1 e.symm), Below.heap_alloc _ _ _ h.lt.1]
end Go.Proofs.Ytbcfafihkdddeaa
