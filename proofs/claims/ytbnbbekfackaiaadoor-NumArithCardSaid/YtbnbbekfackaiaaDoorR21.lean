/- The reference's Arith. -/
import Derived.Test.YtbnbbekfackaiaaDoorR20
import Derived.Test.YtbnbbekfackaiaaDoorG1
import Derived.Test.YtbnbbekfackaiaaDoorI1
namespace Go.Proofs.YtbnbbekfackaiaaDoor
open Go.RowKit
set_option linter.unusedVariables false
set_option linter.unusedSimpArgs false

/-- Two boxed fractions and a result's box. -/
structure Fr3 (w v : World) (an ad bn bd : Int) : Prop where
  a0 : v.cell? ⟨w.heap.size, 0, none⟩ = some (.int .i64 an)
  a1 : v.cell? ⟨w.heap.size, 1, none⟩ = some (.int .i64 ad)
  b0 : v.cell? ⟨w.heap.size + 1, 0, none⟩ = some (.int .i64 bn)
  b1 : v.cell? ⟨w.heap.size + 1, 1, none⟩ = some (.int .i64 bd)
  c0 : v.cell? ⟨w.heap.size + 1 + 1, 0, none⟩ = some (.int .i64 0)
  c1 : v.cell? ⟨w.heap.size + 1 + 1, 1, none⟩ = some (.int .i64 0)
  f0 : v.frozen? ⟨w.heap.size + 1 + 1, 0, none⟩ = false
  f1 : v.frozen? ⟨w.heap.size + 1 + 1, 1, none⟩ = false
  sz : w.heap.size + 1 + 1 < v.heap.size
  bel : Below w.heap.size w v
theorem Fr3.below {w v v' : World} {an ad bn bd : Int} (h : Fr3 w v an ad bn bd) (hb : Below v.heap.size v v') : Fr3 w v' an ad bn bd := by
  obtain ⟨h1, h2, h3, h4, h5, h6, h7, h8, h9, h10⟩ := h
  have z0 : w.heap.size < v.heap.size := by omega
  have z1 : w.heap.size + 1 < v.heap.size := by omega
  exact ⟨(hb.cell (p := ⟨w.heap.size, 0, none⟩) z0).trans h1, (hb.cell (p := ⟨w.heap.size, 1, none⟩) z0).trans h2, (hb.cell (p := ⟨w.heap.size + 1, 0, none⟩) z1).trans h3, (hb.cell (p := ⟨w.heap.size + 1, 1, none⟩) z1).trans h4,
    (hb.cell (p := ⟨w.heap.size + 1 + 1, 0, none⟩) h9).trans h5, (hb.cell (p := ⟨w.heap.size + 1 + 1, 1, none⟩) h9).trans h6, (hb.frozen (p := ⟨w.heap.size + 1 + 1, 0, none⟩) h9).trans h7, (hb.frozen (p := ⟨w.heap.size + 1 + 1, 1, none⟩) h9).trans h8, Nat.lt_of_lt_of_le h9 hb.size, h10.trans (hb.mono h10.size)⟩
theorem Fr3.new (w : World) (an ad bn bd : Int) : Fr3 w (((w.alloc (Obj.cells #[Value.int .i64 an, Value.int .i64 ad] 23)).alloc (Obj.cells #[Value.int .i64 bn, Value.int .i64 bd] 23)).alloc (Obj.cells #[Value.int .i64 0, Value.int .i64 0] 23)) an ad bn bd := by
  refine ⟨?_, ?_, ?_, ?_, ?_, ?_, ?_, ?_, ?_, by go_grown⟩ <;> simp [go_sem]

theorem getD_set_other {l : Array Bool} {i j : Nat} (e : i ≠ j) : (l.setIfInBounds i true).getD j false = l.getD j false := by
  by_cases hj : j < l.size
  · simp [Array.getD, hj, Array.getElem_setIfInBounds_ne hj e]
  · simp [Array.getD, hj]
theorem gq {L : Array Bool} {j : Nat} (h : L[j]?.getD false = true) : L.getD j false = true := by rw [Array.getD_eq_getD_getElem?]; exact h
theorem Fr3.drew {w v : World} {an ad bn bd : Int} (h : Fr3 w v an ad bn bd) : Fr3 w v.drew an ad bn bd := ⟨h.a0, h.a1, h.b0, h.b1, h.c0, h.c1, h.f0, h.f1, h.sz, h.bel.drew⟩
/-- A slot holds the number x. -/
def NumAt (w : World) (v : Value) (x : Int) (s : Bool) : Prop := ∃ p l c, v = .agg #[.bool s, .slice p (List.length l) c] ∧ BigR 5 w p l x
theorem NumAt.below {w w' : World} {v : Value} {x : Int} {s : Bool} (h : NumAt w v x s) (hb : Below w.heap.size w w') : NumAt w' v x s := by
  obtain ⟨p, l, c, rfl, b⟩ := h; exact ⟨p, l, c, rfl, b.below hb⟩
/-- A slot points to a number's box of the call's own. -/
def BoxAt (w0 w : World) (v : Value) : Prop := ∃ b, v = .pointer (some ⟨b, 0, none⟩) ∧ w0.heap.size + 1 + 1 < b ∧ w.heap[b]? = some (.cells #[.bool false, .slice none 0 0] 53 (0, 0))
theorem BoxAt.lt {w0 w : World} {v : Value} (h : BoxAt w0 w v) : ∃ b, v = .pointer (some ⟨b, 0, none⟩) ∧ b < w.heap.size := by
  obtain ⟨b, rfl, _, hb⟩ := h; exact ⟨b, rfl, (Array.getElem?_eq_some_iff.1 hb).1⟩
theorem BoxAt.below {w0 w w' : World} {v : Value} (h : BoxAt w0 w v) (hb : Below w.heap.size w w') : BoxAt w0 w' v := by
  obtain ⟨b, rfl, h1, h2⟩ := h
  exact ⟨b, rfl, h1, (hb.block b (Array.getElem?_eq_some_iff.1 h2).1).trans h2⟩
theorem BoxAt.ne {w0 w : World} {v : Value} (h : BoxAt w0 w v) : v ≠ .pointer (some ⟨w.heap.size, 0, none⟩) := by
  obtain ⟨b, rfl, hb⟩ := h.lt
  intro e
  simp at e
  first | done | omega
theorem BoxAt.new {w0 w : World} (h : w0.heap.size + 1 + 1 < w.heap.size) : BoxAt w0 (w.alloc (.cells #[.bool false, .slice none 0 0] 53)) (.pointer (some ⟨w.heap.size, 0, none⟩)) := ⟨_, rfl, h, heap_alloc_new w _⟩

/-- The frame while the four numbers are made. -/
def arF (what an ad bn bd : Int) (g : Nat) (y8 y9 y10 y11 x21 x22 x23 x24 x25 x26 x27 x28 x29 x30 x31 x32 : Value) : Act :=
  { tmps := #[.int .i64 what, .agg #[.int .i64 an, .int .i64 ad], .agg #[.int .i64 bn, .int .i64 bd], undef, .pointer (some ⟨g, 0, none⟩), .pointer (some ⟨g + 1, 0, none⟩), .pointer (some ⟨g + 1 + 1, 0, none⟩), .int .i64 0, y8, y9, y10, y11, .agg #[.int .i64 an, .int .i64 ad], .bool true, .bool false, .bool false, .agg #[.int .i64 bn, .int .i64 bd], .bool true, .bool false, .bool false, undef, x21, x22, x23, x24, x25, x26, x27, x28, x29, x30, x31, x32, undef, undef, undef, undef, undef, undef, undef, undef, undef, undef, undef, undef, undef, undef, undef, undef, undef, undef, undef, undef, undef, undef, undef, undef, undef, undef, undef, undef, undef, undef, undef, undef, undef, undef, undef, undef, undef, undef, undef, undef, undef, undef, undef, undef, undef, undef, undef, undef, undef, undef, undef, undef, undef, undef, undef], defers := [] }
/-- What holds while they are made, in whatever order. -/
def ArI (what an ad bn bd : Int) (sa ta sb tb : Bool) (w : World) (L : Array Bool) (a : Act) (v : World) : Prop :=
  ∃ y8 y9 y10 y11 x21 x22 x23 x24 x25 x26 x27 x28 x29 x30 x31 x32, a = arF what an ad bn bd w.heap.size y8 y9 y10 y11 x21 x22 x23 x24 x25 x26 x27 x28 x29 x30 x31 x32 ∧ Fr3 w v an ad bn bd ∧
    (L.getD 0 false = true → x21 = .pointer (some ⟨w.heap.size, 0, none⟩)) ∧ (L.getD 1 false = true → x22 = .int .i64 an) ∧ (L.getD 3 false = true → x24 = .pointer (some ⟨w.heap.size, 1, none⟩)) ∧ (L.getD 4 false = true → x25 = .int .i64 ad) ∧ (L.getD 6 false = true → x27 = .pointer (some ⟨w.heap.size + 1, 0, none⟩)) ∧ (L.getD 7 false = true → x28 = .int .i64 bn) ∧ (L.getD 9 false = true → x30 = .pointer (some ⟨w.heap.size + 1, 1, none⟩)) ∧ (L.getD 10 false = true → x31 = .int .i64 bd) ∧
    (L.getD 2 false = true → NumAt v x23 an sa) ∧ (L.getD 5 false = true → NumAt v x26 ad ta) ∧ (L.getD 8 false = true → NumAt v x29 bn sb) ∧ (L.getD 11 false = true → NumAt v x32 bd tb) ∧
    (L.getD 12 false = true → BoxAt w v y8) ∧ (L.getD 13 false = true → BoxAt w v y9) ∧ (L.getD 14 false = true → BoxAt w v y10) ∧ (L.getD 15 false = true → BoxAt w v y11) ∧
    (L.getD 12 false = true → L.getD 13 false = true → y8 ≠ y9) ∧ (L.getD 12 false = true → L.getD 14 false = true → y8 ≠ y10) ∧ (L.getD 12 false = true → L.getD 15 false = true → y8 ≠ y11) ∧ (L.getD 13 false = true → L.getD 14 false = true → y9 ≠ y10) ∧ (L.getD 13 false = true → L.getD 15 false = true → y9 ≠ y11) ∧ (L.getD 14 false = true → L.getD 15 false = true → y10 ≠ y11) ∧
    (∀ j, 16 ≤ j → L.getD j false = false)

theorem wpAny_one {P : Program} {ops : Array Oper} {Q : Exit → Act → World → Prop} {md : Region.Mode} {f i : Nat} {o : Oper} {L : Array Bool} {a : Act} {w : World} (hr : Region.ready md ops L = [i]) (ho : ops[i]? = some o)
    (h : ∀ K' : Act → World → Prop, (∀ a w, wpAny P md ops Q f (L.setIfInBounds i true) a w → K' a w) → if Region.wanted o (yielded ops a.tmps) = true then Oper.wp P o a w K' Q else K' (a.put o.dst undef) w) : wpAny P md ops Q (f + 1) L a w := by
  refine ⟨(fun h0 => by rw [h0] at hr; cases hr), fun j hj => ?_⟩
  rw [hr] at hj
  obtain rfl : j = i := by simpa using hj
  exact wpOp_step ho h
theorem RowR.setBox {w : World} {p : Option Addr} {l : List Int} (r : RowR w p l) {q : Addr} (h : 0 < l.length → ∀ gr, p = some ⟨gr, 0, none⟩ → gr ≠ q.block) (v : Value) : RowR (w.setCell q v) p l := fun i hi => by
  obtain ⟨g, e, k, c⟩ := r i hi
  refine ⟨g, e, by simpa [World.setCell] using k, ?_⟩
  rw [World.cell?_setCell_other _ _ _ _ (fun e2 => h (by omega) _ e (by subst e2; rfl))]
  exact c
theorem RowR.apart {w : World} {p : Option Addr} {l : List Int} (r : RowR w p l) {g : Nat} (h : w.heap[g]? = some (.cells #[.bool false, .slice none 0 0] 53 (0, 0))) : 0 < l.length → ∀ gr, p = some ⟨gr, 0, none⟩ → gr ≠ g := by
  intro hl gr e eq
  subst eq
  obtain ⟨g', e', _, c⟩ := r 0 hl
  rw [e] at e'
  have eg : gr = g' := by simpa using e'
  subst eg
  rw [cell_of_row w gr 0 _ _ (0, 0) h] at c
  simp at c
theorem BigR.setBox {n : Nat} {w : World} {p : Option Addr} {l : List Int} {x : Int} (r : BigR n w p l x) {q : Addr} (h : 0 < l.length → ∀ gr, p = some ⟨gr, 0, none⟩ → gr ≠ q.block) (v : Value) : BigR n (w.setCell q v) p l x := ⟨r.can, r.size, r.row.setBox h v⟩

/-- Four boxed numbers, and a result's box. -/
structure Big4 (w v : World) (bn : Int) (b1 b2 b3 b4 : Nat) (s1 s2 s3 s4 : Bool) (P1 P2 P3 P4 : Value) : Prop where
  g10 : v.cell? ⟨b1, 0, none⟩ = some (.bool s1)
  g11 : v.cell? ⟨b1, 1, none⟩ = some P1
  g20 : v.cell? ⟨b2, 0, none⟩ = some (.bool s2)
  g21 : v.cell? ⟨b2, 1, none⟩ = some P2
  g30 : v.cell? ⟨b3, 0, none⟩ = some (.bool s3)
  g31 : v.cell? ⟨b3, 1, none⟩ = some P3
  g40 : v.cell? ⟨b4, 0, none⟩ = some (.bool s4)
  g41 : v.cell? ⟨b4, 1, none⟩ = some P4
  b0 : v.cell? ⟨w.heap.size + 1, 0, none⟩ = some (.int .i64 bn)
  c0 : v.cell? ⟨w.heap.size + 1 + 1, 0, none⟩ = some (.int .i64 0)
  c1 : v.cell? ⟨w.heap.size + 1 + 1, 1, none⟩ = some (.int .i64 0)
  f0 : v.frozen? ⟨w.heap.size + 1 + 1, 0, none⟩ = false
  f1 : v.frozen? ⟨w.heap.size + 1 + 1, 1, none⟩ = false
  sz : w.heap.size + 1 + 1 < v.heap.size
  w1 : w.heap.size + 1 + 1 < b1
  w2 : w.heap.size + 1 + 1 < b2
  w3 : w.heap.size + 1 + 1 < b3
  w4 : w.heap.size + 1 + 1 < b4
  z1 : b1 < v.heap.size
  z2 : b2 < v.heap.size
  z3 : b3 < v.heap.size
  z4 : b4 < v.heap.size
  bel : Below w.heap.size w v
theorem Big4.below {w v v' : World} {bn : Int} {b1 b2 b3 b4 : Nat} {s1 s2 s3 s4 : Bool} {P1 P2 P3 P4 : Value} (h : Big4 w v bn b1 b2 b3 b4 s1 s2 s3 s4 P1 P2 P3 P4) (hb : Below v.heap.size v v') : Big4 w v' bn b1 b2 b3 b4 s1 s2 s3 s4 P1 P2 P3 P4 := by
  obtain ⟨h1, h2, h3, h4, h5, h6, h7, h8, h9, h10, h11, h12, h13, h14, h15, h16, h17, h18, h19, h20, h21, h22, h23⟩ := h
  have z3 : w.heap.size + 1 < v.heap.size := by omega
  exact ⟨(hb.cell (p := ⟨b1, 0, none⟩) h19).trans h1, (hb.cell (p := ⟨b1, 1, none⟩) h19).trans h2, (hb.cell (p := ⟨b2, 0, none⟩) h20).trans h3, (hb.cell (p := ⟨b2, 1, none⟩) h20).trans h4,
    (hb.cell (p := ⟨b3, 0, none⟩) h21).trans h5, (hb.cell (p := ⟨b3, 1, none⟩) h21).trans h6, (hb.cell (p := ⟨b4, 0, none⟩) h22).trans h7, (hb.cell (p := ⟨b4, 1, none⟩) h22).trans h8, (hb.cell (p := ⟨w.heap.size + 1, 0, none⟩) z3).trans h9,
    (hb.cell (p := ⟨w.heap.size + 1 + 1, 0, none⟩) h14).trans h10, (hb.cell (p := ⟨w.heap.size + 1 + 1, 1, none⟩) h14).trans h11, (hb.frozen (p := ⟨w.heap.size + 1 + 1, 0, none⟩) h14).trans h12, (hb.frozen (p := ⟨w.heap.size + 1 + 1, 1, none⟩) h14).trans h13, Nat.lt_of_lt_of_le h14 hb.size, h15, h16, h17, h18,
    Nat.lt_of_lt_of_le h19 hb.size, Nat.lt_of_lt_of_le h20 hb.size, Nat.lt_of_lt_of_le h21 hb.size, Nat.lt_of_lt_of_le h22 hb.size, h23.trans (hb.mono h23.size)⟩
/-- The world behind the four stores. -/
def st4 (v : World) (b1 b2 b3 b4 : Nat) (s1 s2 s3 s4 : Bool) (P1 P2 P3 P4 : Value) : World :=
  (((((((v.setCell ⟨b1, 0, none⟩ (.bool s1)).setCell ⟨b1, 1, none⟩ P1).setCell ⟨b2, 0, none⟩ (.bool s2)).setCell ⟨b2, 1, none⟩ P2).setCell ⟨b3, 0, none⟩ (.bool s3)).setCell ⟨b3, 1, none⟩ P3).setCell ⟨b4, 0, none⟩ (.bool s4)).setCell ⟨b4, 1, none⟩ P4
theorem four_boxes {w v : World} {an ad bn bd : Int} {s1 s2 s3 s4 : Bool} {p1 p2 p3 p4 : Option Addr} {l1 l2 l3 l4 : List Int} {c1 c2 c3 c4 : Nat} {b1 b2 b3 b4 : Nat} (K : Fr3 w v an ad bn bd)
    (B1 : BigR 5 v p1 l1 an) (B2 : BigR 5 v p2 l2 ad) (B3 : BigR 5 v p3 l3 bn) (B4 : BigR 5 v p4 l4 bd)
    (w1 : w.heap.size + 1 + 1 < b1) (w2 : w.heap.size + 1 + 1 < b2) (w3 : w.heap.size + 1 + 1 < b3) (w4 : w.heap.size + 1 + 1 < b4)
    (h1 : v.heap[b1]? = some (.cells #[.bool false, .slice none 0 0] 53 (0, 0))) (h2 : v.heap[b2]? = some (.cells #[.bool false, .slice none 0 0] 53 (0, 0))) (h3 : v.heap[b3]? = some (.cells #[.bool false, .slice none 0 0] 53 (0, 0))) (h4 : v.heap[b4]? = some (.cells #[.bool false, .slice none 0 0] 53 (0, 0)))
    (n12 : ¬ b1 = b2) (n13 : ¬ b1 = b3) (n14 : ¬ b1 = b4) (n23 : ¬ b2 = b3) (n24 : ¬ b2 = b4) (n34 : ¬ b3 = b4) :
    Big4 w (st4 v b1 b2 b3 b4 s1 s2 s3 s4 (.slice p1 l1.length c1) (.slice p2 l2.length c2) (.slice p3 l3.length c3) (.slice p4 l4.length c4)) bn b1 b2 b3 b4 s1 s2 s3 s4 (.slice p1 l1.length c1) (.slice p2 l2.length c2) (.slice p3 l3.length c3) (.slice p4 l4.length c4) ∧
    BigR 5 (st4 v b1 b2 b3 b4 s1 s2 s3 s4 (.slice p1 l1.length c1) (.slice p2 l2.length c2) (.slice p3 l3.length c3) (.slice p4 l4.length c4)) p1 l1 an ∧
    BigR 5 (st4 v b1 b2 b3 b4 s1 s2 s3 s4 (.slice p1 l1.length c1) (.slice p2 l2.length c2) (.slice p3 l3.length c3) (.slice p4 l4.length c4)) p2 l2 ad ∧
    BigR 5 (st4 v b1 b2 b3 b4 s1 s2 s3 s4 (.slice p1 l1.length c1) (.slice p2 l2.length c2) (.slice p3 l3.length c3) (.slice p4 l4.length c4)) p3 l3 bn ∧
    BigR 5 (st4 v b1 b2 b3 b4 s1 s2 s3 s4 (.slice p1 l1.length c1) (.slice p2 l2.length c2) (.slice p3 l3.length c3) (.slice p4 l4.length c4)) p4 l4 bd := by
  have bg : ∀ {p : Option Addr} {l : List Int} {x : Int}, BigR 5 v p l x → BigR 5 (st4 v b1 b2 b3 b4 s1 s2 s3 s4 (.slice p1 l1.length c1) (.slice p2 l2.length c2) (.slice p3 l3.length c3) (.slice p4 l4.length c4)) p l x := by
    intro p l x B
    unfold st4
    exact (((((((B.setBox (q := ⟨b1, 0, none⟩) (B.row.apart h1) _).setBox (q := ⟨b1, 1, none⟩) (B.row.apart h1) _).setBox (q := ⟨b2, 0, none⟩) (B.row.apart h2) _).setBox (q := ⟨b2, 1, none⟩) (B.row.apart h2) _).setBox (q := ⟨b3, 0, none⟩) (B.row.apart h3) _).setBox (q := ⟨b3, 1, none⟩) (B.row.apart h3) _).setBox (q := ⟨b4, 0, none⟩) (B.row.apart h4) _).setBox (q := ⟨b4, 1, none⟩) (B.row.apart h4) _
  refine ⟨?_, bg B1, bg B2, bg B3, bg B4⟩
  have lt : ∀ {b : Nat}, v.heap[b]? = some (.cells #[.bool false, .slice none 0 0] 53 (0, 0)) → b < v.heap.size := fun h => (Array.getElem?_eq_some_iff.1 h).1
  have y1 := lt h1
  have y2 := lt h2
  have y3 := lt h3
  have y4 := lt h4
  have e10 : v.cell? ⟨b1, 0, none⟩ = some (.bool false) := (cell_of_row v b1 0 _ _ (0, 0) h1).trans rfl
  have e11 : v.cell? ⟨b1, 1, none⟩ = some (.slice none 0 0) := (cell_of_row v b1 1 _ _ (0, 0) h1).trans rfl
  have e20 : v.cell? ⟨b2, 0, none⟩ = some (.bool false) := (cell_of_row v b2 0 _ _ (0, 0) h2).trans rfl
  have e21 : v.cell? ⟨b2, 1, none⟩ = some (.slice none 0 0) := (cell_of_row v b2 1 _ _ (0, 0) h2).trans rfl
  have e30 : v.cell? ⟨b3, 0, none⟩ = some (.bool false) := (cell_of_row v b3 0 _ _ (0, 0) h3).trans rfl
  have e31 : v.cell? ⟨b3, 1, none⟩ = some (.slice none 0 0) := (cell_of_row v b3 1 _ _ (0, 0) h3).trans rfl
  have e40 : v.cell? ⟨b4, 0, none⟩ = some (.bool false) := (cell_of_row v b4 0 _ _ (0, 0) h4).trans rfl
  have e41 : v.cell? ⟨b4, 1, none⟩ = some (.slice none 0 0) := (cell_of_row v b4 1 _ _ (0, 0) h4).trans rfl
  obtain ⟨k1, k2, k3, k4, k5, k6, k7, k8, ksz, kb⟩ := K
  have m21 : ¬ b2 = b1 := fun e => n12 e.symm
  have m31 : ¬ b3 = b1 := fun e => n13 e.symm
  have m41 : ¬ b4 = b1 := fun e => n14 e.symm
  have m32 : ¬ b3 = b2 := fun e => n23 e.symm
  have m42 : ¬ b4 = b2 := fun e => n24 e.symm
  have m43 : ¬ b4 = b3 := fun e => n34 e.symm
  have r1 : ¬ w.heap.size + 1 = b1 := by omega
  have r2 : ¬ w.heap.size + 1 = b2 := by omega
  have r3 : ¬ w.heap.size + 1 = b3 := by omega
  have r4 : ¬ w.heap.size + 1 = b4 := by omega
  have t1 : ¬ w.heap.size + 1 + 1 = b1 := by omega
  have t2 : ¬ w.heap.size + 1 + 1 = b2 := by omega
  have t3 : ¬ w.heap.size + 1 + 1 = b3 := by omega
  have t4 : ¬ w.heap.size + 1 + 1 = b4 := by omega
  unfold st4
  refine ⟨?_, ?_, ?_, ?_, ?_, ?_, ?_, ?_, ?_, ?_, ?_, ?_, ?_, ?_, w1, w2, w3, w4, ?_, ?_, ?_, ?_, ?_⟩
  case refine_19 => exact (((((((kb.setCell (by show w.heap.size ≤ b1; omega) _).setCell (by show w.heap.size ≤ b1; omega) _).setCell (by show w.heap.size ≤ b2; omega) _).setCell (by show w.heap.size ≤ b2; omega) _).setCell (by show w.heap.size ≤ b3; omega) _).setCell (by show w.heap.size ≤ b3; omega) _).setCell (by show w.heap.size ≤ b4; omega) _).setCell (by show w.heap.size ≤ b4; omega) _
  all_goals simp [go_sem, k1, k2, k3, k4, k5, k6, k7, k8, ksz, e10, e11, e20, e21, e30, e31, e40, e41, n12, n13, n14, n23, n24, n34, m21, m31, m41, m32, m42, m43, r1, r2, r3, r4, t1, t2, t3, t4, y1, y2, y3, y4]

end Go.Proofs.YtbnbbekfackaiaaDoor
