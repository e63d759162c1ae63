/- Calls and boxes in any order behind the loads: I3 to I7 in one text. -/
import Derived.Test.YtbphmcjjanchlaaTS1
namespace Go.Proofs.Ytbphmcjjanchlaa
open Go.RowKit Go.Proofs.Ytbphmcjjanchlaa.Mii
set_option linter.unusedVariables false
set_option linter.unusedSimpArgs false
-- I3


section
variable {P : Program} {ops : Array Oper} {Q : Exit → Act → World → Prop} {md : Region.Mode} {S : World → Prop} {n : Nat}
theorem wpAnyG_inv (ht : topoB ops = true) (I : Array Bool → Act → World → Prop) (stop : Array Bool → Prop) (hIS : ∀ L a w, I L a w → S w)
    (hstop : ∀ listed, (∀ i, listed.getD i true = true) → listed.size = ops.size → stop listed)
    (hstep : ∀ listed a w, listed.size = ops.size → Closed md ops listed → I listed a w → ¬ stop listed → ∀ i o, ops[i]? = some o → listed.getD i true = false →
      (∀ e ∈ o.after, Region.binds md e = true → listed.getD e.on false = true) → ∀ K' : Act → World → Prop, Shut (∀ a w, I (listed.setIfInBounds i true) a w → K' a w) →
      if Region.wanted o (yielded ops a.tmps) = true then Oper.wp P o a w K' Q else K' (a.put o.dst undef) w)
    (hend : ∀ fuel listed a w, listed.size = ops.size → Closed md ops listed → I listed a w → stop listed → unl listed ≤ fuel → wpAnyG P md ops Q S n fuel listed a w) :
    ∀ fuel listed a w, listed.size = ops.size → Closed md ops listed → unl listed ≤ fuel → I listed a w → wpAnyG P md ops Q S n fuel listed a w := by
  intro fuel
  induction fuel with
  | zero =>
    intro listed a w hs hc hu hI
    exact hend 0 listed a w hs hc hI (hstop listed (unl_zero (by omega)) hs) hu
  | succ fuel ih =>
    intro listed a w hs hc hu hI
    by_cases hst : stop listed
    · exact hend _ listed a w hs hc hI hst hu
    · have hex : ∃ i, i < ops.size ∧ listed.getD i true = false := by
        apply Classical.byContradiction
        intro hno
        apply hst
        refine hstop listed (fun i => ?_) hs
        by_cases hi : i < ops.size
        · cases hb : listed.getD i true
          · exact absurd ⟨i, hi, hb⟩ hno
          · rfl
        · simp [Array.getD, hs, hi]
      obtain ⟨i0, hi0, hb0⟩ := hex
      refine ⟨fun h0 => absurd h0 (ready_some ht hs (i0 + 1) i0 (by omega) hi0 hb0), fun i hi => ?_⟩
      obtain ⟨hun, o, ho, hall⟩ := mem_ready.1 hi
      have hi' : i < listed.size := by have := (Array.getElem?_eq_some_iff.1 ho).1; omega
      refine wpOp_step ho (fun K' hK => hstep listed a w hs hc hI hst i o ho hun hall K' (fun a w h => hK a w ⟨fun _ => hIS _ _ _ h, ?_⟩))
      exact ih _ a w (by simpa using hs) (hc.step hi) (by have := unl_set hi' hun; omega) h
/-- The flags of the operations named. -/
def fl (L : Array Bool) (l : List Nat) : List Bool := l.map fun i => L.getD i false
end
-- I4


/-- A slot holds a map with Q. -/
def MapS (Q : Tr Int Value → Prop) (v : Value) (w : World) : Prop := ∃ q t, v = .agg #[.pointer q] ∧ At w q t ∧ Q t
theorem MapS.grow {Q : Tr Int Value → Prop} {v : Value} {A B : World} (st : Below A.heap.size A B) (h : MapS Q v A) : MapS Q v B := by
  obtain ⟨q, t, e, a, g⟩ := h; exact ⟨q, t, e, a.grow st, g⟩
/-- A slot points to a map's box of its own. -/
def BoxS (n : Nat) (v : Value) (w : World) : Prop := ∃ B, v = .pointer (some ⟨B, 0, none⟩) ∧ n ≤ B ∧ w.cell? ⟨B, 0, none⟩ = some (.pointer none) ∧ w.frozen? ⟨B, 0, none⟩ = false
theorem BoxS.grow {n : Nat} {v : Value} {A B : World} (st : Below A.heap.size A B) (h : BoxS n v A) : BoxS n v B := by
  obtain ⟨b, e, z, c, f⟩ := h; exact ⟨b, e, z, cell_gr st c, fro_gr st c f⟩
theorem BoxS.ne {n : Nat} {v : Value} {A : World} (h : BoxS n v A) : v ≠ .pointer (some ⟨A.heap.size, 0, none⟩) := by
  obtain ⟨b, rfl, _, c, _⟩ := h
  have : b < A.heap.size := World.block_lt_of_cell? A _ c
  intro e
  have e2 : b = A.heap.size := by injection e with e; injection e with e; injection e
  omega
theorem BoxS.new {n : Nat} {A : World} (t : TypeId) (h : n ≤ A.heap.size) : BoxS n (.pointer (some ⟨A.heap.size, 0, none⟩)) (A.alloc (.cells #[.pointer none] t)) := ⟨_, rfl, h, by simp [go_sem], by simp [go_sem]⟩
/-- What holds while the three calls and the three boxes come up. -/
def BoxI (a0 : Act) (w0 : World) (S : World → Prop) (c1 c2 c3 b1 b2 b3 i1 i2 i3 j1 j2 j3 m : Nat) (Q1 Q2 Q3 : Tr Int Value → Prop) (L : Array Bool) (a : Act) (w : World) : Prop :=
  ∃ v1 v2 v3 y1 y2 y3, a = (((((a0.put (some c1) v1).put (some c2) v2).put (some c3) v3).put (some b1) y1).put (some b2) y2).put (some b3) y3 ∧ S w ∧ Below w0.heap.size w0 w ∧
    (L.getD i1 false = true → MapS Q1 v1 w) ∧ (L.getD i2 false = true → MapS Q2 v2 w) ∧ (L.getD i3 false = true → MapS Q3 v3 w) ∧
    (L.getD j1 false = true → BoxS w0.heap.size y1 w) ∧ (L.getD j2 false = true → BoxS w0.heap.size y2 w) ∧ (L.getD j3 false = true → BoxS w0.heap.size y3 w) ∧
    (L.getD j1 false = true → L.getD j2 false = true → y1 ≠ y2) ∧ (L.getD j1 false = true → L.getD j3 false = true → y1 ≠ y3) ∧ (L.getD j2 false = true → L.getD j3 false = true → y2 ≠ y3) ∧
    (∀ j, j < m → j ≠ i1 → j ≠ i2 → j ≠ i3 → j ≠ j1 → j ≠ j2 → j ≠ j3 → L.getD j false = true) ∧ (∀ j, m ≤ j → L.getD j false = false)
theorem fls {L : Array Bool} {i j : Nat} (h : (L.setIfInBounds i true).getD j false = true) (e : i ≠ j) : L.getD j false = true := getD_set_back h e
theorem fl_other {L : Array Bool} {i j : Nat} (e : i ≠ j) : (L.setIfInBounds i true).getD j false = L.getD j false := by
  by_cases hj : j < L.size
  · simp [Array.getD, hj, Array.getElem_setIfInBounds_ne hj e]
  · simp [Array.getD, hj]
/-- Behind the three calls and boxes, at the stores. -/
structure ThreeB (w0 : World) (B1 B2 B3 : Nat) (q1 q2 q3 : Option Addr) (t1 t2 t3 : Tr Int Value) (W : World) : Prop where
  bel : Below w0.heap.size w0 W
  c1 : W.cell? ⟨B1, 0, none⟩ = some (.pointer q1)
  c2 : W.cell? ⟨B2, 0, none⟩ = some (.pointer q2)
  c3 : W.cell? ⟨B3, 0, none⟩ = some (.pointer q3)
  a1 : At W q1 t1
  a2 : At W q2 t2
  a3 : At W q3 t3
  z1 : w0.heap.size ≤ B1
  z2 : w0.heap.size ≤ B2
  z3 : w0.heap.size ≤ B3
theorem three_b {w0 w : World} {B1 B2 B3 : Nat} {q1 q2 q3 : Option Addr} {t1 t2 t3 : Tr Int Value} (bel : Below w0.heap.size w0 w) (z1 : w0.heap.size ≤ B1) (z2 : w0.heap.size ≤ B2) (z3 : w0.heap.size ≤ B3)
    (c1 : w.cell? ⟨B1, 0, none⟩ = some (.pointer none)) (c2 : w.cell? ⟨B2, 0, none⟩ = some (.pointer none)) (c3 : w.cell? ⟨B3, 0, none⟩ = some (.pointer none)) (n12 : ¬ B1 = B2) (n13 : ¬ B1 = B3) (n23 : ¬ B2 = B3)
    (a1 : At w q1 t1) (a2 : At w q2 t2) (a3 : At w q3 t3) :
    ThreeB w0 B1 B2 B3 q1 q2 q3 t1 t2 t3 (((w.setCell ⟨B1, 0, none⟩ (.pointer q1)).setCell ⟨B2, 0, none⟩ (.pointer q2)).setCell ⟨B3, 0, none⟩ (.pointer q3)) := by
  have d2 : (w.setCell ⟨B1, 0, none⟩ (.pointer q1)).cell? ⟨B2, 0, none⟩ = some (.pointer none) := cell_st (by dsimp only; omega) c2
  have d3 : ((w.setCell ⟨B1, 0, none⟩ (.pointer q1)).setCell ⟨B2, 0, none⟩ (.pointer q2)).cell? ⟨B3, 0, none⟩ = some (.pointer none) := cell_st (by dsimp only; omega) (cell_st (by dsimp only; omega) c3)
  exact ⟨((bel.setCell (p := ⟨B1, 0, none⟩) z1 _).setCell (p := ⟨B2, 0, none⟩) z2 _).setCell (p := ⟨B3, 0, none⟩) z3 _,
    cell_st (by dsimp only; omega) (cell_st (by dsimp only; omega) (World.cell?_setCell_same' _ _ _ (by rw [c1]; rfl))), cell_st (by dsimp only; omega) (World.cell?_setCell_same' _ _ _ (by rw [d2]; rfl)), World.cell?_setCell_same' _ _ _ (by rw [d3]; rfl),
    ((a1.set _ c1).set _ d2).set _ d3, ((a2.set _ c1).set _ d2).set _ d3, ((a3.set _ c1).set _ d2).set _ d3, z1, z2, z3⟩
-- I5


theorem put_same' (a : Act) (s : Nat) (v v' : Value) : (a.put (some s) v).put (some s) v' = a.put (some s) v' := by simp [Act.put]
theorem put_comm' (a : Act) {s t : Nat} (h : s ≠ t) (v v' : Value) : (a.put (some s) v).put (some t) v' = (a.put (some t) v').put (some s) v := by
  simp [Act.put, Array.setIfInBounds_comm _ _ h]
section
variable {a0 : Act} {w0 : World} {S : World → Prop} {c1 c2 c3 b1 b2 b3 i1 i2 i3 j1 j2 j3 m : Nat} {Q1 Q2 Q3 : Tr Int Value → Prop} {L : Array Bool} {a : Act} {w w' : World} {v : Value}
theorem BoxI.call1 (D : List.Nodup [c1, c2, c3, b1, b2, b3]) (E : List.Nodup [i1, i2, i3, j1, j2, j3]) (hf : i1 < m) (hl : i1 < L.size) (h : BoxI a0 w0 S c1 c2 c3 b1 b2 b3 i1 i2 i3 j1 j2 j3 m Q1 Q2 Q3 L a w) (hS : S w') (st : Below w.heap.size w w') (hm : MapS Q1 v w') :
    BoxI a0 w0 S c1 c2 c3 b1 b2 b3 i1 i2 i3 j1 j2 j3 m Q1 Q2 Q3 (L.setIfInBounds i1 true) (a.put (some c1) v) w' := by
  obtain ⟨v1, v2, v3, y1, y2, y3, rfl, hS0, bel, g1, g2, g3, k1, k2, k3, d12, d13, d23, ho, hz⟩ := h
  have n1 : c2 ≠ c1 := by rintro rfl; simp at D
  have m1 : i1 ≠ i2 := by rintro rfl; simp at E
  have n2 : c3 ≠ c1 := by rintro rfl; simp at D
  have m2 : i1 ≠ i3 := by rintro rfl; simp at E
  have n3 : b1 ≠ c1 := by rintro rfl; simp at D
  have m3 : i1 ≠ j1 := by rintro rfl; simp at E
  have n4 : b2 ≠ c1 := by rintro rfl; simp at D
  have m4 : i1 ≠ j2 := by rintro rfl; simp at E
  have n5 : b3 ≠ c1 := by rintro rfl; simp at D
  have m5 : i1 ≠ j3 := by rintro rfl; simp at E
  exact ⟨v, v2, v3, y1, y2, y3, by rw [put_comm' _ n5, put_comm' _ n4, put_comm' _ n3, put_comm' _ n2, put_comm' _ n1, put_same'], hS, bel.trans (st.mono bel.size), (fun _ => hm), (fun e => (g2 (fls e m1)).grow st), (fun e => (g3 (fls e m2)).grow st), (fun e => (k1 (fls e m3)).grow st), (fun e => (k2 (fls e m4)).grow st), (fun e => (k3 (fls e m5)).grow st), (fun e e2 => d12 (fls e m3) (fls e2 m4)), (fun e e2 => d13 (fls e m3) (fls e2 m5)), (fun e e2 => d23 (fls e m4) (fls e2 m5)), (fun j hj x0 x1 x2 x3 x4 x5 => by rw [fl_other (Ne.symm x0)]; exact ho j hj x0 x1 x2 x3 x4 x5), (fun j hj => by rw [fl_other (by omega)]; exact hz j hj)⟩
theorem BoxI.call2 (D : List.Nodup [c1, c2, c3, b1, b2, b3]) (E : List.Nodup [i1, i2, i3, j1, j2, j3]) (hf : i2 < m) (hl : i2 < L.size) (h : BoxI a0 w0 S c1 c2 c3 b1 b2 b3 i1 i2 i3 j1 j2 j3 m Q1 Q2 Q3 L a w) (hS : S w') (st : Below w.heap.size w w') (hm : MapS Q2 v w') :
    BoxI a0 w0 S c1 c2 c3 b1 b2 b3 i1 i2 i3 j1 j2 j3 m Q1 Q2 Q3 (L.setIfInBounds i2 true) (a.put (some c2) v) w' := by
  obtain ⟨v1, v2, v3, y1, y2, y3, rfl, hS0, bel, g1, g2, g3, k1, k2, k3, d12, d13, d23, ho, hz⟩ := h
  have n0 : c1 ≠ c2 := by rintro rfl; simp at D
  have m0 : i2 ≠ i1 := by rintro rfl; simp at E
  have n2 : c3 ≠ c2 := by rintro rfl; simp at D
  have m2 : i2 ≠ i3 := by rintro rfl; simp at E
  have n3 : b1 ≠ c2 := by rintro rfl; simp at D
  have m3 : i2 ≠ j1 := by rintro rfl; simp at E
  have n4 : b2 ≠ c2 := by rintro rfl; simp at D
  have m4 : i2 ≠ j2 := by rintro rfl; simp at E
  have n5 : b3 ≠ c2 := by rintro rfl; simp at D
  have m5 : i2 ≠ j3 := by rintro rfl; simp at E
  exact ⟨v1, v, v3, y1, y2, y3, by rw [put_comm' _ n5, put_comm' _ n4, put_comm' _ n3, put_comm' _ n2, put_same'], hS, bel.trans (st.mono bel.size), (fun e => (g1 (fls e m0)).grow st), (fun _ => hm), (fun e => (g3 (fls e m2)).grow st), (fun e => (k1 (fls e m3)).grow st), (fun e => (k2 (fls e m4)).grow st), (fun e => (k3 (fls e m5)).grow st), (fun e e2 => d12 (fls e m3) (fls e2 m4)), (fun e e2 => d13 (fls e m3) (fls e2 m5)), (fun e e2 => d23 (fls e m4) (fls e2 m5)), (fun j hj x0 x1 x2 x3 x4 x5 => by rw [fl_other (Ne.symm x1)]; exact ho j hj x0 x1 x2 x3 x4 x5), (fun j hj => by rw [fl_other (by omega)]; exact hz j hj)⟩
theorem BoxI.call3 (D : List.Nodup [c1, c2, c3, b1, b2, b3]) (E : List.Nodup [i1, i2, i3, j1, j2, j3]) (hf : i3 < m) (hl : i3 < L.size) (h : BoxI a0 w0 S c1 c2 c3 b1 b2 b3 i1 i2 i3 j1 j2 j3 m Q1 Q2 Q3 L a w) (hS : S w') (st : Below w.heap.size w w') (hm : MapS Q3 v w') :
    BoxI a0 w0 S c1 c2 c3 b1 b2 b3 i1 i2 i3 j1 j2 j3 m Q1 Q2 Q3 (L.setIfInBounds i3 true) (a.put (some c3) v) w' := by
  obtain ⟨v1, v2, v3, y1, y2, y3, rfl, hS0, bel, g1, g2, g3, k1, k2, k3, d12, d13, d23, ho, hz⟩ := h
  have n0 : c1 ≠ c3 := by rintro rfl; simp at D
  have m0 : i3 ≠ i1 := by rintro rfl; simp at E
  have n1 : c2 ≠ c3 := by rintro rfl; simp at D
  have m1 : i3 ≠ i2 := by rintro rfl; simp at E
  have n3 : b1 ≠ c3 := by rintro rfl; simp at D
  have m3 : i3 ≠ j1 := by rintro rfl; simp at E
  have n4 : b2 ≠ c3 := by rintro rfl; simp at D
  have m4 : i3 ≠ j2 := by rintro rfl; simp at E
  have n5 : b3 ≠ c3 := by rintro rfl; simp at D
  have m5 : i3 ≠ j3 := by rintro rfl; simp at E
  exact ⟨v1, v2, v, y1, y2, y3, by rw [put_comm' _ n5, put_comm' _ n4, put_comm' _ n3, put_same'], hS, bel.trans (st.mono bel.size), (fun e => (g1 (fls e m0)).grow st), (fun e => (g2 (fls e m1)).grow st), (fun _ => hm), (fun e => (k1 (fls e m3)).grow st), (fun e => (k2 (fls e m4)).grow st), (fun e => (k3 (fls e m5)).grow st), (fun e e2 => d12 (fls e m3) (fls e2 m4)), (fun e e2 => d13 (fls e m3) (fls e2 m5)), (fun e e2 => d23 (fls e m4) (fls e2 m5)), (fun j hj x0 x1 x2 x3 x4 x5 => by rw [fl_other (Ne.symm x2)]; exact ho j hj x0 x1 x2 x3 x4 x5), (fun j hj => by rw [fl_other (by omega)]; exact hz j hj)⟩
theorem BoxI.box1 {t : TypeId} (D : List.Nodup [c1, c2, c3, b1, b2, b3]) (E : List.Nodup [i1, i2, i3, j1, j2, j3]) (hf : j1 < m) (hl : j1 < L.size) (h : BoxI a0 w0 S c1 c2 c3 b1 b2 b3 i1 i2 i3 j1 j2 j3 m Q1 Q2 Q3 L a w) (hS : S w') (hw : w' = w.alloc (.cells #[.pointer none] t)) :
    BoxI a0 w0 S c1 c2 c3 b1 b2 b3 i1 i2 i3 j1 j2 j3 m Q1 Q2 Q3 (L.setIfInBounds j1 true) (a.put (some b1) (.pointer (some ⟨w.heap.size, 0, none⟩))) w' := by
  obtain ⟨v1, v2, v3, y1, y2, y3, rfl, hS0, bel, g1, g2, g3, k1, k2, k3, d12, d13, d23, ho, hz⟩ := h
  subst hw
  have st : Below w.heap.size w (w.alloc (.cells #[.pointer none] t)) := (Below.refl _ w).alloc (Nat.le_refl _) _
  have n0 : c1 ≠ b1 := by rintro rfl; simp at D
  have m0 : j1 ≠ i1 := by rintro rfl; simp at E
  have n1 : c2 ≠ b1 := by rintro rfl; simp at D
  have m1 : j1 ≠ i2 := by rintro rfl; simp at E
  have n2 : c3 ≠ b1 := by rintro rfl; simp at D
  have m2 : j1 ≠ i3 := by rintro rfl; simp at E
  have n4 : b2 ≠ b1 := by rintro rfl; simp at D
  have m4 : j1 ≠ j2 := by rintro rfl; simp at E
  have n5 : b3 ≠ b1 := by rintro rfl; simp at D
  have m5 : j1 ≠ j3 := by rintro rfl; simp at E
  exact ⟨v1, v2, v3, (.pointer (some ⟨w.heap.size, 0, none⟩)), y2, y3, by rw [put_comm' _ n5, put_comm' _ n4, put_same'], hS, bel.trans (st.mono bel.size), (fun e => (g1 (fls e m0)).grow st), (fun e => (g2 (fls e m1)).grow st), (fun e => (g3 (fls e m2)).grow st), (fun _ => BoxS.new t bel.size), (fun e => (k2 (fls e m4)).grow st), (fun e => (k3 (fls e m5)).grow st), (fun _ e => Ne.symm (k2 (fls e m4)).ne), (fun _ e => Ne.symm (k3 (fls e m5)).ne), (fun e e2 => d23 (fls e m4) (fls e2 m5)), (fun j hj x0 x1 x2 x3 x4 x5 => by rw [fl_other (Ne.symm x3)]; exact ho j hj x0 x1 x2 x3 x4 x5), (fun j hj => by rw [fl_other (by omega)]; exact hz j hj)⟩
theorem BoxI.box2 {t : TypeId} (D : List.Nodup [c1, c2, c3, b1, b2, b3]) (E : List.Nodup [i1, i2, i3, j1, j2, j3]) (hf : j2 < m) (hl : j2 < L.size) (h : BoxI a0 w0 S c1 c2 c3 b1 b2 b3 i1 i2 i3 j1 j2 j3 m Q1 Q2 Q3 L a w) (hS : S w') (hw : w' = w.alloc (.cells #[.pointer none] t)) :
    BoxI a0 w0 S c1 c2 c3 b1 b2 b3 i1 i2 i3 j1 j2 j3 m Q1 Q2 Q3 (L.setIfInBounds j2 true) (a.put (some b2) (.pointer (some ⟨w.heap.size, 0, none⟩))) w' := by
  obtain ⟨v1, v2, v3, y1, y2, y3, rfl, hS0, bel, g1, g2, g3, k1, k2, k3, d12, d13, d23, ho, hz⟩ := h
  subst hw
  have st : Below w.heap.size w (w.alloc (.cells #[.pointer none] t)) := (Below.refl _ w).alloc (Nat.le_refl _) _
  have n0 : c1 ≠ b2 := by rintro rfl; simp at D
  have m0 : j2 ≠ i1 := by rintro rfl; simp at E
  have n1 : c2 ≠ b2 := by rintro rfl; simp at D
  have m1 : j2 ≠ i2 := by rintro rfl; simp at E
  have n2 : c3 ≠ b2 := by rintro rfl; simp at D
  have m2 : j2 ≠ i3 := by rintro rfl; simp at E
  have n3 : b1 ≠ b2 := by rintro rfl; simp at D
  have m3 : j2 ≠ j1 := by rintro rfl; simp at E
  have n5 : b3 ≠ b2 := by rintro rfl; simp at D
  have m5 : j2 ≠ j3 := by rintro rfl; simp at E
  exact ⟨v1, v2, v3, y1, (.pointer (some ⟨w.heap.size, 0, none⟩)), y3, by rw [put_comm' _ n5, put_same'], hS, bel.trans (st.mono bel.size), (fun e => (g1 (fls e m0)).grow st), (fun e => (g2 (fls e m1)).grow st), (fun e => (g3 (fls e m2)).grow st), (fun e => (k1 (fls e m3)).grow st), (fun _ => BoxS.new t bel.size), (fun e => (k3 (fls e m5)).grow st), (fun e _ => (k1 (fls e m3)).ne), (fun e e2 => d13 (fls e m3) (fls e2 m5)), (fun _ e => Ne.symm (k3 (fls e m5)).ne), (fun j hj x0 x1 x2 x3 x4 x5 => by rw [fl_other (Ne.symm x4)]; exact ho j hj x0 x1 x2 x3 x4 x5), (fun j hj => by rw [fl_other (by omega)]; exact hz j hj)⟩
theorem BoxI.box3 {t : TypeId} (D : List.Nodup [c1, c2, c3, b1, b2, b3]) (E : List.Nodup [i1, i2, i3, j1, j2, j3]) (hf : j3 < m) (hl : j3 < L.size) (h : BoxI a0 w0 S c1 c2 c3 b1 b2 b3 i1 i2 i3 j1 j2 j3 m Q1 Q2 Q3 L a w) (hS : S w') (hw : w' = w.alloc (.cells #[.pointer none] t)) :
    BoxI a0 w0 S c1 c2 c3 b1 b2 b3 i1 i2 i3 j1 j2 j3 m Q1 Q2 Q3 (L.setIfInBounds j3 true) (a.put (some b3) (.pointer (some ⟨w.heap.size, 0, none⟩))) w' := by
  obtain ⟨v1, v2, v3, y1, y2, y3, rfl, hS0, bel, g1, g2, g3, k1, k2, k3, d12, d13, d23, ho, hz⟩ := h
  subst hw
  have st : Below w.heap.size w (w.alloc (.cells #[.pointer none] t)) := (Below.refl _ w).alloc (Nat.le_refl _) _
  have n0 : c1 ≠ b3 := by rintro rfl; simp at D
  have m0 : j3 ≠ i1 := by rintro rfl; simp at E
  have n1 : c2 ≠ b3 := by rintro rfl; simp at D
  have m1 : j3 ≠ i2 := by rintro rfl; simp at E
  have n2 : c3 ≠ b3 := by rintro rfl; simp at D
  have m2 : j3 ≠ i3 := by rintro rfl; simp at E
  have n3 : b1 ≠ b3 := by rintro rfl; simp at D
  have m3 : j3 ≠ j1 := by rintro rfl; simp at E
  have n4 : b2 ≠ b3 := by rintro rfl; simp at D
  have m4 : j3 ≠ j2 := by rintro rfl; simp at E
  exact ⟨v1, v2, v3, y1, y2, (.pointer (some ⟨w.heap.size, 0, none⟩)), by rw [put_same'], hS, bel.trans (st.mono bel.size), (fun e => (g1 (fls e m0)).grow st), (fun e => (g2 (fls e m1)).grow st), (fun e => (g3 (fls e m2)).grow st), (fun e => (k1 (fls e m3)).grow st), (fun e => (k2 (fls e m4)).grow st), (fun _ => BoxS.new t bel.size), (fun e e2 => d12 (fls e m3) (fls e2 m4)), (fun e _ => (k1 (fls e m3)).ne), (fun e _ => (k2 (fls e m4)).ne), (fun j hj x0 x1 x2 x3 x4 x5 => by rw [fl_other (Ne.symm x5)]; exact ho j hj x0 x1 x2 x3 x4 x5), (fun j hj => by rw [fl_other (by omega)]; exact hz j hj)⟩
end
-- I6


section
variable {P : Program} {ops : Array Oper} {Q : Exit → Act → World → Prop} {md : Region.Mode} {S : World → Prop} {n : Nat}
theorem wpAnyG_box {fuel : Nat} {listed Lend : Array Bool} {a : Act} {w0 w : World} {c1 c2 c3 b1 b2 b3 i1 i2 i3 j1 j2 j3 m : Nat} {Q1 Q2 Q3 : Tr Int Value → Prop} (ht : topoB ops = true) (hs : listed.size = ops.size) (hcl : closedB md ops listed = true) (hu : unl listed ≤ fuel)
    (D : List.Nodup [c1, c2, c3, b1, b2, b3]) (E : List.Nodup [i1, i2, i3, j1, j2, j3]) (M : i1 < m ∧ i2 < m ∧ i3 < m ∧ j1 < m ∧ j2 < m ∧ j3 < m ∧ m ≤ ops.size)
    (T : tailB md ops m i1 = true ∧ tailB md ops m i2 = true ∧ tailB md ops m i3 = true ∧ tailB md ops m j1 = true ∧ tailB md ops m j2 = true ∧ tailB md ops m j3 = true)
    (hput : ((((((a.put (some c1) undef).put (some c2) undef).put (some c3) undef).put (some b1) undef).put (some b2) undef).put (some b3) undef) = a) (hS : S w) (hB : Below w0.heap.size w0 w)
    (hfl : listed.getD i1 false = false ∧ listed.getD i2 false = false ∧ listed.getD i3 false = false ∧ listed.getD j1 false = false ∧ listed.getD j2 false = false ∧ listed.getD j3 false = false)
    (ho : ∀ j, j < m → j ≠ i1 → j ≠ i2 → j ≠ i3 → j ≠ j1 → j ≠ j2 → j ≠ j3 → listed.getD j false = true) (hz : ∀ j, m ≤ j → listed.getD j false = false)
    (hLs : Lend.size = ops.size) (hLm : ∀ j, j < ops.size → Lend.getD j false = decide (j < m))
    (K1 : ∀ v1 v2 v3 y1 y2 y3 w', Below w0.heap.size w0 w' → S w' → ∀ o, ops[i1]? = some o → ∀ K' : Act → World → Prop, Shut (∀ v w'', Below w'.heap.size w' w'' → S w'' → MapS Q1 v w'' → K' (((((((a.put (some c1) v1).put (some c2) v2).put (some c3) v3).put (some b1) y1).put (some b2) y2).put (some b3) y3).put (some c1) v) w'') →
      if Region.wanted o (yielded ops ((((((a.put (some c1) v1).put (some c2) v2).put (some c3) v3).put (some b1) y1).put (some b2) y2).put (some b3) y3).tmps) = true then Oper.wp P o ((((((a.put (some c1) v1).put (some c2) v2).put (some c3) v3).put (some b1) y1).put (some b2) y2).put (some b3) y3) w' K' Q else K' (((((((a.put (some c1) v1).put (some c2) v2).put (some c3) v3).put (some b1) y1).put (some b2) y2).put (some b3) y3).put o.dst undef) w')
    (K2 : ∀ v1 v2 v3 y1 y2 y3 w', Below w0.heap.size w0 w' → S w' → ∀ o, ops[i2]? = some o → ∀ K' : Act → World → Prop, Shut (∀ v w'', Below w'.heap.size w' w'' → S w'' → MapS Q2 v w'' → K' (((((((a.put (some c1) v1).put (some c2) v2).put (some c3) v3).put (some b1) y1).put (some b2) y2).put (some b3) y3).put (some c2) v) w'') →
      if Region.wanted o (yielded ops ((((((a.put (some c1) v1).put (some c2) v2).put (some c3) v3).put (some b1) y1).put (some b2) y2).put (some b3) y3).tmps) = true then Oper.wp P o ((((((a.put (some c1) v1).put (some c2) v2).put (some c3) v3).put (some b1) y1).put (some b2) y2).put (some b3) y3) w' K' Q else K' (((((((a.put (some c1) v1).put (some c2) v2).put (some c3) v3).put (some b1) y1).put (some b2) y2).put (some b3) y3).put o.dst undef) w')
    (K3 : ∀ v1 v2 v3 y1 y2 y3 w', Below w0.heap.size w0 w' → S w' → ∀ o, ops[i3]? = some o → ∀ K' : Act → World → Prop, Shut (∀ v w'', Below w'.heap.size w' w'' → S w'' → MapS Q3 v w'' → K' (((((((a.put (some c1) v1).put (some c2) v2).put (some c3) v3).put (some b1) y1).put (some b2) y2).put (some b3) y3).put (some c3) v) w'') →
      if Region.wanted o (yielded ops ((((((a.put (some c1) v1).put (some c2) v2).put (some c3) v3).put (some b1) y1).put (some b2) y2).put (some b3) y3).tmps) = true then Oper.wp P o ((((((a.put (some c1) v1).put (some c2) v2).put (some c3) v3).put (some b1) y1).put (some b2) y2).put (some b3) y3) w' K' Q else K' (((((((a.put (some c1) v1).put (some c2) v2).put (some c3) v3).put (some b1) y1).put (some b2) y2).put (some b3) y3).put o.dst undef) w')
    (A1 : ∀ v1 v2 v3 y1 y2 y3 w', S w' → ∀ o, ops[j1]? = some o → ∀ K' : Act → World → Prop, Shut (∀ t, S (w'.alloc (.cells #[.pointer none] t)) → K' (((((((a.put (some c1) v1).put (some c2) v2).put (some c3) v3).put (some b1) y1).put (some b2) y2).put (some b3) y3).put (some b1) (.pointer (some ⟨w'.heap.size, 0, none⟩))) (w'.alloc (.cells #[.pointer none] t))) →
      if Region.wanted o (yielded ops ((((((a.put (some c1) v1).put (some c2) v2).put (some c3) v3).put (some b1) y1).put (some b2) y2).put (some b3) y3).tmps) = true then Oper.wp P o ((((((a.put (some c1) v1).put (some c2) v2).put (some c3) v3).put (some b1) y1).put (some b2) y2).put (some b3) y3) w' K' Q else K' (((((((a.put (some c1) v1).put (some c2) v2).put (some c3) v3).put (some b1) y1).put (some b2) y2).put (some b3) y3).put o.dst undef) w')
    (A2 : ∀ v1 v2 v3 y1 y2 y3 w', S w' → ∀ o, ops[j2]? = some o → ∀ K' : Act → World → Prop, Shut (∀ t, S (w'.alloc (.cells #[.pointer none] t)) → K' (((((((a.put (some c1) v1).put (some c2) v2).put (some c3) v3).put (some b1) y1).put (some b2) y2).put (some b3) y3).put (some b2) (.pointer (some ⟨w'.heap.size, 0, none⟩))) (w'.alloc (.cells #[.pointer none] t))) →
      if Region.wanted o (yielded ops ((((((a.put (some c1) v1).put (some c2) v2).put (some c3) v3).put (some b1) y1).put (some b2) y2).put (some b3) y3).tmps) = true then Oper.wp P o ((((((a.put (some c1) v1).put (some c2) v2).put (some c3) v3).put (some b1) y1).put (some b2) y2).put (some b3) y3) w' K' Q else K' (((((((a.put (some c1) v1).put (some c2) v2).put (some c3) v3).put (some b1) y1).put (some b2) y2).put (some b3) y3).put o.dst undef) w')
    (A3 : ∀ v1 v2 v3 y1 y2 y3 w', S w' → ∀ o, ops[j3]? = some o → ∀ K' : Act → World → Prop, Shut (∀ t, S (w'.alloc (.cells #[.pointer none] t)) → K' (((((((a.put (some c1) v1).put (some c2) v2).put (some c3) v3).put (some b1) y1).put (some b2) y2).put (some b3) y3).put (some b3) (.pointer (some ⟨w'.heap.size, 0, none⟩))) (w'.alloc (.cells #[.pointer none] t))) →
      if Region.wanted o (yielded ops ((((((a.put (some c1) v1).put (some c2) v2).put (some c3) v3).put (some b1) y1).put (some b2) y2).put (some b3) y3).tmps) = true then Oper.wp P o ((((((a.put (some c1) v1).put (some c2) v2).put (some c3) v3).put (some b1) y1).put (some b2) y2).put (some b3) y3) w' K' Q else K' (((((((a.put (some c1) v1).put (some c2) v2).put (some c3) v3).put (some b1) y1).put (some b2) y2).put (some b3) y3).put o.dst undef) w')
    (hend : ∀ B1 B2 B3 q1 q2 q3 t1 t2 t3 w', Below w0.heap.size w0 w' → S w' → At w' q1 t1 → At w' q2 t2 → At w' q3 t3 → Q1 t1 → Q2 t2 → Q3 t3 → w0.heap.size ≤ B1 → w0.heap.size ≤ B2 → w0.heap.size ≤ B3 →
      w'.cell? ⟨B1, 0, none⟩ = some (.pointer none) → w'.cell? ⟨B2, 0, none⟩ = some (.pointer none) → w'.cell? ⟨B3, 0, none⟩ = some (.pointer none) → w'.frozen? ⟨B1, 0, none⟩ = false → w'.frozen? ⟨B2, 0, none⟩ = false → w'.frozen? ⟨B3, 0, none⟩ = false → ¬ B1 = B2 → ¬ B1 = B3 → ¬ B2 = B3 →
      ∀ f, unl Lend ≤ f → wpAnyG P md ops Q S n f Lend ((((((a.put (some c1) (.agg #[.pointer q1])).put (some c2) (.agg #[.pointer q2])).put (some c3) (.agg #[.pointer q3])).put (some b1) (.pointer (some ⟨B1, 0, none⟩))).put (some b2) (.pointer (some ⟨B2, 0, none⟩))).put (some b3) (.pointer (some ⟨B3, 0, none⟩))) w') :
    wpAnyG P md ops Q S n fuel listed a w := by
  obtain ⟨M1, M2, M3, M4, M5, M6, M7⟩ := M
  refine wpAnyG_inv ht (BoxI a w0 S c1 c2 c3 b1 b2 b3 i1 i2 i3 j1 j2 j3 m Q1 Q2 Q3) (fun L => ∀ j, j < m → L.getD j false = true) ?hIS ?hstop ?hstep ?hend fuel listed a w hs (closedB_spec hcl) hu ?hinit
  case hIS => intro L a w h; obtain ⟨v1, v2, v3, y1, y2, y3, -, h, -⟩ := h; exact h
  case hstop => intro L h e j hj; exact getD_bool (h j) (by omega)
  case hinit =>
    exact ⟨undef, undef, undef, undef, undef, undef, hput.symm, hS, hB, (fun h => absurd h (by rw [hfl.1]; decide)), (fun h => absurd h (by rw [hfl.2.1]; decide)), (fun h => absurd h (by rw [hfl.2.2.1]; decide)), (fun h => absurd h (by rw [hfl.2.2.2.1]; decide)), (fun h => absurd h (by rw [hfl.2.2.2.2.1]; decide)), (fun h => absurd h (by rw [hfl.2.2.2.2.2]; decide)),
      (fun h => absurd h (by rw [hfl.2.2.2.1]; decide)), (fun h => absurd h (by rw [hfl.2.2.2.1]; decide)), (fun h => absurd h (by rw [hfl.2.2.2.2.1]; decide)), ho, hz⟩
  case hend =>
    intro f L a' w' hL hc hI hst hu'
    obtain ⟨v1, v2, v3, y1, y2, y3, rfl, h, bel, g1, g2, g3, k1, k2, k3, d12, d13, d23, -, z⟩ := hI
    obtain ⟨q1, t1, rfl, a1, r1⟩ := g1 (hst _ M1)
    obtain ⟨q2, t2, rfl, a2, r2⟩ := g2 (hst _ M2)
    obtain ⟨q3, t3, rfl, a3, r3⟩ := g3 (hst _ M3)
    obtain ⟨B1, rfl, z1, e1, f1⟩ := k1 (hst _ M4)
    obtain ⟨B2, rfl, z2, e2, f2⟩ := k2 (hst _ M5)
    obtain ⟨B3, rfl, z3, e3, f3⟩ := k3 (hst _ M6)
    have n12 := d12 (hst _ M4) (hst _ M5)
    have n13 := d13 (hst _ M4) (hst _ M6)
    have n23 := d23 (hst _ M5) (hst _ M6)
    have hLL : L = Lend := by
      refine Array.ext (by omega) fun j x1 x2 => ?_
      have e : L.getD j false = L[j] := by simp [Array.getD, x1]
      have e' : Lend.getD j false = Lend[j] := by simp [Array.getD, x2]
      rw [← e, ← e', hLm j (by omega)]
      by_cases c : j < m
      · rw [hst j c]; simp [c]
      · rw [z j (by omega)]; simp [c]
    subst hLL
    exact hend B1 B2 B3 q1 q2 q3 t1 t2 t3 w' bel h a1 a2 a3 r1 r2 r3 z1 z2 z3 e1 e2 e3 f1 f2 f3 (by simpa using n12) (by simpa using n13) (by simpa using n23) f hu'
  case hstep =>
    intro L a' w' hL hc hI hst i o hoo hun hall K' hK
    have hi : i < ops.size := (Array.getElem?_eq_some_iff.1 hoo).1
    have hh := hI
    obtain ⟨v1, v2, v3, y1, y2, y3, rfl, h, bel, g1, g2, g3, k1, k2, k3, d12, d13, d23, oo, z⟩ := hh
    by_cases x0 : i = i1
    · subst x0
      exact K1 _ _ _ _ _ _ _ bel h _ hoo K' (fun v w'' st s' mm => hK.out _ _ (hI.call1 D E M1 (by omega) s' st mm))
    by_cases x1 : i = i2
    · subst x1
      exact K2 _ _ _ _ _ _ _ bel h _ hoo K' (fun v w'' st s' mm => hK.out _ _ (hI.call2 D E M2 (by omega) s' st mm))
    by_cases x2 : i = i3
    · subst x2
      exact K3 _ _ _ _ _ _ _ bel h _ hoo K' (fun v w'' st s' mm => hK.out _ _ (hI.call3 D E M3 (by omega) s' st mm))
    by_cases x3 : i = j1
    · subst x3
      exact A1 _ _ _ _ _ _ _ h _ hoo K' (fun t s' => hK.out _ _ (hI.box1 D E M4 (by omega) s' rfl))
    by_cases x4 : i = j2
    · subst x4
      exact A2 _ _ _ _ _ _ _ h _ hoo K' (fun t s' => hK.out _ _ (hI.box2 D E M5 (by omega) s' rfl))
    by_cases x5 : i = j3
    · subst x5
      exact A3 _ _ _ _ _ _ _ h _ hoo K' (fun t s' => hK.out _ _ (hI.box3 D E M6 (by omega) s' rfl))
    exfalso
    by_cases c : i < m
    · rw [show L.getD i true = L.getD i false by simp [Array.getD, hL, hi]] at hun; rw [oo i c x0 x1 x2 x3 x4 x5] at hun; cases hun
    · have hr : i ∈ Region.ready md ops L := mem_ready.2 ⟨hun, o, hoo, hall⟩
      have key : ∀ j, tailB md ops m j = true → L.getD j false = true := fun j hj => by
        cases hb : L.getD j false with
        | true => rfl
        | false => exact absurd (tail_not hc hj hb i hr) c
      obtain ⟨T1, T2, T3, T4, T5, T6⟩ := T
      apply hst
      intro j hj
      by_cases y0 : j = i1
      · rw [y0]; exact key _ T1
      by_cases y1 : j = i2
      · rw [y1]; exact key _ T2
      by_cases y2 : j = i3
      · rw [y2]; exact key _ T3
      by_cases y3 : j = j1
      · rw [y3]; exact key _ T4
      by_cases y4 : j = j2
      · rw [y4]; exact key _ T5
      by_cases y5 : j = j3
      · rw [y5]; exact key _ T6
      exact oo j hj y0 y1 y2 y3 y4 y5
end
-- I7


section
variable {P : Program} {ops : Array Oper} {Q : Exit → Act → World → Prop} {md : Region.Mode} {S : World → Prop} {n : Nat}
theorem wpAnyG_take2 {i d : Nat} {oi : Oper} {v : Value} {fuel : Nat} {listed : Array Bool} {T : Array Value} {df : List Deferred} {w : World} (hi : ops[i]? = some oi) (hd : oi.dst = some d)
    (hs : Region.noSelect ops = true) (hf : Region.free md ops listed i = true) (hr : (Region.ready md ops listed).contains i = true) (hT : tailB md ops n i = true) (hcl : closedB md ops listed = true) (hin : i < n)
    (hQ : ∀ c a w, Q (.panic c) (a.put oi.dst v) w → Q (.panic c) a w) (hw : Region.wanted oi (yielded ops T) = true) (hy : ∀ w, S w → (execOp (Act.mk T df).eval oi).run P w = .ok (.value v) w) (hS : S w)
    (h : wpAnyG P md ops Q S n fuel (listed.setIfInBounds i true) ⟨T.setIfInBounds d v, df⟩ w) : wpAnyG P md ops Q S n (fuel + 1) listed ⟨T, df⟩ w := by
  refine wpAnyG_take hi hs hf hr hT hcl hin hQ hw hy hS ?_
  rw [hd]; exact h
end
end Go.Proofs.Ytbphmcjjanchlaa
