/- Classing's lines: the memory of the reference's line. -/
import Derived.Test.YtmdhmpfagekonaaLF
import Derived.Test.YtmdhmpfagekonaaLD
import Derived.Test.YtmdhmpfagekonaaCE4
import Derived.Test.YtmdhmpfagekonaaLI
/- Classing's lines: the memory of the reference's line. -/
namespace Go.Proofs.Ytmdhmpfagekonaa
open Go.RowKit Go.Proofs.Ytmdhmpfagekonaa.Ct Go.Proofs.Ytmdhmpfagekonaa.Ce Go.Proofs.Ytmdhmpfagekonaa.Stb
set_option linter.unusedVariables false
set_option linter.unusedSimpArgs false

theorem cell_alJ {W : World} {a : Addr} {x : Value} (o : Obj) (h : W.cell? a = some x) : (W.alloc o).cell? a = some x := cellGr ((Below.refl _ _).alloc (Nat.le_refl _) o) h
def lnC (s : Fl) (v : Value) (gr ce co : Int) (k : Nat) : Value := if k = 0 then .int .u8 s.ka else if k = 1 then .int .u8 s.kb else if k = 2 then .int .u8 s.kc else if k = 3 then .int .u8 s.kd else if k = 4 then v else if k = 5 then .int .i64 gr else if k = 6 then .int .i64 ce else .int .i64 co
/-- A line by value. -/
def lnV (s : Fl) (v : Value) (gr ce co : Int) : Value := .agg #[.int .u8 s.ka, .int .u8 s.kb, .int .u8 s.kc, .int .u8 s.kd, v, .int .i64 gr, .int .i64 ce, .int .i64 co]
def lnZ : Value := .agg #[.int .u8 0, .int .u8 0, .int .u8 0, .int .u8 0, .slice none 0 0, .int .i64 0, .int .i64 0, .int .i64 0]
/-- The memory of a line that is being made: the rules' box, the answer's, the line's. -/
structure LnM (w : World) (ls le sp : Int) (gx : Nat) (s : Fl) (v : Value) (gr ce co : Int) (W : World) : Prop where
  sx : OB W w.heap.size 24 3 (spC ls le sp)
  rx : OB W (w.heap.size + 1) 38 8 (lnC fl0 (.slice none 0 0) 0 0 0)
  xx : OB W gx 38 8 (lnC s v gr ce co)
  lo : w.heap.size + 2 ≤ gx
  bl : Below w.heap.size w W
section
variable {w : World} {ls le sp : Int} {gx : Nat} {s : Fl} {v : Value} {gr ce co : Int} {W W' : World}
theorem LnM.call (h : LnM w ls le sp gx s v gr ce co W) (b : Below W.heap.size W W') : LnM w ls le sp gx s v gr ce co W' :=
  ⟨h.sx.below b, h.rx.below b, h.xx.below b, h.lo, h.bl.trans (b.mono h.bl.size)⟩
theorem LnM.set (h : LnM w ls le sp gx s v gr ce co W) (k : Nat) (x : Value) {s' : Fl} {v' : Value} {gr' ce' co' : Int} (e : ∀ j, j < 8 → (if j = k then x else lnC s v gr ce co j) = lnC s' v' gr' ce' co' j) : LnM w ls le sp gx s' v' gr' ce' co' (W.setCell ⟨gx, k, none⟩ x) := by
  have f : Fm (fun q => q = gx) W (W.setCell ⟨gx, k, none⟩ x) := Fm.set _ _ rfl
  have := h.lo
  exact ⟨h.sx.fm f (by omega), h.rx.fm f (by omega), (h.xx.set k x).ext fun j hj => by unfold updV; exact e j hj, h.lo, fm_below h.bl f (by omega) h.xx.lt⟩
theorem LnM.set4 (h : LnM w ls le sp gx s v gr ce co W) (x : Value) : LnM w ls le sp gx s x gr ce co (W.setCell ⟨gx, 4, none⟩ x) := h.set 4 x fun j hj => by
  rcases (show j = 0 ∨ j = 1 ∨ j = 2 ∨ j = 3 ∨ j = 4 ∨ j = 5 ∨ j = 6 ∨ j = 7 by omega) with rfl | rfl | rfl | rfl | rfl | rfl | rfl | rfl <;> rfl
theorem LnM.set5 (h : LnM w ls le sp gx s v gr ce co W) (x : Int) : LnM w ls le sp gx s v x ce co (W.setCell ⟨gx, 5, none⟩ (.int .i64 x)) := h.set 5 _ fun j hj => by
  rcases (show j = 0 ∨ j = 1 ∨ j = 2 ∨ j = 3 ∨ j = 4 ∨ j = 5 ∨ j = 6 ∨ j = 7 by omega) with rfl | rfl | rfl | rfl | rfl | rfl | rfl | rfl <;> rfl
theorem LnM.set6 (h : LnM w ls le sp gx s v gr ce co W) (x : Int) : LnM w ls le sp gx s v gr x co (W.setCell ⟨gx, 6, none⟩ (.int .i64 x)) := h.set 6 _ fun j hj => by
  rcases (show j = 0 ∨ j = 1 ∨ j = 2 ∨ j = 3 ∨ j = 4 ∨ j = 5 ∨ j = 6 ∨ j = 7 by omega) with rfl | rfl | rfl | rfl | rfl | rfl | rfl | rfl <;> rfl
theorem LnM.set7 (h : LnM w ls le sp gx s v gr ce co W) (x : Int) : LnM w ls le sp gx s v gr ce x (W.setCell ⟨gx, 7, none⟩ (.int .i64 x)) := h.set 7 _ fun j hj => by
  rcases (show j = 0 ∨ j = 1 ∨ j = 2 ∨ j = 3 ∨ j = 4 ∨ j = 5 ∨ j = 6 ∨ j = 7 by omega) with rfl | rfl | rfl | rfl | rfl | rfl | rfl | rfl <;> rfl
theorem LnM.grown (h : LnM w ls le sp gx s v gr ce co W) {o : Obj} {r : Option Nat} (g : (W.alloc o).grownBy W' r) (hr : ∀ k, r = some k → gx < k) : LnM w ls le sp gx s v gr ce co W' := by
  have h1 := h.call ((Below.refl _ W).alloc (Nat.le_refl _) o)
  have lo := h.lo
  have s1 := h.xx.lt
  have B : Below (gx + 1) W W' := ((Below.refl _ W).alloc (by omega) o).grown g (by simp; omega) (fun k e => by have := hr k e; omega)
  exact ⟨h.sx.keep (B.block _ (by omega)), h.rx.keep (B.block _ (by omega)), h.xx.keep (B.block _ (by omega)), h.lo, h.bl.trans (B.mono (by omega))⟩
end
theorem rowKeep {w w' : World} {base : Nat} {e : TypeId} {s : Nat} {v : Value} {n : Nat} {xs : List Value} {g k : Nat} {x : Value} (h : w.ownsRow base e s v n xs) (hg : g < base) (hw : w' = w.setCell ⟨g, k, none⟩ x) : w'.ownsRow base e s v n xs := by
  subst hw
  refine ⟨h.1, ?_⟩
  rcases h.2 with h0 | ⟨q, cap, cur, rfl, hb, hq, r⟩
  · exact .inl h0
  · exact .inr ⟨q, cap, cur, rfl, hb, by rw [Below.heap_setCell _ _ _ _ (by show q ≠ g; omega)]; exact hq, r⟩
theorem lnSize : (Try.prog.info? 38).map (·.size) = some (#[Value.int .i64 0, .int .i64 0, .int .i64 0, .int .i64 0, .int .i64 0, .int .i64 0, .int .i64 0, .int .i64 0] : Array Value).size := by kernel_rfl
theorem row_snoc {W : World} {b : Nat} {v : Value} {k : Nat} {f : Nat → Int} (h : W.ownsRow b 3 1 v (k + 1) (((List.range k).map fun q => Value.int .i64 (f q)) ++ [.int .i64 (f k)])) : W.ownsRow b 3 1 v (k + 1) ((List.range (k + 1)).map fun q => Value.int .i64 (f q)) := by
  rw [List.range_succ, List.map_append]
  exact h
def setZ (W : World) (b : Nat) : World := (((((((W.setCell ⟨b, 0, none⟩ (.int .u8 0)).setCell ⟨b, 1, none⟩ (.int .u8 0)).setCell ⟨b, 2, none⟩ (.int .u8 0)).setCell ⟨b, 3, none⟩ (.int .u8 0)).setCell ⟨b, 4, none⟩ (.slice none 0 0)).setCell ⟨b, 5, none⟩ (.int .i64 0)).setCell ⟨b, 6, none⟩ (.int .i64 0)).setCell ⟨b, 7, none⟩ (.int .i64 0)
theorem rz_all {W : World} {b : Nat} (h : OB W b 38 8 (lnC fl0 (.slice none 0 0) 0 0 0)) : (setZ W b).heap[b]? = some (.cells #[.int .u8 0, .int .u8 0, .int .u8 0, .int .u8 0, .slice none 0 0, .int .i64 0, .int .i64 0, .int .i64 0] 38 (0, 0)) :=
  (((((((h.set 0 (.int .u8 0)).set 1 (.int .u8 0)).set 2 (.int .u8 0)).set 3 (.int .u8 0)).set 4 (.slice none 0 0)).set 5 (.int .i64 0)).set 6 (.int .i64 0)).set 7 (.int .i64 0)
theorem bz_all {w W : World} (h : Below w.heap.size w W) (hb : w.heap.size + 1 < W.heap.size) : Below w.heap.size w (setZ W (w.heap.size + 1)) := by
  have f : ∀ (W : World) (k : Nat) (v : Value), Fm (fun q => q = w.heap.size + 1) W (W.setCell ⟨w.heap.size + 1, k, none⟩ v) := fun W k v => Fm.set _ _ rfl
  have g : Fm (fun q => q = w.heap.size + 1) W (setZ W (w.heap.size + 1)) := by
    unfold setZ
    exact (((((((f _ _ _).trans (f _ _ _)).trans (f _ _ _)).trans (f _ _ _)).trans (f _ _ _)).trans (f _ _ _)).trans (f _ _ _)).trans (f _ _ _)
  exact fm_below h g (by omega) hb
theorem results_ln {tmps : Array Value} {W : World} {b : Nat} {cs : Array Value} (h : tmps.getD 10 undef = .pointer (some ⟨b, 0, none⟩)) (hg : W.heap[b]? = some (.cells cs 38 (0, 0))) (hs : cs.size = 8) :
    (results Try.f31 tmps).run Try.prog W = .ok (.tuple #[.agg cs, tmps.getD 11 undef]) W := by
  rw [results_cell_tmp (p := 10) (u := 11) (ty := 38) rfl tmps Try.prog W, h]
  have := run_loadVar_row W b 38 38 cs (0, 0) _ hg Try.underlying38 rfl (by rw [hs]; exact lnSize)
  simp only [asAddr, Sem.run_pure, Result.andThen, this]
theorem rowFm {w w' : World} {base : Nat} {e : TypeId} {s : Nat} {v : Value} {n : Nat} {xs : List Value} {g : Nat} (h : w.ownsRow base e s v n xs) (f : Fm (fun q => q = g) w w') (hg : g < base) : w'.ownsRow base e s v n xs := by
  refine ⟨h.1, ?_⟩
  rcases h.2 with h0 | ⟨q, cap, cur, rfl, hb, hq, r⟩
  · exact .inl h0
  · exact .inr ⟨q, cap, cur, rfl, hb, by rw [f.block q (Array.getElem?_eq_some_iff.1 hq).1 (by omega)]; exact hq, r⟩
theorem row_nm {W : World} {b k : Nat} {v : Value} {f : Nat → Int} (h : W.ownsRow b 3 1 v k ((List.range k).map fun q => Value.int .i64 (f q))) : ∃ p c, v = .slice p k c ∧ NmR W p k f ∧ ∀ x, p = some x → b ≤ x.block := by
  rcases h.2 with ⟨rfl, h0⟩ | ⟨g, cap, cur, rfl, hb, hg, hn, _, hs, ht⟩
  · exact ⟨none, 0, by rw [h0], fun i hi => by omega, fun x e => by cases e⟩
  · refine ⟨_, _, rfl, fun i hi => ⟨⟨g, 0, none⟩, rfl, (Array.getElem?_eq_some_iff.1 hg).1, ?_⟩, fun x e => by cases e; exact hb⟩
    rw [add0]
    have e : ((List.range k).map fun q => Value.int .i64 (f q))[i]? = some (.int .i64 (f i)) := by simp [hi]
    rw [show W.cell? ⟨g, i, none⟩ = cur[i]? from by simp [World.cell?, hg]]
    rw [← e, ← ht, List.getElem?_take_of_lt (by omega)]; simp
/-- A whole line stored. -/
def setL (W : World) (b : Nat) (s : Fl) (v : Value) (gr ce co : Int) : World := (((((((W.setCell ⟨b, 0, none⟩ (.int .u8 s.ka)).setCell ⟨b, 1, none⟩ (.int .u8 s.kb)).setCell ⟨b, 2, none⟩ (.int .u8 s.kc)).setCell ⟨b, 3, none⟩ (.int .u8 s.kd)).setCell ⟨b, 4, none⟩ v).setCell ⟨b, 5, none⟩ (.int .i64 gr)).setCell ⟨b, 6, none⟩ (.int .i64 ce)).setCell ⟨b, 7, none⟩ (.int .i64 co)
theorem rl_all {W : World} {b : Nat} (h : OB W b 38 8 (lnC fl0 (.slice none 0 0) 0 0 0)) (s : Fl) (v : Value) (gr ce co : Int) : (setL W b s v gr ce co).heap[b]? = some (.cells #[.int .u8 s.ka, .int .u8 s.kb, .int .u8 s.kc, .int .u8 s.kd, v, .int .i64 gr, .int .i64 ce, .int .i64 co] 38 (0, 0)) :=
  (((((((h.set 0 (.int .u8 s.ka)).set 1 (.int .u8 s.kb)).set 2 (.int .u8 s.kc)).set 3 (.int .u8 s.kd)).set 4 v).set 5 (.int .i64 gr)).set 6 (.int .i64 ce)).set 7 (.int .i64 co)
theorem fm_setL (W : World) (b : Nat) (s : Fl) (v : Value) (gr ce co : Int) : Fm (fun q => q = b) W (setL W b s v gr ce co) := by
  have f : ∀ (W : World) (k : Nat) (v : Value), Fm (fun q => q = b) W (W.setCell ⟨b, k, none⟩ v) := fun W k v => Fm.set _ _ rfl
  unfold setL
  exact (((((((f _ _ _).trans (f _ _ _)).trans (f _ _ _)).trans (f _ _ _)).trans (f _ _ _)).trans (f _ _ _)).trans (f _ _ _)).trans (f _ _ _)
/-- What line answers. -/
def LnQ (A : Nat → Fl) (o : Nat → Int) (le sp : Int) (i j : Nat) (w : World) (e : Ending) (w' : World) : Prop :=
  (isLine A le sp i j ∧ (∃ q d, e = .returned (.tuple #[lnV (A i) (.slice q (j - i) d) (mas A i j) (cen A i j) (offs A (cen A i j) i j), .bool true]) ∧ NmR w' q (j - i) (fun k => o (i + k)) ∧ ∀ x, q = some x → w.heap.size ≤ x.block) ∧ Below w.heap.size w w')
  ∨ (¬ isLine A le sp i j ∧ e = .returned (.tuple #[lnZ, .bool false]) ∧ Below w.heap.size w w')
end Go.Proofs.Ytmdhmpfagekonaa
