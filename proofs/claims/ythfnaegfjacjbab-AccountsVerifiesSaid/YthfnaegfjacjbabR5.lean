/- The reference's rows: whole, Of, addD, subD. -/
import Derived.Test.YthfnaegfjacjbabR4
namespace Go.Proofs.Ythfnaegfjacjbab
open Go.RowKit
set_option linter.unusedVariables false
set_option linter.unusedSimpArgs false

theorem RowR.setCell {w : World} {p : Option Addr} {l : List Int} (r : RowR w p l) {q : Addr} (h : ∀ a, p = some a → a.block ≠ q.block) (v : Value) : RowR (w.setCell q v) p l := fun i hi => by
  obtain ⟨g, e, k, c⟩ := r i hi
  refine ⟨g, e, by simpa [World.setCell] using k, ?_⟩
  rw [World.cell?_setCell_other _ _ _ _ (fun e2 => h _ e (by subst e2; rfl))]
  exact c

/-- The reference's whole number x. -/
structure BigR (n : Nat) (w : World) (p : Option Addr) (l : List Int) (x : Int) : Prop where
  can : Can l x.natAbs
  size : l.length ≤ n
  row : RowR w p l
theorem BigR.below {n : Nat} {w w' : World} {p : Option Addr} {l : List Int} {x : Int} (r : BigR n w p l x) (hb : Below w.heap.size w w') : BigR n w' p l x := ⟨r.can, r.size, r.row.below hb⟩
theorem BigR.more {n m : Nat} {w : World} {p : Option Addr} {l : List Int} {x : Int} (r : BigR n w p l x) (h : n ≤ m) : BigR m w p l x := ⟨r.can, by have := r.size; omega, r.row⟩
/-- A call's result is the whole number x. -/
def BigRes (n : Nat) (x : Int) (w : World) (e : Ending) (w' : World) : Prop :=
  ∃ p l c, e = .returned (.agg #[.bool (decide (x < 0)), .slice p l.length c]) ∧ BigR n w' p l x ∧ (∀ a, p = some a → w.heap.size ≤ a.block) ∧ Below w.heap.size w w'

theorem whole_sign {t : List Int} {v : Int} (s : Bool) (h : Can t v) : decide ((bif s then -v else v) < 0) = (s && decide (0 < t.length)) := by
  have k := h.nonneg
  have z := h.length_zero
  cases s
  · simp; omega
  · simp only [cond_true, Bool.true_and]
    rw [Bool.eq_iff_iff]
    simp only [decide_eq_true_eq]
    omega
theorem whole_abs {v : Int} (s : Bool) (h : 0 ≤ v) : ((bif s then -v else v).natAbs : Int) = v := by cases s <;> simp <;> omega

set_option maxHeartbeats 400000 in
theorem whole_any (s : Bool) (p : Option Addr) (c : Nat) (l : List Int) (w : World) (hd : Digs l) (r : RowR w p l) (ln : l.length ≤ 1000000) :
    Calls Try.prog 86 #[.bool s, .slice p l.length c] w (BigRes l.length (bif s then -dval l else dval l) w) := by
  have nn := dval_nonneg hd
  have AB := Lib.hid (whole_abs s nn)
  have R := Lib.hid r; clear r
  have D := Lib.hid hd; clear hd
  go_enter Try.func86, Try.ntmps86
  go_wp2_with fail
  refine (trim_any p c l _ D.out (R.out.below (by go_grown)) ln).mono ?_
  rintro e w1 ⟨t, q, cc, rfl, hcan, hlen, hr, hn, hf, hb1⟩
  obtain ⟨hc, hfz⟩ := bcell hb1
  have hz : w.heap.size < w1.heap.size := by have := hb1.size; simp at this; omega
  have WS := Lib.hid (whole_sign s hcan)
  have fin : ∀ b : Bool, b = (s && decide (0 < t.length)) → BigRes l.length (bif s then -dval l else dval l) w (.returned (.agg #[.bool b, .slice q t.length cc])) ((w1.setCell ⟨w.heap.size, 0, none⟩ (.bool b)).setCell ⟨w.heap.size, 1, none⟩ (.slice q t.length cc)) := by
    intro b hb
    have hq : ∀ a, q = some a → a.block ≠ w.heap.size := fun a ha => by have := hf a ha; simp at this; omega
    refine ⟨q, t, cc, by rw [hb, ← WS.out], ⟨by rw [AB.out]; exact hcan, hlen, (hr.setCell (q := ⟨w.heap.size, 0, none⟩) hq _).setCell (q := ⟨w.heap.size, 1, none⟩) hq _⟩, fun a ha => by have := hf a ha; simp at this; omega, ?_⟩
    exact (((((Below.refl _ _).alloc (Nat.le_refl _) _).trans (hb1.mono (by simp))).setCell (by simp) _).setCell (by simp) _)
  clear WS AB hcan hr hn hf hb1 hlen
  generalize t.length = n at *
  have key : (s = false) ∨ (s = true ∧ n = 0) ∨ (s = true ∧ 0 < n) := by cases s <;> simp <;> omega
  rcases key with rfl | ⟨rfl, rfl⟩ | ⟨rfl, h0⟩
  · have F := Lib.hid (fin false (by simp)); clear fin
    go_wp2_with fail
    exact bodyPost_ret (v := .agg #[.bool false, .slice q n cc]) (by simp [results, Try.results86, go_sem, hc, hz]) rfl F.out
  · have F := Lib.hid (fin false (by simp)); clear fin
    go_wp2_with fail
    exact bodyPost_ret (v := .agg #[.bool false, .slice q 0 cc]) (by simp [results, Try.results86, go_sem, hc, hz]) rfl F.out
  · have F := Lib.hid (fin true (by simp; omega)); clear fin
    go_wp2_with fail
    exact bodyPost_ret (v := .agg #[.bool true, .slice q n cc]) (by simp [results, Try.results86, go_sem, hc, hz]) rfl F.out
end Go.Proofs.Ythfnaegfjacjbab
