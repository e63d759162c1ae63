/- The reference's Big: Zero, Compare, Neg. -/
import Derived.Test.YtblaakjldpcjlaaDoorR9
namespace Go.Proofs.YtblaakjldpcjlaaDoor
open Go.RowKit
set_option linter.unusedVariables false
set_option linter.unusedSimpArgs false

theorem BigR.val {n : Nat} {w : World} {p : Option Addr} {l : List Int} {x : Int} (r : BigR n w p l x) : (bif decide (x < 0) then -dval l else dval l) = x := by
  rw [r.can.val]
  by_cases h : x < 0 <;> simp [h] <;> omega
theorem BigRes.stored {n : Nat} {x : Int} {w v w2 : World} {r : Nat} {p : Option Addr} {l : List Int} {c : Nat} (hv : Below w.heap.size w v) (hr : w.heap.size ≤ r) (hr2 : r < v.heap.size)
    (R : BigR n w2 p l x) (hf : ∀ a, p = some a → v.heap.size ≤ a.block) (hb : Below v.heap.size v w2) :
    BigRes n x w (.returned (.agg #[.bool (decide (x < 0)), .slice p l.length c])) ((w2.setCell ⟨r, 0, none⟩ (.bool (decide (x < 0)))).setCell ⟨r, 1, none⟩ (.slice p l.length c)) := by
  have hq : ∀ a, p = some a → a.block ≠ r := fun a ha => by have := hf a ha; omega
  refine ⟨p, l, c, rfl, ⟨R.can, R.size, (R.row.setCell (q := ⟨r, 0, none⟩) hq _).setCell (q := ⟨r, 1, none⟩) hq _⟩, fun a ha => by have := hf a ha; have := hv.size; omega, ?_⟩
  exact (((hv.trans (hb.mono hv.size)).setCell hr _).setCell hr _)

theorem Zero_any (s : Bool) (p : Option Addr) (n c : Nat) (w : World) :
    Calls Tryd.prog 36 #[.agg #[.bool s, .slice p n c]] w fun e w' => e = .returned (.bool (decide (n = 0))) ∧ Below w.heap.size w w' := by
  go_enter Tryd.func36, Tryd.ntmps36
  go_wp2
  go_ret
  refine ⟨ret_b ?_, by go_grown⟩
  first | (rw [Bool.eq_iff_iff]; simp; omega) | (rw [Bool.eq_iff_iff]; simp)

theorem cmpZ_neg (a b : Int) : -cmpZ a b = cmpZ (-a) (-b) := by
  unfold cmpZ
  rcases Int.lt_trichotomy a b with q | q | q
  · rw [if_pos q, if_neg (by omega), if_pos (by omega)]; rfl
  · rw [if_neg (by omega), if_neg (by omega), if_neg (by omega), if_neg (by omega)]; rfl
  · rw [if_neg (by omega), if_pos q, if_pos (by omega)]
theorem cmpZ_le (a b : Int) : -1 ≤ cmpZ a b ∧ cmpZ a b ≤ 1 := by unfold cmpZ; split; omega; split <;> omega
theorem Compare_any {n m : Nat} (pa pb : Option Addr) (ca cb : Nat) (a b : List Int) (x y : Int) (w : World) (A : BigR n w pa a x) (B : BigR m w pb b y) (hn : n ≤ 1000000) (hm : m ≤ 1000000) :
    Calls Tryd.prog 17 #[.agg #[.bool (decide (x < 0)), .slice pa a.length ca], .agg #[.bool (decide (y < 0)), .slice pb b.length cb]] w fun e w' => e = .returned (.int .i64 (cmpZ x y)) ∧ Below w.heap.size w w' := by
  have CM := fun W (h : Below w.heap.size w W) => cmpD_any pa pb ca cb a b W A.can.digs B.can.digs A.can.norm B.can.norm (A.row.below h) (B.row.below h) (by have := A.size; omega) (by have := B.size; omega)
  have CM' := Lib.hid CM
  have K1 : x < 0 → y < 0 → Hid (-cmpZ (dval a) (dval b) = cmpZ x y) := fun h1 h2 => by
    show _ = _
    rw [A.can.val, B.can.val, cmpZ_neg]; congr 1 <;> omega
  have K2 : ¬ x < 0 → ¬ y < 0 → Hid (cmpZ (dval a) (dval b) = cmpZ x y) := fun h1 h2 => by
    show _ = _
    rw [A.can.val, B.can.val]; congr 1 <;> omega
  have Q := Lib.hid (cmpZ_le (dval a) (dval b))
  clear A B CM
  generalize a.length = la at *
  generalize b.length = lb at *
  generalize cmpZ (dval a) (dval b) = V at *
  by_cases h1 : x < 0 <;> by_cases h2 : y < 0
  · have K := K1 h1 h2
    have e1 : decide (x < 0) = true := by simpa using h1
    have e2 : decide (y < 0) = true := by simpa using h2
    rw [e1, e2]
    obtain ⟨q1, q2⟩ := Q.out
    clear K1 K2 e1 e2
    go_enter Tryd.func17, Tryd.ntmps17
    go_wp2_with fail
    refine (CM'.out _ (by go_grown)).mono ?_
    rintro e w' ⟨rfl, k, rfl⟩
    clear CM'
    go_wp2_with fail
    go_ret
    exact ⟨ret_i K.out, by refine below_drewN ?_ _; go_grown⟩
  · have K : Hid (-1 = cmpZ x y) := by show _ = _; unfold cmpZ; rw [if_pos (by omega)]
    have e1 : decide (x < 0) = true := by simpa using h1
    have e2 : decide (y < 0) = false := by simpa using h2
    rw [e1, e2]
    clear K1 K2 e1 e2 CM' Q
    go_enter Tryd.func17, Tryd.ntmps17
    go_wp2_with fail
    go_ret
    exact ⟨ret_i K.out, by go_grown⟩
  · have K : Hid (1 = cmpZ x y) := by show _ = _; unfold cmpZ; rw [if_neg (by omega), if_pos (by omega)]
    have e1 : decide (x < 0) = false := by simpa using h1
    have e2 : decide (y < 0) = true := by simpa using h2
    rw [e1, e2]
    clear K1 K2 e1 e2 CM' Q
    go_enter Tryd.func17, Tryd.ntmps17
    go_wp2_with fail
    go_ret
    exact ⟨ret_i K.out, by go_grown⟩
  · have K := K2 h1 h2
    have e1 : decide (x < 0) = false := by simpa using h1
    have e2 : decide (y < 0) = false := by simpa using h2
    rw [e1, e2]
    obtain ⟨q1, q2⟩ := Q.out
    clear K1 K2 e1 e2
    go_enter Tryd.func17, Tryd.ntmps17
    go_wp2_with fail
    refine (CM'.out _ (by go_grown)).mono ?_
    rintro e w' ⟨rfl, k, rfl⟩
    clear CM'
    go_wp2_with fail
    go_ret
    exact ⟨ret_i K.out, by refine below_drewN ?_ _; go_grown⟩

theorem Neg_any {n : Nat} (p : Option Addr) (c : Nat) (l : List Int) (x : Int) (w : World) (A : BigR n w p l x) (hn : n ≤ 1000000) :
    Calls Tryd.prog 47 #[.agg #[.bool (decide (x < 0)), .slice p l.length c]] w (BigRes n (-x) w) := by
  have WH := fun s W (h : Below w.heap.size w W) => whole_any s p c l W A.can.digs (A.row.below h) (by have := A.size; omega)
  have E : (bif !decide (x < 0) then -dval l else dval l) = -x := by
    rw [A.can.val]; by_cases h : x < 0 <;> simp [h] <;> omega
  have SZ := A.size
  have HE := Lib.hid E
  have WH' := Lib.hid WH
  clear WH E A
  go_enter Tryd.func47, Tryd.ntmps47
  go_wp2_with fail
  refine (WH'.out _ _ (by go_grown)).mono ?_
  rw [HE.out]
  rintro e w1 ⟨q, t, cc, rfl, R, hf, hb1⟩
  have FIN := Lib.hid (BigRes.stored (c := cc) (r := w.heap.size + 1) (((Below.refl w.heap.size w).alloc (Nat.le_refl _) (Obj.cells #[Value.bool (decide (x < 0)), Value.slice p l.length c] 30)).alloc (by simp) (Obj.cells #[Value.bool false, Value.slice none 0 0] 30)) (by omega) (by simp) (R.more SZ) hf hb1)
  obtain ⟨hc, hfz⟩ := bcell hb1
  have hz : w.heap.size + 1 < w1.heap.size := by have := hb1.size; simp at this; omega
  clear R hf hb1 WH' HE
  generalize decide (-x < 0) = sg at *
  go_wp2_with fail
  exact bodyPost_ret (v := .agg #[.bool sg, .slice q t.length cc]) (by simp [results, Tryd.results47, go_sem, hc, hz]) rfl FIN.out
end Go.Proofs.YtblaakjldpcjlaaDoor
