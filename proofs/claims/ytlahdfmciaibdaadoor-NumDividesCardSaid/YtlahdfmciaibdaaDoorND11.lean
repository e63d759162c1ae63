/- Several texts in one: R23 AQ9. -/
import Derived.Test.YtlahdfmciaibdaaDoorND10
import Derived.Deep.Cut
import Derived.Deep.CutRange

/- The reference's Over. -/
namespace Go.Proofs.YtlahdfmciaibdaaDoor
open Go.RowKit
set_option linter.unusedVariables false
set_option linter.unusedSimpArgs false

/-- Two boxed numbers and two results' boxes. -/
structure Ov (w v : World) (s t : Bool) (P Q : Value) : Prop where
  a0 : v.cell? ⟨w.heap.size, 0, none⟩ = some (.bool s)
  a1 : v.cell? ⟨w.heap.size, 1, none⟩ = some P
  b0 : v.cell? ⟨w.heap.size + 1, 0, none⟩ = some (.bool t)
  b1 : v.cell? ⟨w.heap.size + 1, 1, none⟩ = some Q
  c0 : v.cell? ⟨w.heap.size + 1 + 1, 0, none⟩ = some (.bool false)
  c1 : v.cell? ⟨w.heap.size + 1 + 1, 1, none⟩ = some (.slice none 0 0)
  d0 : v.cell? ⟨w.heap.size + 1 + 1 + 1, 0, none⟩ = some (.bool false)
  d1 : v.cell? ⟨w.heap.size + 1 + 1 + 1, 1, none⟩ = some (.slice none 0 0)
  f0 : v.frozen? ⟨w.heap.size + 1 + 1, 0, none⟩ = false
  f1 : v.frozen? ⟨w.heap.size + 1 + 1, 1, none⟩ = false
  f2 : v.frozen? ⟨w.heap.size + 1 + 1 + 1, 0, none⟩ = false
  f3 : v.frozen? ⟨w.heap.size + 1 + 1 + 1, 1, none⟩ = false
  sz : w.heap.size + 1 + 1 + 1 < v.heap.size
  bel : Below w.heap.size w v
theorem Ov.below {w v v' : World} {s t : Bool} {P Q : Value} (h : Ov w v s t P Q) (hb : Below v.heap.size v v') : Ov w v' s t P Q := by
  obtain ⟨h1, h2, h3, h4, h5, h6, h7, h8, h9, h10, h11, h12, h13, h14⟩ := h
  have z0 : w.heap.size < v.heap.size := by omega
  have z1 : w.heap.size + 1 < v.heap.size := by omega
  have z2 : w.heap.size + 1 + 1 < v.heap.size := by omega
  exact ⟨(hb.cell (p := ⟨w.heap.size, 0, none⟩) z0).trans h1, (hb.cell (p := ⟨w.heap.size, 1, none⟩) z0).trans h2, (hb.cell (p := ⟨w.heap.size + 1, 0, none⟩) z1).trans h3, (hb.cell (p := ⟨w.heap.size + 1, 1, none⟩) z1).trans h4,
    (hb.cell (p := ⟨w.heap.size + 1 + 1, 0, none⟩) z2).trans h5, (hb.cell (p := ⟨w.heap.size + 1 + 1, 1, none⟩) z2).trans h6, (hb.cell (p := ⟨w.heap.size + 1 + 1 + 1, 0, none⟩) h13).trans h7, (hb.cell (p := ⟨w.heap.size + 1 + 1 + 1, 1, none⟩) h13).trans h8,
    (hb.frozen (p := ⟨w.heap.size + 1 + 1, 0, none⟩) z2).trans h9, (hb.frozen (p := ⟨w.heap.size + 1 + 1, 1, none⟩) z2).trans h10, (hb.frozen (p := ⟨w.heap.size + 1 + 1 + 1, 0, none⟩) h13).trans h11, (hb.frozen (p := ⟨w.heap.size + 1 + 1 + 1, 1, none⟩) h13).trans h12, Nat.lt_of_lt_of_le h13 hb.size, h14.trans (hb.mono h14.size)⟩
theorem Ov.new (w : World) (s t : Bool) (P Q : Value) : Ov w ((((w.alloc (Obj.cells #[Value.bool s, P] 55)).alloc (Obj.cells #[Value.bool t, Q] 55)).alloc (Obj.cells #[Value.bool false, Value.slice none 0 0] 55)).alloc (Obj.cells #[Value.bool false, Value.slice none 0 0] 55)) s t P Q := by
  refine ⟨?_, ?_, ?_, ?_, ?_, ?_, ?_, ?_, ?_, ?_, ?_, ?_, ?_, by go_grown⟩ <;> simp [go_sem]

/-- The two results. -/
def OvRes (n m : Nat) (X1 X2 : Int) (s1 : Bool) (w : World) (e : Ending) (w' : World) : Prop :=
  ∃ p l c q r d, e = .returned (.tuple #[.agg #[.bool s1, .slice p (List.length l) c], .agg #[.bool false, .slice q (List.length r) d]]) ∧ BigR n w' p l X1 ∧ BigR m w' q r X2 ∧ (∀ a, p = some a → w.heap.size ≤ a.block) ∧ Below w.heap.size w w'
theorem OvRes.stored {n m : Nat} {X1 X2 : Int} {s1 s t : Bool} {P Q : Value} {w v w2 : World} {p q : Option Addr} {l r : List Int} {c d : Nat} (K : Ov w v s t P Q) (A : BigR n w2 p l X1) (B : BigR m w2 q r X2)
    (fa : ∀ a, p = some a → v.heap.size ≤ a.block) (fb : ∀ a, q = some a → v.heap.size ≤ a.block) (hb : Below v.heap.size v w2) :
    OvRes n m X1 X2 s1 w (.returned (.tuple #[.agg #[.bool s1, .slice p l.length c], .agg #[.bool false, .slice q r.length d]]))
      ((((w2.setCell ⟨w.heap.size + 1 + 1, 0, none⟩ (.bool s1)).setCell ⟨w.heap.size + 1 + 1, 1, none⟩ (.slice p l.length c)).setCell ⟨w.heap.size + 1 + 1 + 1, 0, none⟩ (.bool false)).setCell ⟨w.heap.size + 1 + 1 + 1, 1, none⟩ (.slice q r.length d)) := by
  have sz := K.sz
  have a0 : ∀ a, p = some a → a.block ≠ w.heap.size + 1 + 1 := fun a h => by have := fa a h; omega
  have a1 : ∀ a, p = some a → a.block ≠ w.heap.size + 1 + 1 + 1 := fun a h => by have := fa a h; omega
  have b0 : ∀ a, q = some a → a.block ≠ w.heap.size + 1 + 1 := fun a h => by have := fb a h; omega
  have b1 : ∀ a, q = some a → a.block ≠ w.heap.size + 1 + 1 + 1 := fun a h => by have := fb a h; omega
  refine ⟨p, l, c, q, r, d, rfl, ⟨A.can, A.size, ?_⟩, ⟨B.can, B.size, ?_⟩, fun a h => by have := fa a h; omega, ?_⟩
  · exact (((A.row.setCell (q := ⟨w.heap.size + 1 + 1, 0, none⟩) a0 _).setCell (q := ⟨w.heap.size + 1 + 1, 1, none⟩) a0 _).setCell (q := ⟨w.heap.size + 1 + 1 + 1, 0, none⟩) a1 _).setCell (q := ⟨w.heap.size + 1 + 1 + 1, 1, none⟩) a1 _
  · exact (((B.row.setCell (q := ⟨w.heap.size + 1 + 1, 0, none⟩) b0 _).setCell (q := ⟨w.heap.size + 1 + 1, 1, none⟩) b0 _).setCell (q := ⟨w.heap.size + 1 + 1 + 1, 0, none⟩) b1 _).setCell (q := ⟨w.heap.size + 1 + 1 + 1, 1, none⟩) b1 _
  · have k := K.bel.trans (hb.mono K.bel.size)
    exact ((((k.setCell (by show w.heap.size ≤ w.heap.size + 1 + 1; omega) _).setCell (by show w.heap.size ≤ w.heap.size + 1 + 1; omega) _).setCell (by show w.heap.size ≤ w.heap.size + 1 + 1 + 1; omega) _).setCell (by show w.heap.size ≤ w.heap.size + 1 + 1 + 1; omega) _)

theorem whole_S {s u : Bool} {V X : Int} (E : (bif s then -V else V) = X) (hu : u = decide (X < 0)) (p : Option Addr) (c : Nat) (l : List Int) (W : World) (h1 : Digs l) (h1' : dval l = V) (h2 : RowR W p l) (h3 : l.length ≤ 1000000) :
    Calls Tryd.prog 65 #[.bool s, .slice p l.length c] W (BigS l.length X u W) :=
  (whole_to E p c l W h1 h1' h2 h3).mono fun _ _ h => h.s hu

theorem RowR.drew {w : World} {p : Option Addr} {l : List Int} (r : RowR w p l) : RowR w.drew p l := r
theorem RowR.alloc {w : World} {p : Option Addr} {l : List Int} (r : RowR w p l) (o : Obj) : RowR (w.alloc o) p l := r.below ((Below.refl _ _).alloc (Nat.le_refl _) _)
theorem one_row (w : World) : RowR (w.alloc (Obj.cells #[Value.int .i64 1] 3)) (some ⟨w.heap.size, 0, none⟩) [1] := fun i h => ⟨w.heap.size, rfl, by simp, by simp at h; subst h; simp [go_sem]⟩
theorem one_digs : Digs [1] := by intro x m; simp at m; omega
theorem one_val : dval [1] = 1 := by simp [dval]
theorem one_len {n : Nat} : [(1 : Int)].length ≤ n + 1 := by simp
theorem addD_1 (pa : Option Addr) (g ca : Nat) (a : List Int) (w : World) (M : Nat) (ha : Digs a) (ra : RowR w pa a) (rb : RowR w (some ⟨g, 0, none⟩) [1]) (la : a.length ≤ M) (hM : M + 1 ≤ 1000000) :
    Calls Tryd.prog 66 #[.slice pa a.length ca, .slice (some ⟨g, 0, none⟩) 1 1] w (SumRes (dval a + dval [1]) (M + 1 + 1) w) :=
  addD_any pa (some ⟨g, 0, none⟩) ca 1 a [1] w (M + 1) ha one_digs ra rb (by omega) one_len hM
theorem subD_y {m r : List Int} {nm : Nat} {y R : Int} (hm : m.length = nm) (hy : (y.natAbs : Int) = y) (hr : Can r R) (hl : R < y.natAbs) (hc : Can m y.natAbs) (pa pb : Option Addr) (ca cb : Nat) (w : World) (ra : RowR w pa m) (rb : RowR w pb r) (la : nm ≤ 1000000) :
    Calls Tryd.prog 67 #[.slice pa nm ca, .slice pb r.length cb] w (RowRes (y - R) nm w) := by
  subst hm
  have := subD_any pa pb ca cb m r w hc.digs hr.digs ra rb la (can_len hr hc (by omega)) (by rw [hr.val, hc.val]; omega)
  rwa [hr.val, hc.val, hy] at this

theorem over_pos {x y : Int} (hx : 0 ≤ x) (hy : 0 < y) : (x.natAbs : Int) / y.natAbs = x / y ∧ (x.natAbs : Int) % y.natAbs = x % y := by
  rw [show (x.natAbs : Int) = x from by omega, show (y.natAbs : Int) = y from by omega]; exact ⟨rfl, rfl⟩
theorem over_neg0 {x y : Int} (hx : x < 0) (hy : 0 < y) (h : (x.natAbs : Int) % y.natAbs = 0) : -((x.natAbs : Int) / y.natAbs) = x / y ∧ x % y = 0 := by
  rw [show (x.natAbs : Int) = -x from by omega, show (y.natAbs : Int) = y from by omega] at h ⊢
  have e := Int.mul_ediv_add_emod (-x) y
  rw [h] at e
  have k := div_end (A := x) (B := y) (q := -(-x / y)) (r := 0) (by rw [Int.mul_neg]; omega) (by omega) (by omega)
  exact ⟨k.1, k.2.symm⟩
theorem over_neg1 {x y : Int} (hx : x < 0) (hy : 0 < y) (h : (x.natAbs : Int) % y.natAbs ≠ 0) : -((x.natAbs : Int) / y.natAbs + 1) = x / y ∧ y - (x.natAbs : Int) % y.natAbs = x % y := by
  rw [show (x.natAbs : Int) = -x from by omega, show (y.natAbs : Int) = y from by omega] at h ⊢
  have e := Int.mul_ediv_add_emod (-x) y
  have r0 := Int.emod_nonneg (-x) (show y ≠ 0 by omega)
  have r1 := Int.emod_lt_of_pos (-x) hy
  exact div_end (A := x) (B := y) (q := -(-x / y + 1)) (r := y - (-x) % y) (by rw [Int.mul_neg, Int.mul_add]; omega) (by omega) (by omega)

set_option maxRecDepth 100000 in
set_option maxHeartbeats 4000000 in
theorem Over_pos {N : Nat} (p q : Option Addr) (c d : Nat) (l m : List Int) (x y : Int) (t u : Bool) (hu : u = decide (x / y < 0)) (w : World) (A : BigR N w p l x) (B : BigR N w q m y) (hx : 0 ≤ x) (hy : 0 < y)(hN : N ≤ 80000) :
    Calls Tryd.prog 29 #[.agg #[.bool false, .slice p l.length c], .agg #[.bool t, .slice q m.length d]] w (OvRes (N + 2) (N + 1) (x / y) (x % y) u w) := by
  have K := Ov.new w false t (.slice p l.length c) (.slice q m.length d)
  have bx := A.below K.bel
  have by' := B.below K.bel
  have LX := A.size
  have LY := B.size
  have HU := Lib.hid hu
  clear A B hu
  go_enter Tryd.func29, Tryd.ntmps29
  go_upto_region 1 with fail
  generalize ((((w.alloc (Obj.cells #[Value.bool false, Value.slice p l.length c] 55)).alloc (Obj.cells #[Value.bool t, Value.slice q m.length d] 55)).alloc (Obj.cells #[Value.bool false, Value.slice none 0 0] 55)).alloc (Obj.cells #[Value.bool false, Value.slice none 0 0] 55)) = v at *
  have HXX := Lib.hid bx
  have HYY := Lib.hid by'
  have K0 := Lib.hid K
  obtain ⟨k1, k2, k3, k4, k5, k6, k7, k8, k9, k10, k11, k12, ksz, kb⟩ := K
  have DV := Lib.hid (by
    have := divD_any p q c d l m (y.natAbs : Int) v bx.can.digs by'.can (by omega) bx.row by'.row (by omega) (by omega)
    rwa [bx.can.val] at this)
  clear bx by'
  have MV := Lib.hid (show y.natAbs = y from by omega)
  generalize hln : l.length = nl at *
  generalize hmn : m.length = nm at *
  have HMN := Lib.hid hmn
  clear hln hmn
  go_wp2_with fail
  refine (DV.out).mono ?_
  rintro e v1 ⟨q1, pq, cq, r1, pr, cr, rfl, a1, a2, a3, a4, a5, a6, a7⟩
  have K1 := Lib.hid (K0.out.below a7)
  have A1 := Lib.hid a1
  have A3 := Lib.hid a3
  have A4 := Lib.hid a4
  have A6 := Lib.hid a6
  have YB := Lib.hid (HYY.out.below a7)
  clear a1 a3 a4 a6 a7 DV k1 k2 k3 k4 k5 k6 k7 k8 k9 k10 k11 k12 ksz kb
  obtain ⟨k1, k2, k3, k4, k5, k6, k7, k8, k9, k10, k11, k12, ksz, kb⟩ := K1.out
  obtain ⟨o1, o2⟩ := over_pos hx hy
  have W1 := Lib.hid (whole_S (s := false) (u := u) (X := x / y) (by simpa using o1) HU.out pq cq q1 v1 A1.out.digs A1.out.val A3.out (by omega))
  have W2 := Lib.hid (fun W (h : Below v1.heap.size v1 W) => whole_S (s := false) (u := false) (X := x % y) (by simpa using o2) (by have := Int.emod_nonneg x (show y ≠ 0 by omega); simp; omega) pr cr r1 W A4.out.digs A4.out.val (A6.out.below h) (by omega))
  clear o1 o2
  go_wp2_with fail
  refine (W1.out).mono ?_
  rintro e v2 ⟨p2, l2, c2, rfl, b1, b2, b3⟩
  have K2 := Lib.hid (K1.out.below b3)
  have B1 := Lib.hid b1
  have B2 := Lib.hid b2
  have B3 := Lib.hid b3
  clear b1 b2 b3 k1 k2 k3 k4 k5 k6 k7 k8 k9 k10 k11 k12 ksz kb W1
  obtain ⟨k1, k2, k3, k4, k5, k6, k7, k8, k9, k10, k11, k12, ksz, kb⟩ := K2.out
  go_wp2_with fail
  refine (W2.out _ B3.out).mono ?_
  rintro e v3 ⟨p3, l3, c3, rfl, b1, b2, b3⟩
  have K3 := Lib.hid (K2.out.below b3)
  have FIN := Lib.hid (OvRes.stored (n := N + 2) (m := N + 1) (s1 := u) (c := c2) (d := c3) K1.out ((B1.out.below b3).more (by omega)) (b1.more (by omega)) B2.out (fun a h => Nat.le_trans B3.out.size (b2 a h)) (B3.out.trans (b3.mono B3.out.size)))
  clear b1 b2 b3 k1 k2 k3 k4 k5 k6 k7 k8 k9 k10 k11 k12 ksz kb W2
  obtain ⟨k1, k2, k3, k4, k5, k6, k7, k8, k9, k10, k11, k12, ksz, kb⟩ := K3.out
  go_wp2_with fail
  refine bodyPost_ret (v := .tuple #[.agg #[.bool u, .slice p2 l2.length c2], .agg #[.bool false, .slice p3 l3.length c3]]) (by simp [results, Tryd.results29, go_sem, k5, k6, k7, k8, ksz]) rfl FIN.out
set_option maxRecDepth 100000 in
set_option maxHeartbeats 4000000 in
theorem Over_neg0 {N : Nat} (p q : Option Addr) (c d : Nat) (l m : List Int) (x y : Int) (t u : Bool) (hu : u = decide (x / y < 0)) (w : World) (A : BigR N w p l x) (B : BigR N w q m y) (hx : x < 0) (hy : 0 < y) (hr : (x.natAbs : Int) % y.natAbs = 0) (hN : N ≤ 80000) :
    Calls Tryd.prog 29 #[.agg #[.bool true, .slice p l.length c], .agg #[.bool t, .slice q m.length d]] w (OvRes (N + 2) (N + 1) (x / y) (x % y) u w) := by
  have K := Ov.new w true t (.slice p l.length c) (.slice q m.length d)
  have bx := A.below K.bel
  have by' := B.below K.bel
  have LX := A.size
  have LY := B.size
  have HU := Lib.hid hu
  clear A B hu
  go_enter Tryd.func29, Tryd.ntmps29
  go_upto_region 1 with fail
  generalize ((((w.alloc (Obj.cells #[Value.bool true, Value.slice p l.length c] 55)).alloc (Obj.cells #[Value.bool t, Value.slice q m.length d] 55)).alloc (Obj.cells #[Value.bool false, Value.slice none 0 0] 55)).alloc (Obj.cells #[Value.bool false, Value.slice none 0 0] 55)) = v at *
  have HXX := Lib.hid bx
  have HYY := Lib.hid by'
  have K0 := Lib.hid K
  obtain ⟨k1, k2, k3, k4, k5, k6, k7, k8, k9, k10, k11, k12, ksz, kb⟩ := K
  have DV := Lib.hid (by
    have := divD_any p q c d l m (y.natAbs : Int) v bx.can.digs by'.can (by omega) bx.row by'.row (by omega) (by omega)
    rwa [bx.can.val] at this)
  clear bx by'
  have MV := Lib.hid (show y.natAbs = y from by omega)
  generalize hln : l.length = nl at *
  generalize hmn : m.length = nm at *
  have HMN := Lib.hid hmn
  clear hln hmn
  go_wp2_with fail
  refine (DV.out).mono ?_
  rintro e v1 ⟨q1, pq, cq, r1, pr, cr, rfl, a1, a2, a3, a4, a5, a6, a7⟩
  have K1 := Lib.hid (K0.out.below a7)
  have A1 := Lib.hid a1
  have A3 := Lib.hid a3
  have A4 := Lib.hid a4
  have A6 := Lib.hid a6
  have YB := Lib.hid (HYY.out.below a7)
  clear a1 a3 a4 a6 a7 DV k1 k2 k3 k4 k5 k6 k7 k8 k9 k10 k11 k12 ksz kb
  obtain ⟨k1, k2, k3, k4, k5, k6, k7, k8, k9, k10, k11, k12, ksz, kb⟩ := K1.out
  obtain ⟨o1, o2⟩ := over_neg0 hx hy hr
  have W1 := Lib.hid (whole_S (s := true) (u := u) (X := x / y) (by simpa using o1) HU.out pq cq q1 v1 A1.out.digs A1.out.val A3.out (by omega))
  have O2 := Lib.hid o2
  have r0 : r1.length = 0 := A4.out.length_zero.2 hr
  clear o1 o2 hr
  generalize r1.length = nr at *
  subst r0
  go_wp2_with fail
  refine (W1.out).mono ?_
  rintro e v2 ⟨p2, l2, c2, rfl, b1, b2, b3⟩
  have K2 := Lib.hid (K1.out.below b3)
  have FIN := Lib.hid (OvRes.stored (n := N + 2) (m := N + 1) (s1 := u) (X2 := x % y) (c := c2) (d := 0) (q := none) (r := []) K1.out (b1.more (by omega)) ⟨by rw [O2.out]; exact Can.nil, by simp, fun i h => by simp at h⟩ b2 (fun a h => by cases h) b3)
  clear b1 b2 b3 k1 k2 k3 k4 k5 k6 k7 k8 k9 k10 k11 k12 ksz kb W1
  obtain ⟨k1, k2, k3, k4, k5, k6, k7, k8, k9, k10, k11, k12, ksz, kb⟩ := K2.out
  go_wp2_with fail
  refine bodyPost_ret (v := .tuple #[.agg #[.bool u, .slice p2 l2.length c2], .agg #[.bool false, .slice none 0 0]]) (by simp [results, Tryd.results29, go_sem, k5, k6, k7, k8, ksz]) rfl FIN.out
set_option maxRecDepth 100000 in
set_option maxHeartbeats 4000000 in
theorem Over_neg1 {N : Nat} (p q : Option Addr) (c d : Nat) (l m : List Int) (x y : Int) (t u : Bool) (hu : u = decide (x / y < 0)) (w : World) (A : BigR N w p l x) (B : BigR N w q m y) (hx : x < 0) (hy : 0 < y) (hr : (x.natAbs : Int) % y.natAbs ≠ 0) (hN : N ≤ 80000) :
    Calls Tryd.prog 29 #[.agg #[.bool true, .slice p l.length c], .agg #[.bool t, .slice q m.length d]] w (OvRes (N + 2) (N + 1) (x / y) (x % y) u w) := by
  have K := Ov.new w true t (.slice p l.length c) (.slice q m.length d)
  have bx := A.below K.bel
  have by' := B.below K.bel
  have LX := A.size
  have LY := B.size
  have HU := Lib.hid hu
  clear A B hu
  go_enter Tryd.func29, Tryd.ntmps29
  go_upto_region 1 with fail
  generalize ((((w.alloc (Obj.cells #[Value.bool true, Value.slice p l.length c] 55)).alloc (Obj.cells #[Value.bool t, Value.slice q m.length d] 55)).alloc (Obj.cells #[Value.bool false, Value.slice none 0 0] 55)).alloc (Obj.cells #[Value.bool false, Value.slice none 0 0] 55)) = v at *
  have HXX := Lib.hid bx
  have HYY := Lib.hid by'
  have K0 := Lib.hid K
  obtain ⟨k1, k2, k3, k4, k5, k6, k7, k8, k9, k10, k11, k12, ksz, kb⟩ := K
  have DV := Lib.hid (by
    have := divD_any p q c d l m (y.natAbs : Int) v bx.can.digs by'.can (by omega) bx.row by'.row (by omega) (by omega)
    rwa [bx.can.val] at this)
  clear bx by'
  have MV := Lib.hid (show y.natAbs = y from by omega)
  generalize hln : l.length = nl at *
  generalize hmn : m.length = nm at *
  have HMN := Lib.hid hmn
  clear hln hmn
  go_wp2_with fail
  refine (DV.out).mono ?_
  rintro e v1 ⟨q1, pq, cq, r1, pr, cr, rfl, a1, a2, a3, a4, a5, a6, a7⟩
  have K1 := Lib.hid (K0.out.below a7)
  have A1 := Lib.hid a1
  have A3 := Lib.hid a3
  have A4 := Lib.hid a4
  have A6 := Lib.hid a6
  have YB := Lib.hid (HYY.out.below a7)
  clear a1 a3 a4 a6 a7 DV k1 k2 k3 k4 k5 k6 k7 k8 k9 k10 k11 k12 ksz kb
  obtain ⟨k1, k2, k3, k4, k5, k6, k7, k8, k9, k10, k11, k12, ksz, kb⟩ := K1.out
  obtain ⟨o1, o2⟩ := over_neg1 hx hy hr
  have nr0 : 0 < r1.length := by
    rcases Nat.eq_zero_or_pos r1.length with t0 | t0
    · exact absurd (A4.out.length_zero.1 t0) hr
    · exact t0
  have O1 := Lib.hid o1
  have O2 := Lib.hid o2
  have RY := Lib.hid (Int.emod_lt_of_pos (x.natAbs : Int) (show 0 < (y.natAbs : Int) by omega))
  clear o1 o2 hr
  have HZ := Lib.hid (show false = decide (x % y < 0) by have := Int.emod_nonneg x (show y ≠ 0 by omega); simp; omega)
  go_wp2_with fail
  go_region_held3 (fun w' => w'.cell? ⟨w.heap.size + 1, 1, none⟩ = some (.slice q nm d))
    (first | exact ⟨k1⟩ | (simp [go_sem, k4, show w.heap.size + 1 < v1.heap.size from by omega]; done) | (simp [go_sem, k4]; done) | go_keep)
    (first
      | (go_at_call 66; (with_reducible refine (addD_1 pq _ cq q1 _ N A1.out.digs (by first | exact A3.out | exact RowR.drew A3.out | exact RowR.alloc A3.out _ | exact RowR.drew (RowR.alloc A3.out _) | exact RowR.alloc (RowR.drew A3.out) _) (by first | exact one_row _ | exact RowR.drew (one_row _)) (by omega) (by omega)).mono ?_); rintro e v2 ⟨t3, p3, c3, rfl, e1, e2, e3, e4, r6⟩; have st : Below v1.heap.size v1 v2 := (by first | exact r6 | exact ((Below.refl _ _).drew).trans r6 | exact (((Below.refl _ _).alloc (Nat.le_refl _) _)).trans (r6.mono (by simp)) | exact (((Below.refl _ _).drew.alloc (Nat.le_refl _) _)).trans (r6.mono (by simp)) | exact (((Below.refl _ _).alloc (Nat.le_refl _) _).drew).trans (r6.mono (by simp))); have K2 := Lib.hid (K1.out.below st); have S2 := Lib.hid (show Below v1.heap.size v1 v2 from st); clear k1 k2 k3 k4 k5 k6 k7 k8 k9 k10 k11 k12 ksz kb; obtain ⟨k1, k2, k3, k4, k5, k6, k7, k8, k9, k10, k11, k12, ksz, kb⟩ := K2.out; have A6_2 := Lib.hid (A6.out.below st); have YB_2 := Lib.hid (YB.out.below st); have E1 := Lib.hid e1; have E2 := Lib.hid e2; have E3 := Lib.hid e3; have E4 := Lib.hid e4; have V1 := Lib.hid (show Below v1.heap.size v1 v2 from st); clear e1 e2 e3 e4 r6; clear st)
      | (go_at_call 65; (with_reducible refine (whole_S (s := true) (u := u) (X := x / y) (V := (x.natAbs : Int) / y.natAbs + 1) (by simpa using O1.out) HU.out p3 c3 t3 _ E1.out (by rw [E2.out, A1.out.val, one_val]) (by first | exact E4.out | exact RowR.drew E4.out | exact RowR.alloc E4.out _ | exact RowR.drew (RowR.alloc E4.out _) | exact RowR.alloc (RowR.drew E4.out) _) (by have := E3.out; omega)).mono ?_); rintro e v3 ⟨p4, l4, c4, rfl, b1, b2, b3⟩; have st : Below v2.heap.size v2 v3 := (by first | exact b3 | exact ((Below.refl _ _).drew).trans b3 | exact (below_drewN (Below.refl _ _) _).trans b3); have K3 := Lib.hid (K2.out.below st); have S3 := Lib.hid (show Below v2.heap.size v2 v3 from st); clear k1 k2 k3 k4 k5 k6 k7 k8 k9 k10 k11 k12 ksz kb; obtain ⟨k1, k2, k3, k4, k5, k6, k7, k8, k9, k10, k11, k12, ksz, kb⟩ := K3.out; have A6_3 := Lib.hid (A6_2.out.below st); have YB_3 := Lib.hid (YB_2.out.below st); have B4 := Lib.hid b1; have F4 := Lib.hid b2; clear b1 b2 b3; clear st)
      | (go_at_call 67; (with_reducible refine (subD_y HMN.out MV.out A4.out RY.out YB.out.can q pr d cr _ (by first | exact YB_3.out.row | exact RowR.drew YB_3.out.row) (by first | exact A6_3.out | exact RowR.drew A6_3.out | exact RowR.alloc A6_3.out _ | exact RowR.drew (RowR.alloc A6_3.out _) | exact RowR.alloc (RowR.drew A6_3.out) _) (by omega)).mono ?_); rintro e v4 ⟨t5, p5, c5, rfl, e1, e2, e3, e4, e5, r6⟩; have st : Below v3.heap.size v3 v4 := (by first | exact r6 | exact ((Below.refl _ _).drew).trans r6 | exact (below_drewN (Below.refl _ _) _).trans r6); have K4 := Lib.hid (K3.out.below st); have S4 := Lib.hid (show Below v3.heap.size v3 v4 from st); clear k1 k2 k3 k4 k5 k6 k7 k8 k9 k10 k11 k12 ksz kb; obtain ⟨k1, k2, k3, k4, k5, k6, k7, k8, k9, k10, k11, k12, ksz, kb⟩ := K4.out; have B4_4 := Lib.hid (B4.out.below st); have G1 := Lib.hid e1; have G2 := Lib.hid e2; have G3 := Lib.hid e3; clear e1 e2 e3 e4 e5 r6; clear st)
      | (go_at_call 65; (with_reducible refine (whole_S (s := false) (u := false) (X := x % y) (V := y - (x.natAbs : Int) % y.natAbs) (by simpa using O2.out) HZ.out p5 c5 t5 _ G1.out.digs G1.out.val (by first | exact G3.out | exact RowR.drew G3.out | exact RowR.alloc G3.out _ | exact RowR.drew (RowR.alloc G3.out _) | exact RowR.alloc (RowR.drew G3.out) _) (by have := G2.out; omega)).mono ?_); rintro e v5 ⟨p6, l6, c6, rfl, b1, b2, b3⟩; have st : Below v4.heap.size v4 v5 := (by first | exact b3 | exact ((Below.refl _ _).drew).trans b3 | exact (below_drewN (Below.refl _ _) _).trans b3); have K5 := Lib.hid (K4.out.below st); have S5 := Lib.hid (show Below v4.heap.size v4 v5 from st); clear k1 k2 k3 k4 k5 k6 k7 k8 k9 k10 k11 k12 ksz kb; obtain ⟨k1, k2, k3, k4, k5, k6, k7, k8, k9, k10, k11, k12, ksz, kb⟩ := K5.out; have B4_5 := Lib.hid (B4_4.out.below st); have B6 := Lib.hid b1; have F6 := Lib.hid b2; have V5 := Lib.hid b3; clear b1 b2 b3; clear st))
  go_wp2_with fail
  have V2 := S2.out.trans (S3.out.mono S2.out.size)
  have V3 := V2.trans (S4.out.mono V2.size)
  have V4 := V3.trans (S5.out.mono V3.size)
  have FIN := Lib.hid (OvRes.stored (n := N + 2) (m := N + 1) (s1 := u) (c := c4) (d := c6) K1.out (B4_5.out.more (by have := E3.out; omega)) (B6.out.more (by have := G2.out; omega)) (fun a h => Nat.le_trans S2.out.size (F4.out a h)) (fun a h => Nat.le_trans V3.size (F6.out a h)) V4)
  exact bodyPost_ret (v := .tuple #[.agg #[.bool u, .slice p4 l4.length c4], .agg #[.bool false, .slice p6 l6.length c6]]) (by simp [results, Tryd.results29, go_sem, k5, k6, k7, k8, ksz]) rfl FIN.out
end Go.Proofs.YtlahdfmciaibdaaDoor

/- Boxed numbers beside a call, in whatever order they were made. -/
namespace Go.Proofs.YtlahdfmciaibdaaDoor
open Go.RowKit
set_option linter.unusedVariables false
set_option linter.unusedSimpArgs false

theorem BigR.alloc {n : Nat} {w : World} {p : Option Addr} {l : List Int} {x : Int} (r : BigR n w p l x) (o : Obj) : BigR n (w.alloc o) p l x := r.below ((Below.refl _ _).alloc (Nat.le_refl _) o)
theorem BigR.setB {n : Nat} {w : World} {p : Option Addr} {l : List Int} {x : Int} {B o : Nat} {u : Bool} (r : BigR n w p l x) (b : w.cell? ⟨B, 0, none⟩ = some (.bool u)) (v : Value) : BigR n (w.setCell ⟨B, o, none⟩ v) p l x := by
  refine ⟨r.can, r.size, fun i hi => ?_⟩
  obtain ⟨g, e, k, c⟩ := r.row i hi
  refine ⟨g, e, by simpa [World.setCell] using k, ?_⟩
  rw [World.cell?_setCell_other _ _ _ _ (fun e2 => ?_)]
  · exact c
  · obtain ⟨g', e', _, c'⟩ := r.row 0 (by omega)
    rw [e] at e'
    have eg : g = g' := by simpa using e'
    subst eg
    have : g = B := by simpa using (congrArg Addr.block e2).symm
    subst this
    rw [b] at c'
    cases c'
theorem cellA {w : World} {a : Addr} {v : Value} (h : w.cell? a = some v) (o : Obj) : (w.alloc o).cell? a = some v := (World.cell?_alloc_lt w o a (World.block_lt_of_cell? w _ h)).trans h
theorem cellS {w : World} {a q : Addr} {v : Value} (h : w.cell? a = some v) (hne : a ≠ q) (x : Value) : (w.setCell q x).cell? a = some v := (World.cell?_setCell_other _ _ _ _ (fun e => hne e.symm)).trans h
/-- Two numbers in boxes. -/
structure TwoG (w : World) (x y : Int) (n m : Nat) (p q : Option Addr) (l k : List Int) (c d B C : Nat) (W : World) : Prop where
  bel : Below w.heap.size w W
  b0 : W.cell? ⟨B, 0, none⟩ = some (.bool false)
  b1 : W.cell? ⟨B, 1, none⟩ = some (.slice p l.length c)
  c0 : W.cell? ⟨C, 0, none⟩ = some (.bool false)
  c1 : W.cell? ⟨C, 1, none⟩ = some (.slice q k.length d)
  bx : BigR n W p l x
  by' : BigR m W q k y
section
variable {w v : World} {x y : Int} {n m : Nat} {p q : Option Addr} {l k : List Int} {c d : Nat} (t1 t2 : TypeId)
theorem TwoG.drew {B C : Nat} {W : World} (h : TwoG w x y n m p q l k c d B C W) : TwoG w x y n m p q l k c d B C W.drew := ⟨h.bel.drew, h.b0, h.b1, h.c0, h.c1, h.bx.drew, h.by'.drew⟩
theorem g_1 (K : Below w.heap.size w v) (bx : BigR n v p l x) (by' : BigR m v q k y) : TwoG w x y n m p q l k c d v.heap.size (v.heap.size + 1) ((v.alloc (.cells #[.bool false, .slice p l.length c] t1)).alloc (.cells #[.bool false, .slice q k.length d] t2)) :=
  ⟨(K.alloc K.size _).alloc (by have := K.size; simp; omega) _, by simp [go_sem], by simp [go_sem], by simp [go_sem], by simp [go_sem], (bx.alloc _).alloc _, (by'.alloc _).alloc _⟩
theorem g_2 (K : Below w.heap.size w v) (bx : BigR n v p l x) (by' : BigR m v q k y) : TwoG w x y n m p q l k c d (v.heap.size + 1) v.heap.size ((v.alloc (.cells #[.bool false, .slice q k.length d] t1)).alloc (.cells #[.bool false, .slice p l.length c] t2)) :=
  ⟨(K.alloc K.size _).alloc (by have := K.size; simp; omega) _, by simp [go_sem], by simp [go_sem], by simp [go_sem], by simp [go_sem], (bx.alloc _).alloc _, (by'.alloc _).alloc _⟩
theorem two_set {B : Nat} {z : Value} (b0 : v.cell? ⟨B, 0, none⟩ = some (.bool false)) (b1 : v.cell? ⟨B, 1, none⟩ = some (.slice none 0 0)) :
    ((v.setCell ⟨B, 0, none⟩ (.bool false)).setCell ⟨B, 1, none⟩ z).cell? ⟨B, 0, none⟩ = some (.bool false) ∧ ((v.setCell ⟨B, 0, none⟩ (.bool false)).setCell ⟨B, 1, none⟩ z).cell? ⟨B, 1, none⟩ = some z := by
  have h1 : (v.setCell ⟨B, 0, none⟩ (.bool false)).cell? ⟨B, 1, none⟩ = some (.slice none 0 0) := cellS b1 (by simp) _
  exact ⟨cellS (World.cell?_setCell_same' _ _ _ (by rw [b0]; rfl)) (by simp) _, World.cell?_setCell_same' _ _ _ (by rw [h1]; rfl)⟩
theorem big_set {B : Nat} {z : Value} {N : Nat} {P : Option Addr} {L : List Int} {X : Int} (r : BigR N v P L X) (b0 : v.cell? ⟨B, 0, none⟩ = some (.bool false)) : BigR N ((v.setCell ⟨B, 0, none⟩ (.bool false)).setCell ⟨B, 1, none⟩ z) P L X :=
  (r.setB b0 _).setB (World.cell?_setCell_same' _ _ _ (by rw [b0]; rfl)) _
theorem g_3 {B : Nat} (hB : w.heap.size ≤ B) (K : Below w.heap.size w v) (bx : BigR n v p l x) (by' : BigR m v q k y) (b0 : v.cell? ⟨B, 0, none⟩ = some (.bool false)) (b1 : v.cell? ⟨B, 1, none⟩ = some (.slice none 0 0)) :
    TwoG w x y n m p q l k c d B v.heap.size (((v.setCell ⟨B, 0, none⟩ (.bool false)).setCell ⟨B, 1, none⟩ (.slice p l.length c)).alloc (.cells #[.bool false, .slice q k.length d] t2)) := by
  obtain ⟨h1, h2⟩ := two_set (z := .slice p l.length c) b0 b1
  have e : ((v.setCell ⟨B, 0, none⟩ (.bool false)).setCell ⟨B, 1, none⟩ (.slice p l.length c)).heap.size = v.heap.size := by rw [World.size_setCell, World.size_setCell]
  refine ⟨((K.setCell hB _).setCell hB _).alloc (by rw [e]; exact K.size) _, cellA h1 _, cellA h2 _, ?_, ?_, (big_set bx b0).alloc _, (big_set by' b0).alloc _⟩
  · rw [← e]; simp [go_sem]
  · rw [← e]; simp [go_sem]
theorem g_4 {B : Nat} (hB : w.heap.size ≤ B) (K : Below w.heap.size w v) (bx : BigR n v p l x) (by' : BigR m v q k y) (b0 : v.cell? ⟨B, 0, none⟩ = some (.bool false)) (b1 : v.cell? ⟨B, 1, none⟩ = some (.slice none 0 0)) :
    TwoG w x y n m p q l k c d v.heap.size B (((v.setCell ⟨B, 0, none⟩ (.bool false)).setCell ⟨B, 1, none⟩ (.slice q k.length d)).alloc (.cells #[.bool false, .slice p l.length c] t2)) := by
  obtain ⟨h1, h2⟩ := two_set (z := .slice q k.length d) b0 b1
  have e : ((v.setCell ⟨B, 0, none⟩ (.bool false)).setCell ⟨B, 1, none⟩ (.slice q k.length d)).heap.size = v.heap.size := by rw [World.size_setCell, World.size_setCell]
  refine ⟨((K.setCell hB _).setCell hB _).alloc (by rw [e]; exact K.size) _, ?_, ?_, cellA h1 _, cellA h2 _, (big_set bx b0).alloc _, (big_set by' b0).alloc _⟩
  · rw [← e]; simp [go_sem]
  · rw [← e]; simp [go_sem]
theorem g_5 {B C : Nat} (hB : w.heap.size ≤ B) (hC : w.heap.size ≤ C) (hne : ¬ B = C) (K : Below w.heap.size w v) (bx : BigR n v p l x) (by' : BigR m v q k y) (b0 : v.cell? ⟨B, 0, none⟩ = some (.bool false)) (b1 : v.cell? ⟨B, 1, none⟩ = some (.slice none 0 0))
    (c0 : v.cell? ⟨C, 0, none⟩ = some (.bool false)) (c1 : v.cell? ⟨C, 1, none⟩ = some (.slice none 0 0)) :
    TwoG w x y n m p q l k c d B C ((((v.setCell ⟨B, 0, none⟩ (.bool false)).setCell ⟨B, 1, none⟩ (.slice p l.length c)).setCell ⟨C, 0, none⟩ (.bool false)).setCell ⟨C, 1, none⟩ (.slice q k.length d)) := by
  obtain ⟨h1, h2⟩ := two_set (z := .slice p l.length c) b0 b1
  have n1 : ∀ o o', (⟨C, o, none⟩ : Addr) ≠ ⟨B, o', none⟩ := fun o o' e => hne (by simpa using (congrArg Addr.block e).symm)
  have n2 : ∀ o o', (⟨B, o, none⟩ : Addr) ≠ ⟨C, o', none⟩ := fun o o' e => n1 o' o e.symm
  have e0 := cellS (cellS c0 (n1 0 0) (.bool false)) (n1 0 1) (.slice p l.length c)
  have e1 := cellS (cellS c1 (n1 1 0) (.bool false)) (n1 1 1) (.slice p l.length c)
  obtain ⟨h3, h4⟩ := two_set (z := .slice q k.length d) e0 e1
  exact ⟨(((K.setCell hB _).setCell hB _).setCell hC _).setCell hC _, cellS (cellS h1 (n2 0 0) _) (n2 0 1) _, cellS (cellS h2 (n2 1 0) _) (n2 1 1) _, h3, h4, big_set (big_set bx b0) e0, big_set (big_set by' b0) e0⟩
end
theorem begG1 {w v : World} {t : TypeId} (st : Below (w.alloc (.cells #[.bool false, .slice none 0 0] t)).heap.size (w.alloc (.cells #[.bool false, .slice none 0 0] t)) v) :
    Below w.heap.size w v ∧ v.cell? ⟨w.heap.size, 0, none⟩ = some (.bool false) ∧ v.cell? ⟨w.heap.size, 1, none⟩ = some (.slice none 0 0) ∧ v.frozen? ⟨w.heap.size, 0, none⟩ = false ∧ v.frozen? ⟨w.heap.size, 1, none⟩ = false ∧ w.heap.size < v.heap.size := by
  have z : w.heap.size < (w.alloc (.cells #[.bool false, .slice none 0 0] t)).heap.size := by simp
  exact ⟨((Below.refl _ _).alloc (Nat.le_refl _) _).trans (st.mono (by simp)), (st.cell (p := ⟨w.heap.size, 0, none⟩) z).trans (by simp [go_sem]), (st.cell (p := ⟨w.heap.size, 1, none⟩) z).trans (by simp [go_sem]), (st.frozen (p := ⟨w.heap.size, 0, none⟩) z).trans (by simp [go_sem]), (st.frozen (p := ⟨w.heap.size, 1, none⟩) z).trans (by simp [go_sem]), Nat.lt_of_lt_of_le z st.size⟩
theorem begG2 {w v : World} {t t' : TypeId} (st : Below ((w.alloc (.cells #[.bool false, .slice none 0 0] t)).alloc (.cells #[.bool false, .slice none 0 0] t')).heap.size ((w.alloc (.cells #[.bool false, .slice none 0 0] t)).alloc (.cells #[.bool false, .slice none 0 0] t')) v) :
    Below w.heap.size w v ∧ v.cell? ⟨w.heap.size, 0, none⟩ = some (.bool false) ∧ v.cell? ⟨w.heap.size, 1, none⟩ = some (.slice none 0 0) ∧ v.frozen? ⟨w.heap.size, 0, none⟩ = false ∧ v.frozen? ⟨w.heap.size, 1, none⟩ = false ∧ w.heap.size < v.heap.size ∧
    v.cell? ⟨w.heap.size + 1, 0, none⟩ = some (.bool false) ∧ v.cell? ⟨w.heap.size + 1, 1, none⟩ = some (.slice none 0 0) ∧ v.frozen? ⟨w.heap.size + 1, 0, none⟩ = false ∧ v.frozen? ⟨w.heap.size + 1, 1, none⟩ = false ∧ w.heap.size + 1 < v.heap.size := by
  obtain ⟨a, b, c, d, e, f⟩ := begG1 st
  have z : w.heap.size < ((w.alloc (.cells #[.bool false, .slice none 0 0] t)).alloc (.cells #[.bool false, .slice none 0 0] t')).heap.size := by simp; omega
  rw [World.size_alloc] at b c d e f
  exact ⟨((Below.refl _ _).alloc (Nat.le_refl _) _).trans (a.mono (by simp)), (st.cell (p := ⟨w.heap.size, 0, none⟩) z).trans (by simp [go_sem]), (st.cell (p := ⟨w.heap.size, 1, none⟩) z).trans (by simp [go_sem]), (st.frozen (p := ⟨w.heap.size, 0, none⟩) z).trans (by simp [go_sem]), (st.frozen (p := ⟨w.heap.size, 1, none⟩) z).trans (by simp [go_sem]), by omega, b, c, d, e, f⟩
/-- One number in a box. -/
structure OneG (w : World) (x : Int) (n : Nat) (p : Option Addr) (l : List Int) (c B : Nat) (W : World) : Prop where
  bel : Below w.heap.size w W
  b0 : W.cell? ⟨B, 0, none⟩ = some (.bool false)
  b1 : W.cell? ⟨B, 1, none⟩ = some (.slice p l.length c)
  bx : BigR n W p l x
theorem OneG.drew {w W : World} {x : Int} {n : Nat} {p : Option Addr} {l : List Int} {c B : Nat} (h : OneG w x n p l c B W) : OneG w x n p l c B W.drew := ⟨h.bel.drew, h.b0, h.b1, h.bx.drew⟩
theorem o_1 {w v : World} {x : Int} {n : Nat} {p : Option Addr} {l : List Int} {c : Nat} (t : TypeId) (K : Below w.heap.size w v) (bx : BigR n v p l x) : OneG w x n p l c v.heap.size (v.alloc (.cells #[.bool false, .slice p l.length c] t)) :=
  ⟨K.alloc K.size _, by simp [go_sem], by simp [go_sem], bx.alloc _⟩
theorem o_2 {w v : World} {x : Int} {n : Nat} {p : Option Addr} {l : List Int} {c B : Nat} (hB : w.heap.size ≤ B) (K : Below w.heap.size w v) (bx : BigR n v p l x) (b0 : v.cell? ⟨B, 0, none⟩ = some (.bool false)) (b1 : v.cell? ⟨B, 1, none⟩ = some (.slice none 0 0)) :
    OneG w x n p l c B ((v.setCell ⟨B, 0, none⟩ (.bool false)).setCell ⟨B, 1, none⟩ (.slice p l.length c)) := by
  obtain ⟨h1, h2⟩ := two_set (z := .slice p l.length c) b0 b1
  exact ⟨(K.setCell hB _).setCell hB _, h1, h2, big_set bx b0⟩
end Go.Proofs.YtlahdfmciaibdaaDoor
