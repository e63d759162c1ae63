/- Several texts in one: R23. -/
import Derived.Test.YtlahdfmciaibdaaAI5

/- The reference's Over. -/
namespace Go.Proofs.Ytlahdfmciaibdaa
open Go.RowKit
set_option linter.unusedVariables false
set_option linter.unusedSimpArgs false

/-- Two boxed numbers and two results' boxes. -/
structure Ov (w v : World) (s t : Bool) (P Q : Value) : Prop where
  a0 : v.cell? ⟨w.heap.size, 0, none⟩ = some (.bool s)
  a1 : v.cell? ⟨w.heap.size, 1, none⟩ = some P
  b0 : v.cell? ⟨w.heap.size + 1, 0, none⟩ = some (.bool t)
  b1 : v.cell? ⟨w.heap.size + 1, 1, none⟩ = some Q
  c0 : v.cell? ⟨w.heap.size + 1 + 1, 0, none⟩ = some (.bool false)
  c1 : v.cell? ⟨w.heap.size + 1 + 1, 1, none⟩ = some (.slice none 0 0)
  d0 : v.cell? ⟨w.heap.size + 1 + 1 + 1, 0, none⟩ = some (.bool false)
  d1 : v.cell? ⟨w.heap.size + 1 + 1 + 1, 1, none⟩ = some (.slice none 0 0)
  f0 : v.frozen? ⟨w.heap.size + 1 + 1, 0, none⟩ = false
  f1 : v.frozen? ⟨w.heap.size + 1 + 1, 1, none⟩ = false
  f2 : v.frozen? ⟨w.heap.size + 1 + 1 + 1, 0, none⟩ = false
  f3 : v.frozen? ⟨w.heap.size + 1 + 1 + 1, 1, none⟩ = false
  sz : w.heap.size + 1 + 1 + 1 < v.heap.size
  bel : Below w.heap.size w v
theorem Ov.below {w v v' : World} {s t : Bool} {P Q : Value} (h : Ov w v s t P Q) (hb : Below v.heap.size v v') : Ov w v' s t P Q := by
  obtain ⟨h1, h2, h3, h4, h5, h6, h7, h8, h9, h10, h11, h12, h13, h14⟩ := h
  have z0 : w.heap.size < v.heap.size := by omega
  have z1 : w.heap.size + 1 < v.heap.size := by omega
  have z2 : w.heap.size + 1 + 1 < v.heap.size := by omega
  exact ⟨(hb.cell (p := ⟨w.heap.size, 0, none⟩) z0).trans h1, (hb.cell (p := ⟨w.heap.size, 1, none⟩) z0).trans h2, (hb.cell (p := ⟨w.heap.size + 1, 0, none⟩) z1).trans h3, (hb.cell (p := ⟨w.heap.size + 1, 1, none⟩) z1).trans h4,
    (hb.cell (p := ⟨w.heap.size + 1 + 1, 0, none⟩) z2).trans h5, (hb.cell (p := ⟨w.heap.size + 1 + 1, 1, none⟩) z2).trans h6, (hb.cell (p := ⟨w.heap.size + 1 + 1 + 1, 0, none⟩) h13).trans h7, (hb.cell (p := ⟨w.heap.size + 1 + 1 + 1, 1, none⟩) h13).trans h8,
    (hb.frozen (p := ⟨w.heap.size + 1 + 1, 0, none⟩) z2).trans h9, (hb.frozen (p := ⟨w.heap.size + 1 + 1, 1, none⟩) z2).trans h10, (hb.frozen (p := ⟨w.heap.size + 1 + 1 + 1, 0, none⟩) h13).trans h11, (hb.frozen (p := ⟨w.heap.size + 1 + 1 + 1, 1, none⟩) h13).trans h12, Nat.lt_of_lt_of_le h13 hb.size, h14.trans (hb.mono h14.size)⟩
theorem Ov.new (w : World) (s t : Bool) (P Q : Value) : Ov w ((((w.alloc (Obj.cells #[Value.bool s, P] 81)).alloc (Obj.cells #[Value.bool t, Q] 81)).alloc (Obj.cells #[Value.bool false, Value.slice none 0 0] 81)).alloc (Obj.cells #[Value.bool false, Value.slice none 0 0] 81)) s t P Q := by
  refine ⟨?_, ?_, ?_, ?_, ?_, ?_, ?_, ?_, ?_, ?_, ?_, ?_, ?_, by go_grown⟩ <;> simp [go_sem]

/-- The two results. -/
def OvRes (n m : Nat) (X1 X2 : Int) (s1 : Bool) (w : World) (e : Ending) (w' : World) : Prop :=
  ∃ p l c q r d, e = .returned (.tuple #[.agg #[.bool s1, .slice p (List.length l) c], .agg #[.bool false, .slice q (List.length r) d]]) ∧ BigR n w' p l X1 ∧ BigR m w' q r X2 ∧ (∀ a, p = some a → w.heap.size ≤ a.block) ∧ Below w.heap.size w w'
theorem OvRes.stored {n m : Nat} {X1 X2 : Int} {s1 s t : Bool} {P Q : Value} {w v w2 : World} {p q : Option Addr} {l r : List Int} {c d : Nat} (K : Ov w v s t P Q) (A : BigR n w2 p l X1) (B : BigR m w2 q r X2)
    (fa : ∀ a, p = some a → v.heap.size ≤ a.block) (fb : ∀ a, q = some a → v.heap.size ≤ a.block) (hb : Below v.heap.size v w2) :
    OvRes n m X1 X2 s1 w (.returned (.tuple #[.agg #[.bool s1, .slice p l.length c], .agg #[.bool false, .slice q r.length d]]))
      ((((w2.setCell ⟨w.heap.size + 1 + 1, 0, none⟩ (.bool s1)).setCell ⟨w.heap.size + 1 + 1, 1, none⟩ (.slice p l.length c)).setCell ⟨w.heap.size + 1 + 1 + 1, 0, none⟩ (.bool false)).setCell ⟨w.heap.size + 1 + 1 + 1, 1, none⟩ (.slice q r.length d)) := by
  have sz := K.sz
  have a0 : ∀ a, p = some a → a.block ≠ w.heap.size + 1 + 1 := fun a h => by have := fa a h; omega
  have a1 : ∀ a, p = some a → a.block ≠ w.heap.size + 1 + 1 + 1 := fun a h => by have := fa a h; omega
  have b0 : ∀ a, q = some a → a.block ≠ w.heap.size + 1 + 1 := fun a h => by have := fb a h; omega
  have b1 : ∀ a, q = some a → a.block ≠ w.heap.size + 1 + 1 + 1 := fun a h => by have := fb a h; omega
  refine ⟨p, l, c, q, r, d, rfl, ⟨A.can, A.size, ?_⟩, ⟨B.can, B.size, ?_⟩, fun a h => by have := fa a h; omega, ?_⟩
  · exact (((A.row.setCell (q := ⟨w.heap.size + 1 + 1, 0, none⟩) a0 _).setCell (q := ⟨w.heap.size + 1 + 1, 1, none⟩) a0 _).setCell (q := ⟨w.heap.size + 1 + 1 + 1, 0, none⟩) a1 _).setCell (q := ⟨w.heap.size + 1 + 1 + 1, 1, none⟩) a1 _
  · exact (((B.row.setCell (q := ⟨w.heap.size + 1 + 1, 0, none⟩) b0 _).setCell (q := ⟨w.heap.size + 1 + 1, 1, none⟩) b0 _).setCell (q := ⟨w.heap.size + 1 + 1 + 1, 0, none⟩) b1 _).setCell (q := ⟨w.heap.size + 1 + 1 + 1, 1, none⟩) b1 _
  · have k := K.bel.trans (hb.mono K.bel.size)
    exact ((((k.setCell (by show w.heap.size ≤ w.heap.size + 1 + 1; omega) _).setCell (by show w.heap.size ≤ w.heap.size + 1 + 1; omega) _).setCell (by show w.heap.size ≤ w.heap.size + 1 + 1 + 1; omega) _).setCell (by show w.heap.size ≤ w.heap.size + 1 + 1 + 1; omega) _)

theorem whole_S {s u : Bool} {V X : Int} (E : (bif s then -V else V) = X) (hu : u = decide (X < 0)) (p : Option Addr) (c : Nat) (l : List Int) (W : World) (h1 : Digs l) (h1' : dval l = V) (h2 : RowR W p l) (h3 : l.length ≤ 1000000) :
    Calls Try.prog 86 #[.bool s, .slice p l.length c] W (BigS l.length X u W) :=
  (whole_to E p c l W h1 h1' h2 h3).mono fun _ _ h => h.s hu

theorem RowR.drew {w : World} {p : Option Addr} {l : List Int} (r : RowR w p l) : RowR w.drew p l := r
theorem RowR.alloc {w : World} {p : Option Addr} {l : List Int} (r : RowR w p l) (o : Obj) : RowR (w.alloc o) p l := r.below ((Below.refl _ _).alloc (Nat.le_refl _) _)
theorem one_row (w : World) : RowR (w.alloc (Obj.cells #[Value.int .i64 1] 3)) (some ⟨w.heap.size, 0, none⟩) [1] := fun i h => ⟨w.heap.size, rfl, by simp, by simp at h; subst h; simp [go_sem]⟩
theorem one_digs : Digs [1] := by intro x m; simp at m; omega
theorem one_val : dval [1] = 1 := by simp [dval]
theorem one_len {n : Nat} : [(1 : Int)].length ≤ n + 1 := by simp
theorem addD_1 (pa : Option Addr) (g ca : Nat) (a : List Int) (w : World) (M : Nat) (ha : Digs a) (ra : RowR w pa a) (rb : RowR w (some ⟨g, 0, none⟩) [1]) (la : a.length ≤ M) (hM : M + 1 ≤ 1000000) :
    Calls Try.prog 87 #[.slice pa a.length ca, .slice (some ⟨g, 0, none⟩) 1 1] w (SumRes (dval a + dval [1]) (M + 1 + 1) w) :=
  addD_any pa (some ⟨g, 0, none⟩) ca 1 a [1] w (M + 1) ha one_digs ra rb (by omega) one_len hM
theorem subD_y {m r : List Int} {nm : Nat} {y R : Int} (hm : m.length = nm) (hy : (y.natAbs : Int) = y) (hr : Can r R) (hl : R < y.natAbs) (hc : Can m y.natAbs) (pa pb : Option Addr) (ca cb : Nat) (w : World) (ra : RowR w pa m) (rb : RowR w pb r) (la : nm ≤ 1000000) :
    Calls Try.prog 89 #[.slice pa nm ca, .slice pb r.length cb] w (RowRes (y - R) nm w) := by
  subst hm
  have := subD_any pa pb ca cb m r w hc.digs hr.digs ra rb la (can_len hr hc (by omega)) (by rw [hr.val, hc.val]; omega)
  rwa [hr.val, hc.val, hy] at this

theorem over_pos {x y : Int} (hx : 0 ≤ x) (hy : 0 < y) : (x.natAbs : Int) / y.natAbs = x / y ∧ (x.natAbs : Int) % y.natAbs = x % y := by
  rw [show (x.natAbs : Int) = x from by omega, show (y.natAbs : Int) = y from by omega]; exact ⟨rfl, rfl⟩
theorem over_neg0 {x y : Int} (hx : x < 0) (hy : 0 < y) (h : (x.natAbs : Int) % y.natAbs = 0) : -((x.natAbs : Int) / y.natAbs) = x / y ∧ x % y = 0 := by
  rw [show (x.natAbs : Int) = -x from by omega, show (y.natAbs : Int) = y from by omega] at h ⊢
  have e := Int.mul_ediv_add_emod (-x) y
  rw [h] at e
  have k := div_end (A := x) (B := y) (q := -(-x / y)) (r := 0) (by rw [Int.mul_neg]; omega) (by omega) (by omega)
  exact ⟨k.1, k.2.symm⟩
theorem over_neg1 {x y : Int} (hx : x < 0) (hy : 0 < y) (h : (x.natAbs : Int) % y.natAbs ≠ 0) : -((x.natAbs : Int) / y.natAbs + 1) = x / y ∧ y - (x.natAbs : Int) % y.natAbs = x % y := by
  rw [show (x.natAbs : Int) = -x from by omega, show (y.natAbs : Int) = y from by omega] at h ⊢
  have e := Int.mul_ediv_add_emod (-x) y
  have r0 := Int.emod_nonneg (-x) (show y ≠ 0 by omega)
  have r1 := Int.emod_lt_of_pos (-x) hy
  exact div_end (A := x) (B := y) (q := -(-x / y + 1)) (r := y - (-x) % y) (by rw [Int.mul_neg, Int.mul_add]; omega) (by omega) (by omega)

set_option maxRecDepth 100000 in
set_option maxHeartbeats 4000000 in
theorem Over_pos {N : Nat} (p q : Option Addr) (c d : Nat) (l m : List Int) (x y : Int) (t u : Bool) (hu : u = decide (x / y < 0)) (w : World) (A : BigR N w p l x) (B : BigR N w q m y) (hx : 0 ≤ x) (hy : 0 < y)(hN : N ≤ 80000) :
    Calls Try.prog 92 #[.agg #[.bool false, .slice p l.length c], .agg #[.bool t, .slice q m.length d]] w (OvRes (N + 2) (N + 1) (x / y) (x % y) u w) := by
  have K := Ov.new w false t (.slice p l.length c) (.slice q m.length d)
  have bx := A.below K.bel
  have by' := B.below K.bel
  have LX := A.size
  have LY := B.size
  have HU := Lib.hid hu
  clear A B hu
  go_enter Try.func92, Try.ntmps92
  go_upto_region 1 with fail
  generalize ((((w.alloc (Obj.cells #[Value.bool false, Value.slice p l.length c] 81)).alloc (Obj.cells #[Value.bool t, Value.slice q m.length d] 81)).alloc (Obj.cells #[Value.bool false, Value.slice none 0 0] 81)).alloc (Obj.cells #[Value.bool false, Value.slice none 0 0] 81)) = v at *
  have HXX := Lib.hid bx
  have HYY := Lib.hid by'
  have K0 := Lib.hid K
  obtain ⟨k1, k2, k3, k4, k5, k6, k7, k8, k9, k10, k11, k12, ksz, kb⟩ := K
  have DV := Lib.hid (by
    have := divD_any p q c d l m (y.natAbs : Int) v bx.can.digs by'.can (by omega) bx.row by'.row (by omega) (by omega)
    rwa [bx.can.val] at this)
  clear bx by'
  have MV := Lib.hid (show y.natAbs = y from by omega)
  generalize hln : l.length = nl at *
  generalize hmn : m.length = nm at *
  have HMN := Lib.hid hmn
  clear hln hmn
  go_wp2_with fail
  refine (DV.out).mono ?_
  rintro e v1 ⟨q1, pq, cq, r1, pr, cr, rfl, a1, a2, a3, a4, a5, a6, a7⟩
  have K1 := Lib.hid (K0.out.below a7)
  have A1 := Lib.hid a1
  have A3 := Lib.hid a3
  have A4 := Lib.hid a4
  have A6 := Lib.hid a6
  have YB := Lib.hid (HYY.out.below a7)
  clear a1 a3 a4 a6 a7 DV k1 k2 k3 k4 k5 k6 k7 k8 k9 k10 k11 k12 ksz kb
  obtain ⟨k1, k2, k3, k4, k5, k6, k7, k8, k9, k10, k11, k12, ksz, kb⟩ := K1.out
  obtain ⟨o1, o2⟩ := over_pos hx hy
  have W1 := Lib.hid (whole_S (s := false) (u := u) (X := x / y) (by simpa using o1) HU.out pq cq q1 v1 A1.out.digs A1.out.val A3.out (by omega))
  have W2 := Lib.hid (fun W (h : Below v1.heap.size v1 W) => whole_S (s := false) (u := false) (X := x % y) (by simpa using o2) (by have := Int.emod_nonneg x (show y ≠ 0 by omega); simp; omega) pr cr r1 W A4.out.digs A4.out.val (A6.out.below h) (by omega))
  clear o1 o2
  go_wp2_with fail
  refine (W1.out).mono ?_
  rintro e v2 ⟨p2, l2, c2, rfl, b1, b2, b3⟩
  have K2 := Lib.hid (K1.out.below b3)
  have B1 := Lib.hid b1
  have B2 := Lib.hid b2
  have B3 := Lib.hid b3
  clear b1 b2 b3 k1 k2 k3 k4 k5 k6 k7 k8 k9 k10 k11 k12 ksz kb W1
  obtain ⟨k1, k2, k3, k4, k5, k6, k7, k8, k9, k10, k11, k12, ksz, kb⟩ := K2.out
  go_wp2_with fail
  refine (W2.out _ B3.out).mono ?_
  rintro e v3 ⟨p3, l3, c3, rfl, b1, b2, b3⟩
  have K3 := Lib.hid (K2.out.below b3)
  have FIN := Lib.hid (OvRes.stored (n := N + 2) (m := N + 1) (s1 := u) (c := c2) (d := c3) K1.out ((B1.out.below b3).more (by omega)) (b1.more (by omega)) B2.out (fun a h => Nat.le_trans B3.out.size (b2 a h)) (B3.out.trans (b3.mono B3.out.size)))
  clear b1 b2 b3 k1 k2 k3 k4 k5 k6 k7 k8 k9 k10 k11 k12 ksz kb W2
  obtain ⟨k1, k2, k3, k4, k5, k6, k7, k8, k9, k10, k11, k12, ksz, kb⟩ := K3.out
  go_wp2_with fail
  refine bodyPost_ret (v := .tuple #[.agg #[.bool u, .slice p2 l2.length c2], .agg #[.bool false, .slice p3 l3.length c3]]) (by simp [results, Try.results92, go_sem, k5, k6, k7, k8, ksz]) rfl FIN.out
set_option maxRecDepth 100000 in
set_option maxHeartbeats 4000000 in
theorem Over_neg0 {N : Nat} (p q : Option Addr) (c d : Nat) (l m : List Int) (x y : Int) (t u : Bool) (hu : u = decide (x / y < 0)) (w : World) (A : BigR N w p l x) (B : BigR N w q m y) (hx : x < 0) (hy : 0 < y) (hr : (x.natAbs : Int) % y.natAbs = 0) (hN : N ≤ 80000) :
    Calls Try.prog 92 #[.agg #[.bool true, .slice p l.length c], .agg #[.bool t, .slice q m.length d]] w (OvRes (N + 2) (N + 1) (x / y) (x % y) u w) := by
  have K := Ov.new w true t (.slice p l.length c) (.slice q m.length d)
  have bx := A.below K.bel
  have by' := B.below K.bel
  have LX := A.size
  have LY := B.size
  have HU := Lib.hid hu
  clear A B hu
  go_enter Try.func92, Try.ntmps92
  go_upto_region 1 with fail
  generalize ((((w.alloc (Obj.cells #[Value.bool true, Value.slice p l.length c] 81)).alloc (Obj.cells #[Value.bool t, Value.slice q m.length d] 81)).alloc (Obj.cells #[Value.bool false, Value.slice none 0 0] 81)).alloc (Obj.cells #[Value.bool false, Value.slice none 0 0] 81)) = v at *
  have HXX := Lib.hid bx
  have HYY := Lib.hid by'
  have K0 := Lib.hid K
  obtain ⟨k1, k2, k3, k4, k5, k6, k7, k8, k9, k10, k11, k12, ksz, kb⟩ := K
  have DV := Lib.hid (by
    have := divD_any p q c d l m (y.natAbs : Int) v bx.can.digs by'.can (by omega) bx.row by'.row (by omega) (by omega)
    rwa [bx.can.val] at this)
  clear bx by'
  have MV := Lib.hid (show y.natAbs = y from by omega)
  generalize hln : l.length = nl at *
  generalize hmn : m.length = nm at *
  have HMN := Lib.hid hmn
  clear hln hmn
  go_wp2_with fail
  refine (DV.out).mono ?_
  rintro e v1 ⟨q1, pq, cq, r1, pr, cr, rfl, a1, a2, a3, a4, a5, a6, a7⟩
  have K1 := Lib.hid (K0.out.below a7)
  have A1 := Lib.hid a1
  have A3 := Lib.hid a3
  have A4 := Lib.hid a4
  have A6 := Lib.hid a6
  have YB := Lib.hid (HYY.out.below a7)
  clear a1 a3 a4 a6 a7 DV k1 k2 k3 k4 k5 k6 k7 k8 k9 k10 k11 k12 ksz kb
  obtain ⟨k1, k2, k3, k4, k5, k6, k7, k8, k9, k10, k11, k12, ksz, kb⟩ := K1.out
  obtain ⟨o1, o2⟩ := over_neg0 hx hy hr
  have W1 := Lib.hid (whole_S (s := true) (u := u) (X := x / y) (by simpa using o1) HU.out pq cq q1 v1 A1.out.digs A1.out.val A3.out (by omega))
  have O2 := Lib.hid o2
  have r0 : r1.length = 0 := A4.out.length_zero.2 hr
  clear o1 o2 hr
  generalize r1.length = nr at *
  subst r0
  go_wp2_with fail
  refine (W1.out).mono ?_
  rintro e v2 ⟨p2, l2, c2, rfl, b1, b2, b3⟩
  have K2 := Lib.hid (K1.out.below b3)
  have FIN := Lib.hid (OvRes.stored (n := N + 2) (m := N + 1) (s1 := u) (X2 := x % y) (c := c2) (d := 0) (q := none) (r := []) K1.out (b1.more (by omega)) ⟨by rw [O2.out]; exact Can.nil, by simp, fun i h => by simp at h⟩ b2 (fun a h => by cases h) b3)
  clear b1 b2 b3 k1 k2 k3 k4 k5 k6 k7 k8 k9 k10 k11 k12 ksz kb W1
  obtain ⟨k1, k2, k3, k4, k5, k6, k7, k8, k9, k10, k11, k12, ksz, kb⟩ := K2.out
  go_wp2_with fail
  refine bodyPost_ret (v := .tuple #[.agg #[.bool u, .slice p2 l2.length c2], .agg #[.bool false, .slice none 0 0]]) (by simp [results, Try.results92, go_sem, k5, k6, k7, k8, ksz]) rfl FIN.out
set_option maxRecDepth 100000 in
set_option maxHeartbeats 4000000 in
theorem Over_neg1 {N : Nat} (p q : Option Addr) (c d : Nat) (l m : List Int) (x y : Int) (t u : Bool) (hu : u = decide (x / y < 0)) (w : World) (A : BigR N w p l x) (B : BigR N w q m y) (hx : x < 0) (hy : 0 < y) (hr : (x.natAbs : Int) % y.natAbs ≠ 0) (hN : N ≤ 80000) :
    Calls Try.prog 92 #[.agg #[.bool true, .slice p l.length c], .agg #[.bool t, .slice q m.length d]] w (OvRes (N + 2) (N + 1) (x / y) (x % y) u w) := by
  have K := Ov.new w true t (.slice p l.length c) (.slice q m.length d)
  have bx := A.below K.bel
  have by' := B.below K.bel
  have LX := A.size
  have LY := B.size
  have HU := Lib.hid hu
  clear A B hu
  go_enter Try.func92, Try.ntmps92
  go_upto_region 1 with fail
  generalize ((((w.alloc (Obj.cells #[Value.bool true, Value.slice p l.length c] 81)).alloc (Obj.cells #[Value.bool t, Value.slice q m.length d] 81)).alloc (Obj.cells #[Value.bool false, Value.slice none 0 0] 81)).alloc (Obj.cells #[Value.bool false, Value.slice none 0 0] 81)) = v at *
  have HXX := Lib.hid bx
  have HYY := Lib.hid by'
  have K0 := Lib.hid K
  obtain ⟨k1, k2, k3, k4, k5, k6, k7, k8, k9, k10, k11, k12, ksz, kb⟩ := K
  have DV := Lib.hid (by
    have := divD_any p q c d l m (y.natAbs : Int) v bx.can.digs by'.can (by omega) bx.row by'.row (by omega) (by omega)
    rwa [bx.can.val] at this)
  clear bx by'
  have MV := Lib.hid (show y.natAbs = y from by omega)
  generalize hln : l.length = nl at *
  generalize hmn : m.length = nm at *
  have HMN := Lib.hid hmn
  clear hln hmn
  go_wp2_with fail
  refine (DV.out).mono ?_
  rintro e v1 ⟨q1, pq, cq, r1, pr, cr, rfl, a1, a2, a3, a4, a5, a6, a7⟩
  have K1 := Lib.hid (K0.out.below a7)
  have A1 := Lib.hid a1
  have A3 := Lib.hid a3
  have A4 := Lib.hid a4
  have A6 := Lib.hid a6
  have YB := Lib.hid (HYY.out.below a7)
  clear a1 a3 a4 a6 a7 DV k1 k2 k3 k4 k5 k6 k7 k8 k9 k10 k11 k12 ksz kb
  obtain ⟨k1, k2, k3, k4, k5, k6, k7, k8, k9, k10, k11, k12, ksz, kb⟩ := K1.out
  obtain ⟨o1, o2⟩ := over_neg1 hx hy hr
  have nr0 : 0 < r1.length := by
    rcases Nat.eq_zero_or_pos r1.length with t0 | t0
    · exact absurd (A4.out.length_zero.1 t0) hr
    · exact t0
  have O1 := Lib.hid o1
  have O2 := Lib.hid o2
  have RY := Lib.hid (Int.emod_lt_of_pos (x.natAbs : Int) (show 0 < (y.natAbs : Int) by omega))
  clear o1 o2 hr
  have HZ := Lib.hid (show false = decide (x % y < 0) by have := Int.emod_nonneg x (show y ≠ 0 by omega); simp; omega)
  go_wp2_with fail
  go_region_held3 (fun w' => w'.cell? ⟨w.heap.size + 1, 1, none⟩ = some (.slice q nm d))
    (first | exact ⟨k1⟩ | (simp [go_sem, k4, show w.heap.size + 1 < v1.heap.size from by omega]; done) | (simp [go_sem, k4]; done) | go_keep)
    (first
      | (go_at_call 87; (with_reducible refine (addD_1 pq _ cq q1 _ N A1.out.digs (by first | exact A3.out | exact RowR.drew A3.out | exact RowR.alloc A3.out _ | exact RowR.drew (RowR.alloc A3.out _) | exact RowR.alloc (RowR.drew A3.out) _) (by first | exact one_row _ | exact RowR.drew (one_row _)) (by omega) (by omega)).mono ?_); rintro e v2 ⟨t3, p3, c3, rfl, e1, e2, e3, e4, r6⟩; have st : Below v1.heap.size v1 v2 := (by first | exact r6 | exact ((Below.refl _ _).drew).trans r6 | exact (((Below.refl _ _).alloc (Nat.le_refl _) _)).trans (r6.mono (by simp)) | exact (((Below.refl _ _).drew.alloc (Nat.le_refl _) _)).trans (r6.mono (by simp)) | exact (((Below.refl _ _).alloc (Nat.le_refl _) _).drew).trans (r6.mono (by simp))); have K2 := Lib.hid (K1.out.below st); have S2 := Lib.hid (show Below v1.heap.size v1 v2 from st); clear k1 k2 k3 k4 k5 k6 k7 k8 k9 k10 k11 k12 ksz kb; obtain ⟨k1, k2, k3, k4, k5, k6, k7, k8, k9, k10, k11, k12, ksz, kb⟩ := K2.out; have A6_2 := Lib.hid (A6.out.below st); have YB_2 := Lib.hid (YB.out.below st); have E1 := Lib.hid e1; have E2 := Lib.hid e2; have E3 := Lib.hid e3; have E4 := Lib.hid e4; have V1 := Lib.hid (show Below v1.heap.size v1 v2 from st); clear e1 e2 e3 e4 r6; clear st)
      | (go_at_call 86; (with_reducible refine (whole_S (s := true) (u := u) (X := x / y) (V := (x.natAbs : Int) / y.natAbs + 1) (by simpa using O1.out) HU.out p3 c3 t3 _ E1.out (by rw [E2.out, A1.out.val, one_val]) (by first | exact E4.out | exact RowR.drew E4.out | exact RowR.alloc E4.out _ | exact RowR.drew (RowR.alloc E4.out _) | exact RowR.alloc (RowR.drew E4.out) _) (by have := E3.out; omega)).mono ?_); rintro e v3 ⟨p4, l4, c4, rfl, b1, b2, b3⟩; have st : Below v2.heap.size v2 v3 := (by first | exact b3 | exact ((Below.refl _ _).drew).trans b3 | exact (below_drewN (Below.refl _ _) _).trans b3); have K3 := Lib.hid (K2.out.below st); have S3 := Lib.hid (show Below v2.heap.size v2 v3 from st); clear k1 k2 k3 k4 k5 k6 k7 k8 k9 k10 k11 k12 ksz kb; obtain ⟨k1, k2, k3, k4, k5, k6, k7, k8, k9, k10, k11, k12, ksz, kb⟩ := K3.out; have A6_3 := Lib.hid (A6_2.out.below st); have YB_3 := Lib.hid (YB_2.out.below st); have B4 := Lib.hid b1; have F4 := Lib.hid b2; clear b1 b2 b3; clear st)
      | (go_at_call 89; (with_reducible refine (subD_y HMN.out MV.out A4.out RY.out YB.out.can q pr d cr _ (by first | exact YB_3.out.row | exact RowR.drew YB_3.out.row) (by first | exact A6_3.out | exact RowR.drew A6_3.out | exact RowR.alloc A6_3.out _ | exact RowR.drew (RowR.alloc A6_3.out _) | exact RowR.alloc (RowR.drew A6_3.out) _) (by omega)).mono ?_); rintro e v4 ⟨t5, p5, c5, rfl, e1, e2, e3, e4, e5, r6⟩; have st : Below v3.heap.size v3 v4 := (by first | exact r6 | exact ((Below.refl _ _).drew).trans r6 | exact (below_drewN (Below.refl _ _) _).trans r6); have K4 := Lib.hid (K3.out.below st); have S4 := Lib.hid (show Below v3.heap.size v3 v4 from st); clear k1 k2 k3 k4 k5 k6 k7 k8 k9 k10 k11 k12 ksz kb; obtain ⟨k1, k2, k3, k4, k5, k6, k7, k8, k9, k10, k11, k12, ksz, kb⟩ := K4.out; have B4_4 := Lib.hid (B4.out.below st); have G1 := Lib.hid e1; have G2 := Lib.hid e2; have G3 := Lib.hid e3; clear e1 e2 e3 e4 e5 r6; clear st)
      | (go_at_call 86; (with_reducible refine (whole_S (s := false) (u := false) (X := x % y) (V := y - (x.natAbs : Int) % y.natAbs) (by simpa using O2.out) HZ.out p5 c5 t5 _ G1.out.digs G1.out.val (by first | exact G3.out | exact RowR.drew G3.out | exact RowR.alloc G3.out _ | exact RowR.drew (RowR.alloc G3.out _) | exact RowR.alloc (RowR.drew G3.out) _) (by have := G2.out; omega)).mono ?_); rintro e v5 ⟨p6, l6, c6, rfl, b1, b2, b3⟩; have st : Below v4.heap.size v4 v5 := (by first | exact b3 | exact ((Below.refl _ _).drew).trans b3 | exact (below_drewN (Below.refl _ _) _).trans b3); have K5 := Lib.hid (K4.out.below st); have S5 := Lib.hid (show Below v4.heap.size v4 v5 from st); clear k1 k2 k3 k4 k5 k6 k7 k8 k9 k10 k11 k12 ksz kb; obtain ⟨k1, k2, k3, k4, k5, k6, k7, k8, k9, k10, k11, k12, ksz, kb⟩ := K5.out; have B4_5 := Lib.hid (B4_4.out.below st); have B6 := Lib.hid b1; have F6 := Lib.hid b2; have V5 := Lib.hid b3; clear b1 b2 b3; clear st))
  go_wp2_with fail
  have V2 := S2.out.trans (S3.out.mono S2.out.size)
  have V3 := V2.trans (S4.out.mono V2.size)
  have V4 := V3.trans (S5.out.mono V3.size)
  have FIN := Lib.hid (OvRes.stored (n := N + 2) (m := N + 1) (s1 := u) (c := c4) (d := c6) K1.out (B4_5.out.more (by have := E3.out; omega)) (B6.out.more (by have := G2.out; omega)) (fun a h => Nat.le_trans S2.out.size (F4.out a h)) (fun a h => Nat.le_trans V3.size (F6.out a h)) V4)
  exact bodyPost_ret (v := .tuple #[.agg #[.bool u, .slice p4 l4.length c4], .agg #[.bool false, .slice p6 l6.length c6]]) (by simp [results, Try.results92, go_sem, k5, k6, k7, k8, ksz]) rfl FIN.out
end Go.Proofs.Ytlahdfmciaibdaa
