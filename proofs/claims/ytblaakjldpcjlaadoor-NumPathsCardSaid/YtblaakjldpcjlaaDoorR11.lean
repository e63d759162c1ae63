/- The reference's Big: Times, Plus, Minus. -/
import Derived.Test.YtblaakjldpcjlaaDoorR10
namespace Go.Proofs.YtblaakjldpcjlaaDoor
open Go.RowKit
set_option linter.unusedVariables false
set_option linter.unusedSimpArgs false

/-- Two boxed numbers and a result's box. -/
structure Box3 (w v : World) (s t : Bool) (P Q : Value) : Prop where
  a0 : v.cell? ⟨w.heap.size, 0, none⟩ = some (.bool s)
  a1 : v.cell? ⟨w.heap.size, 1, none⟩ = some P
  b0 : v.cell? ⟨w.heap.size + 1, 0, none⟩ = some (.bool t)
  b1 : v.cell? ⟨w.heap.size + 1, 1, none⟩ = some Q
  c0 : v.cell? ⟨w.heap.size + 1 + 1, 0, none⟩ = some (.bool false)
  c1 : v.cell? ⟨w.heap.size + 1 + 1, 1, none⟩ = some (.slice none 0 0)
  f0 : v.frozen? ⟨w.heap.size + 1 + 1, 0, none⟩ = false
  f1 : v.frozen? ⟨w.heap.size + 1 + 1, 1, none⟩ = false
  sz : w.heap.size + 1 + 1 < v.heap.size
  bel : Below w.heap.size w v
theorem Box3.below {w v v' : World} {s t : Bool} {P Q : Value} (h : Box3 w v s t P Q) (hb : Below v.heap.size v v') : Box3 w v' s t P Q := by
  obtain ⟨h1, h2, h3, h4, h5, h6, h7, h8, h9, h10⟩ := h
  have z0 : w.heap.size < v.heap.size := by omega
  have z1 : w.heap.size + 1 < v.heap.size := by omega
  exact ⟨(hb.cell (p := ⟨w.heap.size, 0, none⟩) z0).trans h1, (hb.cell (p := ⟨w.heap.size, 1, none⟩) z0).trans h2, (hb.cell (p := ⟨w.heap.size + 1, 0, none⟩) z1).trans h3, (hb.cell (p := ⟨w.heap.size + 1, 1, none⟩) z1).trans h4,
    (hb.cell (p := ⟨w.heap.size + 1 + 1, 0, none⟩) h9).trans h5, (hb.cell (p := ⟨w.heap.size + 1 + 1, 1, none⟩) h9).trans h6, (hb.frozen (p := ⟨w.heap.size + 1 + 1, 0, none⟩) h9).trans h7, (hb.frozen (p := ⟨w.heap.size + 1 + 1, 1, none⟩) h9).trans h8, Nat.lt_of_lt_of_le h9 hb.size, h10.trans (hb.mono h10.size)⟩
theorem Box3.new (w : World) (s t : Bool) (P Q : Value) : Box3 w (((w.alloc (Obj.cells #[Value.bool s, P] 30)).alloc (Obj.cells #[Value.bool t, Q] 30)).alloc (Obj.cells #[Value.bool false, Value.slice none 0 0] 30)) s t P Q := by
  refine ⟨?_, ?_, ?_, ?_, ?_, ?_, ?_, ?_, ?_, by go_grown⟩ <;> simp [go_sem]
theorem Box3.drew {w v : World} {s t : Bool} {P Q : Value} (h : Box3 w v s t P Q) : Box3 w v.drew s t P Q := ⟨h.a0, h.a1, h.b0, h.b1, h.c0, h.c1, h.f0, h.f1, h.sz, h.bel.drew⟩

theorem sgn_mul (x y : Int) : (bif (decide (x < 0) != decide (y < 0)) then -((x.natAbs : Int) * y.natAbs) else (x.natAbs : Int) * y.natAbs) = x * y := by
  rcases (by omega : x = x.natAbs ∨ x = -(x.natAbs : Int)) with h | h <;> rcases (by omega : y = y.natAbs ∨ y = -(y.natAbs : Int)) with k | k
  all_goals generalize x.natAbs = p at *
  all_goals generalize y.natAbs = q at *
  all_goals subst h k
  · have a : ¬ ((p : Int) < 0) := by omega
    have b : ¬ ((q : Int) < 0) := by omega
    simp [a, b]
  · have a : ¬ ((p : Int) < 0) := by omega
    by_cases z : q = 0
    · subst z; simp
    · have b : (-(q : Int) < 0) := by omega
      simp only [a, b, decide_false, decide_true, Bool.false_bne, cond_true]; rw [Int.mul_neg]
  · have b : ¬ ((q : Int) < 0) := by omega
    by_cases z : p = 0
    · subst z; simp
    · have a : (-(p : Int) < 0) := by omega
      simp only [a, b, decide_false, decide_true, Bool.bne_false, cond_true]; rw [Int.neg_mul]
  · by_cases z : p = 0
    · subst z; simp
    · by_cases z' : q = 0
      · subst z'; simp
      · have a : (-(p : Int) < 0) := by omega
        have b : (-(q : Int) < 0) := by omega
        simp only [a, b, decide_true, bne_self_eq_false, cond_false]; rw [Int.neg_mul_neg]

set_option maxHeartbeats 1000000 in
theorem Times_any {n m : Nat} (pa pb : Option Addr) (ca cb : Nat) (a b : List Int) (x y : Int) (w : World) (A : BigR n w pa a x) (B : BigR m w pb b y) (hn : n ≤ 90000) (hm : m ≤ 90000) :
    Calls Tryd.prog 14 #[.agg #[.bool (decide (x < 0)), .slice pa a.length ca], .agg #[.bool (decide (y < 0)), .slice pb b.length cb]] w (BigRes (n + m) (x * y) w) := by
  have SA := A.size
  have SB := B.size
  have G := Lib.hid (fun W (h : Below w.heap.size w W) => mulD_any pa pb ca cb a b W A.can.digs B.can.digs (A.row.below h) (B.row.below h) (by omega) (by omega))
  have E : (bif (!(decide (x < 0) == decide (y < 0))) then -(dval a * dval b) else dval a * dval b) = x * y := by
    rw [A.can.val, B.can.val]; exact sgn_mul x y
  have WH := Lib.hid (fun (p : Option Addr) (c : Nat) (l : List Int) W (h1 : Can l (dval a * dval b)) (h2 : RowR W p l) (h3 : l.length ≤ 1000000) => by
    have := whole_any (!(decide (x < 0) == decide (y < 0))) p c l W h1.digs h2 h3
    rw [h1.val, E] at this
    exact this)
  have K := Box3.new w (decide (x < 0)) (decide (y < 0)) (.slice pa a.length ca) (.slice pb b.length cb)
  clear E A B
  generalize decide (x < 0) = s at *
  generalize decide (y < 0) = t at *
  generalize x * y = X at *
  go_enter Tryd.func14, Tryd.ntmps14
  go_wp2_with fail
  generalize (((w.alloc (Obj.cells #[Value.bool s, Value.slice pa a.length ca] 30)).alloc (Obj.cells #[Value.bool t, Value.slice pb b.length cb] 30)).alloc (Obj.cells #[Value.bool false, Value.slice none 0 0] 30)) = v at *
  have HK := Lib.hid K
  obtain ⟨k1, k2, k3, k4, k5, k6, k7, k8, k9, kb⟩ := K
  go_region_held3 (fun w' => w'.cell? ⟨w.heap.size, 0, none⟩ = some (.bool s) ∧ w'.cell? ⟨w.heap.size, 1, none⟩ = some (.slice pa a.length ca) ∧ w'.cell? ⟨w.heap.size + 1, 0, none⟩ = some (.bool t) ∧ w'.cell? ⟨w.heap.size + 1, 1, none⟩ = some (.slice pb b.length cb))
    (first | exact ⟨k1, k2, k3, k4⟩ | (refine ⟨?_, ?_, ?_, ?_⟩ <;> simp [go_sem, k1, k2, k3, k4]; done))
    (first
      | (go_at_call 46; refine (G.out _ (by first | exact kb | exact kb.drew)).mono ?_; rintro e w1 ⟨l1, p1, c1, rfl, d1, d2, d3, d4, d5, d6⟩; have K1 := Lib.hid (show Box3 w w1 s t _ _ from (by first | exact HK.out.below d6 | exact HK.out.drew.below d6)); clear k1 k2 k3 k4 k5 k6 k7 k8 k9 kb; obtain ⟨k1, k2, k3, k4, k5, k6, k7, k8, k9, kb⟩ := K1.out; have D1 := Lib.hid d1; have D2 := Lib.hid d2; have D3 := Lib.hid d3; clear d1 d2 d3 d4 d5 d6)
      | (go_at_call 45; refine (WH.out p1 c1 l1 _ D1.out (by exact D3.out) (by have := D2.out; omega)).mono ?_; rintro e w2 ⟨p2, l2, c2, rfl, r1, r2, r3⟩; have K2 := Lib.hid (show Box3 w w2 s t _ _ from (by first | exact K1.out.below r3 | exact K1.out.drew.below r3)); clear k1 k2 k3 k4 k5 k6 k7 k8 k9 kb; obtain ⟨k1, k2, k3, k4, k5, k6, k7, k8, k9, kb⟩ := K2.out; have R1 := Lib.hid r1; have R2 := Lib.hid r2; have R3 := Lib.hid r3; clear r1 r2 r3))
  have FIN := Lib.hid (BigRes.stored (c := c2) (r := w.heap.size + 1 + 1) K1.out.bel (by omega) K1.out.sz (R1.out.more (m := n + m) (by have := D2.out; omega)) R2.out R3.out)
  clear WH G HK K1 K2 D1 D2 D3 R1 R2 R3
  generalize decide (X < 0) = sg at *
  go_wp2_with fail
  exact bodyPost_ret (v := .agg #[.bool sg, .slice p2 l2.length c2]) (by simp [results, Tryd.results14, go_sem, k5, k6, k9]) rfl FIN.out
end Go.Proofs.YtblaakjldpcjlaaDoor
