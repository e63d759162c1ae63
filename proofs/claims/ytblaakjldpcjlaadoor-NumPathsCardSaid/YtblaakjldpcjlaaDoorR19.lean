/- The reference's Big once more, its signs behind letters. -/
import Derived.Test.YtblaakjldpcjlaaDoorR18
namespace Go.Proofs.YtblaakjldpcjlaaDoor
open Go.RowKit
set_option linter.unusedVariables false
set_option linter.unusedSimpArgs false

/-- A call's result is the whole number x, whose sign is s. -/
def BigS (n : Nat) (x : Int) (s : Bool) (w : World) (e : Ending) (w' : World) : Prop :=
  ∃ p l c, e = .returned (.agg #[.bool s, .slice p (List.length l) c]) ∧ BigR n w' p l x ∧ (∀ a, p = some a → w.heap.size ≤ a.block) ∧ Below w.heap.size w w'
theorem BigRes.s {n : Nat} {x : Int} {s : Bool} (hs : s = decide (x < 0)) {w w' : World} {e : Ending} (h : BigRes n x w e w') : BigS n x s w e w' := by subst hs; exact h

theorem of_s (x : Int) (s : Bool) (hs : s = decide (x < 0)) (h1 : -9223372036854775808 ≤ x) (h2 : x ≤ 9223372036854775807) (w : World) :
    Calls Tryd.prog 16 #[.int .i64 x] w (BigS 5 x s w) := (Of_any x h1 h2 w).mono fun _ _ h => h.s hs
theorem times_s {n m : Nat} (x y : Int) (s t u : Bool) (hs : s = decide (x < 0)) (ht : t = decide (y < 0)) (hu : u = decide (x * y < 0)) (pa pb : Option Addr) (ca cb : Nat) (a b : List Int) (w : World) (A : BigR n w pa a x) (B : BigR m w pb b y) (hn : n ≤ 90000) (hm : m ≤ 90000) :
    Calls Tryd.prog 14 #[.agg #[.bool s, .slice pa a.length ca], .agg #[.bool t, .slice pb b.length cb]] w (BigS (n + m) (x * y) u w) := by
  subst hs ht
  exact (Times_any pa pb ca cb a b x y w A B hn hm).mono fun _ _ h => h.s hu
theorem plus_s {k : Nat} (x y : Int) (s t u : Bool) (hs : s = decide (x < 0)) (ht : t = decide (y < 0)) (hu : u = decide (x + y < 0)) (pa pb : Option Addr) (ca cb : Nat) (a b : List Int) (w : World) (A : BigR k w pa a x) (B : BigR k w pb b y) (hk : k ≤ 90000) :
    Calls Tryd.prog 62 #[.agg #[.bool s, .slice pa a.length ca], .agg #[.bool t, .slice pb b.length cb]] w (BigS (k + 1) (x + y) u w) := by
  subst hs ht
  exact (Plus_any pa pb ca cb a b x y w A B hk).mono fun _ _ h => h.s hu
theorem minus_s {k : Nat} (x y : Int) (s t u : Bool) (hs : s = decide (x < 0)) (ht : t = decide (y < 0)) (hu : u = decide (x - y < 0)) (pa pb : Option Addr) (ca cb : Nat) (a b : List Int) (w : World) (A : BigR k w pa a x) (B : BigR k w pb b y) (hk : k ≤ 90000) :
    Calls Tryd.prog 35 #[.agg #[.bool s, .slice pa a.length ca], .agg #[.bool t, .slice pb b.length cb]] w (BigS (k + 1) (x - y) u w) := by
  subst hs ht
  exact (Minus_any pa pb ca cb a b x y w A B hk).mono fun _ _ h => h.s hu
theorem compare_s {n m : Nat} (x y : Int) (s t : Bool) (hs : s = decide (x < 0)) (ht : t = decide (y < 0)) (pa pb : Option Addr) (ca cb : Nat) (a b : List Int) (w : World) (A : BigR n w pa a x) (B : BigR m w pb b y) (hn : n ≤ 90000) (hm : m ≤ 90000) :
    Calls Tryd.prog 17 #[.agg #[.bool s, .slice pa a.length ca], .agg #[.bool t, .slice pb b.length cb]] w fun e w' => e = .returned (.int .i64 (cmpZ x y)) ∧ Below w.heap.size w w' := by
  subst hs ht
  exact Compare_any pa pb ca cb a b x y w A B (by omega) (by omega)
theorem lowest_s {N : Nat} (x y : Int) (s t : Bool) (hs : s = decide (x < 0)) (ht : t = decide (y < 0)) (hy : y ≠ 0) (p q : Option Addr) (c d : Nat) (l m : List Int) (w : World) (A : BigR N w p l x) (B : BigR N w q m y) (hN : N ≤ 80000) :
    Calls Tryd.prog 68 #[.agg #[.bool s, .slice p l.length c], .agg #[.bool t, .slice q m.length d]] w (Res (IsFrac x y) w) := by
  subst hs ht
  exact Lowest_any p q c d l m x y w A B hy hN

/-- Two boxed fractions. -/
structure Fr2 (w v : World) (an ad bn bd : Int) : Prop where
  a0 : v.cell? ⟨w.heap.size, 0, none⟩ = some (.int .i64 an)
  a1 : v.cell? ⟨w.heap.size, 1, none⟩ = some (.int .i64 ad)
  b0 : v.cell? ⟨w.heap.size + 1, 0, none⟩ = some (.int .i64 bn)
  b1 : v.cell? ⟨w.heap.size + 1, 1, none⟩ = some (.int .i64 bd)
  sz : w.heap.size + 1 < v.heap.size
  bel : Below w.heap.size w v
theorem Fr2.below {w v v' : World} {an ad bn bd : Int} (h : Fr2 w v an ad bn bd) (hb : Below v.heap.size v v') : Fr2 w v' an ad bn bd := by
  obtain ⟨h1, h2, h3, h4, h5, h6⟩ := h
  have z0 : w.heap.size < v.heap.size := by omega
  exact ⟨(hb.cell (p := ⟨w.heap.size, 0, none⟩) z0).trans h1, (hb.cell (p := ⟨w.heap.size, 1, none⟩) z0).trans h2, (hb.cell (p := ⟨w.heap.size + 1, 0, none⟩) h5).trans h3, (hb.cell (p := ⟨w.heap.size + 1, 1, none⟩) h5).trans h4, Nat.lt_of_lt_of_le h5 hb.size, h6.trans (hb.mono h6.size)⟩
theorem Fr2.new (w : World) (an ad bn bd : Int) : Fr2 w ((w.alloc (Obj.cells #[Value.int .i64 an, Value.int .i64 ad] 23)).alloc (Obj.cells #[Value.int .i64 bn, Value.int .i64 bd] 23)) an ad bn bd := by
  refine ⟨?_, ?_, ?_, ?_, ?_, by go_grown⟩ <;> simp [go_sem]
end Go.Proofs.YtblaakjldpcjlaaDoor
