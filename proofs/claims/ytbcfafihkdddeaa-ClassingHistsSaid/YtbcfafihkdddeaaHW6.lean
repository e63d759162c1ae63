/- Several texts in one: R1 R18 R19 R23 M7 R24. -/
import Derived.Test.YtbcfafihkdddeaaB10
import Derived.Test.YtbcfafihkdddeaaHW5
import Derived.Test.YtbcfafihkdddeaaHW2
import Derived.Test.YtbcfafihkdddeaaB2

/- The reference's small functions: Mode, amount, Valid. -/
namespace Go.Proofs.Ytbcfafihkdddeaa
open Go.RowKit
set_option linter.unusedVariables false
set_option linter.unusedSimpArgs false

theorem rValid_any (n d : Int) (hn1 : -9223372036854775808 ≤ n) (hn2 : n ≤ 9223372036854775807) (w : World) :
    Calls Try.prog 68 #[.agg #[.int .i64 n, .int .i64 d]] w fun e w' => e = .returned (.bool (vldB n d)) ∧ Below w.heap.size w w' := by
  by_cases h1 : d < 1
  · go_enter Try.func68, Try.ntmps68
    go_wp2
    go_ret
    exact ⟨ret_b (by symm; rw [Bool.eq_false_iff]; rw [Ne, vldB_true]; omega), by go_grown⟩
  by_cases h2 : 1048576 < d
  · go_enter Try.func68, Try.ntmps68
    go_wp2
    go_ret
    exact ⟨ret_b (by symm; rw [Bool.eq_false_iff]; rw [Ne, vldB_true]; omega), by go_grown⟩
  by_cases h3 : n < -1099511627776
  · go_enter Try.func68, Try.ntmps68
    go_wp2
    go_ret
    exact ⟨ret_b (by symm; rw [Bool.eq_false_iff]; rw [Ne, vldB_true]; omega), by go_grown⟩
  by_cases h4 : 1099511627776 < n
  · go_enter Try.func68, Try.ntmps68
    go_wp2
    go_ret
    exact ⟨ret_b (by symm; rw [Bool.eq_false_iff]; rw [Ne, vldB_true]; omega), by go_grown⟩
  by_cases h5 : n < 0
  · have G : Hid (Int.gcd (-n) d = Int.gcd n d) := by show Int.gcd (-n) d = Int.gcd n d; exact Int.neg_gcd
    go_enter Try.func68, Try.ntmps68
    go_wp2
    go_quiet (fail)
    go_wp2
    go_loopw [3, 4] (fun v0 v1 wr => ∃ x y : Int, 0 ≤ x ∧ 0 ≤ y ∧ x ≤ 1099511627776 ∧ y ≤ 1099511627776 ∧ v0 = .int .i64 x ∧ v1 = .int .i64 y ∧ Hid (Int.gcd x y = Int.gcd n d) ∧ ∃ n', wr = (w.alloc (Obj.cells #[Value.int IntKind.i64 n, Value.int IntKind.i64 d] 25)).drewN n') (fun _ v1 _ => (intOf v1).toNat)
    case atStart => exact ⟨-n, d, by omega, by omega, by omega, by omega, rfl, rfl, G, _, rfl⟩
    case round =>
      obtain ⟨x, y, hx, hy, hx', hy', rfl, rfl, hg, k, rfl⟩ := hrel
      by_cases h : 0 < y
      · have g1 : 0 ≤ x % y := Int.emod_nonneg _ (by omega)
        have g2 : x % y < y := Int.emod_lt_of_pos _ h
        go_wp2
        go_quiet (fail)
        go_wp2
        go_roundw
        case rel => exact ⟨y, x % y, by omega, by omega, by omega, by omega, rfl, rfl, (gcd_step x y hx h).trans hg.out, _, World.drewN_drewN _ _ _⟩
        case measure => simp [intOf]; omega
      · have hy0 : y = 0 := by omega
        have H : Hid (y = 0) := hy0
        clear hy0
        go_wp2
        go_ret
        have e := hg.out
        rw [H.out] at e
        have e2 : ((Int.gcd n d : Nat) : Int) = x := by rw [← e]; simp only [Int.gcd, Int.natAbs_zero, Nat.gcd_zero_right]; omega
        refine ⟨ret_b ?_, by refine below_drewN ?_ _; go_grown⟩
        rw [Bool.eq_iff_iff, vldB_true]
        simp
        omega
  · go_enter Try.func68, Try.ntmps68
    go_wp2
    go_quiet (fail)
    go_wp2
    go_loopw [3, 4] (fun v0 v1 wr => ∃ x y : Int, 0 ≤ x ∧ 0 ≤ y ∧ x ≤ 1099511627776 ∧ y ≤ 1099511627776 ∧ v0 = .int .i64 x ∧ v1 = .int .i64 y ∧ Hid (Int.gcd x y = Int.gcd n d) ∧ ∃ n', wr = (w.alloc (Obj.cells #[Value.int IntKind.i64 n, Value.int IntKind.i64 d] 25)).drewN n') (fun _ v1 _ => (intOf v1).toNat)
    case atStart => exact ⟨n, d, by omega, by omega, by omega, by omega, rfl, rfl, rfl, _, rfl⟩
    case round =>
      obtain ⟨x, y, hx, hy, hx', hy', rfl, rfl, hg, k, rfl⟩ := hrel
      by_cases h : 0 < y
      · have g1 : 0 ≤ x % y := Int.emod_nonneg _ (by omega)
        have g2 : x % y < y := Int.emod_lt_of_pos _ h
        go_wp2
        go_quiet (fail)
        go_wp2
        go_roundw
        case rel => exact ⟨y, x % y, by omega, by omega, by omega, by omega, rfl, rfl, (gcd_step x y hx h).trans hg.out, _, World.drewN_drewN _ _ _⟩
        case measure => simp [intOf]; omega
      · have hy0 : y = 0 := by omega
        have H : Hid (y = 0) := hy0
        clear hy0
        go_wp2
        go_ret
        have e := hg.out
        rw [H.out] at e
        have e2 : ((Int.gcd n d : Nat) : Int) = x := by rw [← e]; simp only [Int.gcd, Int.natAbs_zero, Nat.gcd_zero_right]; omega
        refine ⟨ret_b ?_, by refine below_drewN ?_ _; go_grown⟩
        rw [Bool.eq_iff_iff, vldB_true]
        simp
        omega
end Go.Proofs.Ytbcfafihkdddeaa

/- The reference's Make, Opposite. -/
namespace Go.Proofs.Ytbcfafihkdddeaa
open Go.RowKit
set_option linter.unusedVariables false
set_option linter.unusedSimpArgs false

theorem ext0 (a b : Value) (W : World) : (Instr.extract (.tuple #[a, b]) 0).run Try.prog W = .ok a W := rfl
theorem BigR.drew {n : Nat} {w : World} {p : Option Addr} {l : List Int} {x : Int} (r : BigR n w p l x) : BigR n w.drew p l x := ⟨r.can, r.size, r.row⟩
theorem BigR.drewN {n : Nat} {w : World} {p : Option Addr} {l : List Int} {x : Int} (r : BigR n w p l x) (k : Nat) : BigR n (w.drewN k) p l x := ⟨r.can, r.size, r.row⟩

theorem Lowest_any {N : Nat} (p q : Option Addr) (c d : Nat) (l m : List Int) (X Y : Int) (w : World) (A : BigR N w p l X) (B : BigR N w q m Y) (hY : Y ≠ 0) (hN : N ≤ 80000) :
    Calls Try.prog 70 #[.agg #[.bool (decide (X < 0)), .slice p l.length c], .agg #[.bool (decide (Y < 0)), .slice q m.length d]] w (Res (IsFrac X Y) w) := by
  rcases (by omega : 0 < Y ∨ Y < 0) with h | h
  · exact Lowest_pos p q c d l m X Y w A B h hN
  · exact Lowest_neg p q c d l m X Y w A B h hN

end Go.Proofs.Ytbcfafihkdddeaa

/- The reference's Big once more, its signs behind letters. -/
namespace Go.Proofs.Ytbcfafihkdddeaa
open Go.RowKit
set_option linter.unusedVariables false
set_option linter.unusedSimpArgs false

/-- A call's result is the whole number x, whose sign is s. -/
def BigS (n : Nat) (x : Int) (s : Bool) (w : World) (e : Ending) (w' : World) : Prop :=
  ∃ p l c, e = .returned (.agg #[.bool s, .slice p (List.length l) c]) ∧ BigR n w' p l x ∧ (∀ a, p = some a → w.heap.size ≤ a.block) ∧ Below w.heap.size w w'
theorem BigRes.s {n : Nat} {x : Int} {s : Bool} (hs : s = decide (x < 0)) {w w' : World} {e : Ending} (h : BigRes n x w e w') : BigS n x s w e w' := by subst hs; exact h

theorem of_s (x : Int) (s : Bool) (hs : s = decide (x < 0)) (h1 : -9223372036854775808 ≤ x) (h2 : x ≤ 9223372036854775807) (w : World) :
    Calls Try.prog 64 #[.int .i64 x] w (BigS 5 x s w) := (Of_any x h1 h2 w).mono fun _ _ h => h.s hs
theorem times_s {n m : Nat} (x y : Int) (s t u : Bool) (hs : s = decide (x < 0)) (ht : t = decide (y < 0)) (hu : u = decide (x * y < 0)) (pa pb : Option Addr) (ca cb : Nat) (a b : List Int) (w : World) (A : BigR n w pa a x) (B : BigR m w pb b y) (hn : n ≤ 90000) (hm : m ≤ 90000) :
    Calls Try.prog 66 #[.agg #[.bool s, .slice pa a.length ca], .agg #[.bool t, .slice pb b.length cb]] w (BigS (n + m) (x * y) u w) := by
  subst hs ht
  exact (Times_any pa pb ca cb a b x y w A B hn hm).mono fun _ _ h => h.s hu
theorem plus_s {k : Nat} (x y : Int) (s t u : Bool) (hs : s = decide (x < 0)) (ht : t = decide (y < 0)) (hu : u = decide (x + y < 0)) (pa pb : Option Addr) (ca cb : Nat) (a b : List Int) (w : World) (A : BigR k w pa a x) (B : BigR k w pb b y) (hk : k ≤ 90000) :
    Calls Try.prog 116 #[.agg #[.bool s, .slice pa a.length ca], .agg #[.bool t, .slice pb b.length cb]] w (BigS (k + 1) (x + y) u w) := by
  subst hs ht
  exact (Plus_any pa pb ca cb a b x y w A B hk).mono fun _ _ h => h.s hu
theorem minus_s {k : Nat} (x y : Int) (s t u : Bool) (hs : s = decide (x < 0)) (ht : t = decide (y < 0)) (hu : u = decide (x - y < 0)) (pa pb : Option Addr) (ca cb : Nat) (a b : List Int) (w : World) (A : BigR k w pa a x) (B : BigR k w pb b y) (hk : k ≤ 90000) :
    Calls Try.prog 65 #[.agg #[.bool s, .slice pa a.length ca], .agg #[.bool t, .slice pb b.length cb]] w (BigS (k + 1) (x - y) u w) := by
  subst hs ht
  exact (Minus_any pa pb ca cb a b x y w A B hk).mono fun _ _ h => h.s hu
theorem compare_s {n m : Nat} (x y : Int) (s t : Bool) (hs : s = decide (x < 0)) (ht : t = decide (y < 0)) (pa pb : Option Addr) (ca cb : Nat) (a b : List Int) (w : World) (A : BigR n w pa a x) (B : BigR m w pb b y) (hn : n ≤ 90000) (hm : m ≤ 90000) :
    Calls Try.prog 115 #[.agg #[.bool s, .slice pa a.length ca], .agg #[.bool t, .slice pb b.length cb]] w fun e w' => e = .returned (.int .i64 (cmpZ x y)) ∧ Below w.heap.size w w' := by
  subst hs ht
  exact Compare_any pa pb ca cb a b x y w A B (by omega) (by omega)
theorem lowest_s {N : Nat} (x y : Int) (s t : Bool) (hs : s = decide (x < 0)) (ht : t = decide (y < 0)) (hy : y ≠ 0) (p q : Option Addr) (c d : Nat) (l m : List Int) (w : World) (A : BigR N w p l x) (B : BigR N w q m y) (hN : N ≤ 80000) :
    Calls Try.prog 70 #[.agg #[.bool s, .slice p l.length c], .agg #[.bool t, .slice q m.length d]] w (Res (IsFrac x y) w) := by
  subst hs ht
  exact Lowest_any p q c d l m x y w A B hy hN

/-- Two boxed fractions. -/
structure Fr2 (w v : World) (an ad bn bd : Int) : Prop where
  a0 : v.cell? ⟨w.heap.size, 0, none⟩ = some (.int .i64 an)
  a1 : v.cell? ⟨w.heap.size, 1, none⟩ = some (.int .i64 ad)
  b0 : v.cell? ⟨w.heap.size + 1, 0, none⟩ = some (.int .i64 bn)
  b1 : v.cell? ⟨w.heap.size + 1, 1, none⟩ = some (.int .i64 bd)
  sz : w.heap.size + 1 < v.heap.size
  bel : Below w.heap.size w v
theorem Fr2.below {w v v' : World} {an ad bn bd : Int} (h : Fr2 w v an ad bn bd) (hb : Below v.heap.size v v') : Fr2 w v' an ad bn bd := by
  obtain ⟨h1, h2, h3, h4, h5, h6⟩ := h
  have z0 : w.heap.size < v.heap.size := by omega
  exact ⟨(hb.cell (p := ⟨w.heap.size, 0, none⟩) z0).trans h1, (hb.cell (p := ⟨w.heap.size, 1, none⟩) z0).trans h2, (hb.cell (p := ⟨w.heap.size + 1, 0, none⟩) h5).trans h3, (hb.cell (p := ⟨w.heap.size + 1, 1, none⟩) h5).trans h4, Nat.lt_of_lt_of_le h5 hb.size, h6.trans (hb.mono h6.size)⟩
theorem Fr2.new (w : World) (an ad bn bd : Int) : Fr2 w ((w.alloc (Obj.cells #[Value.int .i64 an, Value.int .i64 ad] 25)).alloc (Obj.cells #[Value.int .i64 bn, Value.int .i64 bd] 25)) an ad bn bd := by
  refine ⟨?_, ?_, ?_, ?_, ?_, by go_grown⟩ <;> simp [go_sem]
end Go.Proofs.Ytbcfafihkdddeaa

/- The reference's Over. -/
namespace Go.Proofs.Ytbcfafihkdddeaa
open Go.RowKit
set_option linter.unusedVariables false
set_option linter.unusedSimpArgs false

/-- Two boxed numbers and two results' boxes. -/
structure Ov (w v : World) (s t : Bool) (P Q : Value) : Prop where
  a0 : v.cell? ⟨w.heap.size, 0, none⟩ = some (.bool s)
  a1 : v.cell? ⟨w.heap.size, 1, none⟩ = some P
  b0 : v.cell? ⟨w.heap.size + 1, 0, none⟩ = some (.bool t)
  b1 : v.cell? ⟨w.heap.size + 1, 1, none⟩ = some Q
  c0 : v.cell? ⟨w.heap.size + 1 + 1, 0, none⟩ = some (.bool false)
  c1 : v.cell? ⟨w.heap.size + 1 + 1, 1, none⟩ = some (.slice none 0 0)
  d0 : v.cell? ⟨w.heap.size + 1 + 1 + 1, 0, none⟩ = some (.bool false)
  d1 : v.cell? ⟨w.heap.size + 1 + 1 + 1, 1, none⟩ = some (.slice none 0 0)
  f0 : v.frozen? ⟨w.heap.size + 1 + 1, 0, none⟩ = false
  f1 : v.frozen? ⟨w.heap.size + 1 + 1, 1, none⟩ = false
  f2 : v.frozen? ⟨w.heap.size + 1 + 1 + 1, 0, none⟩ = false
  f3 : v.frozen? ⟨w.heap.size + 1 + 1 + 1, 1, none⟩ = false
  sz : w.heap.size + 1 + 1 + 1 < v.heap.size
  bel : Below w.heap.size w v
theorem Ov.below {w v v' : World} {s t : Bool} {P Q : Value} (h : Ov w v s t P Q) (hb : Below v.heap.size v v') : Ov w v' s t P Q := by
  obtain ⟨h1, h2, h3, h4, h5, h6, h7, h8, h9, h10, h11, h12, h13, h14⟩ := h
  have z0 : w.heap.size < v.heap.size := by omega
  have z1 : w.heap.size + 1 < v.heap.size := by omega
  have z2 : w.heap.size + 1 + 1 < v.heap.size := by omega
  exact ⟨(hb.cell (p := ⟨w.heap.size, 0, none⟩) z0).trans h1, (hb.cell (p := ⟨w.heap.size, 1, none⟩) z0).trans h2, (hb.cell (p := ⟨w.heap.size + 1, 0, none⟩) z1).trans h3, (hb.cell (p := ⟨w.heap.size + 1, 1, none⟩) z1).trans h4,
    (hb.cell (p := ⟨w.heap.size + 1 + 1, 0, none⟩) z2).trans h5, (hb.cell (p := ⟨w.heap.size + 1 + 1, 1, none⟩) z2).trans h6, (hb.cell (p := ⟨w.heap.size + 1 + 1 + 1, 0, none⟩) h13).trans h7, (hb.cell (p := ⟨w.heap.size + 1 + 1 + 1, 1, none⟩) h13).trans h8,
    (hb.frozen (p := ⟨w.heap.size + 1 + 1, 0, none⟩) z2).trans h9, (hb.frozen (p := ⟨w.heap.size + 1 + 1, 1, none⟩) z2).trans h10, (hb.frozen (p := ⟨w.heap.size + 1 + 1 + 1, 0, none⟩) h13).trans h11, (hb.frozen (p := ⟨w.heap.size + 1 + 1 + 1, 1, none⟩) h13).trans h12, Nat.lt_of_lt_of_le h13 hb.size, h14.trans (hb.mono h14.size)⟩
theorem Ov.new (w : World) (s t : Bool) (P Q : Value) : Ov w ((((w.alloc (Obj.cells #[Value.bool s, P] 89)).alloc (Obj.cells #[Value.bool t, Q] 89)).alloc (Obj.cells #[Value.bool false, Value.slice none 0 0] 89)).alloc (Obj.cells #[Value.bool false, Value.slice none 0 0] 89)) s t P Q := by
  refine ⟨?_, ?_, ?_, ?_, ?_, ?_, ?_, ?_, ?_, ?_, ?_, ?_, ?_, by go_grown⟩ <;> simp [go_sem]

/-- The two results. -/
def OvRes (n m : Nat) (X1 X2 : Int) (s1 : Bool) (w : World) (e : Ending) (w' : World) : Prop :=
  ∃ p l c q r d, e = .returned (.tuple #[.agg #[.bool s1, .slice p (List.length l) c], .agg #[.bool false, .slice q (List.length r) d]]) ∧ BigR n w' p l X1 ∧ BigR m w' q r X2 ∧ (∀ a, p = some a → w.heap.size ≤ a.block) ∧ Below w.heap.size w w'
theorem OvRes.stored {n m : Nat} {X1 X2 : Int} {s1 s t : Bool} {P Q : Value} {w v w2 : World} {p q : Option Addr} {l r : List Int} {c d : Nat} (K : Ov w v s t P Q) (A : BigR n w2 p l X1) (B : BigR m w2 q r X2)
    (fa : ∀ a, p = some a → v.heap.size ≤ a.block) (fb : ∀ a, q = some a → v.heap.size ≤ a.block) (hb : Below v.heap.size v w2) :
    OvRes n m X1 X2 s1 w (.returned (.tuple #[.agg #[.bool s1, .slice p l.length c], .agg #[.bool false, .slice q r.length d]]))
      ((((w2.setCell ⟨w.heap.size + 1 + 1, 0, none⟩ (.bool s1)).setCell ⟨w.heap.size + 1 + 1, 1, none⟩ (.slice p l.length c)).setCell ⟨w.heap.size + 1 + 1 + 1, 0, none⟩ (.bool false)).setCell ⟨w.heap.size + 1 + 1 + 1, 1, none⟩ (.slice q r.length d)) := by
  have sz := K.sz
  have a0 : ∀ a, p = some a → a.block ≠ w.heap.size + 1 + 1 := fun a h => by have := fa a h; omega
  have a1 : ∀ a, p = some a → a.block ≠ w.heap.size + 1 + 1 + 1 := fun a h => by have := fa a h; omega
  have b0 : ∀ a, q = some a → a.block ≠ w.heap.size + 1 + 1 := fun a h => by have := fb a h; omega
  have b1 : ∀ a, q = some a → a.block ≠ w.heap.size + 1 + 1 + 1 := fun a h => by have := fb a h; omega
  refine ⟨p, l, c, q, r, d, rfl, ⟨A.can, A.size, ?_⟩, ⟨B.can, B.size, ?_⟩, fun a h => by have := fa a h; omega, ?_⟩
  · exact (((A.row.setCell (q := ⟨w.heap.size + 1 + 1, 0, none⟩) a0 _).setCell (q := ⟨w.heap.size + 1 + 1, 1, none⟩) a0 _).setCell (q := ⟨w.heap.size + 1 + 1 + 1, 0, none⟩) a1 _).setCell (q := ⟨w.heap.size + 1 + 1 + 1, 1, none⟩) a1 _
  · exact (((B.row.setCell (q := ⟨w.heap.size + 1 + 1, 0, none⟩) b0 _).setCell (q := ⟨w.heap.size + 1 + 1, 1, none⟩) b0 _).setCell (q := ⟨w.heap.size + 1 + 1 + 1, 0, none⟩) b1 _).setCell (q := ⟨w.heap.size + 1 + 1 + 1, 1, none⟩) b1 _
  · have k := K.bel.trans (hb.mono K.bel.size)
    exact ((((k.setCell (by show w.heap.size ≤ w.heap.size + 1 + 1; omega) _).setCell (by show w.heap.size ≤ w.heap.size + 1 + 1; omega) _).setCell (by show w.heap.size ≤ w.heap.size + 1 + 1 + 1; omega) _).setCell (by show w.heap.size ≤ w.heap.size + 1 + 1 + 1; omega) _)

theorem whole_S {s u : Bool} {V X : Int} (E : (bif s then -V else V) = X) (hu : u = decide (X < 0)) (p : Option Addr) (c : Nat) (l : List Int) (W : World) (h1 : Digs l) (h1' : dval l = V) (h2 : RowR W p l) (h3 : l.length ≤ 1000000) :
    Calls Try.prog 117 #[.bool s, .slice p l.length c] W (BigS l.length X u W) :=
  (whole_to E p c l W h1 h1' h2 h3).mono fun _ _ h => h.s hu

theorem RowR.drew {w : World} {p : Option Addr} {l : List Int} (r : RowR w p l) : RowR w.drew p l := r
theorem RowR.alloc {w : World} {p : Option Addr} {l : List Int} (r : RowR w p l) (o : Obj) : RowR (w.alloc o) p l := r.below ((Below.refl _ _).alloc (Nat.le_refl _) _)
theorem one_row (w : World) : RowR (w.alloc (Obj.cells #[Value.int .i64 1] 3)) (some ⟨w.heap.size, 0, none⟩) [1] := fun i h => ⟨w.heap.size, rfl, by simp, by simp at h; subst h; simp [go_sem]⟩
theorem one_digs : Digs [1] := by intro x m; simp at m; omega
theorem one_val : dval [1] = 1 := by simp [dval]
theorem one_len {n : Nat} : [(1 : Int)].length ≤ n + 1 := by simp
theorem addD_1 (pa : Option Addr) (g ca : Nat) (a : List Int) (w : World) (M : Nat) (ha : Digs a) (ra : RowR w pa a) (rb : RowR w (some ⟨g, 0, none⟩) [1]) (la : a.length ≤ M) (hM : M + 1 ≤ 1000000) :
    Calls Try.prog 153 #[.slice pa a.length ca, .slice (some ⟨g, 0, none⟩) 1 1] w (SumRes (dval a + dval [1]) (M + 1 + 1) w) :=
  addD_any pa (some ⟨g, 0, none⟩) ca 1 a [1] w (M + 1) ha one_digs ra rb (by omega) one_len hM
theorem subD_y {m r : List Int} {nm : Nat} {y R : Int} (hm : m.length = nm) (hy : (y.natAbs : Int) = y) (hr : Can r R) (hl : R < y.natAbs) (hc : Can m y.natAbs) (pa pb : Option Addr) (ca cb : Nat) (w : World) (ra : RowR w pa m) (rb : RowR w pb r) (la : nm ≤ 1000000) :
    Calls Try.prog 154 #[.slice pa nm ca, .slice pb r.length cb] w (RowRes (y - R) nm w) := by
  subst hm
  have := subD_any pa pb ca cb m r w hc.digs hr.digs ra rb la (can_len hr hc (by omega)) (by rw [hr.val, hc.val]; omega)
  rwa [hr.val, hc.val, hy] at this

theorem over_pos {x y : Int} (hx : 0 ≤ x) (hy : 0 < y) : (x.natAbs : Int) / y.natAbs = x / y ∧ (x.natAbs : Int) % y.natAbs = x % y := by
  rw [show (x.natAbs : Int) = x from by omega, show (y.natAbs : Int) = y from by omega]; exact ⟨rfl, rfl⟩
theorem over_neg0 {x y : Int} (hx : x < 0) (hy : 0 < y) (h : (x.natAbs : Int) % y.natAbs = 0) : -((x.natAbs : Int) / y.natAbs) = x / y ∧ x % y = 0 := by
  rw [show (x.natAbs : Int) = -x from by omega, show (y.natAbs : Int) = y from by omega] at h ⊢
  have e := Int.mul_ediv_add_emod (-x) y
  rw [h] at e
  have k := div_end (A := x) (B := y) (q := -(-x / y)) (r := 0) (by rw [Int.mul_neg]; omega) (by omega) (by omega)
  exact ⟨k.1, k.2.symm⟩
theorem over_neg1 {x y : Int} (hx : x < 0) (hy : 0 < y) (h : (x.natAbs : Int) % y.natAbs ≠ 0) : -((x.natAbs : Int) / y.natAbs + 1) = x / y ∧ y - (x.natAbs : Int) % y.natAbs = x % y := by
  rw [show (x.natAbs : Int) = -x from by omega, show (y.natAbs : Int) = y from by omega] at h ⊢
  have e := Int.mul_ediv_add_emod (-x) y
  have r0 := Int.emod_nonneg (-x) (show y ≠ 0 by omega)
  have r1 := Int.emod_lt_of_pos (-x) hy
  exact div_end (A := x) (B := y) (q := -(-x / y + 1)) (r := y - (-x) % y) (by rw [Int.mul_neg, Int.mul_add]; omega) (by omega) (by omega)

set_option maxRecDepth 100000 in
set_option maxHeartbeats 4000000 in
theorem Over_pos {N : Nat} (p q : Option Addr) (c d : Nat) (l m : List Int) (x y : Int) (t u : Bool) (hu : u = decide (x / y < 0)) (w : World) (A : BigR N w p l x) (B : BigR N w q m y) (hx : 0 ≤ x) (hy : 0 < y)(hN : N ≤ 80000) :
    Calls Try.prog 113 #[.agg #[.bool false, .slice p l.length c], .agg #[.bool t, .slice q m.length d]] w (OvRes (N + 2) (N + 1) (x / y) (x % y) u w) := by
  have K := Ov.new w false t (.slice p l.length c) (.slice q m.length d)
  have bx := A.below K.bel
  have by' := B.below K.bel
  have LX := A.size
  have LY := B.size
  have HU := Lib.hid hu
  clear A B hu
  go_enter Try.func113, Try.ntmps113
  go_upto_region 1 with fail
  generalize ((((w.alloc (Obj.cells #[Value.bool false, Value.slice p l.length c] 89)).alloc (Obj.cells #[Value.bool t, Value.slice q m.length d] 89)).alloc (Obj.cells #[Value.bool false, Value.slice none 0 0] 89)).alloc (Obj.cells #[Value.bool false, Value.slice none 0 0] 89)) = v at *
  have HXX := Lib.hid bx
  have HYY := Lib.hid by'
  have K0 := Lib.hid K
  obtain ⟨k1, k2, k3, k4, k5, k6, k7, k8, k9, k10, k11, k12, ksz, kb⟩ := K
  have DV := Lib.hid (by
    have := divD_any p q c d l m (y.natAbs : Int) v bx.can.digs by'.can (by omega) bx.row by'.row (by omega) (by omega)
    rwa [bx.can.val] at this)
  clear bx by'
  have MV := Lib.hid (show y.natAbs = y from by omega)
  generalize hln : l.length = nl at *
  generalize hmn : m.length = nm at *
  have HMN := Lib.hid hmn
  clear hln hmn
  go_wp2_with fail
  refine (DV.out).mono ?_
  rintro e v1 ⟨q1, pq, cq, r1, pr, cr, rfl, a1, a2, a3, a4, a5, a6, a7⟩
  have K1 := Lib.hid (K0.out.below a7)
  have A1 := Lib.hid a1
  have A3 := Lib.hid a3
  have A4 := Lib.hid a4
  have A6 := Lib.hid a6
  have YB := Lib.hid (HYY.out.below a7)
  clear a1 a3 a4 a6 a7 DV k1 k2 k3 k4 k5 k6 k7 k8 k9 k10 k11 k12 ksz kb
  obtain ⟨k1, k2, k3, k4, k5, k6, k7, k8, k9, k10, k11, k12, ksz, kb⟩ := K1.out
  obtain ⟨o1, o2⟩ := over_pos hx hy
  have W1 := Lib.hid (whole_S (s := false) (u := u) (X := x / y) (by simpa using o1) HU.out pq cq q1 v1 A1.out.digs A1.out.val A3.out (by omega))
  have W2 := Lib.hid (fun W (h : Below v1.heap.size v1 W) => whole_S (s := false) (u := false) (X := x % y) (by simpa using o2) (by have := Int.emod_nonneg x (show y ≠ 0 by omega); simp; omega) pr cr r1 W A4.out.digs A4.out.val (A6.out.below h) (by omega))
  clear o1 o2
  go_wp2_with fail
  refine (W1.out).mono ?_
  rintro e v2 ⟨p2, l2, c2, rfl, b1, b2, b3⟩
  have K2 := Lib.hid (K1.out.below b3)
  have B1 := Lib.hid b1
  have B2 := Lib.hid b2
  have B3 := Lib.hid b3
  clear b1 b2 b3 k1 k2 k3 k4 k5 k6 k7 k8 k9 k10 k11 k12 ksz kb W1
  obtain ⟨k1, k2, k3, k4, k5, k6, k7, k8, k9, k10, k11, k12, ksz, kb⟩ := K2.out
  go_wp2_with fail
  refine (W2.out _ B3.out).mono ?_
  rintro e v3 ⟨p3, l3, c3, rfl, b1, b2, b3⟩
  have K3 := Lib.hid (K2.out.below b3)
  have FIN := Lib.hid (OvRes.stored (n := N + 2) (m := N + 1) (s1 := u) (c := c2) (d := c3) K1.out ((B1.out.below b3).more (by omega)) (b1.more (by omega)) B2.out (fun a h => Nat.le_trans B3.out.size (b2 a h)) (B3.out.trans (b3.mono B3.out.size)))
  clear b1 b2 b3 k1 k2 k3 k4 k5 k6 k7 k8 k9 k10 k11 k12 ksz kb W2
  obtain ⟨k1, k2, k3, k4, k5, k6, k7, k8, k9, k10, k11, k12, ksz, kb⟩ := K3.out
  go_wp2_with fail
  refine bodyPost_ret (v := .tuple #[.agg #[.bool u, .slice p2 l2.length c2], .agg #[.bool false, .slice p3 l3.length c3]]) (by simp [results, Try.results113, go_sem, k5, k6, k7, k8, ksz]) rfl FIN.out
set_option maxRecDepth 100000 in
set_option maxHeartbeats 4000000 in
theorem Over_neg0 {N : Nat} (p q : Option Addr) (c d : Nat) (l m : List Int) (x y : Int) (t u : Bool) (hu : u = decide (x / y < 0)) (w : World) (A : BigR N w p l x) (B : BigR N w q m y) (hx : x < 0) (hy : 0 < y) (hr : (x.natAbs : Int) % y.natAbs = 0) (hN : N ≤ 80000) :
    Calls Try.prog 113 #[.agg #[.bool true, .slice p l.length c], .agg #[.bool t, .slice q m.length d]] w (OvRes (N + 2) (N + 1) (x / y) (x % y) u w) := by
  have K := Ov.new w true t (.slice p l.length c) (.slice q m.length d)
  have bx := A.below K.bel
  have by' := B.below K.bel
  have LX := A.size
  have LY := B.size
  have HU := Lib.hid hu
  clear A B hu
  go_enter Try.func113, Try.ntmps113
  go_upto_region 1 with fail
  generalize ((((w.alloc (Obj.cells #[Value.bool true, Value.slice p l.length c] 89)).alloc (Obj.cells #[Value.bool t, Value.slice q m.length d] 89)).alloc (Obj.cells #[Value.bool false, Value.slice none 0 0] 89)).alloc (Obj.cells #[Value.bool false, Value.slice none 0 0] 89)) = v at *
  have HXX := Lib.hid bx
  have HYY := Lib.hid by'
  have K0 := Lib.hid K
  obtain ⟨k1, k2, k3, k4, k5, k6, k7, k8, k9, k10, k11, k12, ksz, kb⟩ := K
  have DV := Lib.hid (by
    have := divD_any p q c d l m (y.natAbs : Int) v bx.can.digs by'.can (by omega) bx.row by'.row (by omega) (by omega)
    rwa [bx.can.val] at this)
  clear bx by'
  have MV := Lib.hid (show y.natAbs = y from by omega)
  generalize hln : l.length = nl at *
  generalize hmn : m.length = nm at *
  have HMN := Lib.hid hmn
  clear hln hmn
  go_wp2_with fail
  refine (DV.out).mono ?_
  rintro e v1 ⟨q1, pq, cq, r1, pr, cr, rfl, a1, a2, a3, a4, a5, a6, a7⟩
  have K1 := Lib.hid (K0.out.below a7)
  have A1 := Lib.hid a1
  have A3 := Lib.hid a3
  have A4 := Lib.hid a4
  have A6 := Lib.hid a6
  have YB := Lib.hid (HYY.out.below a7)
  clear a1 a3 a4 a6 a7 DV k1 k2 k3 k4 k5 k6 k7 k8 k9 k10 k11 k12 ksz kb
  obtain ⟨k1, k2, k3, k4, k5, k6, k7, k8, k9, k10, k11, k12, ksz, kb⟩ := K1.out
  obtain ⟨o1, o2⟩ := over_neg0 hx hy hr
  have W1 := Lib.hid (whole_S (s := true) (u := u) (X := x / y) (by simpa using o1) HU.out pq cq q1 v1 A1.out.digs A1.out.val A3.out (by omega))
  have O2 := Lib.hid o2
  have r0 : r1.length = 0 := A4.out.length_zero.2 hr
  clear o1 o2 hr
  generalize r1.length = nr at *
  subst r0
  go_wp2_with fail
  refine (W1.out).mono ?_
  rintro e v2 ⟨p2, l2, c2, rfl, b1, b2, b3⟩
  have K2 := Lib.hid (K1.out.below b3)
  have FIN := Lib.hid (OvRes.stored (n := N + 2) (m := N + 1) (s1 := u) (X2 := x % y) (c := c2) (d := 0) (q := none) (r := []) K1.out (b1.more (by omega)) ⟨by rw [O2.out]; exact Can.nil, by simp, fun i h => by simp at h⟩ b2 (fun a h => by cases h) b3)
  clear b1 b2 b3 k1 k2 k3 k4 k5 k6 k7 k8 k9 k10 k11 k12 ksz kb W1
  obtain ⟨k1, k2, k3, k4, k5, k6, k7, k8, k9, k10, k11, k12, ksz, kb⟩ := K2.out
  go_wp2_with fail
  refine bodyPost_ret (v := .tuple #[.agg #[.bool u, .slice p2 l2.length c2], .agg #[.bool false, .slice none 0 0]]) (by simp [results, Try.results113, go_sem, k5, k6, k7, k8, ksz]) rfl FIN.out
set_option maxRecDepth 100000 in
set_option maxHeartbeats 4000000 in
theorem Over_neg1 {N : Nat} (p q : Option Addr) (c d : Nat) (l m : List Int) (x y : Int) (t u : Bool) (hu : u = decide (x / y < 0)) (w : World) (A : BigR N w p l x) (B : BigR N w q m y) (hx : x < 0) (hy : 0 < y) (hr : (x.natAbs : Int) % y.natAbs ≠ 0) (hN : N ≤ 80000) :
    Calls Try.prog 113 #[.agg #[.bool true, .slice p l.length c], .agg #[.bool t, .slice q m.length d]] w (OvRes (N + 2) (N + 1) (x / y) (x % y) u w) := by
  have K := Ov.new w true t (.slice p l.length c) (.slice q m.length d)
  have bx := A.below K.bel
  have by' := B.below K.bel
  have LX := A.size
  have LY := B.size
  have HU := Lib.hid hu
  clear A B hu
  go_enter Try.func113, Try.ntmps113
  go_upto_region 1 with fail
  generalize ((((w.alloc (Obj.cells #[Value.bool true, Value.slice p l.length c] 89)).alloc (Obj.cells #[Value.bool t, Value.slice q m.length d] 89)).alloc (Obj.cells #[Value.bool false, Value.slice none 0 0] 89)).alloc (Obj.cells #[Value.bool false, Value.slice none 0 0] 89)) = v at *
  have HXX := Lib.hid bx
  have HYY := Lib.hid by'
  have K0 := Lib.hid K
  obtain ⟨k1, k2, k3, k4, k5, k6, k7, k8, k9, k10, k11, k12, ksz, kb⟩ := K
  have DV := Lib.hid (by
    have := divD_any p q c d l m (y.natAbs : Int) v bx.can.digs by'.can (by omega) bx.row by'.row (by omega) (by omega)
    rwa [bx.can.val] at this)
  clear bx by'
  have MV := Lib.hid (show y.natAbs = y from by omega)
  generalize hln : l.length = nl at *
  generalize hmn : m.length = nm at *
  have HMN := Lib.hid hmn
  clear hln hmn
  go_wp2_with fail
  refine (DV.out).mono ?_
  rintro e v1 ⟨q1, pq, cq, r1, pr, cr, rfl, a1, a2, a3, a4, a5, a6, a7⟩
  have K1 := Lib.hid (K0.out.below a7)
  have A1 := Lib.hid a1
  have A3 := Lib.hid a3
  have A4 := Lib.hid a4
  have A6 := Lib.hid a6
  have YB := Lib.hid (HYY.out.below a7)
  clear a1 a3 a4 a6 a7 DV k1 k2 k3 k4 k5 k6 k7 k8 k9 k10 k11 k12 ksz kb
  obtain ⟨k1, k2, k3, k4, k5, k6, k7, k8, k9, k10, k11, k12, ksz, kb⟩ := K1.out
  obtain ⟨o1, o2⟩ := over_neg1 hx hy hr
  have nr0 : 0 < r1.length := by
    rcases Nat.eq_zero_or_pos r1.length with t0 | t0
    · exact absurd (A4.out.length_zero.1 t0) hr
    · exact t0
  have O1 := Lib.hid o1
  have O2 := Lib.hid o2
  have RY := Lib.hid (Int.emod_lt_of_pos (x.natAbs : Int) (show 0 < (y.natAbs : Int) by omega))
  clear o1 o2 hr
  have HZ := Lib.hid (show false = decide (x % y < 0) by have := Int.emod_nonneg x (show y ≠ 0 by omega); simp; omega)
  go_wp2_with fail
  go_region_held3 (fun w' => w'.cell? ⟨w.heap.size + 1, 1, none⟩ = some (.slice q nm d))
    (first | exact ⟨k1⟩ | (simp [go_sem, k4, show w.heap.size + 1 < v1.heap.size from by omega]; done) | (simp [go_sem, k4]; done) | go_keep)
    (first
      | (go_at_call 153; (with_reducible refine (addD_1 pq _ cq q1 _ N A1.out.digs (by first | exact A3.out | exact RowR.drew A3.out | exact RowR.alloc A3.out _ | exact RowR.drew (RowR.alloc A3.out _) | exact RowR.alloc (RowR.drew A3.out) _) (by first | exact one_row _ | exact RowR.drew (one_row _)) (by omega) (by omega)).mono ?_); rintro e v2 ⟨t3, p3, c3, rfl, e1, e2, e3, e4, r6⟩; have st : Below v1.heap.size v1 v2 := (by first | exact r6 | exact ((Below.refl _ _).drew).trans r6 | exact (((Below.refl _ _).alloc (Nat.le_refl _) _)).trans (r6.mono (by simp)) | exact (((Below.refl _ _).drew.alloc (Nat.le_refl _) _)).trans (r6.mono (by simp)) | exact (((Below.refl _ _).alloc (Nat.le_refl _) _).drew).trans (r6.mono (by simp))); have K2 := Lib.hid (K1.out.below st); have S2 := Lib.hid (show Below v1.heap.size v1 v2 from st); clear k1 k2 k3 k4 k5 k6 k7 k8 k9 k10 k11 k12 ksz kb; obtain ⟨k1, k2, k3, k4, k5, k6, k7, k8, k9, k10, k11, k12, ksz, kb⟩ := K2.out; have A6_2 := Lib.hid (A6.out.below st); have YB_2 := Lib.hid (YB.out.below st); have E1 := Lib.hid e1; have E2 := Lib.hid e2; have E3 := Lib.hid e3; have E4 := Lib.hid e4; have V1 := Lib.hid (show Below v1.heap.size v1 v2 from st); clear e1 e2 e3 e4 r6; clear st)
      | (go_at_call 117; (with_reducible refine (whole_S (s := true) (u := u) (X := x / y) (V := (x.natAbs : Int) / y.natAbs + 1) (by simpa using O1.out) HU.out p3 c3 t3 _ E1.out (by rw [E2.out, A1.out.val, one_val]) (by first | exact E4.out | exact RowR.drew E4.out | exact RowR.alloc E4.out _ | exact RowR.drew (RowR.alloc E4.out _) | exact RowR.alloc (RowR.drew E4.out) _) (by have := E3.out; omega)).mono ?_); rintro e v3 ⟨p4, l4, c4, rfl, b1, b2, b3⟩; have st : Below v2.heap.size v2 v3 := (by first | exact b3 | exact ((Below.refl _ _).drew).trans b3 | exact (below_drewN (Below.refl _ _) _).trans b3); have K3 := Lib.hid (K2.out.below st); have S3 := Lib.hid (show Below v2.heap.size v2 v3 from st); clear k1 k2 k3 k4 k5 k6 k7 k8 k9 k10 k11 k12 ksz kb; obtain ⟨k1, k2, k3, k4, k5, k6, k7, k8, k9, k10, k11, k12, ksz, kb⟩ := K3.out; have A6_3 := Lib.hid (A6_2.out.below st); have YB_3 := Lib.hid (YB_2.out.below st); have B4 := Lib.hid b1; have F4 := Lib.hid b2; clear b1 b2 b3; clear st)
      | (go_at_call 154; (with_reducible refine (subD_y HMN.out MV.out A4.out RY.out YB.out.can q pr d cr _ (by first | exact YB_3.out.row | exact RowR.drew YB_3.out.row) (by first | exact A6_3.out | exact RowR.drew A6_3.out | exact RowR.alloc A6_3.out _ | exact RowR.drew (RowR.alloc A6_3.out _) | exact RowR.alloc (RowR.drew A6_3.out) _) (by omega)).mono ?_); rintro e v4 ⟨t5, p5, c5, rfl, e1, e2, e3, e4, e5, r6⟩; have st : Below v3.heap.size v3 v4 := (by first | exact r6 | exact ((Below.refl _ _).drew).trans r6 | exact (below_drewN (Below.refl _ _) _).trans r6); have K4 := Lib.hid (K3.out.below st); have S4 := Lib.hid (show Below v3.heap.size v3 v4 from st); clear k1 k2 k3 k4 k5 k6 k7 k8 k9 k10 k11 k12 ksz kb; obtain ⟨k1, k2, k3, k4, k5, k6, k7, k8, k9, k10, k11, k12, ksz, kb⟩ := K4.out; have B4_4 := Lib.hid (B4.out.below st); have G1 := Lib.hid e1; have G2 := Lib.hid e2; have G3 := Lib.hid e3; clear e1 e2 e3 e4 e5 r6; clear st)
      | (go_at_call 117; (with_reducible refine (whole_S (s := false) (u := false) (X := x % y) (V := y - (x.natAbs : Int) % y.natAbs) (by simpa using O2.out) HZ.out p5 c5 t5 _ G1.out.digs G1.out.val (by first | exact G3.out | exact RowR.drew G3.out | exact RowR.alloc G3.out _ | exact RowR.drew (RowR.alloc G3.out _) | exact RowR.alloc (RowR.drew G3.out) _) (by have := G2.out; omega)).mono ?_); rintro e v5 ⟨p6, l6, c6, rfl, b1, b2, b3⟩; have st : Below v4.heap.size v4 v5 := (by first | exact b3 | exact ((Below.refl _ _).drew).trans b3 | exact (below_drewN (Below.refl _ _) _).trans b3); have K5 := Lib.hid (K4.out.below st); have S5 := Lib.hid (show Below v4.heap.size v4 v5 from st); clear k1 k2 k3 k4 k5 k6 k7 k8 k9 k10 k11 k12 ksz kb; obtain ⟨k1, k2, k3, k4, k5, k6, k7, k8, k9, k10, k11, k12, ksz, kb⟩ := K5.out; have B4_5 := Lib.hid (B4_4.out.below st); have B6 := Lib.hid b1; have F6 := Lib.hid b2; have V5 := Lib.hid b3; clear b1 b2 b3; clear st))
  go_wp2_with fail
  have V2 := S2.out.trans (S3.out.mono S2.out.size)
  have V3 := V2.trans (S4.out.mono V2.size)
  have V4 := V3.trans (S5.out.mono V3.size)
  have FIN := Lib.hid (OvRes.stored (n := N + 2) (m := N + 1) (s1 := u) (c := c4) (d := c6) K1.out (B4_5.out.more (by have := E3.out; omega)) (B6.out.more (by have := G2.out; omega)) (fun a h => Nat.le_trans S2.out.size (F4.out a h)) (fun a h => Nat.le_trans V3.size (F6.out a h)) V4)
  exact bodyPost_ret (v := .tuple #[.agg #[.bool u, .slice p4 l4.length c4], .agg #[.bool false, .slice p6 l6.length c6]]) (by simp [results, Try.results113, go_sem, k5, k6, k7, k8, ksz]) rfl FIN.out
end Go.Proofs.Ytbcfafihkdddeaa

/- Rounding by the floor and what is left over is rounding by size and sign. -/
namespace Go.Proofs.Ytbcfafihkdddeaa
open Go.RowKit
set_option linter.unusedVariables false
set_option linter.unusedSimpArgs false

/-- Is the next whole number taken? -/
def rzU (n q r d m : Int) : Bool := decide (m = 1) || (decide (m = 2) && decide (n < 0)) || (decide (m = 3) && decide (d ≤ 2 * r)) || (decide (m = 4) && (decide (d < 2 * r) || (decide (2 * r = d) && decide (q % 2 ≠ 0))))
/-- n/d rounded, of a d above 0. -/
def rz (n d m : Int) : Int := n / d + (if n % d = 0 then 0 else bif rzU n (n / d) (n % d) d m then 1 else 0)
theorem rz_exact {n d m : Int} (h : n % d = 0) : rz n d m = n / d := by unfold rz; rw [if_pos h]; omega
theorem rz_up {n d m : Int} (h : n % d ≠ 0) (u : rzU n (n / d) (n % d) d m = true) : rz n d m = n / d + 1 := by unfold rz; rw [if_neg h, u]; rfl
theorem rz_down {n d m : Int} (h : n % d ≠ 0) (u : rzU n (n / d) (n % d) d m = false) : rz n d m = n / d := by unfold rz; rw [if_neg h, u]; exact Int.add_zero _

theorem rz_rnd (neg : Bool) (p d m : Int) (hp : 0 ≤ p) (hd : 1 ≤ d) (hm1 : 0 ≤ m) (hm2 : m ≤ 4) :
    rz (bif neg then -p else p) d m = bif neg then -(rndQ neg p d m) else rndQ neg p d m := by
  have r0 : 0 ≤ p % d := Int.emod_nonneg _ (by omega)
  have r1 : p % d < d := Int.emod_lt_of_pos _ (by omega)
  have q0 : 0 ≤ p / d := Int.ediv_nonneg hp (by omega)
  have e := Int.mul_ediv_add_emod p d
  have hpq : p = 0 → p / d = 0 := by intro h; rw [h]; exact Int.zero_ediv d
  have pr : p % d ≠ 0 → 0 < p := by
    intro hr
    rcases (by omega : p = 0 ∨ 0 < p) with h | h
    · rw [h] at hr; simp at hr
    · exact h
  cases neg
  · have hn : ¬ p < 0 := by omega
    simp only [cond_false]
    unfold rz rndQ rzU upB
    generalize p / d = q at *
    generalize p % d = r at *
    clear e
    rcases (by omega : m = 0 ∨ m = 1 ∨ m = 2 ∨ m = 3 ∨ m = 4) with rfl | rfl | rfl | rfl | rfl
    all_goals simp [cond_eq_ite, Bool.or_eq_true, Bool.and_eq_true, hn]
    all_goals (repeat' split)
    all_goals omega
  · simp only [cond_true]
    by_cases hr : p % d = 0
    · have k := div_end (A := -p) (B := d) (q := -(p / d)) (r := 0) (by rw [Int.mul_neg]; omega) (by omega) (by omega)
      unfold rz rndQ upB
      rw [← k.1, ← k.2, hr]
      generalize p / d = q at *
      clear e k
      rcases (by omega : m = 0 ∨ m = 1 ∨ m = 2 ∨ m = 3 ∨ m = 4) with rfl | rfl | rfl | rfl | rfl
      all_goals simp [cond_eq_ite, Bool.or_eq_true, Bool.and_eq_true]
      all_goals omega
    · have k := div_end (A := -p) (B := d) (q := -(p / d) - 1) (r := d - p % d) (by rw [Int.mul_sub, Int.mul_neg]; omega) (by omega) (by omega)
      unfold rz rndQ rzU upB
      rw [← k.1, ← k.2]
      have pp := pr hr
      generalize p / d = q at *
      generalize p % d = r at *
      clear e k pr
      have n1 : -p < 0 := by omega
      have n2 : ¬ d - r = 0 := by omega
      rcases (by omega : m = 0 ∨ m = 1 ∨ m = 2 ∨ m = 3 ∨ m = 4) with rfl | rfl | rfl | rfl | rfl
      all_goals simp [cond_eq_ite, Bool.or_eq_true, Bool.and_eq_true, n1, n2, pp]
      all_goals (repeat' split)
      all_goals omega
end Go.Proofs.Ytbcfafihkdddeaa

/- The reference's Rounded, of a denominator above 0. -/
namespace Go.Proofs.Ytbcfafihkdddeaa
open Go.RowKit
set_option linter.unusedVariables false
set_option linter.unusedSimpArgs false

/-- Two boxed numbers, a result's box, and the boxes of the quotient and of what is left over. -/
structure Rd (w v : World) (g : Nat) (s t u r : Bool) (P Q A B : Value) : Prop where
  a0 : v.cell? ⟨w.heap.size, 0, none⟩ = some (.bool s)
  a1 : v.cell? ⟨w.heap.size, 1, none⟩ = some P
  b0 : v.cell? ⟨w.heap.size + 1, 0, none⟩ = some (.bool t)
  b1 : v.cell? ⟨w.heap.size + 1, 1, none⟩ = some Q
  c0 : v.cell? ⟨w.heap.size + 1 + 1, 0, none⟩ = some (.bool false)
  c1 : v.cell? ⟨w.heap.size + 1 + 1, 1, none⟩ = some (.slice none 0 0)
  f0 : v.frozen? ⟨w.heap.size + 1 + 1, 0, none⟩ = false
  f1 : v.frozen? ⟨w.heap.size + 1 + 1, 1, none⟩ = false
  q0 : v.cell? ⟨g, 0, none⟩ = some (.bool u)
  q1 : v.cell? ⟨g, 1, none⟩ = some A
  r0 : v.cell? ⟨g + 1, 0, none⟩ = some (.bool r)
  r1 : v.cell? ⟨g + 1, 1, none⟩ = some B
  e0 : v.frozen? ⟨g, 0, none⟩ = false
  e1 : v.frozen? ⟨g, 1, none⟩ = false
  sz : w.heap.size + 1 + 1 < v.heap.size
  sg : g + 1 < v.heap.size
  gw : w.heap.size + 1 + 1 < g
  bel : Below w.heap.size w v
theorem Rd.below {w v v' : World} {g : Nat} {s t u r : Bool} {P Q A B : Value} (h : Rd w v g s t u r P Q A B) (hb : Below v.heap.size v v') : Rd w v' g s t u r P Q A B := by
  obtain ⟨h1, h2, h3, h4, h5, h6, h7, h8, h9, h10, h11, h12, h13, h14, h15, h16, h17, h18⟩ := h
  have z0 : w.heap.size < v.heap.size := by omega
  have z1 : w.heap.size + 1 < v.heap.size := by omega
  have z2 : g < v.heap.size := by omega
  exact ⟨(hb.cell (p := ⟨w.heap.size, 0, none⟩) z0).trans h1, (hb.cell (p := ⟨w.heap.size, 1, none⟩) z0).trans h2, (hb.cell (p := ⟨w.heap.size + 1, 0, none⟩) z1).trans h3, (hb.cell (p := ⟨w.heap.size + 1, 1, none⟩) z1).trans h4,
    (hb.cell (p := ⟨w.heap.size + 1 + 1, 0, none⟩) h15).trans h5, (hb.cell (p := ⟨w.heap.size + 1 + 1, 1, none⟩) h15).trans h6, (hb.frozen (p := ⟨w.heap.size + 1 + 1, 0, none⟩) h15).trans h7, (hb.frozen (p := ⟨w.heap.size + 1 + 1, 1, none⟩) h15).trans h8,
    (hb.cell (p := ⟨g, 0, none⟩) z2).trans h9, (hb.cell (p := ⟨g, 1, none⟩) z2).trans h10, (hb.cell (p := ⟨g + 1, 0, none⟩) h16).trans h11, (hb.cell (p := ⟨g + 1, 1, none⟩) h16).trans h12, (hb.frozen (p := ⟨g, 0, none⟩) z2).trans h13, (hb.frozen (p := ⟨g, 1, none⟩) z2).trans h14,
    Nat.lt_of_lt_of_le h15 hb.size, Nat.lt_of_lt_of_le h16 hb.size, h17, h18.trans (hb.mono h18.size)⟩
theorem Rd.new {w v : World} {s t : Bool} {P Q : Value} (h : Box3 w v s t P Q) (u r : Bool) (A B : Value) :
    Rd w ((v.alloc (Obj.cells #[Value.bool u, A] 89)).alloc (Obj.cells #[Value.bool r, B] 89)) v.heap.size s t u r P Q A B := by
  have h' := h.below (((Below.refl _ v).alloc (Nat.le_refl _) (Obj.cells #[Value.bool u, A] 89)).alloc (by simp) (Obj.cells #[Value.bool r, B] 89))
  have sz := h.sz
  obtain ⟨k1, k2, k3, k4, k5, k6, k7, k8, k9, kb⟩ := h'
  refine ⟨k1, k2, k3, k4, k5, k6, k7, k8, ?_, ?_, ?_, ?_, ?_, ?_, k9, ?_, sz, kb⟩ <;> simp [go_sem]

theorem over_any {N : Nat} (p q : Option Addr) (c d : Nat) (l m : List Int) (x y : Int) (s t u : Bool) (hs : s = decide (x < 0)) (hu : u = decide (x / y < 0)) (w : World) (A : BigR N w p l x) (B : BigR N w q m y) (hy : 0 < y) (hN : N ≤ 80000) :
    Calls Try.prog 113 #[.agg #[.bool s, .slice p l.length c], .agg #[.bool t, .slice q m.length d]] w (OvRes (N + 2) (N + 1) (x / y) (x % y) u w) := by
  by_cases h : 0 ≤ x
  · obtain rfl : s = false := by rw [hs]; simp; omega
    exact Over_pos p q c d l m x y t u hu w A B h hy hN
  · obtain rfl : s = true := by rw [hs]; simp; omega
    by_cases hr : (x.natAbs : Int) % y.natAbs = 0
    · exact Over_neg0 p q c d l m x y t u hu w A B (by omega) hy hr hN
    · exact Over_neg1 p q c d l m x y t u hu w A B (by omega) hy hr hN

/-- The lowest digit tells even from odd. -/
theorem odd_digit {l : List Int} {x : Int} (h : Can l x.natAbs) (h0 : 0 < l.length) : l[0] % 2 = x.natAbs % 2 := by
  have v := h.val
  rcases l with _ | ⟨a, l⟩
  · simp at h0
  · simp only [dval] at v; simp only [List.getElem_cons_zero]; omega
theorem plus_n {k : Nat} (x y : Int) (s t u : Bool) (na : Nat) (hs : s = decide (x < 0)) (ht : t = decide (y < 0)) (hu : u = decide (x + y < 0)) {a : List Int} (ha : a.length = na) (pa pb : Option Addr) (ca cb : Nat) (b : List Int) (w : World) (A : BigR k w pa a x) (B : BigR k w pb b y) (hk : k ≤ 90000) :
    Calls Try.prog 116 #[.agg #[.bool s, .slice pa na ca], .agg #[.bool t, .slice pb b.length cb]] w (BigS (k + 1) (x + y) u w) := by
  subst ha
  exact plus_s x y s t u hs ht hu pa pb ca cb a b w A B hk
theorem compare_s' {n m : Nat} (x y : Int) (s t : Bool) (nb : Nat) (hs : s = decide (x < 0)) (ht : t = decide (y < 0)) {b : List Int} (hb : b.length = nb) (pa pb : Option Addr) (ca cb : Nat) (a b' : List Int) (w : World) (A : BigR n w pa a x) (B : BigR m w pb b y) (hn : n ≤ 90000) (hm : m ≤ 90000) :
    Calls Try.prog 115 #[.agg #[.bool s, .slice pa a.length ca], .agg #[.bool t, .slice pb nb cb]] w fun e w' => e = .returned (.int .i64 (cmpZ x y)) ∧ Below w.heap.size w w' := by
  subst hb
  exact compare_s x y s t hs ht pa pb ca cb a b w A B hn hm

set_option maxRecDepth 100000 in
set_option maxHeartbeats 8000000 in
theorem Rounded_pos {N : Nat} (p q : Option Addr) (c d : Nat) (l m : List Int) (X Y mode : Int) (w : World) (A : BigR N w p l X) (B : BigR N w q m Y) (hY : 0 < Y) (m0 : 0 ≤ mode) (m4 : mode ≤ 4) (hN : N ≤ 70000) :
    Calls Try.prog 63 #[.agg #[.bool (decide (X < 0)), .slice p l.length c], .agg #[.bool (decide (Y < 0)), .slice q m.length d], .int .i64 mode] w (BigRes (N + 6) (rz X Y mode) w) := by
  obtain ⟨s, hs⟩ : ∃ b, b = decide (X < 0) := ⟨_, rfl⟩
  obtain ⟨u, hu⟩ : ∃ b, b = decide (X / Y < 0) := ⟨_, rfl⟩
  rw [← hs, show decide (Y < 0) = false from by simp; omega]
  have K := Box3.new w s false (.slice p l.length c) (.slice q m.length d)
  have bx := A.below K.bel
  have by' := B.below K.bel
  have HS := Lib.hid hs
  have HU := Lib.hid hu
  clear A B hs hu
  go_enter Try.func63, Try.ntmps63
  go_upto_region 1 with fail
  generalize (((w.alloc (Obj.cells #[Value.bool s, Value.slice p l.length c] 89)).alloc (Obj.cells #[Value.bool false, Value.slice q m.length d] 89)).alloc (Obj.cells #[Value.bool false, Value.slice none 0 0] 89)) = v at *
  -- the core: X over Y, Y above 0
  have ht := Lib.hid (show false = decide (Y < 0) by simp; omega)
  have LX := bx.size
  have LY := by'.size
  have OV := Lib.hid (over_any p q c d l m X Y s false u HS.out HU.out v bx by' hY (by omega))
  have HX := Lib.hid bx
  have HY := Lib.hid by'
  have K0 := Lib.hid K
  have m10 := Lib.hid (Int.emod_nonneg X (show Y ≠ 0 by omega))
  have m11 := Lib.hid (Int.emod_lt_of_pos X hY)
  have HZr := Lib.hid (show false = decide (X % Y < 0) by have := m10.out; simp; omega)
  have HZ2 := Lib.hid (show false = decide (X % Y + X % Y < 0) by have := m10.out; simp; omega)
  clear bx by'
  generalize hln : l.length = nl at *
  generalize hmn : m.length = nm at *
  have HMN := Lib.hid hmn
  clear hln hmn
  obtain ⟨k1, k2, k3, k4, k5, k6, k7, k8, k9, kb⟩ := K
  go_wp2_with fail
  refine (OV.out).mono ?_
  rintro e v1 ⟨p1, l1, c1, p2, l2, c2, rfl, o1, o2, of, o3⟩
  have K1 := Lib.hid (Rd.new (K0.out.below o3) u false (.slice p1 l1.length c1) (.slice p2 l2.length c2))
  have al : Below v1.heap.size v1 ((v1.alloc (Obj.cells #[Value.bool u, Value.slice p1 l1.length c1] 89)).alloc (Obj.cells #[Value.bool false, Value.slice p2 l2.length c2] 89)) := ((Below.refl _ v1).alloc (Nat.le_refl _) _).alloc (by simp) _
  have QA := Lib.hid (o1.below al)
  have RA := Lib.hid (o2.below al)
  have YA := Lib.hid ((HY.out.below o3).below al)
  have OF := Lib.hid of
  have O3 := Lib.hid (o3.trans (al.mono o3.size))
  have V1 := Lib.hid o3.size
  clear o1 o2 of o3 al OV k1 k2 k3 k4 k5 k6 k7 k8 k9 kb
  go_upto_region 4 with fail
  generalize ((v1.alloc (Obj.cells #[Value.bool u, Value.slice p1 l1.length c1] 89)).alloc (Obj.cells #[Value.bool false, Value.slice p2 l2.length c2] 89)) = va at *
  generalize v1.heap.size = g at *
  obtain ⟨k1, k2, k3, k4, k5, k6, k7, k8, k9, k10, k11, k12, k13, k14, k15, k16, k17, kb⟩ := K1.out
  go_wp2_with fail
  refine (Zero_any _ _ _ _ _).mono ?_
  rintro e v2 ⟨rfl, hz⟩
  have D0 := Lib.hid (K1.out.below hz)
  have QB := Lib.hid (QA.out.below hz)
  have RB := Lib.hid (RA.out.below hz)
  have YB := Lib.hid (YA.out.below hz)
  have OB := Lib.hid (O3.out.trans (hz.mono O3.out.size))
  have L2 := RB.out.can.length_zero
  rw [show ((X % Y).natAbs : Int) = X % Y from by have := m10.out; omega] at L2
  clear hz k1 k2 k3 k4 k5 k6 k7 k8 k9 k10 k11 k12 k13 k14 k15 k16 k17 kb QA RA YA O3
  obtain ⟨k1, k2, k3, k4, k5, k6, k7, k8, k9, k10, k11, k12, k13, k14, k15, k16, k17, kb⟩ := D0.out
  by_cases hr : X % Y = 0
  · have l20 := L2.2 hr
    rw [show decide (l2.length = 0) = true from by simpa using l20]
    have FIN := Lib.hid (show BigRes (N + 6) (rz X Y mode) w (.returned (.agg #[.bool u, .slice p1 l1.length c1])) ((v2.setCell ⟨w.heap.size + 1 + 1, 0, none⟩ (.bool u)).setCell ⟨w.heap.size + 1 + 1, 1, none⟩ (.slice p1 l1.length c1)) by
      rw [rz_exact hr, HU.out]
      exact BigRes.stored (c := c1) (r := w.heap.size + 1 + 1) K0.out.bel (by omega) K0.out.sz (QB.out.more (by omega)) OF.out OB.out)
    clear L2 l20 hr
    go_wp2_with fail
    exact bodyPost_ret (v := .agg #[.bool u, .slice p1 l1.length c1]) (by simp [results, Try.results63, go_sem, k5, k6, k15]) rfl FIN.out
  · have l20 : ¬ l2.length = 0 := fun h => hr (L2.1 h)
    rw [show decide (l2.length = 0) = false from by simpa using l20]
    have HR := Lib.hid hr
    clear L2 l20 hr
    go_wp2_with fail
    go_region_held3 (fun w' => w'.cell? ⟨w.heap.size + 1, 0, none⟩ = some (.bool false) ∧ w'.cell? ⟨w.heap.size + 1, 1, none⟩ = some (.slice q nm d) ∧ w'.cell? ⟨g + 1, 0, none⟩ = some (.bool false) ∧ w'.cell? ⟨g + 1, 1, none⟩ = some (.slice p2 l2.length c2))
      (first | exact ⟨k3, k4, k11, k12⟩)
      (first
        | (go_at_call 116; (with_reducible refine (plus_s (k := N + 1) (X % Y) (X % Y) false false false HZr.out HZr.out HZ2.out p2 p2 c2 c2 l2 l2 _ (by first | exact RB.out | exact RB.out.drew | exact RB.out.drewN _) (by first | exact RB.out | exact RB.out.drew | exact RB.out.drewN _) (by omega)).mono ?_); rintro e v3 ⟨p3, l3, c3, rfl, r1, r2, r3⟩; have st : Below v2.heap.size v2 v3 := (by first | exact r3 | exact ((Below.refl _ _).drew).trans r3 | exact (below_drewN (Below.refl _ _) _).trans r3); have D1 := Lib.hid (D0.out.below st); clear k3 k4 k11 k12 k1 k2 k5 k6 k7 k8 k9 k10 k13 k14 k15 k16 k17 kb; obtain ⟨k1, k2, k3, k4, k5, k6, k7, k8, k9, k10, k11, k12, k13, k14, k15, k16, k17, kb⟩ := D1.out; have YB_1 := Lib.hid (YB.out.below st); have QB_1 := Lib.hid (QB.out.below st); have B3 := Lib.hid r1; have OB1 := Lib.hid (OB.out.trans (st.mono OB.out.size)); clear r1 r2 r3; clear st)
        | (go_at_call 115; (with_reducible refine (compare_s' (n := N + 1 + 1) (m := N) (X % Y + X % Y) Y false false nm HZ2.out ht.out HMN.out p3 q c3 d l3 m _ (by first | exact B3.out | exact B3.out.drew | exact B3.out.drewN _) (by first | exact YB_1.out | exact YB_1.out.drew | exact YB_1.out.drewN _) (by omega) (by omega)).mono ?_); rintro e v4 ⟨rfl, r3⟩; have st : Below v3.heap.size v3 v4 := (by first | exact r3 | exact ((Below.refl _ _).drew).trans r3 | exact (below_drewN (Below.refl _ _) _).trans r3); have D2 := Lib.hid (D1.out.below st); clear k3 k4 k11 k12 k1 k2 k5 k6 k7 k8 k9 k10 k13 k14 k15 k16 k17 kb; obtain ⟨k1, k2, k3, k4, k5, k6, k7, k8, k9, k10, k11, k12, k13, k14, k15, k16, k17, kb⟩ := D2.out; have QB_2 := Lib.hid (QB_1.out.below st); have OB2 := Lib.hid (OB1.out.trans (st.mono OB1.out.size)); clear r3; clear st))
    have key : (Y < X % Y + X % Y ∧ cmpZ (X % Y + X % Y) Y = 1) ∨ (X % Y + X % Y = Y ∧ cmpZ (X % Y + X % Y) Y = 0) ∨ (X % Y + X % Y < Y ∧ cmpZ (X % Y + X % Y) Y = -1) := by
      unfold cmpZ
      rcases Int.lt_trichotomy (X % Y + X % Y) Y with h | h | h
      · rw [if_pos h]; exact .inr (.inr ⟨h, rfl⟩)
      · rw [if_neg (by omega), if_neg (by omega)]; exact .inr (.inl ⟨h, rfl⟩)
      · rw [if_neg (by omega), if_pos h]; exact .inl ⟨h, rfl⟩
    have QV := Lib.hid QB_2.out.can
    have KEY := Lib.hid key
    clear key
    generalize cmpZ (X % Y + X % Y) Y = z at *
    generalize hn1 : l1.length = n1 at *
    have HN1 := Lib.hid hn1
    clear hn1 D0 D1 K1 YB_1 QB_1 QB RB YB OB OB1 B3
    go_upto_block 0 with fail
    go_cut [10] from 32 to 63 (fun uv wx => uv = .bool (rzU X (X / Y) (X % Y) Y mode) ∧ wx = v4)
    case first =>
      rcases (by omega : mode = 0 ∨ mode = 1 ∨ mode = 2 ∨ mode = 3 ∨ mode = 4) with rfl | rfl | rfl | rfl | rfl
      · go_wp2_with fail
        go_meet
        exact ⟨congrArg _ (by simp [rzU]), rfl⟩
      · go_wp2_with fail
        go_meet
        exact ⟨congrArg _ (by simp [rzU]), rfl⟩
      · go_wp2_with fail
        go_meet
        exact ⟨congrArg _ (by rw [HS.out]; simp [rzU]), rfl⟩
      · rcases KEY.out with ⟨h, e⟩ | ⟨h, e⟩ | ⟨h, e⟩
        · have HH := Lib.hid h
          have zz : 0 ≤ z := by omega
          clear e h KEY
          go_wp2_with fail
          go_meet
          exact ⟨congrArg _ (by have := HH.out; simp [rzU]; omega), rfl⟩
        · have HH := Lib.hid h
          have zz : 0 ≤ z := by omega
          clear e h KEY
          go_wp2_with fail
          go_meet
          exact ⟨congrArg _ (by have := HH.out; simp [rzU]; omega), rfl⟩
        · have HH := Lib.hid h
          have zz : z < 0 := by omega
          clear e h KEY
          go_wp2_with fail
          go_meet
          exact ⟨congrArg _ (by have := HH.out; simp [rzU]; omega), rfl⟩
      · rcases KEY.out with ⟨h, e⟩ | ⟨h, e⟩ | ⟨h, e⟩
        · have HH := Lib.hid h
          have zz : 0 < z := by omega
          clear e h KEY
          go_wp2_with fail
          go_meet
          exact ⟨congrArg _ (by have := HH.out; simp [rzU]; omega), rfl⟩
        · have HH := Lib.hid h
          have zz : ¬ 0 < z := by omega
          have z0 : (z == 0) = true := by simpa using e
          have LZ := QV.out.length_zero
          by_cases l0 : n1 = 0
          · have VAL := Lib.hid (show X / Y = 0 by have := LZ.1 (HN1.out.trans l0); omega)
            have l1' : n1 ≤ 0 := by omega
            clear e h KEY LZ l0
            go_wp2_with fail
            go_meet
            exact ⟨congrArg _ (by have := HH.out; rw [VAL.out]; simp [rzU]; omega), rfl⟩
          · have lp : 0 < l1.length := by have := HN1.out; omega
            have ln : 0 < n1 := by omega
            have QR := QB_2.out.row
            obtain ⟨g1, hg1, gk, gc⟩ := QR 0 lp
            have OD := odd_digit QV.out lp
            have DG := QV.out.digs _ (List.getElem_mem lp)
            generalize l1[0] = dg at *
            have HOD := Lib.hid OD
            subst hg1
            clear e h KEY LZ QR OD l0
            by_cases od : dg % 2 = 1
            · have OQ := Lib.hid od
              have od2 : (dg % 2 == 1) = true := by simpa using od
              clear od
              go_wp2_with fail
              go_meet
              exact ⟨congrArg _ (by have := HH.out; have := HOD.out; have := OQ.out; simp [rzU]; omega), rfl⟩
            · have OQ := Lib.hid (show dg % 2 = 0 by omega)
              have od2 : (dg % 2 == 1) = false := by simpa using od
              clear od
              go_wp2_with fail
              go_meet
              exact ⟨congrArg _ (by have := HH.out; have := HOD.out; have := OQ.out; simp [rzU]; omega), rfl⟩
        · have HH := Lib.hid h
          have zz : ¬ 0 < z := by omega
          have z0 : (z == 0) = false := by simp; omega
          clear e h KEY
          go_wp2_with fail
          go_meet
          exact ⟨congrArg _ (by have := HH.out; simp [rzU]; omega), rfl⟩
    case rest =>
      obtain ⟨rfl, hwc⟩ := hcut
      subst hwc
      cases hU : rzU X (X / Y) (X % Y) Y mode
      · have FIN := Lib.hid (show BigRes (N + 6) (rz X Y mode) w (.returned (.agg #[.bool u, .slice p1 n1 c1])) ((wc.setCell ⟨w.heap.size + 1 + 1, 0, none⟩ (.bool u)).setCell ⟨w.heap.size + 1 + 1, 1, none⟩ (.slice p1 n1 c1)) by
          rw [rz_down HR.out hU, HU.out, ← HN1.out]
          exact BigRes.stored (c := c1) (r := w.heap.size + 1 + 1) K0.out.bel (by omega) K0.out.sz (QB_2.out.more (by omega)) OF.out OB2.out)
        clear hU
        go_wp2_with fail
        exact bodyPost_ret (v := .agg #[.bool u, .slice p1 n1 c1]) (by simp [results, Try.results63, go_sem, k5, k6, k15]) rfl FIN.out
      · have RU := Lib.hid (rz_up HR.out hU)
        obtain ⟨u2, hu2⟩ : ∃ b, b = decide (X / Y + 1 < 0) := ⟨_, rfl⟩
        have HU2 := Lib.hid hu2
        have H1 := Lib.hid (show false = decide ((1 : Int) < 0) by decide)
        clear hU hu2
        go_wp2_with fail
        go_region_law (first | (go_simp; go_at_call 64; (with_reducible refine (of_s 1 false H1.out (by omega) (by omega) _).mono ?_); rintro e v5 ⟨p7, l7, c7, rfl, r1, r2, r3⟩; have st : Below wc.heap.size wc v5 := (by first | exact r3 | exact ((Below.refl _ _).drew).trans r3 | exact (below_drewN (Below.refl _ _) _).trans r3); have D3 := Lib.hid (D2.out.below st); have OB3 := Lib.hid (OB2.out.trans (st.mono OB2.out.size)); have QB3 := Lib.hid (QB_2.out.below st); have O7 := Lib.hid r1; clear r1 r2 r3 k1 k2 k3 k4 k5 k6 k7 k8 k9 k10 k11 k12 k13 k14 k15 k16 k17 kb; obtain ⟨k1, k2, k3, k4, k5, k6, k7, k8, k9, k10, k11, k12, k13, k14, k15, k16, k17, kb⟩ := D3.out) | (go_simp; go_at_call 116; (with_reducible refine (plus_n (k := N + 5) (X / Y) 1 u false u2 n1 HU.out H1.out HU2.out HN1.out p1 p7 c1 c7 l7 _ (by first | exact QB3.out.more (by omega) | exact QB3.out.drew.more (by omega) | exact (QB3.out.drewN _).more (by omega)) (by first | exact O7.out.more (by omega) | exact O7.out.drew.more (by omega) | exact (O7.out.drewN _).more (by omega)) (by omega)).mono ?_); rintro e v6 ⟨p8, l8, c8, rfl, r1, r2, r3⟩; have st : Below v5.heap.size v5 v6 := (by first | exact r3 | exact ((Below.refl _ _).drew).trans r3 | exact (below_drewN (Below.refl _ _) _).trans r3); have D4 := Lib.hid (D3.out.below st); have OB4 := Lib.hid (OB3.out.trans (st.mono OB3.out.size)); have R1 := Lib.hid r1; have R2 := Lib.hid (show ∀ a, p8 = some a → v5.heap.size ≤ a.block from r2); clear r1 r2 r3 k1 k2 k3 k4 k5 k6 k7 k8 k9 k10 k11 k12 k13 k14 k15 k16 k17 kb; obtain ⟨k1, k2, k3, k4, k5, k6, k7, k8, k9, k10, k11, k12, k13, k14, k15, k16, k17, kb⟩ := D4.out))
        all_goals
          have s5 := D3.out.sg
          have n8 : ∀ a, p8 = some a → a.block ≠ g := fun a h => by have := R2.out a h; omega
          have FIN := Lib.hid (show BigRes (N + 6) (rz X Y mode) w (.returned (.agg #[.bool u2, .slice p8 l8.length c8])) ((((v6.setCell ⟨g, 0, none⟩ (.bool u2)).setCell ⟨g, 1, none⟩ (.slice p8 l8.length c8)).setCell ⟨w.heap.size + 1 + 1, 0, none⟩ (.bool u2)).setCell ⟨w.heap.size + 1 + 1, 1, none⟩ (.slice p8 l8.length c8)) by
            rw [RU.out, HU2.out]
            refine BigRes.stored (c := c8) (r := w.heap.size + 1 + 1) K0.out.bel (by omega) K0.out.sz ⟨R1.out.can, by have := R1.out.size; omega, ((R1.out.row.setCell (q := ⟨g, 0, none⟩) n8 _).setCell (q := ⟨g, 1, none⟩) n8 _)⟩ (fun a h => Nat.le_trans OB3.out.size (R2.out a h)) ((OB4.out.setCell V1.out _).setCell V1.out _))
          clear n8 s5 R1 R2 RU D3 D4 OB3 OB4 QB3 O7 QB_2 D2 OB2 OF K0 HX HY QV
        all_goals go_wp2_with fail
        all_goals exact bodyPost_ret (v := .agg #[.bool u2, .slice p8 l8.length c8]) (by simp [results, Try.results63, go_sem, k5, k6, k9, k10, k15, k16]) rfl FIN.out
end Go.Proofs.Ytbcfafihkdddeaa
