/- Classing's tests: the spread of a window. -/
import Derived.Test.YtkhdpmicejmabaaCT2
namespace Go.Proofs.Ytkhdpmicejmabaa
open Go.RowKit Go.Proofs.Ytkhdpmicejmabaa.Ct Go.Proofs.Ytkhdpmicejmabaa.Stb
set_option linter.unusedVariables false
set_option linter.unusedSimpArgs false

/-- The subsamples of a test. -/
def SubsAt (w : World) (b n : Nat) (S : Nat → Sb) : Prop := ∀ i, i < n → SbAt w ⟨b, 3 + i * 5, none⟩ (S i)
theorem SubsAt.below {w w' : World} {b n : Nat} {S : Nat → Sb} (h : SubsAt w b n S) (st : Below w.heap.size w w') : SubsAt w' b n S := fun i hi => (h i hi).below st
/-- What the first region of spread reads. -/
def SpX (W : World) (x : Addr) (y b u v : Nat) (su sv : Sb) : Prop := W.cell? x = some (.int .i64 (u : Int)) ∧ W.cell? (x.add y) = some (.int .i64 (v : Int)) ∧ W.cell? ⟨b, 3 + u * 5, none⟩ = some (.int .i64 su.raw) ∧ W.cell? ⟨b, 3 + u * 5 + 1, none⟩ = some (.int .i64 su.dry) ∧ W.cell? ⟨b, 3 + u * 5 + 2, none⟩ = some (.int .i64 su.ash) ∧ W.cell? ⟨b, 3 + u * 5 + 3, none⟩ = some (.int .i64 su.gre) ∧ W.cell? ⟨b, 3 + u * 5 + 4, none⟩ = some (.int .i64 su.veg) ∧ W.cell? ⟨b, 3 + v * 5, none⟩ = some (.int .i64 sv.raw) ∧ W.cell? ⟨b, 3 + v * 5 + 1, none⟩ = some (.int .i64 sv.dry) ∧ W.cell? ⟨b, 3 + v * 5 + 2, none⟩ = some (.int .i64 sv.ash) ∧ W.cell? ⟨b, 3 + v * 5 + 3, none⟩ = some (.int .i64 sv.gre) ∧ W.cell? ⟨b, 3 + v * 5 + 4, none⟩ = some (.int .i64 sv.veg)
theorem SpX.below {W W' : World} {x : Addr} {y b u v : Nat} {su sv : Sb} (st : Below W.heap.size W W') (h : SpX W x y b u v su sv) : SpX W' x y b u v su sv := by
  obtain ⟨f, l, s0, s1, s2, s3, s4, t0, t1, t2, t3, t4⟩ := h
  exact ⟨cellGr st f, cellGr st l, cellGr st s0, cellGr st s1, cellGr st s2, cellGr st s3, cellGr st s4, cellGr st t0, cellGr st t1, cellGr st t2, cellGr st t3, cellGr st t4⟩
theorem SpX.set {W : World} {x : Addr} {y b u v : Nat} {su sv : Sb} {g k : Nat} {vv : Value} (h1 : x.block ≠ g) (h2 : b ≠ g) (h : SpX W x y b u v su sv) : SpX (W.setCell ⟨g, k, none⟩ vv) x y b u v su sv := by
  have c : ∀ a : Addr, a.block ≠ g → (W.setCell ⟨g, k, none⟩ vv).cell? a = W.cell? a := fun a ha => by unfold World.cell?; rw [Below.heap_setCell _ _ _ _ ha]
  obtain ⟨f, l, s0, s1, s2, s3, s4, t0, t1, t2, t3, t4⟩ := h
  exact ⟨(c _ h1).trans f, (c _ (by rw [addB]; exact h1)).trans l, (c _ h2).trans s0, (c _ h2).trans s1, (c _ h2).trans s2, (c _ h2).trans s3, (c _ h2).trans s4, (c _ h2).trans t0, (c _ h2).trans t1, (c _ h2).trans t2, (c _ h2).trans t3, (c _ h2).trans t4⟩
theorem SpX.al {W : World} {x : Addr} {y b u v : Nat} {su sv : Sb} {o : Obj} (h : SpX W x y b u v su sv) : SpX (W.alloc o) x y b u v su sv := SpX.below ((Below.refl _ _).alloc (Nat.le_refl _) _) h
theorem SpX.dr {W : World} {x : Addr} {y b u v : Nat} {su sv : Sb} (h : SpX W x y b u v su sv) : SpX W.drew x y b u v su sv := SpX.below (Below.refl _ _).drew h
theorem ob_new2 (W : World) (a b : Value) (t : TypeId) (c : Nat → Value) (h0 : c 0 = a) (h1 : c 1 = b) : OB (W.alloc (Obj.cells #[a, b] t)) W.heap.size t 2 c := by
  unfold OB
  rw [heap_alloc_new, ← h0, ← h1]
  rfl
theorem ob_old {W : World} {g n : Nat} {t : TypeId} {c : Nat → Value} (h : OB W g t n c) (o : Obj) : OB (W.alloc o) g t n c := h.below ((Below.refl _ _).alloc (Nat.le_refl _) _)

theorem OB.so {W : World} {g n g' k : Nat} {t : TypeId} {c : Nat → Value} {v : Value} (h : OB W g t n c) (ne : g ≠ g') : OB (W.setCell ⟨g', k, none⟩ v) g t n c := h.keep (Below.heap_setCell _ _ _ _ ne)
theorem OB.s2 {W : World} {g : Nat} {t : TypeId} {c : Nat → Value} {a b : Value} (h : OB W g t 2 c) : OB ((W.setCell ⟨g, 0, none⟩ a).setCell ⟨g, 1, none⟩ b) g t 2 (fun k => if k = 0 then a else b) :=
  ((h.set 0 a).set 1 b).ext fun k hk => by
    unfold updV
    rcases (show k = 0 ∨ k = 1 by omega) with rfl | rfl <;> simp
theorem ob_n (W : World) (a b : Value) (t : TypeId) : OB (W.alloc (Obj.cells #[a, b] t)) W.heap.size t 2 (fun k => if k = 0 then a else b) := ob_new2 _ _ _ _ _ rfl rfl
theorem ob_n' (W : World) (o : Obj) (a b : Value) (t : TypeId) : OB ((W.alloc o).alloc (Obj.cells #[a, b] t)) (W.heap.size + 1) t 2 (fun k => if k = 0 then a else b) := by
  have := ob_n (W.alloc o) a b t
  simpa using this
theorem ob_ns (W : World) (p q : Addr) (x y : Value) (a b : Value) (t : TypeId) : OB (((W.setCell p x).setCell q y).alloc (Obj.cells #[a, b] t)) W.heap.size t 2 (fun k => if k = 0 then a else b) := by
  have := ob_n ((W.setCell p x).setCell q y) a b t
  simpa using this
theorem be_al {base : Nat} {w W : World} {o : Obj} (h : Below base w W) (hb : base ≤ W.heap.size) : Below base w (W.alloc o) := h.alloc hb _
theorem be_st {base : Nat} {w W : World} {g k : Nat} {v : Value} (h : Below base w W) (hb : base ≤ g) : Below base w (W.setCell ⟨g, k, none⟩ v) := h.setCell hb _
/-- Behind a call that was made with no box, one, two made before. -/
abbrev ZB (W : World) (g : Nat) : Prop := OB W g 84 2 (fun _ => .int .i64 0)
theorem ZB.below {W W' : World} {g : Nat} (h : ZB W g) (st : Below W.heap.size W W') : ZB W' g := OB.below h st
theorem bq0 {wa w2 : World} (q : Below wa.heap.size wa w2) : Below wa.heap.size wa w2 := q
theorem bq1 {wa w2 : World} (q : Below (wa.alloc (Obj.cells #[Value.int .i64 0, Value.int .i64 0] 84)).heap.size (wa.alloc (Obj.cells #[Value.int .i64 0, Value.int .i64 0] 84)) w2) : Below wa.heap.size wa w2 ∧ ZB w2 wa.heap.size :=
  ⟨((Below.refl _ wa).alloc (Nat.le_refl _) _).trans (q.mono (by simp)), (ob_new2 wa _ _ _ _ rfl rfl : OB _ wa.heap.size _ _ _).below q⟩
theorem bq2 {wa w2 : World} (q : Below ((wa.alloc (Obj.cells #[Value.int .i64 0, Value.int .i64 0] 84)).alloc (Obj.cells #[Value.int .i64 0, Value.int .i64 0] 84)).heap.size ((wa.alloc (Obj.cells #[Value.int .i64 0, Value.int .i64 0] 84)).alloc (Obj.cells #[Value.int .i64 0, Value.int .i64 0] 84)) w2) : Below wa.heap.size wa w2 ∧ ZB w2 wa.heap.size ∧ ZB w2 (wa.heap.size + 1) :=
  ⟨(((Below.refl _ wa).alloc (Nat.le_refl _) _).alloc (by simp) _).trans (q.mono (by simp; omega)), (ob_old (ob_new2 wa _ _ _ _ rfl rfl) _ : OB _ wa.heap.size _ _ _).below q, by
    have := (ob_new2 (wa.alloc (Obj.cells #[Value.int .i64 0, Value.int .i64 0] 84)) (.int .i64 0) (.int .i64 0) 84 (fun _ => .int .i64 0) rfl rfl).below q
    simp at this
    exact this⟩
theorem bq0d {wa w2 : World} (q : Below wa.drew.heap.size wa.drew w2) : Below wa.heap.size wa w2 := (Below.refl _ _).drew.trans q
theorem bq1d {wa w2 : World} (q : Below (wa.drew.alloc (Obj.cells #[Value.int .i64 0, Value.int .i64 0] 84)).heap.size (wa.drew.alloc (Obj.cells #[Value.int .i64 0, Value.int .i64 0] 84)) w2) : Below wa.heap.size wa w2 ∧ ZB w2 wa.heap.size :=
  ⟨(((Below.refl _ wa).drew).alloc (Nat.le_refl _) _).trans (q.mono (by simp)), (ob_new2 wa.drew _ _ _ _ rfl rfl : OB _ wa.drew.heap.size _ _ _).below q⟩
theorem bq2d {wa w2 : World} (q : Below ((wa.drew.alloc (Obj.cells #[Value.int .i64 0, Value.int .i64 0] 84)).alloc (Obj.cells #[Value.int .i64 0, Value.int .i64 0] 84)).heap.size ((wa.drew.alloc (Obj.cells #[Value.int .i64 0, Value.int .i64 0] 84)).alloc (Obj.cells #[Value.int .i64 0, Value.int .i64 0] 84)) w2) : Below wa.heap.size wa w2 ∧ ZB w2 wa.heap.size ∧ ZB w2 (wa.heap.size + 1) :=
  ⟨((((Below.refl _ wa).drew).alloc (Nat.le_refl _) _).alloc (by simp) _).trans (q.mono (by simp; omega)), (ob_old (ob_new2 wa.drew _ _ _ _ rfl rfl) _ : OB _ wa.drew.heap.size _ _ _).below q, by
    have := (ob_new2 (wa.drew.alloc (Obj.cells #[Value.int .i64 0, Value.int .i64 0] 84)) (.int .i64 0) (.int .i64 0) 84 (fun _ => .int .i64 0) rfl rfl).below q
    simp at this
    exact this⟩
theorem bq1e {wa w2 : World} (q : Below (wa.alloc (Obj.cells #[Value.int .i64 0, Value.int .i64 0] 84)).drew.heap.size (wa.alloc (Obj.cells #[Value.int .i64 0, Value.int .i64 0] 84)).drew w2) : Below wa.heap.size wa w2 ∧ ZB w2 wa.heap.size := bq1 ((Below.refl _ _).drew.trans q)
theorem bq2e {wa w2 : World} (q : Below ((wa.alloc (Obj.cells #[Value.int .i64 0, Value.int .i64 0] 84)).alloc (Obj.cells #[Value.int .i64 0, Value.int .i64 0] 84)).drew.heap.size ((wa.alloc (Obj.cells #[Value.int .i64 0, Value.int .i64 0] 84)).alloc (Obj.cells #[Value.int .i64 0, Value.int .i64 0] 84)).drew w2) : Below wa.heap.size wa w2 ∧ ZB w2 wa.heap.size ∧ ZB w2 (wa.heap.size + 1) := bq2 ((Below.refl _ _).drew.trans q)
set_option maxRecDepth 100000 in
set_option maxHeartbeats 40000000 in
theorem spread_any (b n : Nat) (S : Nat → Sb) (G : Ct.Good S) (n8 : n ≤ 8) (p : Option Addr) (z c : Nat) (M : Nat → Int) (w : World) (hs : SubsAt w b n S) (r : NmR w p z M) (hz : 1 ≤ z) (hz8 : z ≤ 8) (hm : ∀ i, i < z → 0 ≤ M i ∧ M i < n) :
    Calls Try.prog 38 #[.pointer (some ⟨b, 0, none⟩), .slice p z c] w fun e w' => e = .returned (.agg #[.int .i64 (bl S (M (z - 1)) (M 0)), .int .i64 ((S (M (z - 1)).toNat).raw * (S (M 0).toNat).raw)]) ∧ Below w.heap.size w w' := by
  obtain ⟨x, rfl, xb, f⟩ := r 0 (by omega)
  obtain ⟨x', e, -, l⟩ := r (z - 1) (by omega)
  cases e
  obtain ⟨u, hu⟩ := Int.eq_ofNat_of_zero_le (hm 0 (by omega)).1
  obtain ⟨v, hv⟩ := Int.eq_ofNat_of_zero_le (hm (z - 1) (by omega)).1
  have un : u < n := by have := (hm 0 (by omega)).2; omega
  have vn : v < n := by have := (hm (z - 1) (by omega)).2; omega
  rw [hu] at f
  replace f : w.cell? x = some (.int .i64 (u : Int)) := f
  rw [hv] at l
  obtain ⟨-, s0, s1, s2, s3, s4⟩ := hs u un
  obtain ⟨-, t0, t1, t2, t3, t4⟩ := hs v vn
  have bb := bl_bd G (M (z - 1)) (M 0)
  obtain ⟨p1, p2, p3, p4, -⟩ := Sb.bd (G u)
  obtain ⟨q1, q2, q3, q4, -⟩ := Sb.bd (G v)
  have EB := Lib.hid (show bl S (M (z - 1)) (M 0) = (S v).wl * (S u).raw - (S u).wl * (S v).raw from by unfold bl; rw [hu, hv]; rfl)
  have ER := Lib.hid (show (S (M (z - 1)).toNat).raw * (S (M 0).toNat).raw = (S v).raw * (S u).raw from by rw [hu, hv]; rfl)
  have w1 : IntKind.i64.wrap ((S v).wl * (S u).raw) = (S v).wl * (S u).raw := by
    have := Int.mul_nonneg q3 (show 0 ≤ (S u).raw by omega)
    have := Int.mul_le_mul (show (S v).wl ≤ 10000 by omega) p2 (by omega) (by omega)
    exact hwI (by omega) (by omega)
  have w2 : IntKind.i64.wrap ((S u).wl * (S v).raw) = (S u).wl * (S v).raw := by
    have := Int.mul_nonneg p3 (show 0 ≤ (S v).raw by omega)
    have := Int.mul_le_mul (show (S u).wl ≤ 10000 by omega) q2 (by omega) (by omega)
    exact hwI (by omega) (by omega)
  rw [EB.out] at bb
  have w3 : IntKind.i64.wrap ((S v).wl * (S u).raw - (S u).wl * (S v).raw) = (S v).wl * (S u).raw - (S u).wl * (S v).raw := hwI (by omega) (by omega)
  have w4 : IntKind.i64.wrap ((S v).raw * (S u).raw) = (S v).raw * (S u).raw := by
    have := Int.mul_nonneg (show 0 ≤ (S v).raw by omega) (show 0 ≤ (S u).raw by omega)
    have := Int.mul_le_mul q2 p2 (by omega) (by omega)
    exact hwI (by omega) (by omega)
  have CU := Lib.hid (fun W => base_any (S u) (G u) W)
  have CV := Lib.hid (fun W => base_any (S v) (G v) W)
  unfold sbV at CU CV
  have B0 : Below w.heap.size w (w.alloc (Obj.cells #[Value.int .i64 0, Value.int .i64 0] 84)) := (Below.refl _ _).alloc (Nat.le_refl _) _
  have u1 : (0 : Int) ≤ (u : Int) := by omega
  have u2 : (u : Int) < 8 := by omega
  have v1 : (0 : Int) ≤ (v : Int) := by omega
  have v2 : (v : Int) < 8 := by omega
  obtain ⟨y, hy⟩ : ∃ y, y = z - 1 := ⟨_, rfl⟩
  have wz : IntKind.i64.wrap ((z : Int) - 1) = (y : Int) := by rw [hwI (by omega) (by omega)]; omega
  have y1 : (0 : Int) ≤ (y : Int) := by omega
  have y2 : (y : Int) < (z : Int) := by omega
  have z1 : 0 < z := by omega
  have PS := Lib.hid (show SpX (w.alloc (Obj.cells #[Value.int .i64 0, Value.int .i64 0] 84)) x y b u v (S u) (S v) from by rw [hy]; exact SpX.below B0 ⟨f, l, s0, s1, s2, s3, s4, t0, t1, t2, t3, t4⟩)
  have BX := Lib.hid (show OB (w.alloc (Obj.cells #[Value.int .i64 0, Value.int .i64 0] 84)) w.heap.size 84 2 (fun _ => .int .i64 0) from ob_new2 _ _ _ _ _ rfl rfl)
  have HB := Lib.hid B0
  have xw : x.block < (w.alloc (Obj.cells #[Value.int .i64 0, Value.int .i64 0] 84)).heap.size := by simp; omega
  have bw : b < (w.alloc (Obj.cells #[Value.int .i64 0, Value.int .i64 0] 84)).heap.size := by have := World.block_lt_of_cell? w _ s0; simp; simp at this; omega
  rw [EB.out, ER.out]
  clear EB ER hu hv hm r hs G bb p1 p2 p3 p4 q1 q2 q3 q4 f l s0 s1 s2 s3 s4 t0 t1 t2 t3 t4 B0 un vn hz
  generalize S u = su at *
  generalize S v = sv at *
  clear hy
  go_enter Try.func38, Try.ntmps38
  go_upto_region 1 with fail
  generalize (w.alloc (Obj.cells #[Value.int .i64 0, Value.int .i64 0] 84)) = wa at *
  have bxl : w.heap.size < wa.heap.size := BX.out.lt
  go_cut [5, 6] from 7 to 27 (fun v5 v6 wx => ∃ g5 g6, v5 = .pointer (some ⟨g5, 0, none⟩) ∧ v6 = .pointer (some ⟨g6, 0, none⟩) ∧ Hid (OB wx g5 84 2 (fun k => if k = 0 then .int .i64 su.wl else .int .i64 su.raw) ∧ OB wx g6 84 2 (fun k => if k = 0 then .int .i64 sv.wl else .int .i64 sv.raw) ∧ OB wx w.heap.size 84 2 (fun _ => .int .i64 0) ∧ Below w.heap.size w wx))
  case first =>
    go_region_held3 (fun w' => w'.cell? x = some (.int .i64 (u : Int)) ∧ w'.cell? (x.add y) = some (.int .i64 (v : Int)) ∧ w'.cell? ⟨b, 3 + u * 5, none⟩ = some (.int .i64 su.raw) ∧ w'.cell? ⟨b, 3 + u * 5 + 1, none⟩ = some (.int .i64 su.dry) ∧ w'.cell? ⟨b, 3 + u * 5 + 2, none⟩ = some (.int .i64 su.ash) ∧ w'.cell? ⟨b, 3 + u * 5 + 3, none⟩ = some (.int .i64 su.gre) ∧ w'.cell? ⟨b, 3 + u * 5 + 4, none⟩ = some (.int .i64 su.veg) ∧ w'.cell? ⟨b, 3 + v * 5, none⟩ = some (.int .i64 sv.raw) ∧ w'.cell? ⟨b, 3 + v * 5 + 1, none⟩ = some (.int .i64 sv.dry) ∧ w'.cell? ⟨b, 3 + v * 5 + 2, none⟩ = some (.int .i64 sv.ash) ∧ w'.cell? ⟨b, 3 + v * 5 + 3, none⟩ = some (.int .i64 sv.gre) ∧ w'.cell? ⟨b, 3 + v * 5 + 4, none⟩ = some (.int .i64 sv.veg))
      ((show SpX _ x y b u v su sv; repeat (first | exact PS.out | refine SpX.set (by omega) (by omega) ?_ | refine SpX.al ?_ | refine SpX.dr ?_)))
      (first
      | ((go_at_call 57; (with_reducible refine (CU.out _).mono ?_); rintro e w2 ⟨rfl, q⟩; (first | (with_reducible have st := bq0 (wa := wa) q) | (with_reducible have st := bq0d (wa := wa) q) | (with_reducible have qq := bq1 (wa := wa) q; obtain ⟨st, E1⟩ := qq) | (with_reducible have qq := bq1d (wa := wa) q; obtain ⟨st, E1⟩ := qq) | (with_reducible have qq := bq2 (wa := wa) q; obtain ⟨st, E1, E2⟩ := qq) | (with_reducible have qq := bq2d (wa := wa) q; obtain ⟨st, E1, E2⟩ := qq) | (with_reducible have qq := bq1e (wa := wa) q; obtain ⟨st, E1⟩ := qq) | (with_reducible have qq := bq2e (wa := wa) q; obtain ⟨st, E1, E2⟩ := qq)); have PS := Lib.hid (SpX.below st PS.out); have BX := Lib.hid (OB.below BX.out st); have HB := Lib.hid (HB.out.trans (st.mono HB.out.size)); have sz2 := st.size; (try have l12 := E1.lt); clear q st))
      | ((go_at_call 57; (with_reducible refine (CV.out _).mono ?_); rintro e w3 ⟨rfl, q⟩; (first | (with_reducible have st := bq0 (wa := w2) q) | (with_reducible have st := bq0d (wa := w2) q) | (with_reducible have qq := bq1 (wa := w2) q; obtain ⟨st, E3⟩ := qq) | (with_reducible have qq := bq1d (wa := w2) q; obtain ⟨st, E3⟩ := qq) | (with_reducible have qq := bq2 (wa := w2) q; obtain ⟨st, E3, E4⟩ := qq) | (with_reducible have qq := bq2d (wa := w2) q; obtain ⟨st, E3, E4⟩ := qq) | (with_reducible have qq := bq1e (wa := w2) q; obtain ⟨st, E3⟩ := qq) | (with_reducible have qq := bq2e (wa := w2) q; obtain ⟨st, E3, E4⟩ := qq)); have PS := Lib.hid (SpX.below st PS.out); have BX := Lib.hid (OB.below BX.out st); have HB := Lib.hid (HB.out.trans (st.mono HB.out.size)); (try have E1 := ZB.below E1 st); (try have E2 := ZB.below E2 st); (try (have a1 := E1.cell (k := 0) (by decide); have a1' := E1.cell (k := 1) (by decide); have f1 := E1.frozen 0; have f1' := E1.frozen 1; have l1 := E1.lt)); (try (have a2 := E2.cell (k := 0) (by decide); have a2' := E2.cell (k := 1) (by decide); have f2 := E2.frozen 0; have f2' := E2.frozen 1; have l2 := E2.lt)); (try (have a3 := E3.cell (k := 0) (by decide); have a3' := E3.cell (k := 1) (by decide); have f3 := E3.frozen 0; have f3' := E3.frozen 1; have l3 := E3.lt)); (try (have a4 := E4.cell (k := 0) (by decide); have a4' := E4.cell (k := 1) (by decide); have f4 := E4.frozen 0; have f4' := E4.frozen 1; have l4 := E4.lt)); have sz3 := st.size; (try have ne1 : ¬ wa.heap.size = w2.heap.size := (by omega)); (try have ne1' : ¬ w2.heap.size = wa.heap.size := (by omega)); (try have ne2 : ¬ wa.heap.size = w3.heap.size := (by omega)); (try have ne2' : ¬ w3.heap.size = wa.heap.size := (by omega)); (try have ne3 : ¬ wa.heap.size = w3.heap.size + 1 := (by omega)); (try have ne3' : ¬ w3.heap.size + 1 = wa.heap.size := (by omega)); (try have ne4 : ¬ wa.heap.size + 1 = w2.heap.size := (by omega)); (try have ne4' : ¬ w2.heap.size = wa.heap.size + 1 := (by omega)); (try have ne5 : ¬ wa.heap.size + 1 = w3.heap.size := (by omega)); (try have ne5' : ¬ w3.heap.size = wa.heap.size + 1 := (by omega)); (try have ne6 : ¬ wa.heap.size + 1 = w3.heap.size + 1 := (by omega)); (try have ne6' : ¬ w3.heap.size + 1 = wa.heap.size + 1 := (by omega)); (try have ne7 : ¬ w2.heap.size = w3.heap.size := (by omega)); (try have ne7' : ¬ w3.heap.size = w2.heap.size := (by omega)); (try have ne8 : ¬ w2.heap.size = w3.heap.size + 1 := (by omega)); (try have ne8' : ¬ w3.heap.size + 1 = w2.heap.size := (by omega)); (try have ne9 : ¬ w2.heap.size + 1 = w3.heap.size := (by omega)); (try have ne9' : ¬ w3.heap.size = w2.heap.size + 1 := (by omega)); (try have ne10 : ¬ w2.heap.size + 1 = w3.heap.size + 1 := (by omega)); (try have ne10' : ¬ w3.heap.size + 1 = w2.heap.size + 1 := (by omega)); clear q st)))
    all_goals (
      have lw := HB.out.size
      have lb := BX.out.lt
      clear CU CV PS
      go_wp2_with fail
      go_meet
      refine ⟨_, _, rfl, rfl, Lib.hid ⟨?_, ?_, ?_, ?_⟩⟩
      all_goals (with_reducible (repeat (first | exact E1 | exact E2 | exact E3 | exact E4 | exact BX.out | exact HB.out | exact ob_n _ _ _ _ | exact ob_n' _ _ _ _ _ | exact ob_ns _ _ _ _ _ _ _ _ | refine OB.s2 (c := fun _ => .int .i64 0) ?_ | refine OB.so ?_ (by omega) | refine ob_old ?_ _ | refine be_st ?_ (by omega) | refine be_al ?_ (by first | omega | (simp; omega))))))
  case rest =>
    obtain ⟨g5, g6, rfl, rfl, HH⟩ := hcut
    obtain ⟨o5, o6, ob, hb⟩ := HH.out
    have p0 := o5.cell (k := 0) (by decide)
    have p1 := o5.cell (k := 1) (by decide)
    have q0 := o6.cell (k := 0) (by decide)
    have q1 := o6.cell (k := 1) (by decide)
    have r0 := ob.cell (k := 0) (by decide)
    have r1 := ob.cell (k := 1) (by decide)
    have f0 := ob.frozen 0
    have f1 := ob.frozen 1
    have lb := ob.lt
    rw [if_pos rfl] at p0 q0
    rw [if_neg (by decide)] at p1 q1
    have KB := Lib.hid hb
    clear o5 o6 ob hb HH PS BX HB CU CV xw bw bxl
    go_wp2_with fail
    refine bodyPost_ret (v := .agg #[.int .i64 (sv.wl * su.raw - su.wl * sv.raw), .int .i64 (sv.raw * su.raw)]) (by simp [results, Try.results38, go_sem, r0, r1, lb]) rfl ⟨rfl, ?_⟩
    exact (KB.out.setCell (by simp) _).setCell (by simp) _
end Go.Proofs.Ytkhdpmicejmabaa
