/- Classing's tests: bases, ratios, spreads; the comparison of the sort. -/
import Derived.Test.YtkhdpmicejmabaaCT1
namespace Go.Proofs.Ytkhdpmicejmabaa
open Go.RowKit Go.Proofs.Ytkhdpmicejmabaa.Ct Go.Proofs.Ytkhdpmicejmabaa.Stb
set_option linter.unusedVariables false
set_option linter.unusedSimpArgs false

def cmpV (a b : Int) : Int := if a < b then -1 else if b < a then 1 else 0
theorem cmpV_lt (a b : Int) : cmpV a b < 0 ↔ a < b := by
  unfold cmpV
  split
  · omega
  · split <;> omega
theorem cmpV_le (a b : Int) : cmpV a b ≤ 0 ↔ a ≤ b := by
  unfold cmpV
  split
  · omega
  · split <;> omega
theorem isNaN_any (a : Int) (w : World) : Calls Try.prog 67 #[.int .i64 a] w fun e w' => e = .returned (.bool false) ∧ w = w' := by
  have h : (a == a) = true := by simp
  go_enter Try.func67, Try.ntmps67
  go_wp2
  all_goals go_ret
  all_goals exact ⟨ret_b (by simp), rfl⟩
theorem cmpI_any (a b : Int) (w : World) : Calls Try.prog 50 #[.int .i64 a, .int .i64 b] w fun e w' => e = .returned (.int .i64 (cmpV a b)) ∧ w = w' := by
  unfold cmpV
  by_cases h1 : a < b
  · have d1 : decide (a < b) = true := decide_eq_true h1
    rw [if_pos h1]
    go_enter Try.func50, Try.ntmps50
    go_wp2_with fail
    refine (isNaN_any a _).mono ?_
    rintro e w1 ⟨rfl, rfl⟩
    go_wp2_with fail
    refine (isNaN_any b _).mono ?_
    rintro e w1 ⟨rfl, rfl⟩
    go_wp2_with fail
    go_ret
    exact ⟨rfl, rfl⟩
  · have d1 : decide (a < b) = false := decide_eq_false h1
    rw [if_neg h1]
    by_cases h2 : b < a
    · have d2 : decide (b < a) = true := decide_eq_true h2
      rw [if_pos h2]
      go_enter Try.func50, Try.ntmps50
      go_wp2_with fail
      refine (isNaN_any a _).mono ?_
      rintro e w1 ⟨rfl, rfl⟩
      go_wp2_with fail
      refine (isNaN_any b _).mono ?_
      rintro e w1 ⟨rfl, rfl⟩
      go_wp2_with fail
      go_ret
      exact ⟨rfl, rfl⟩
    · have d2 : decide (b < a) = false := decide_eq_false h2
      rw [if_neg h2]
      go_enter Try.func50, Try.ntmps50
      go_wp2_with fail
      refine (isNaN_any a _).mono ?_
      rintro e w1 ⟨rfl, rfl⟩
      go_wp2_with fail
      refine (isNaN_any b _).mono ?_
      rintro e w1 ⟨rfl, rfl⟩
      go_wp2_with fail
      go_ret
      exact ⟨rfl, rfl⟩
/-- A subsample's own box. -/
theorem sbBox (W : World) (a b c d e : Int) : (W.alloc (Obj.cells #[Value.int .i64 a, Value.int .i64 b, Value.int .i64 c, Value.int .i64 d, Value.int .i64 e] 35)).cell? ⟨W.heap.size, 0, none⟩ = some (.int .i64 a) ∧ (W.alloc (Obj.cells #[Value.int .i64 a, Value.int .i64 b, Value.int .i64 c, Value.int .i64 d, Value.int .i64 e] 35)).cell? ⟨W.heap.size, 1, none⟩ = some (.int .i64 b) ∧ (W.alloc (Obj.cells #[Value.int .i64 a, Value.int .i64 b, Value.int .i64 c, Value.int .i64 d, Value.int .i64 e] 35)).cell? ⟨W.heap.size, 2, none⟩ = some (.int .i64 c) ∧ (W.alloc (Obj.cells #[Value.int .i64 a, Value.int .i64 b, Value.int .i64 c, Value.int .i64 d, Value.int .i64 e] 35)).cell? ⟨W.heap.size, 3, none⟩ = some (.int .i64 d) ∧ (W.alloc (Obj.cells #[Value.int .i64 a, Value.int .i64 b, Value.int .i64 c, Value.int .i64 d, Value.int .i64 e] 35)).cell? ⟨W.heap.size, 4, none⟩ = some (.int .i64 e) ∧ Below W.heap.size W (W.alloc (Obj.cells #[Value.int .i64 a, Value.int .i64 b, Value.int .i64 c, Value.int .i64 d, Value.int .i64 e] 35)) := by
  refine ⟨?_, ?_, ?_, ?_, ?_, (Below.refl _ W).alloc (Nat.le_refl _) _⟩ <;> simp [go_sem]
theorem rtBox (W : World) (a b : Int) : (W.alloc (Obj.cells #[Value.int .i64 a, Value.int .i64 b] 84)).cell? ⟨W.heap.size, 0, none⟩ = some (.int .i64 a) ∧ (W.alloc (Obj.cells #[Value.int .i64 a, Value.int .i64 b] 84)).cell? ⟨W.heap.size, 1, none⟩ = some (.int .i64 b) ∧ (W.alloc (Obj.cells #[Value.int .i64 a, Value.int .i64 b] 84)).heap.size = W.heap.size + 1 ∧ Below W.heap.size W (W.alloc (Obj.cells #[Value.int .i64 a, Value.int .i64 b] 84)) := by
  refine ⟨?_, ?_, ?_, (Below.refl _ W).alloc (Nat.le_refl _) _⟩ <;> simp [go_sem]
def sbV (s : Sb) : Value := .agg #[.int .i64 s.raw, .int .i64 s.dry, .int .i64 s.ash, .int .i64 s.gre, .int .i64 s.veg]

set_option maxRecDepth 100000 in
set_option maxHeartbeats 2000000 in
theorem compare_any (a b c d : Int) (h1 : -9223372036854775808 ≤ a * d ∧ a * d ≤ 9223372036854775807) (h2 : -9223372036854775808 ≤ c * b ∧ c * b ≤ 9223372036854775807) (w : World) :
    Calls Try.prog 39 #[.agg #[.int .i64 a, .int .i64 b], .agg #[.int .i64 c, .int .i64 d]] w fun e w' => e = .returned (.int .i64 (cmpV (a * d) (c * b))) ∧ Below w.heap.size w w' := by
  have e1 : IntKind.i64.wrap (a * d) = a * d := hwI h1.1 h1.2
  have e2 : IntKind.i64.wrap (c * b) = c * b := hwI h2.1 h2.2
  have C1 := Lib.hid (cmpI_any (a * d) (c * b))
  obtain ⟨p0, p1, ps, pb⟩ := rtBox w a b
  obtain ⟨q0, q1, qs, qb⟩ := rtBox (w.alloc (Obj.cells #[Value.int .i64 a, Value.int .i64 b] 84)) c d
  have B2 := Lib.hid (pb.trans (qb.mono (by rw [ps]; omega)))
  have p0 := cellGr qb p0
  have p1 := cellGr qb p1
  have PT := Lib.hid (And.intro p0 (And.intro p1 (And.intro q0 q1)))
  clear p0 p1 q0 q1 pb qb h1 h2 qs
  go_enter Try.func39, Try.ntmps39
  go_upto_region 1 with fail
  rw [ps] at PT
  clear ps
  obtain ⟨p0, p1, q0, q1⟩ := PT.out
  generalize ((w.alloc (Obj.cells #[Value.int .i64 a, Value.int .i64 b] 84)).alloc (Obj.cells #[Value.int .i64 c, Value.int .i64 d] 84)) = w2 at *
  clear PT
  generalize hg : w.heap.size = g at *
  have HG := Lib.hid hg
  clear hg
  go_wp2_with fail
  refine (C1.out _).mono ?_
  rintro e w3 ⟨rfl, rfl⟩
  go_wp2_with fail
  go_ret
  exact ⟨rfl, by rw [HG.out]; exact B2.out⟩
/-- A subsample's box and a box of two numbers behind it. -/
structure SR2 (w0 W : World) (g : Nat) (v0 v1 v2 v3 v4 x y : Int) : Prop where
  s0 : W.cell? ⟨g, 0, none⟩ = some (.int .i64 v0)
  s1 : W.cell? ⟨g, 1, none⟩ = some (.int .i64 v1)
  s2 : W.cell? ⟨g, 2, none⟩ = some (.int .i64 v2)
  s3 : W.cell? ⟨g, 3, none⟩ = some (.int .i64 v3)
  s4 : W.cell? ⟨g, 4, none⟩ = some (.int .i64 v4)
  k1 : W.cell? ⟨g + 1, 0, none⟩ = some (.int .i64 x)
  k2 : W.cell? ⟨g + 1, 1, none⟩ = some (.int .i64 y)
  k3 : W.frozen? ⟨g + 1, 0, none⟩ = false
  k4 : W.frozen? ⟨g + 1, 1, none⟩ = false
  z1 : g + 1 < W.heap.size
  hg : g = w0.heap.size
  hb : Below w0.heap.size w0 W
theorem SR2.new (w : World) (v0 v1 v2 v3 v4 x y : Int) (t : TypeId) : SR2 w ((w.alloc (Obj.cells #[Value.int .i64 v0, Value.int .i64 v1, Value.int .i64 v2, Value.int .i64 v3, Value.int .i64 v4] 35)).alloc (Obj.cells #[Value.int .i64 x, Value.int .i64 y] t)) w.heap.size v0 v1 v2 v3 v4 x y := by
  refine ⟨?_, ?_, ?_, ?_, ?_, ?_, ?_, ?_, ?_, by simp, rfl, ((Below.refl _ _).alloc (Nat.le_refl _) _).alloc (by simp) _⟩ <;> simp [go_sem]
theorem SR2.call {w0 W W' : World} {g : Nat} {v0 v1 v2 v3 v4 x y : Int} (h : SR2 w0 W g v0 v1 v2 v3 v4 x y) (st : Below W.heap.size W W') : SR2 w0 W' g v0 v1 v2 v3 v4 x y :=
  have z1 := h.z1
  have z0 : g < W.heap.size := by omega
  ⟨(st.cell z0).trans h.s0, (st.cell z0).trans h.s1, (st.cell z0).trans h.s2, (st.cell z0).trans h.s3, (st.cell z0).trans h.s4, (st.cell z1).trans h.k1, (st.cell z1).trans h.k2, (st.frozen z1).trans h.k3, (st.frozen z1).trans h.k4, Nat.lt_of_lt_of_le z1 st.size, h.hg, h.hb.trans (st.mono h.hb.size)⟩
theorem SR2.drewN {w0 W : World} {g : Nat} {v0 v1 v2 v3 v4 x y : Int} (h : SR2 w0 W g v0 v1 v2 v3 v4 x y) (n : Nat) : SR2 w0 (W.drewN n) g v0 v1 v2 v3 v4 x y := h.call (below_drewN (Below.refl _ _) n)
theorem SR2.drew {w0 W : World} {g : Nat} {v0 v1 v2 v3 v4 x y : Int} (h : SR2 w0 W g v0 v1 v2 v3 v4 x y) : SR2 w0 W.drew g v0 v1 v2 v3 v4 x y := h.call (Below.refl _ _).drew

set_option maxRecDepth 100000 in
set_option maxHeartbeats 2000000 in
theorem base_any (s : Sb) (h : s.ok = true) (w : World) :
    Calls Try.prog 57 #[sbV s] w fun e w' => e = .returned (.agg #[.int .i64 s.wl, .int .i64 s.raw]) ∧ Below w.heap.size w w' := by
  have CW := Lib.hid (fun W => wool_any s.raw s.dry s.ash s.gre s.veg h W)
  have EW := Lib.hid (show s.dry - s.ash - s.gre - s.veg = s.wl from rfl)
  rw [EW.out] at CW
  have PT := Lib.hid (SR2.new w s.raw s.dry s.ash s.gre s.veg 0 0 84)
  unfold sbV
  clear EW h
  generalize s.wl = m at *
  generalize s.raw = v0 at *
  generalize s.dry = v1 at *
  generalize s.ash = v2 at *
  generalize s.gre = v3 at *
  generalize s.veg = v4 at *
  go_enter Try.func57, Try.ntmps57
  go_upto_region 1 with fail
  generalize ((w.alloc (Obj.cells #[Value.int .i64 v0, Value.int .i64 v1, Value.int .i64 v2, Value.int .i64 v3, Value.int .i64 v4] 35)).alloc (Obj.cells #[Value.int .i64 0, Value.int .i64 0] 84)) = wa at *
  obtain ⟨s0, s1, s2, s3, s4, k1, k2, k3, k4, z1, hg, hb⟩ := PT.out
  have PS := PT
  clear PT
  go_region_law (first
    | (go_simp; go_at_call 26; (with_reducible refine (CW.out _).mono ?_); rintro e w2 ⟨rfl, q⟩; have st : Below wa.heap.size wa w2 := (by first | exact q | exact ((Below.refl _ _).drew).trans q | exact (below_drewN (Below.refl _ _) _).trans q); have PS := Lib.hid (PS.out.call st); obtain ⟨s0, s1, s2, s3, s4, k1, k2, k3, k4, z1, hg, hb⟩ := PS.out; clear q st))
  all_goals go_wp2_with fail
  all_goals refine bodyPost_ret (v := .agg #[.int .i64 m, .int .i64 v0]) (by simp [results, Try.results57, go_sem, k1, k2, z1]) rfl ⟨rfl, ?_⟩
  all_goals first
    | exact (hb.setCell (by simp) _).setCell (by simp) _
    | exact ((hb.setCell (by simp) _).setCell (by simp) _).drew
    | exact below_drewN ((hb.setCell (by simp) _).setCell (by simp) _) _
    | exact (hb.drew.setCell (by simp) _).setCell (by simp) _
    | exact ((below_drewN hb _).setCell (by simp) _).setCell (by simp) _
end Go.Proofs.Ytkhdpmicejmabaa
