/- The law NumMakes: its walk. -/
import Derived.Test.YtbnbbekfackaiaaDoorR18
import Derived.Test.YtbnbbekfackaiaaDoorE1
namespace Go.Proofs.YtbnbbekfackaiaaDoor.numMakes
open Go.RowKit
set_option linter.unusedVariables false
set_option linter.unusedSimpArgs false

/-- What Make comes to. -/
def MakeR (n d V D E : Int) : Prop := (d = 0 ∧ V = 0 ∧ D = 0 ∧ E = 5) ∨ (d ≠ 0 ∧ IsFrac n d V D E)
theorem MakeR.unique {n d V D E V' D' E' : Int} (h : MakeR n d V D E) (h' : MakeR n d V' D' E') : V' = V ∧ D' = D ∧ E' = E := by
  rcases h with ⟨a, b, c, e⟩ | ⟨a, b⟩ <;> rcases h' with ⟨a', b', c', e'⟩ | ⟨a', b'⟩
  · exact ⟨by omega, by omega, by omega⟩
  · exact absurd a a'
  · exact absurd a' a
  · obtain ⟨p, q, r⟩ := frac_unique a b b'; exact ⟨p.symm, q.symm, r.symm⟩
theorem MakeR.cases {n d V D E : Int} (h : MakeR n d V D E) : -1099511627776 ≤ V ∧ V ≤ 1099511627776 ∧ ((E = 0 ∧ vldB V D = true) ∨ (E = 4 ∧ vldB V D = false) ∨ (E = 5 ∧ vldB V D = false)) := by
  have z : vldB 0 0 = false := by kernel_rfl
  rcases h with ⟨a, b, c, e⟩ | ⟨a, ⟨e, b, c⟩ | ⟨e, b, c, _⟩⟩
  · subst b c; exact ⟨by omega, by omega, .inr (.inr ⟨e, z⟩)⟩
  · obtain ⟨b1, b2, b3, b4, b5⟩ := vldB_true.1 b; exact ⟨b3, b4, .inl ⟨e, b⟩⟩
  · subst b c; exact ⟨by omega, by omega, .inr (.inl ⟨e, z⟩)⟩
theorem make_all (n d : Int) (n1 : -9223372036854775808 ≤ n) (n2 : n ≤ 9223372036854775807) (d1 : -9223372036854775808 ≤ d) (d2 : d ≤ 9223372036854775807) (w : World) :
    Calls Tryd.prog 13 #[.int .i64 n, .int .i64 d] w (Res (MakeR n d) w) := by
  by_cases h : d = 0
  · subst h
    exact (Make_zero n w).mono fun _ _ ⟨V, D, E, r, a, b⟩ => ⟨V, D, E, .inl ⟨rfl, r⟩, a, b⟩
  · exact (Make_any n d n1 n2 d1 d2 h w).mono fun _ _ ⟨V, D, E, r, a, b⟩ => ⟨V, D, E, .inr ⟨h, r⟩, a, b⟩
theorem rmake_all (n d : Int) (n1 : -9223372036854775808 ≤ n) (n2 : n ≤ 9223372036854775807) (d1 : -9223372036854775808 ≤ d) (d2 : d ≤ 9223372036854775807) (w : World) :
    Calls Tryd.prog 14 #[.int .i64 n, .int .i64 d] w (Res (MakeR n d) w) := by
  by_cases h : d = 0
  · subst h
    exact (rMake_zero n w).mono fun _ _ ⟨V, D, E, r, a, b⟩ => ⟨V, D, E, .inl ⟨rfl, r⟩, a, b⟩
  · exact (rMake_any n d n1 n2 d1 d2 h w).mono fun _ _ ⟨V, D, E, r, a, b⟩ => ⟨V, D, E, .inr ⟨h, r⟩, a, b⟩

set_option maxRecDepth 100000 in
set_option maxHeartbeats 4000000 in
theorem walk (n d fn fd : Int) (n1 : -9223372036854775808 ≤ n) (n2 : n ≤ 9223372036854775807) (d1 : -9223372036854775808 ≤ d) (d2 : d ≤ 9223372036854775807) (f1 : -9223372036854775808 ≤ fn) (f2 : fn ≤ 9223372036854775807) (f3 : -9223372036854775808 ≤ fd) (f4 : fd ≤ 9223372036854775807) (w : World) :
    Calls Tryd.prog 3 #[.int .i64 n, .int .i64 d, .agg #[.int .i64 fn, .int .i64 fd]] w fun e w' => e = .returned (.bool true) ∧ Below w.heap.size w w' := by
  clear f3 f4
  go_enter Tryd.func3, Tryd.ntmps3
  go_wp2_with fail
  refine (make_all n d n1 n2 d1 d2 _).mono ?_
  rintro e w1 ⟨V, D, E, R, rfl, hq⟩
  unfold fracV
  have HR := Lib.hid R
  obtain ⟨v1, v2, cs⟩ := R.cases
  have f0 : w1.cell? ⟨w.heap.size, 0, none⟩ = some (.int .i64 fn) := (hq.cell (p := ⟨w.heap.size, 0, none⟩) (by simp)).trans (by simp [go_sem])
  have f1 : w1.cell? ⟨w.heap.size, 1, none⟩ = some (.int .i64 fd) := (hq.cell (p := ⟨w.heap.size, 1, none⟩) (by simp)).trans (by simp [go_sem])
  have zf : w.heap.size < w1.heap.size := World.block_lt_of_cell? w1 _ f0
  have hb : Below w.heap.size w w1 := ((Below.refl _ w).alloc (Nat.le_refl _) _).trans (hq.mono (by simp))
  have CS := Lib.hid cs
  clear hq R cs
  go_wp2_with fail
  refine (rmake_all n d n1 n2 d1 d2 _).mono ?_
  rintro e w2 ⟨V', D', E', R, rfl, hq⟩
  obtain ⟨rfl, rfl, rfl⟩ := HR.out.unique R
  unfold fracV
  have x0 : w2.cell? ⟨w1.heap.size, 0, none⟩ = some (.int .i64 V') := (hq.cell (p := ⟨w1.heap.size, 0, none⟩) (by simp)).trans (by simp [go_sem])
  have x1 : w2.cell? ⟨w1.heap.size, 1, none⟩ = some (.int .i64 D') := (hq.cell (p := ⟨w1.heap.size, 1, none⟩) (by simp)).trans (by simp [go_sem])
  replace hq : Below w1.heap.size w1 w2 := ((Below.refl _ w1).alloc (Nat.le_refl _) _).trans (hq.mono (by simp))
  replace f0 := (hq.cell (p := ⟨w.heap.size, 0, none⟩) zf).trans f0
  replace f1 := (hq.cell (p := ⟨w.heap.size, 1, none⟩) zf).trans f1
  replace zf := Nat.lt_of_lt_of_le zf hq.size
  replace hb := hb.trans (hq.mono hb.size)
  have zx : w1.heap.size < w2.heap.size := World.block_lt_of_cell? w2 _ x0
  clear hq R HR
  generalize w1.heap.size = gx at x0 x1 zx ⊢
  go_upto_region 3 with fail
  have AL : Below w2.heap.size w2 (w2.alloc (Obj.cells #[Value.int .i64 V', Value.int .i64 D'] 23)) := (Below.refl _ _).alloc (Nat.le_refl _) _
  have y0 : (w2.alloc (Obj.cells #[Value.int .i64 V', Value.int .i64 D'] 23)).cell? ⟨w2.heap.size, 0, none⟩ = some (.int .i64 V') := by simp [go_sem]
  have y1 : (w2.alloc (Obj.cells #[Value.int .i64 V', Value.int .i64 D'] 23)).cell? ⟨w2.heap.size, 1, none⟩ = some (.int .i64 D') := by simp [go_sem]
  have zy : w2.heap.size < (w2.alloc (Obj.cells #[Value.int .i64 V', Value.int .i64 D'] 23)).heap.size := by simp
  replace f0 := (AL.cell (p := ⟨w.heap.size, 0, none⟩) zf).trans f0
  replace f1 := (AL.cell (p := ⟨w.heap.size, 1, none⟩) zf).trans f1
  replace x0 := (AL.cell (p := ⟨gx, 0, none⟩) zx).trans x0
  replace x1 := (AL.cell (p := ⟨gx, 1, none⟩) zx).trans x1
  replace zf := Nat.lt_of_lt_of_le zf AL.size
  replace zx := Nat.lt_of_lt_of_le zx AL.size
  replace hb := hb.trans (AL.mono hb.size)
  clear AL
  generalize w2.alloc (Obj.cells #[Value.int .i64 V', Value.int .i64 D'] 23) = v at *
  generalize w2.heap.size = gy at *
  rcases CS.out with ⟨rfl, hv⟩ | ⟨rfl, hv⟩ | ⟨rfl, hv⟩
  all_goals clear CS
  all_goals
    go_region_held3 (fun w' => w'.cell? ⟨w.heap.size, 0, none⟩ = some (.int .i64 fn) ∧ w'.cell? ⟨w.heap.size, 1, none⟩ = some (.int .i64 fd) ∧ w'.cell? ⟨gx, 0, none⟩ = some (.int .i64 V') ∧ w'.cell? ⟨gx, 1, none⟩ = some (.int .i64 D') ∧ w'.cell? ⟨gy, 0, none⟩ = some (.int .i64 V') ∧ w'.cell? ⟨gy, 1, none⟩ = some (.int .i64 D'))
      (first | exact ⟨f0, f1, x0, x1, y0, y1⟩)
      (first
        | (go_at_call 15; refine (Valid_any _ _ (by omega) (by omega) _).mono ?_; rintro e wq ⟨rfl, hq⟩; replace f0 := (hq.cell (p := ⟨w.heap.size, 0, none⟩) zf).trans f0; replace f1 := (hq.cell (p := ⟨w.heap.size, 1, none⟩) zf).trans f1; replace zf := Nat.lt_of_lt_of_le zf hq.size; replace x0 := (hq.cell (p := ⟨gx, 0, none⟩) zx).trans x0; replace x1 := (hq.cell (p := ⟨gx, 1, none⟩) zx).trans x1; replace zx := Nat.lt_of_lt_of_le zx hq.size; replace y0 := (hq.cell (p := ⟨gy, 0, none⟩) zy).trans y0; replace y1 := (hq.cell (p := ⟨gy, 1, none⟩) zy).trans y1; replace zy := Nat.lt_of_lt_of_le zy hq.size; replace hb := (by first | exact hb.trans (hq.mono hb.size) | exact hb.drew.trans (hq.mono hb.size) | exact (below_drewN hb _).trans (hq.mono hb.size) : Below w.heap.size w _); clear hq)
        | (go_at_call 16; refine (rValid_any _ _ (by omega) (by omega) _).mono ?_; rintro e wq ⟨rfl, hq⟩; replace f0 := (hq.cell (p := ⟨w.heap.size, 0, none⟩) zf).trans f0; replace f1 := (hq.cell (p := ⟨w.heap.size, 1, none⟩) zf).trans f1; replace zf := Nat.lt_of_lt_of_le zf hq.size; replace x0 := (hq.cell (p := ⟨gx, 0, none⟩) zx).trans x0; replace x1 := (hq.cell (p := ⟨gx, 1, none⟩) zx).trans x1; replace zx := Nat.lt_of_lt_of_le zx hq.size; replace y0 := (hq.cell (p := ⟨gy, 0, none⟩) zy).trans y0; replace y1 := (hq.cell (p := ⟨gy, 1, none⟩) zy).trans y1; replace zy := Nat.lt_of_lt_of_le zy hq.size; replace hb := (by first | exact hb.trans (hq.mono hb.size) | exact hb.drew.trans (hq.mono hb.size) | exact (below_drewN hb _).trans (hq.mono hb.size) : Below w.heap.size w _); clear hq)
        | (go_at_call 17; refine (alive_any _).mono ?_; rintro e wq ⟨rfl, hq⟩; replace f0 := (hq.cell (p := ⟨w.heap.size, 0, none⟩) zf).trans f0; replace f1 := (hq.cell (p := ⟨w.heap.size, 1, none⟩) zf).trans f1; replace zf := Nat.lt_of_lt_of_le zf hq.size; replace x0 := (hq.cell (p := ⟨gx, 0, none⟩) zx).trans x0; replace x1 := (hq.cell (p := ⟨gx, 1, none⟩) zx).trans x1; replace zx := Nat.lt_of_lt_of_le zx hq.size; replace y0 := (hq.cell (p := ⟨gy, 0, none⟩) zy).trans y0; replace y1 := (hq.cell (p := ⟨gy, 1, none⟩) zy).trans y1; replace zy := Nat.lt_of_lt_of_le zy hq.size; replace hb := (by first | exact hb.trans (hq.mono hb.size) | exact hb.drew.trans (hq.mono hb.size) | exact (below_drewN hb _).trans (hq.mono hb.size) : Below w.heap.size w _); clear hq))
  all_goals go_wp2_with fail
  all_goals go_ret
  all_goals exact ⟨rfl, hb⟩
end Go.Proofs.YtbnbbekfackaiaaDoor.numMakes
