/- The law FlowSuits: its walk. -/
import Derived.Test.YtalgjpclccmknaaFL1
import Derived.Test.YtalgjpclccmknaaFLA
import Derived.Deep.Cut
import Derived.Deep.CutRange
import Derived.Deep.RegionHeld3
namespace Go.Proofs.Ytalgjpclccmknaa
open Go.RowKit
set_option linter.unusedVariables false
set_option linter.unusedSimpArgs false

/-- The two arguments in their boxes. -/
structure TwoBox (w v : World) (pb pp pm pg ps wb wp wl wh wg wo : Int) : Prop where
  a0 : v.cell? ⟨w.heap.size, 0, none⟩ = some (.int .i64 pb)
  a1 : v.cell? ⟨w.heap.size, 1, none⟩ = some (.int .i64 pp)
  a2 : v.cell? ⟨w.heap.size, 2, none⟩ = some (.int .i64 pm)
  a3 : v.cell? ⟨w.heap.size, 3, none⟩ = some (.int .i64 pg)
  a4 : v.cell? ⟨w.heap.size, 4, none⟩ = some (.int .i64 ps)
  b0 : v.cell? ⟨(w.heap.size + 1), 0, none⟩ = some (.int .i64 wb)
  b1 : v.cell? ⟨(w.heap.size + 1), 1, none⟩ = some (.int .i64 wp)
  b2 : v.cell? ⟨(w.heap.size + 1), 2, none⟩ = some (.int .i64 wl)
  b3 : v.cell? ⟨(w.heap.size + 1), 3, none⟩ = some (.int .i64 wh)
  b4 : v.cell? ⟨(w.heap.size + 1), 4, none⟩ = some (.int .i64 wg)
  b5 : v.cell? ⟨(w.heap.size + 1), 5, none⟩ = some (.int .i64 wo)
  zs : w.heap.size + 1 < v.heap.size
  kb : Below w.heap.size w v
theorem TwoBox.grow {w v v' : World} {pb pp pm pg ps wb wp wl wh wg wo : Int} (k : TwoBox w v pb pp pm pg ps wb wp wl wh wg wo) (h : Below v.heap.size v v') : TwoBox w v' pb pp pm pg ps wb wp wl wh wg wo where
    a0 := (h.cell (p := ⟨w.heap.size, 0, none⟩) (by have := k.zs; show w.heap.size < v.heap.size; omega)).trans k.a0
    a1 := (h.cell (p := ⟨w.heap.size, 1, none⟩) (by have := k.zs; show w.heap.size < v.heap.size; omega)).trans k.a1
    a2 := (h.cell (p := ⟨w.heap.size, 2, none⟩) (by have := k.zs; show w.heap.size < v.heap.size; omega)).trans k.a2
    a3 := (h.cell (p := ⟨w.heap.size, 3, none⟩) (by have := k.zs; show w.heap.size < v.heap.size; omega)).trans k.a3
    a4 := (h.cell (p := ⟨w.heap.size, 4, none⟩) (by have := k.zs; show w.heap.size < v.heap.size; omega)).trans k.a4
    b0 := (h.cell (p := ⟨(w.heap.size + 1), 0, none⟩) (by have := k.zs; show (w.heap.size + 1) < v.heap.size; omega)).trans k.b0
    b1 := (h.cell (p := ⟨(w.heap.size + 1), 1, none⟩) (by have := k.zs; show (w.heap.size + 1) < v.heap.size; omega)).trans k.b1
    b2 := (h.cell (p := ⟨(w.heap.size + 1), 2, none⟩) (by have := k.zs; show (w.heap.size + 1) < v.heap.size; omega)).trans k.b2
    b3 := (h.cell (p := ⟨(w.heap.size + 1), 3, none⟩) (by have := k.zs; show (w.heap.size + 1) < v.heap.size; omega)).trans k.b3
    b4 := (h.cell (p := ⟨(w.heap.size + 1), 4, none⟩) (by have := k.zs; show (w.heap.size + 1) < v.heap.size; omega)).trans k.b4
    b5 := (h.cell (p := ⟨(w.heap.size + 1), 5, none⟩) (by have := k.zs; show (w.heap.size + 1) < v.heap.size; omega)).trans k.b5
    zs := Nat.lt_of_lt_of_le k.zs h.size
    kb := k.kb.trans (h.mono k.kb.size)
theorem TwoBox.new (w : World) (pb pp pm pg ps wb wp wl wh wg wo : Int) : TwoBox w ((w.alloc (.cells #[.int .i64 pb, .int .i64 pp, .int .i64 pm, .int .i64 pg, .int .i64 ps] 45)).alloc (.cells #[.int .i64 wb, .int .i64 wp, .int .i64 wl, .int .i64 wh, .int .i64 wg, .int .i64 wo] 47)) pb pp pm pg ps wb wp wl wh wg wo where
    a0 := by simp [go_sem]
    a1 := by simp [go_sem]
    a2 := by simp [go_sem]
    a3 := by simp [go_sem]
    a4 := by simp [go_sem]
    b0 := by simp [go_sem]
    b1 := by simp [go_sem]
    b2 := by simp [go_sem]
    b3 := by simp [go_sem]
    b4 := by simp [go_sem]
    b5 := by simp [go_sem]
    zs := by simp
    kb := ((Below.refl _ w).alloc (Nat.le_refl _) _).alloc (by simp) _

set_option maxRecDepth 100000 in
set_option maxHeartbeats 4000000 in
theorem flowSuits_walk (pb pp pm pg ps wb wp wl wh wg wo : Int) (w : World) :
    Calls Try.prog 6 #[.agg #[.int .i64 pb, .int .i64 pp, .int .i64 pm, .int .i64 pg, .int .i64 ps], .agg #[.int .i64 wb, .int .i64 wp, .int .i64 wl, .int .i64 wh, .int .i64 wg, .int .i64 wo]] w fun e w' => e = .returned (.bool true) ∧ Below w.heap.size w w' := by
  have C1 := Lib.hid (fun W => suits_any pb pp pm pg ps wb wp wl wh wg wo W)
  have C2 := Lib.hid (fun W => rsuits_any pb pp pm pg ps wb wp wl wh wg wo W)
  have K0 := Lib.hid (TwoBox.new w pb pp pm pg ps wb wp wl wh wg wo)
  generalize suitB pp pm pg wp wl wh wg = S at C1 C2
  go_enter Try.func6, Try.ntmps6
  go_upto_region 1 with fail
  generalize ((w.alloc (Obj.cells #[Value.int .i64 pb, Value.int .i64 pp, Value.int .i64 pm, Value.int .i64 pg, Value.int .i64 ps] 45)).alloc (Obj.cells #[Value.int .i64 wb, Value.int .i64 wp, Value.int .i64 wl, Value.int .i64 wh, Value.int .i64 wg, Value.int .i64 wo] 47)) = v at *
  obtain ⟨a0, a1, a2, a3, a4, b0, b1, b2, b3, b4, b5, zs, kb⟩ := K0.out
  cases S
  all_goals
    go_region_held3 (fun w' => w'.cell? ⟨w.heap.size, 0, none⟩ = some (.int .i64 pb) ∧ w'.cell? ⟨w.heap.size, 1, none⟩ = some (.int .i64 pp) ∧ w'.cell? ⟨w.heap.size, 2, none⟩ = some (.int .i64 pm) ∧ w'.cell? ⟨w.heap.size, 3, none⟩ = some (.int .i64 pg) ∧ w'.cell? ⟨w.heap.size, 4, none⟩ = some (.int .i64 ps) ∧ w'.cell? ⟨(w.heap.size + 1), 0, none⟩ = some (.int .i64 wb) ∧ w'.cell? ⟨(w.heap.size + 1), 1, none⟩ = some (.int .i64 wp) ∧ w'.cell? ⟨(w.heap.size + 1), 2, none⟩ = some (.int .i64 wl) ∧ w'.cell? ⟨(w.heap.size + 1), 3, none⟩ = some (.int .i64 wh) ∧ w'.cell? ⟨(w.heap.size + 1), 4, none⟩ = some (.int .i64 wg) ∧ w'.cell? ⟨(w.heap.size + 1), 5, none⟩ = some (.int .i64 wo))
      (first | exact ⟨a0, a1, a2, a3, a4, b0, b1, b2, b3, b4, b5⟩)
      (first
        | (go_at_call 34; (with_reducible refine (C1.out _).mono ?_); rintro e v1 ⟨rfl, hq⟩; have st : Below v.heap.size v v1 := (by first | exact hq | exact ((Below.refl _ _).drew).trans hq | exact (below_drewN (Below.refl _ _) _).trans hq); have K1 := Lib.hid (K0.out.grow st); clear a0 a1 a2 a3 a4 b0 b1 b2 b3 b4 b5 zs kb hq st; obtain ⟨a0, a1, a2, a3, a4, b0, b1, b2, b3, b4, b5, zs, kb⟩ := K1.out)
        | (go_at_call 35; (with_reducible refine (C2.out _).mono ?_); rintro e v2 ⟨rfl, hq⟩; have st : Below v1.heap.size v1 v2 := (by first | exact hq | exact ((Below.refl _ _).drew).trans hq | exact (below_drewN (Below.refl _ _) _).trans hq); have K2 := Lib.hid (K1.out.grow st); clear a0 a1 a2 a3 a4 b0 b1 b2 b3 b4 b5 zs kb hq st; obtain ⟨a0, a1, a2, a3, a4, b0, b1, b2, b3, b4, b5, zs, kb⟩ := K2.out)
        | (go_at_call 16; (with_reducible refine (alive_any _).mono ?_); rintro e v3 ⟨rfl, hq⟩; have st : Below v2.heap.size v2 v3 := (by first | exact hq | exact ((Below.refl _ _).drew).trans hq | exact (below_drewN (Below.refl _ _) _).trans hq); have K3 := Lib.hid (K2.out.grow st); clear a0 a1 a2 a3 a4 b0 b1 b2 b3 b4 b5 zs kb hq st; obtain ⟨a0, a1, a2, a3, a4, b0, b1, b2, b3, b4, b5, zs, kb⟩ := K3.out))
  all_goals go_wp2_with fail
  all_goals go_ret
  all_goals exact ⟨rfl, by first | exact kb | exact kb.drew | exact below_drewN kb _⟩
end Go.Proofs.Ytalgjpclccmknaa
