/- Flow: add. -/
import Derived.Test.YtbcfafihkdddeaaFNA
import Derived.Test.YtbcfafihkdddeaaI2
namespace Go.Proofs.Ytbcfafihkdddeaa
open Go.RowKit
set_option linter.unusedVariables false
set_option linter.unusedSimpArgs false

theorem cell_al {W : World} {a : Addr} {x : Value} (o : Obj) (h : W.cell? a = some x) : (W.alloc o).cell? a = some x := by
  rw [((Below.refl _ W).alloc (Nat.le_refl _) o).cell (World.block_lt_of_cell? W _ h)]; exact h
theorem own_form {w : World} {base : Nat} {e : TypeId} {s : Nat} {v : Value} {n : Nat} {xs : List Value} (h : w.ownsRow base e s v n xs) : ∃ p c, v = .slice p n c := by
  rcases h.2 with ⟨rfl, rfl⟩ | ⟨g, cap, cur, rfl, _⟩
  · exact ⟨none, 0, rfl⟩
  · exact ⟨some ⟨g, 0, none⟩, cap, rfl⟩
theorem cell_st {W : World} {b g k o : Nat} {v x : Value} (ne : b ≠ g) (h : W.cell? ⟨g, o, none⟩ = some x) : (W.setCell ⟨b, k, none⟩ v).cell? ⟨g, o, none⟩ = some x := (World.cell?_of_block (Below.heap_setCell _ _ _ _ (by dsimp only; exact Ne.symm ne))).trans h
/-- The edges of an arc. -/
def two (s t : Nat) (cap cost y : Int) : List Ed := [⟨(s, t, cost), cap - y⟩, ⟨(t, s, -cost), y⟩]

set_option maxRecDepth 100000 in
set_option maxHeartbeats 16000000 in
theorem add_any {base b rl rp n K : Nat} {ve : Value} {E : List Ed} {lv : Nat → Value} {P : Nat → Int} (w0 w : World) (hN : NW base b rl rp n K ve E lv P w) (hB : Below base w0 w) (bs : base ≤ w.heap.size) (s t : Nat) (hs : s < n) (ht : t < n) (st : s ≠ t) (n64 : n ≤ 64) (cap cost y : Int) (by0 : 0 ≤ y ∧ y ≤ cap) (bc : cap ≤ 1099511627776) (bco : -32768 ≤ cost ∧ cost ≤ 32768) (eL : E.length ≤ 1000) (kK : K ≤ 1000) :
    Calls Try.prog 145 #[.pointer (some ⟨b, 0, none⟩), .agg #[.int .i64 (s : Int), .int .i64 (t : Int), .int .i64 cap, .int .i64 cost], .int .i64 y] w fun e w' => e = .returned (.tuple #[]) ∧ ∃ ve' lv', NW base b rl rp n (K + 2) ve' (E ++ two s t cap cost y) lv' P w' ∧ Below base w0 w' ∧ base ≤ w'.heap.size := by
  obtain ⟨i0, hi, hz0, hz1, hz2⟩ := info_parts intInfo
  obtain ⟨j0, hj, hy0, hy1, hy2⟩ := info_parts edgeInfo
  have wC : IntKind.i64.wrap (cap - y) = cap - y := hwI (by omega) (by omega)
  have wN : IntKind.i64.wrap (-cost) = -cost := hwI (by omega) (by omega)
  have e1 : (0 : Int) ≤ (s : Int) := by omega
  have e2 : (s : Int) < (n : Int) := by omega
  have e3 : (0 : Int) ≤ (t : Int) := by omega
  have e4 : (t : Int) < (n : Int) := by omega
  have PT := Lib.hid (AB.new w (s : Int) (t : Int) cap cost)
  have P2 := Lib.hid (show Below w.heap.size w (w.alloc (Obj.cells #[Value.int .i64 (s : Int), Value.int .i64 (t : Int), Value.int .i64 cap, Value.int .i64 cost] 127)) from (Below.refl _ w).alloc (Nat.le_refl _) _)
  have AW := Lib.hid (show Aw w.heap.size b rl n ve lv from ⟨by have := hN.lt.1; omega, by have := hN.lt.2.1; omega, fun e => by have := (hN.elt e).2; omega, fun i hi e => by have := (hN.llt hi e).2; omega⟩)
  go_enter Try.func145, Try.ntmps145
  go_upto_region 1 with fail
  generalize w.alloc (Obj.cells #[Value.int .i64 (s : Int), Value.int .i64 (t : Int), Value.int .i64 cap, Value.int .i64 cost] 127) = wa at *
  have HN := Lib.hid (hN.below P2.out)
  have HB := Lib.hid (hB.trans (P2.out.mono bs))
  have BS := Lib.hid (Nat.le_trans bs P2.out.size)
  clear P2 hN hB bs by0 bc bco
  generalize w.heap.size = g at *
  obtain ⟨p, c, rfl⟩ := own_form HN.out.eg
  obtain ⟨c0, -, -, -⟩ := HN.out.cells
  go_upto_region 2 with fail
  have E2 := Lib.hid (show rowE (two s t cap cost y) = [.int .i64 (s : Int), .int .i64 (t : Int), .int .i64 (cap - y), .int .i64 cost, .int .i64 (t : Int), .int .i64 (s : Int), .int .i64 y, .int .i64 (-cost)] from rfl)
  go_cut [] from 12 to 40 (fun wx => ∃ ve' lv', Hid (NW base b rl rp n K ve' (E ++ two s t cap cost y) lv' P wx) ∧ Hid (Below base w0 wx) ∧ Hid (AB g (s : Int) (t : Int) cap cost wx) ∧ Hid (Aw g b rl n ve' lv') ∧ Hid (base ≤ wx.heap.size))
  case first =>
    obtain ⟨-, b0, b1, b2, b3⟩ := PT.out
    have STEP := Lib.hid (show ∀ (obj : Obj) (hh cap' : Nat) (w1 : World), w1.ownsRow base 143 4 (.slice (some ⟨hh, 0, none⟩) (E.length + 2) cap') (E.length + 2) (rowE E ++ [.int .i64 (s : Int), .int .i64 (t : Int), .int .i64 (cap - y), .int .i64 cost, .int .i64 (t : Int), .int .i64 (s : Int), .int .i64 y, .int .i64 (-cost)]) → (wa.drew.alloc obj).grownBy w1 (Value.slice p E.length c).ownBlock → ((Value.slice p E.length c).ownBlock = some hh ∨ hh = wa.heap.size + 1) → (NW base b rl rp n K (.slice (some ⟨hh, 0, none⟩) (E.length + 2) cap') (E ++ two s t cap cost y) lv P (w1.setCell ⟨b, 0, none⟩ (.slice (some ⟨hh, 0, none⟩) (E.length + 2) cap')) ∧ Below base w0 (w1.setCell ⟨b, 0, none⟩ (.slice (some ⟨hh, 0, none⟩) (E.length + 2) cap')) ∧ AB g (s : Int) (t : Int) cap cost (w1.setCell ⟨b, 0, none⟩ (.slice (some ⟨hh, 0, none⟩) (E.length + 2) cap')) ∧ Aw g b rl n (.slice (some ⟨hh, 0, none⟩) (E.length + 2) cap') lv ∧ base ≤ (w1.setCell ⟨b, 0, none⟩ (.slice (some ⟨hh, 0, none⟩) (E.length + 2) cap')).heap.size) ∧ w1.cell? ⟨b, 0, none⟩ = some (.slice p E.length c) ∧ w1.frozen? ⟨b, 0, none⟩ = false ∧ w1.cell? ⟨g, 0, none⟩ = some (.int .i64 (s : Int)) ∧ w1.cell? ⟨g, 1, none⟩ = some (.int .i64 (t : Int)) ∧ w1.cell? ⟨g, 2, none⟩ = some (.int .i64 cap) ∧ w1.cell? ⟨g, 3, none⟩ = some (.int .i64 cost) from fun obj hh cap' w1 ho hg hl => by
      rw [← E2.out] at ho
      have HD := HN.out.below ((Below.refl _ wa).drew)
      obtain ⟨N1, cb, fb⟩ := NW.edge (hh := hh) (cap := cap') HD ho rfl hg hl
      obtain ⟨B1, A1, W1, S1, P1⟩ := NW.edge_more (len := E.length + 2) (cap := cap') HD hg hl HB.out.drew BS.out (PT.out.below ((Below.refl _ wa).drew)) AW.out
      exact ⟨⟨N1, B1, A1, W1, S1⟩, cb, fb, P1.c0, P1.c1, P1.c2, P1.c3⟩)
    have OW := Lib.hid (own_belowF HN.out.eg ((Below.refl _ wa).drew))
    have BS2 := Lib.hid (show ∀ o : Obj, base ≤ (wa.drew.alloc o).heap.size from fun o => by have := BS.out; simp; omega)
    have LB := Lib.hid HN.out.lt.1
    have GB := Lib.hid (show b ≠ g from Ne.symm AW.out.1)
    clear HN HB PT AW BS
    have lb : b < wa.heap.size := LB.out
    have c0A : ∀ o : Obj, (wa.drew.alloc o).cell? ⟨b, 0, none⟩ = some (.slice p E.length c) := fun o => cell_al o (cellDr c0)
    refine wp_region_G (fun w' => w'.cell? ⟨b, 0, none⟩ = some (.slice p E.length c) ∧ w'.cell? ⟨g, 0, none⟩ = some (.int .i64 (s : Int)) ∧ w'.cell? ⟨g, 1, none⟩ = some (.int .i64 (t : Int)) ∧ w'.cell? ⟨g, 2, none⟩ = some (.int .i64 cap) ∧ w'.cell? ⟨g, 3, none⟩ = some (.int .i64 cost)) 27 (by kernel_rfl) ?_
    have hS : wa.drew.cell? ⟨b, 0, none⟩ = some (.slice p E.length c) ∧ wa.drew.cell? ⟨g, 0, none⟩ = some (.int .i64 (s : Int)) ∧ wa.drew.cell? ⟨g, 1, none⟩ = some (.int .i64 (t : Int)) ∧ wa.drew.cell? ⟨g, 2, none⟩ = some (.int .i64 cap) ∧ wa.drew.cell? ⟨g, 3, none⟩ = some (.int .i64 cost) := ⟨cellDr c0, cellDr b0, cellDr b1, cellDr b2, cellDr b3⟩
    refine wpAnyG_take (i := 0) (oi := _) (v := .pointer (some ⟨b, 0, none⟩)) rfl (by kernel_rfl) (by kernel_rfl) (by kernel_rfl) (by kernel_rfl) (by kernel_rfl) (by decide) (fun _ _ _ h => h) (by rfl) (fun w' hw' => ?_) hS ?_
    · obtain ⟨h1, h2, h3, h4, h5⟩ := hw'
      go_simp
    try simp only [Act.put, List.setIfInBounds_toArray, List.set_cons_zero, List.set_cons_succ]
    refine wpAnyG_take (i := 1) (oi := _) (v := .pointer (some ⟨b, 0, none⟩)) rfl (by kernel_rfl) (by kernel_rfl) (by kernel_rfl) (by kernel_rfl) (by kernel_rfl) (by decide) (fun _ _ _ h => h) (by rfl) (fun w' hw' => ?_) hS ?_
    · obtain ⟨h1, h2, h3, h4, h5⟩ := hw'
      go_simp
    try simp only [Act.put, List.setIfInBounds_toArray, List.set_cons_zero, List.set_cons_succ]
    refine wpAnyG_take (i := 2) (oi := _) (v := .pointer (some ⟨b, 0, none⟩)) rfl (by kernel_rfl) (by kernel_rfl) (by kernel_rfl) (by kernel_rfl) (by kernel_rfl) (by decide) (fun _ _ _ h => h) (by rfl) (fun w' hw' => ?_) hS ?_
    · obtain ⟨h1, h2, h3, h4, h5⟩ := hw'
      go_simp
    try simp only [Act.put, List.setIfInBounds_toArray, List.set_cons_zero, List.set_cons_succ]
    refine wpAnyG_take (i := 3) (oi := _) (v := .pointer (some ⟨b, 0, none⟩)) rfl (by kernel_rfl) (by kernel_rfl) (by kernel_rfl) (by kernel_rfl) (by kernel_rfl) (by decide) (fun _ _ _ h => h) (by rfl) (fun w' hw' => ?_) hS ?_
    · obtain ⟨h1, h2, h3, h4, h5⟩ := hw'
      go_simp
    try simp only [Act.put, List.setIfInBounds_toArray, List.set_cons_zero, List.set_cons_succ]
    refine wpAnyG_take (i := 4) (oi := _) (v := .slice p E.length c) rfl (by kernel_rfl) (by kernel_rfl) (by kernel_rfl) (by kernel_rfl) (by kernel_rfl) (by decide) (fun _ _ _ h => h) (by rfl) (fun w' hw' => ?_) hS ?_
    · obtain ⟨h1, h2, h3, h4, h5⟩ := hw'
      go_simp
    try simp only [Act.put, List.setIfInBounds_toArray, List.set_cons_zero, List.set_cons_succ]
    refine wpAnyG_take (i := 5) (oi := _) (v := .pointer (some ⟨g, 0, none⟩)) rfl (by kernel_rfl) (by kernel_rfl) (by kernel_rfl) (by kernel_rfl) (by kernel_rfl) (by decide) (fun _ _ _ h => h) (by rfl) (fun w' hw' => ?_) hS ?_
    · obtain ⟨h1, h2, h3, h4, h5⟩ := hw'
      go_simp
    try simp only [Act.put, List.setIfInBounds_toArray, List.set_cons_zero, List.set_cons_succ]
    refine wpAnyG_take (i := 6) (oi := _) (v := .int .i64 (s : Int)) rfl (by kernel_rfl) (by kernel_rfl) (by kernel_rfl) (by kernel_rfl) (by kernel_rfl) (by decide) (fun _ _ _ h => h) (by rfl) (fun w' hw' => ?_) hS ?_
    · obtain ⟨h1, h2, h3, h4, h5⟩ := hw'
      go_simp
    try simp only [Act.put, List.setIfInBounds_toArray, List.set_cons_zero, List.set_cons_succ]
    refine wpAnyG_take (i := 7) (oi := _) (v := .pointer (some ⟨g, 1, none⟩)) rfl (by kernel_rfl) (by kernel_rfl) (by kernel_rfl) (by kernel_rfl) (by kernel_rfl) (by decide) (fun _ _ _ h => h) (by rfl) (fun w' hw' => ?_) hS ?_
    · obtain ⟨h1, h2, h3, h4, h5⟩ := hw'
      go_simp
    try simp only [Act.put, List.setIfInBounds_toArray, List.set_cons_zero, List.set_cons_succ]
    refine wpAnyG_take (i := 8) (oi := _) (v := .int .i64 (t : Int)) rfl (by kernel_rfl) (by kernel_rfl) (by kernel_rfl) (by kernel_rfl) (by kernel_rfl) (by decide) (fun _ _ _ h => h) (by rfl) (fun w' hw' => ?_) hS ?_
    · obtain ⟨h1, h2, h3, h4, h5⟩ := hw'
      go_simp
    try simp only [Act.put, List.setIfInBounds_toArray, List.set_cons_zero, List.set_cons_succ]
    refine wpAnyG_take (i := 9) (oi := _) (v := .pointer (some ⟨g, 2, none⟩)) rfl (by kernel_rfl) (by kernel_rfl) (by kernel_rfl) (by kernel_rfl) (by kernel_rfl) (by decide) (fun _ _ _ h => h) (by rfl) (fun w' hw' => ?_) hS ?_
    · obtain ⟨h1, h2, h3, h4, h5⟩ := hw'
      go_simp
    try simp only [Act.put, List.setIfInBounds_toArray, List.set_cons_zero, List.set_cons_succ]
    refine wpAnyG_take (i := 10) (oi := _) (v := .int .i64 cap) rfl (by kernel_rfl) (by kernel_rfl) (by kernel_rfl) (by kernel_rfl) (by kernel_rfl) (by decide) (fun _ _ _ h => h) (by rfl) (fun w' hw' => ?_) hS ?_
    · obtain ⟨h1, h2, h3, h4, h5⟩ := hw'
      go_simp
    try simp only [Act.put, List.setIfInBounds_toArray, List.set_cons_zero, List.set_cons_succ]
    refine wpAnyG_take (i := 11) (oi := _) (v := .int .i64 y) rfl (by kernel_rfl) (by kernel_rfl) (by kernel_rfl) (by kernel_rfl) (by kernel_rfl) (by decide) (fun _ _ _ h => h) (by rfl) (fun w' hw' => ?_) hS ?_
    · obtain ⟨h1, h2, h3, h4, h5⟩ := hw'
      go_simp
    try simp only [Act.put, List.setIfInBounds_toArray, List.set_cons_zero, List.set_cons_succ]
    refine wpAnyG_take (i := 12) (oi := _) (v := .int .i64 (cap - y)) rfl (by kernel_rfl) (by kernel_rfl) (by kernel_rfl) (by kernel_rfl) (by kernel_rfl) (by decide) (fun _ _ _ h => h) (by rfl) (fun w' hw' => ?_) hS ?_
    · obtain ⟨h1, h2, h3, h4, h5⟩ := hw'
      go_simp
    try simp only [Act.put, List.setIfInBounds_toArray, List.set_cons_zero, List.set_cons_succ]
    refine wpAnyG_take (i := 13) (oi := _) (v := .pointer (some ⟨g, 3, none⟩)) rfl (by kernel_rfl) (by kernel_rfl) (by kernel_rfl) (by kernel_rfl) (by kernel_rfl) (by decide) (fun _ _ _ h => h) (by rfl) (fun w' hw' => ?_) hS ?_
    · obtain ⟨h1, h2, h3, h4, h5⟩ := hw'
      go_simp
    try simp only [Act.put, List.setIfInBounds_toArray, List.set_cons_zero, List.set_cons_succ]
    refine wpAnyG_take (i := 14) (oi := _) (v := .int .i64 cost) rfl (by kernel_rfl) (by kernel_rfl) (by kernel_rfl) (by kernel_rfl) (by kernel_rfl) (by decide) (fun _ _ _ h => h) (by rfl) (fun w' hw' => ?_) hS ?_
    · obtain ⟨h1, h2, h3, h4, h5⟩ := hw'
      go_simp
    try simp only [Act.put, List.setIfInBounds_toArray, List.set_cons_zero, List.set_cons_succ]
    refine wpAnyG_take (i := 15) (oi := _) (v := .agg #[.int .i64 (s : Int), .int .i64 (t : Int), .int .i64 (cap - y), .int .i64 cost]) rfl (by kernel_rfl) (by kernel_rfl) (by kernel_rfl) (by kernel_rfl) (by kernel_rfl) (by decide) (fun _ _ _ h => h) (by rfl) (fun w' hw' => ?_) hS ?_
    · obtain ⟨h1, h2, h3, h4, h5⟩ := hw'
      go_simp
    try simp only [Act.put, List.setIfInBounds_toArray, List.set_cons_zero, List.set_cons_succ]
    refine wpAnyG_take (i := 16) (oi := _) (v := .pointer (some ⟨g, 1, none⟩)) rfl (by kernel_rfl) (by kernel_rfl) (by kernel_rfl) (by kernel_rfl) (by kernel_rfl) (by decide) (fun _ _ _ h => h) (by rfl) (fun w' hw' => ?_) hS ?_
    · obtain ⟨h1, h2, h3, h4, h5⟩ := hw'
      go_simp
    try simp only [Act.put, List.setIfInBounds_toArray, List.set_cons_zero, List.set_cons_succ]
    refine wpAnyG_take (i := 17) (oi := _) (v := .int .i64 (t : Int)) rfl (by kernel_rfl) (by kernel_rfl) (by kernel_rfl) (by kernel_rfl) (by kernel_rfl) (by decide) (fun _ _ _ h => h) (by rfl) (fun w' hw' => ?_) hS ?_
    · obtain ⟨h1, h2, h3, h4, h5⟩ := hw'
      go_simp
    try simp only [Act.put, List.setIfInBounds_toArray, List.set_cons_zero, List.set_cons_succ]
    refine wpAnyG_take (i := 18) (oi := _) (v := .pointer (some ⟨g, 0, none⟩)) rfl (by kernel_rfl) (by kernel_rfl) (by kernel_rfl) (by kernel_rfl) (by kernel_rfl) (by decide) (fun _ _ _ h => h) (by rfl) (fun w' hw' => ?_) hS ?_
    · obtain ⟨h1, h2, h3, h4, h5⟩ := hw'
      go_simp
    try simp only [Act.put, List.setIfInBounds_toArray, List.set_cons_zero, List.set_cons_succ]
    refine wpAnyG_take (i := 19) (oi := _) (v := .int .i64 (s : Int)) rfl (by kernel_rfl) (by kernel_rfl) (by kernel_rfl) (by kernel_rfl) (by kernel_rfl) (by decide) (fun _ _ _ h => h) (by rfl) (fun w' hw' => ?_) hS ?_
    · obtain ⟨h1, h2, h3, h4, h5⟩ := hw'
      go_simp
    try simp only [Act.put, List.setIfInBounds_toArray, List.set_cons_zero, List.set_cons_succ]
    refine wpAnyG_take (i := 20) (oi := _) (v := .int .i64 y) rfl (by kernel_rfl) (by kernel_rfl) (by kernel_rfl) (by kernel_rfl) (by kernel_rfl) (by decide) (fun _ _ _ h => h) (by rfl) (fun w' hw' => ?_) hS ?_
    · obtain ⟨h1, h2, h3, h4, h5⟩ := hw'
      go_simp
    try simp only [Act.put, List.setIfInBounds_toArray, List.set_cons_zero, List.set_cons_succ]
    refine wpAnyG_take (i := 21) (oi := _) (v := .pointer (some ⟨g, 3, none⟩)) rfl (by kernel_rfl) (by kernel_rfl) (by kernel_rfl) (by kernel_rfl) (by kernel_rfl) (by decide) (fun _ _ _ h => h) (by rfl) (fun w' hw' => ?_) hS ?_
    · obtain ⟨h1, h2, h3, h4, h5⟩ := hw'
      go_simp
    try simp only [Act.put, List.setIfInBounds_toArray, List.set_cons_zero, List.set_cons_succ]
    refine wpAnyG_take (i := 22) (oi := _) (v := .int .i64 cost) rfl (by kernel_rfl) (by kernel_rfl) (by kernel_rfl) (by kernel_rfl) (by kernel_rfl) (by decide) (fun _ _ _ h => h) (by rfl) (fun w' hw' => ?_) hS ?_
    · obtain ⟨h1, h2, h3, h4, h5⟩ := hw'
      go_simp
    try simp only [Act.put, List.setIfInBounds_toArray, List.set_cons_zero, List.set_cons_succ]
    refine wpAnyG_take (i := 23) (oi := _) (v := .int .i64 (-cost)) rfl (by kernel_rfl) (by kernel_rfl) (by kernel_rfl) (by kernel_rfl) (by kernel_rfl) (by decide) (fun _ _ _ h => h) (by rfl) (fun w' hw' => ?_) hS ?_
    · obtain ⟨h1, h2, h3, h4, h5⟩ := hw'
      go_simp
    try simp only [Act.put, List.setIfInBounds_toArray, List.set_cons_zero, List.set_cons_succ]
    refine wpAnyG_take (i := 24) (oi := _) (v := .agg #[.int .i64 (t : Int), .int .i64 (s : Int), .int .i64 y, .int .i64 (-cost)]) rfl (by kernel_rfl) (by kernel_rfl) (by kernel_rfl) (by kernel_rfl) (by kernel_rfl) (by decide) (fun _ _ _ h => h) (by rfl) (fun w' hw' => ?_) hS ?_
    · obtain ⟨h1, h2, h3, h4, h5⟩ := hw'
      go_simp
    try simp only [Act.put, List.setIfInBounds_toArray, List.set_cons_zero, List.set_cons_succ]
    refine wpAnyG_one (i := 25) (o := _) (by kernel_rfl) rfl (fun KK hK => ?_)
    go_simp
    refine hK.out _ _ (fun _ => ⟨cell_al _ (cellDr c0), cell_al _ (cellDr b0), cell_al _ (cellDr b1), cell_al _ (cellDr b2), cell_al _ (cellDr b3)⟩) ?_
    try simp only [Act.put, List.setIfInBounds_toArray, List.set_cons_zero, List.set_cons_succ]
    clear hK
    refine wpAnyG_one (i := 26) (o := _) (by kernel_rfl) rfl (fun KK hK => ?_)
    refine step_append_lies _ (by rfl) _ _ _ (by rfl) base 143 j0 (.agg #[.int .i64 0, .int .i64 0, .int .i64 0, .int .i64 0]) 4 32 Try.underlying135 hj hy0 hy1 hy2 rfl (by omega) (.slice p E.length c) E.length (rowE E) (by rfl) (OW.out.alloc _) ⟨wa.heap.size, 0, none⟩ 2 2 [.int .i64 (s : Int), .int .i64 (t : Int), .int .i64 (cap - y), .int .i64 cost, .int .i64 (t : Int), .int .i64 (s : Int), .int .i64 y, .int .i64 (-cost)] (by rfl) (by rfl) (World.news_of_block (cs := #[.int .i64 (s : Int), .int .i64 (t : Int), .int .i64 (cap - y), .int .i64 cost, .int .i64 (t : Int), .int .i64 (s : Int), .int .i64 y, .int .i64 (-cost)]) (t := 143) (fr := (0, 0)) (heap_alloc_new _ _)) (by simp [Value.oneCell']) (by omega) (by unfold maxLen; omega) (by omega) (BS2.out _) (wa.heap.size + 1) (by simp) ?_
    intro hh cap' w1 hown1 hgrow hat hlt
    obtain ⟨N1, c0, f0, b0, b1, b2, b3⟩ := STEP.out _ hh cap' w1 hown1 hgrow hat
    have NN := Lib.hid N1
    clear hown1 hgrow hat hlt N1
    refine hK.out _ _ (fun _ => ⟨c0, b0, b1, b2, b3⟩) ?_
    try simp only [Act.put, List.setIfInBounds_toArray, List.set_cons_zero, List.set_cons_succ]
    clear hK
    refine wpAnyG_one (i := 27) (o := _) (by kernel_rfl) rfl (fun KK hK => ?_)
    go_simp
    refine hK.out _ _ (fun h => absurd h (by decide)) ?_
    try simp only [Act.put, List.setIfInBounds_toArray, List.set_cons_zero, List.set_cons_succ]
    clear hK
    refine wpAnyG_one (i := 28) (o := _) (by kernel_rfl) rfl (fun KK hK => ?_)
    go_simp
    refine hK.out _ _ (fun h => absurd h (by decide)) ?_
    try simp only [Act.put, List.setIfInBounds_toArray, List.set_cons_zero, List.set_cons_succ]
    clear hK
    refine wpAnyG_one (i := 29) (o := _) (by kernel_rfl) rfl (fun KK hK => ?_)
    go_simp
    refine hK.out _ _ (fun h => absurd h (by decide)) ?_
    try simp only [Act.put, List.setIfInBounds_toArray, List.set_cons_zero, List.set_cons_succ]
    clear hK
    refine wpAnyG_done (by kernel_rfl) ?_ _
    all_goals
      go_wp2_with fail
      go_meet
      obtain ⟨N1, B1, A1, W1, S1⟩ := NN.out
      exact ⟨_, _, (by first | exact Lib.hid N1 | exact Lib.hid (N1.below ((Below.refl _ _).drew)) | exact Lib.hid (N1.below (below_drewN (Below.refl _ _) _))), (by first | exact Lib.hid B1 | exact Lib.hid B1.drew | exact Lib.hid (below_drewN B1 _)), (by first | exact Lib.hid A1 | exact Lib.hid (A1.below ((Below.refl _ _).drew)) | exact Lib.hid (A1.below (below_drewN (Below.refl _ _) _))), Lib.hid W1, (by first | exact Lib.hid S1)⟩
  case rest =>
  obtain ⟨ve3, lv3, HN, HB, PT, AW, BS⟩ := hcut
  obtain ⟨k3, xs3, OWN3, kb3⟩ := HN.out.lo s hs
  obtain ⟨q3, cc3, hq3⟩ := own_form OWN3
  have HQ := Lib.hid hq3
  rw [hq3] at OWN3
  obtain ⟨-, c1, -, -⟩ := HN.out.cells
  obtain ⟨cl, -⟩ := HN.out.lcell hs
  rw [hq3] at cl
  go_upto_region 3 with fail
  go_cut [] from 41 to 58 (fun wx => ∃ ve' lv', Hid (NW base b rl rp n (K + 1) ve' (E ++ two s t cap cost y) lv' P wx) ∧ Hid (Below base w0 wx) ∧ Hid (AB g (s : Int) (t : Int) cap cost wx) ∧ Hid (Aw g b rl n ve' lv') ∧ Hid (base ≤ wx.heap.size))
  case first =>
    have bg := PT.out.c0
    have STEP := Lib.hid (show ∀ (obj : Obj) (hh cap' : Nat) (w1 : World), w1.ownsRow base 3 1 (.slice (some ⟨hh, 0, none⟩) (k3 + 1) cap') (k3 + 1) (xs3 ++ [.int .i64 ((E.length : Nat) : Int)]) → (wc.drew.alloc obj).grownBy w1 (Value.slice q3 k3 cc3).ownBlock → ((Value.slice q3 k3 cc3).ownBlock = some hh ∨ hh = wc.heap.size + 1) → (∃ lv', NW base b rl rp n (K + 1) ve3 (E ++ two s t cap cost y) lv' P (w1.setCell ⟨rl, s, none⟩ (.slice (some ⟨hh, 0, none⟩) (k3 + 1) cap')) ∧ Below base w0 (w1.setCell ⟨rl, s, none⟩ (.slice (some ⟨hh, 0, none⟩) (k3 + 1) cap')) ∧ AB g (s : Int) (t : Int) cap cost (w1.setCell ⟨rl, s, none⟩ (.slice (some ⟨hh, 0, none⟩) (k3 + 1) cap')) ∧ Aw g b rl n ve3 lv' ∧ base ≤ (w1.setCell ⟨rl, s, none⟩ (.slice (some ⟨hh, 0, none⟩) (k3 + 1) cap')).heap.size) ∧ w1.cell? ⟨rl, s, none⟩ = some (.slice q3 k3 cc3) ∧ w1.frozen? ⟨rl, s, none⟩ = false ∧ w1.cell? ⟨b, 1, none⟩ = some (.slice (some ⟨rl, 0, none⟩) n n) ∧ w1.cell? ⟨g, 0, none⟩ = some (.int .i64 (s : Int)) from fun obj hh cap' w1 ho hg hl => by
      have HD := HN.out.below ((Below.refl _ wc).drew)
      rw [← HQ.out] at hg hl
      obtain ⟨N1, cb, fb⟩ := NW.leave (hh := hh) (cap := cap') HD hs kb3 ho hg hl
      obtain ⟨B1, A1, W1, S1, P1, hbb⟩ := NW.leave_more (k := k3 + 1) (cap := cap') HD hs hg hl HB.out.drew BS.out (PT.out.below ((Below.refl _ wc).drew)) AW.out
      rw [HQ.out] at cb
      exact ⟨⟨_, N1, B1, A1, W1, S1⟩, cb, fb, (World.cell?_of_block hbb).trans c1, P1.c0⟩)
    have OW := Lib.hid (own_belowF OWN3 ((Below.refl _ wc).drew))
    have BS2 := Lib.hid (show ∀ o : Obj, base ≤ (wc.drew.alloc o).heap.size from fun o => by have := BS.out; simp; omega)
    have LB := Lib.hid HN.out.lt.2.1
    have GB := Lib.hid (show rl ≠ g from Ne.symm AW.out.2.1)
    have GC := Lib.hid (show rl ≠ b from Ne.symm HN.out.ne.1)
    clear HN HB PT AW BS OWN3 HQ hq3
    have lb : rl < wc.heap.size := LB.out
    refine wp_region_G (fun w' => w'.cell? ⟨b, 1, none⟩ = some (.slice (some ⟨rl, 0, none⟩) n n) ∧ w'.cell? ⟨g, 0, none⟩ = some (.int .i64 (s : Int)) ∧ w'.cell? ⟨rl, s, none⟩ = some (.slice q3 k3 cc3)) 17 (by kernel_rfl) ?_
    have hS : wc.drew.cell? ⟨b, 1, none⟩ = some (.slice (some ⟨rl, 0, none⟩) n n) ∧ wc.drew.cell? ⟨g, 0, none⟩ = some (.int .i64 (s : Int)) ∧ wc.drew.cell? ⟨rl, s, none⟩ = some (.slice q3 k3 cc3) := ⟨cellDr c1, cellDr bg, cellDr cl⟩
    refine wpAnyG_take (i := 0) (oi := _) (v := .pointer (some ⟨b, 0, none⟩)) rfl (by kernel_rfl) (by kernel_rfl) (by kernel_rfl) (by kernel_rfl) (by kernel_rfl) (by decide) (fun _ _ _ h => h) (by rfl) (fun w' hw' => ?_) hS ?_
    · obtain ⟨h1, h2, h3⟩ := hw'
      go_simp
    try simp only [Act.put, List.setIfInBounds_toArray, List.set_cons_zero, List.set_cons_succ]
    refine wpAnyG_take (i := 1) (oi := _) (v := .pointer (some ⟨b, 0, none⟩)) rfl (by kernel_rfl) (by kernel_rfl) (by kernel_rfl) (by kernel_rfl) (by kernel_rfl) (by decide) (fun _ _ _ h => h) (by rfl) (fun w' hw' => ?_) hS ?_
    · obtain ⟨h1, h2, h3⟩ := hw'
      go_simp
    try simp only [Act.put, List.setIfInBounds_toArray, List.set_cons_zero, List.set_cons_succ]
    refine wpAnyG_take (i := 2) (oi := _) (v := .pointer (some ⟨b, 1, none⟩)) rfl (by kernel_rfl) (by kernel_rfl) (by kernel_rfl) (by kernel_rfl) (by kernel_rfl) (by decide) (fun _ _ _ h => h) (by rfl) (fun w' hw' => ?_) hS ?_
    · obtain ⟨h1, h2, h3⟩ := hw'
      go_simp
    try simp only [Act.put, List.setIfInBounds_toArray, List.set_cons_zero, List.set_cons_succ]
    refine wpAnyG_take (i := 3) (oi := _) (v := .slice (some ⟨rl, 0, none⟩) n n) rfl (by kernel_rfl) (by kernel_rfl) (by kernel_rfl) (by kernel_rfl) (by kernel_rfl) (by decide) (fun _ _ _ h => h) (by rfl) (fun w' hw' => ?_) hS ?_
    · obtain ⟨h1, h2, h3⟩ := hw'
      go_simp
    try simp only [Act.put, List.setIfInBounds_toArray, List.set_cons_zero, List.set_cons_succ]
    refine wpAnyG_take (i := 4) (oi := _) (v := .pointer (some ⟨g, 0, none⟩)) rfl (by kernel_rfl) (by kernel_rfl) (by kernel_rfl) (by kernel_rfl) (by kernel_rfl) (by decide) (fun _ _ _ h => h) (by rfl) (fun w' hw' => ?_) hS ?_
    · obtain ⟨h1, h2, h3⟩ := hw'
      go_simp
    try simp only [Act.put, List.setIfInBounds_toArray, List.set_cons_zero, List.set_cons_succ]
    refine wpAnyG_take (i := 5) (oi := _) (v := .int .i64 (s : Int)) rfl (by kernel_rfl) (by kernel_rfl) (by kernel_rfl) (by kernel_rfl) (by kernel_rfl) (by decide) (fun _ _ _ h => h) (by rfl) (fun w' hw' => ?_) hS ?_
    · obtain ⟨h1, h2, h3⟩ := hw'
      go_simp
    try simp only [Act.put, List.setIfInBounds_toArray, List.set_cons_zero, List.set_cons_succ]
    refine wpAnyG_take (i := 6) (oi := _) (v := .pointer (some ⟨b, 0, none⟩)) rfl (by kernel_rfl) (by kernel_rfl) (by kernel_rfl) (by kernel_rfl) (by kernel_rfl) (by decide) (fun _ _ _ h => h) (by rfl) (fun w' hw' => ?_) hS ?_
    · obtain ⟨h1, h2, h3⟩ := hw'
      go_simp
    try simp only [Act.put, List.setIfInBounds_toArray, List.set_cons_zero, List.set_cons_succ]
    refine wpAnyG_take (i := 7) (oi := _) (v := .pointer (some ⟨b, 0, none⟩)) rfl (by kernel_rfl) (by kernel_rfl) (by kernel_rfl) (by kernel_rfl) (by kernel_rfl) (by decide) (fun _ _ _ h => h) (by rfl) (fun w' hw' => ?_) hS ?_
    · obtain ⟨h1, h2, h3⟩ := hw'
      go_simp
    try simp only [Act.put, List.setIfInBounds_toArray, List.set_cons_zero, List.set_cons_succ]
    refine wpAnyG_take (i := 8) (oi := _) (v := .pointer (some ⟨b, 1, none⟩)) rfl (by kernel_rfl) (by kernel_rfl) (by kernel_rfl) (by kernel_rfl) (by kernel_rfl) (by decide) (fun _ _ _ h => h) (by rfl) (fun w' hw' => ?_) hS ?_
    · obtain ⟨h1, h2, h3⟩ := hw'
      go_simp
    try simp only [Act.put, List.setIfInBounds_toArray, List.set_cons_zero, List.set_cons_succ]
    refine wpAnyG_take (i := 9) (oi := _) (v := .slice (some ⟨rl, 0, none⟩) n n) rfl (by kernel_rfl) (by kernel_rfl) (by kernel_rfl) (by kernel_rfl) (by kernel_rfl) (by decide) (fun _ _ _ h => h) (by rfl) (fun w' hw' => ?_) hS ?_
    · obtain ⟨h1, h2, h3⟩ := hw'
      go_simp
    try simp only [Act.put, List.setIfInBounds_toArray, List.set_cons_zero, List.set_cons_succ]
    refine wpAnyG_take (i := 10) (oi := _) (v := .pointer (some ⟨g, 0, none⟩)) rfl (by kernel_rfl) (by kernel_rfl) (by kernel_rfl) (by kernel_rfl) (by kernel_rfl) (by decide) (fun _ _ _ h => h) (by rfl) (fun w' hw' => ?_) hS ?_
    · obtain ⟨h1, h2, h3⟩ := hw'
      go_simp
    try simp only [Act.put, List.setIfInBounds_toArray, List.set_cons_zero, List.set_cons_succ]
    refine wpAnyG_take (i := 11) (oi := _) (v := .int .i64 (s : Int)) rfl (by kernel_rfl) (by kernel_rfl) (by kernel_rfl) (by kernel_rfl) (by kernel_rfl) (by decide) (fun _ _ _ h => h) (by rfl) (fun w' hw' => ?_) hS ?_
    · obtain ⟨h1, h2, h3⟩ := hw'
      go_simp
    try simp only [Act.put, List.setIfInBounds_toArray, List.set_cons_zero, List.set_cons_succ]
    refine wpAnyG_take (i := 12) (oi := _) (v := .pointer (some ⟨rl, s, none⟩)) rfl (by kernel_rfl) (by kernel_rfl) (by kernel_rfl) (by kernel_rfl) (by kernel_rfl) (by decide) (fun _ _ _ h => h) (by rfl) (fun w' hw' => ?_) hS ?_
    · obtain ⟨h1, h2, h3⟩ := hw'
      go_simp
    try simp only [Act.put, List.setIfInBounds_toArray, List.set_cons_zero, List.set_cons_succ]
    refine wpAnyG_take (i := 13) (oi := _) (v := .slice q3 k3 cc3) rfl (by kernel_rfl) (by kernel_rfl) (by kernel_rfl) (by kernel_rfl) (by kernel_rfl) (by decide) (fun _ _ _ h => h) (by rfl) (fun w' hw' => ?_) hS ?_
    · obtain ⟨h1, h2, h3⟩ := hw'
      go_simp
    try simp only [Act.put, List.setIfInBounds_toArray, List.set_cons_zero, List.set_cons_succ]
    refine wpAnyG_take (i := 14) (oi := _) (v := .int .i64 ((E.length : Nat) : Int)) rfl (by kernel_rfl) (by kernel_rfl) (by kernel_rfl) (by kernel_rfl) (by kernel_rfl) (by decide) (fun _ _ _ h => h) (by rfl) (fun w' hw' => ?_) hS ?_
    · obtain ⟨h1, h2, h3⟩ := hw'
      go_simp
    try simp only [Act.put, List.setIfInBounds_toArray, List.set_cons_zero, List.set_cons_succ]
    refine wpAnyG_one (i := 15) (o := _) (by kernel_rfl) rfl (fun KK hK => ?_)
    go_simp
    refine hK.out _ _ (fun _ => ⟨cell_al _ (cellDr c1), cell_al _ (cellDr bg), cell_al _ (cellDr cl)⟩) ?_
    try simp only [Act.put, List.setIfInBounds_toArray, List.set_cons_zero, List.set_cons_succ]
    clear hK
    refine wpAnyG_one (i := 16) (o := _) (by kernel_rfl) rfl (fun KK hK => ?_)
    refine step_append_lies _ (by rfl) _ _ _ (by rfl) base 3 i0 (.int .i64 0) 1 8 Try.underlying40 hi hz0 hz1 hz2 rfl (by omega) (.slice q3 k3 cc3) k3 xs3 (by rfl) (OW.out.alloc _) ⟨wc.heap.size, 0, none⟩ 1 1 [.int .i64 ((E.length : Nat) : Int)] (by rfl) (by rfl) (World.news_of_block (cs := #[.int .i64 ((E.length : Nat) : Int)]) (t := 3) (fr := (0, 0)) (heap_alloc_new _ _)) (by simp [Value.oneCell']) (by omega) (by unfold maxLen; omega) (by omega) (BS2.out _) (wc.heap.size + 1) (by simp) ?_
    intro hh cap' w1 hown1 hgrow hat hlt
    obtain ⟨N1, cl, f0, c1, bg⟩ := STEP.out _ hh cap' w1 hown1 hgrow hat
    have NN := Lib.hid N1
    clear hown1 hgrow hat hlt N1
    refine hK.out _ _ (fun _ => ⟨c1, bg, cl⟩) ?_
    try simp only [Act.put, List.setIfInBounds_toArray, List.set_cons_zero, List.set_cons_succ]
    clear hK
    refine wpAnyG_one (i := 17) (o := _) (by kernel_rfl) rfl (fun KK hK => ?_)
    go_simp
    refine hK.out _ _ (fun h => absurd h (by decide)) ?_
    try simp only [Act.put, List.setIfInBounds_toArray, List.set_cons_zero, List.set_cons_succ]
    clear hK
    refine wpAnyG_one (i := 18) (o := _) (by kernel_rfl) rfl (fun KK hK => ?_)
    go_simp
    refine hK.out _ _ (fun h => absurd h (by decide)) ?_
    try simp only [Act.put, List.setIfInBounds_toArray, List.set_cons_zero, List.set_cons_succ]
    clear hK
    refine wpAnyG_done (by kernel_rfl) ?_ _
    all_goals
      go_wp2_with fail
      go_meet
      obtain ⟨lv', N1, B1, A1, W1, S1⟩ := NN.out
      exact ⟨_, _, (by first | exact Lib.hid N1 | exact Lib.hid (N1.below ((Below.refl _ _).drew)) | exact Lib.hid (N1.below (below_drewN (Below.refl _ _) _))), (by first | exact Lib.hid B1 | exact Lib.hid B1.drew | exact Lib.hid (below_drewN B1 _)), (by first | exact Lib.hid A1 | exact Lib.hid (A1.below ((Below.refl _ _).drew)) | exact Lib.hid (A1.below (below_drewN (Below.refl _ _) _))), Lib.hid W1, (by first | exact Lib.hid S1)⟩
  case rest =>
  clear HN HB PT AW BS OWN3 HQ c1 cl hq3
  obtain ⟨ve4, lv4, HN, HB, PT, AW, BS⟩ := hcut
  obtain ⟨wd, hwd⟩ : ∃ w, w = wc := ⟨_, rfl⟩
  rw [← hwd] at HN HB PT BS ⊢
  clear hwd
  obtain ⟨k4, xs4, OWN4, kb4⟩ := HN.out.lo t ht
  obtain ⟨q4, cc4, hq4⟩ := own_form OWN4
  have HQ := Lib.hid hq4
  rw [hq4] at OWN4
  obtain ⟨-, c1, -, -⟩ := HN.out.cells
  obtain ⟨cl, -⟩ := HN.out.lcell ht
  rw [hq4] at cl
  go_upto_region 4 with fail
  have wE : IntKind.i64.wrap ((E.length : Int) + 1) = (E.length : Int) + 1 := hwI (by omega) (by omega)
  have bg := PT.out.c1
  have STEP := Lib.hid (show ∀ (obj : Obj) (hh cap' : Nat) (w1 : World), w1.ownsRow base 3 1 (.slice (some ⟨hh, 0, none⟩) (k4 + 1) cap') (k4 + 1) (xs4 ++ [.int .i64 (((E.length : Nat) : Int) + 1)]) → (wd.drew.alloc obj).grownBy w1 (Value.slice q4 k4 cc4).ownBlock → ((Value.slice q4 k4 cc4).ownBlock = some hh ∨ hh = wd.heap.size + 1) → (∃ lv', NW base b rl rp n ((K + 1) + 1) ve4 (E ++ two s t cap cost y) lv' P (w1.setCell ⟨rl, t, none⟩ (.slice (some ⟨hh, 0, none⟩) (k4 + 1) cap')) ∧ Below base w0 (w1.setCell ⟨rl, t, none⟩ (.slice (some ⟨hh, 0, none⟩) (k4 + 1) cap')) ∧ AB g (s : Int) (t : Int) cap cost (w1.setCell ⟨rl, t, none⟩ (.slice (some ⟨hh, 0, none⟩) (k4 + 1) cap')) ∧ Aw g b rl n ve4 lv' ∧ base ≤ (w1.setCell ⟨rl, t, none⟩ (.slice (some ⟨hh, 0, none⟩) (k4 + 1) cap')).heap.size) ∧ w1.cell? ⟨rl, t, none⟩ = some (.slice q4 k4 cc4) ∧ w1.frozen? ⟨rl, t, none⟩ = false ∧ w1.cell? ⟨b, 1, none⟩ = some (.slice (some ⟨rl, 0, none⟩) n n) ∧ w1.cell? ⟨g, 1, none⟩ = some (.int .i64 (t : Int)) from fun obj hh cap' w1 ho hg hl => by
    have HD := HN.out.below ((Below.refl _ wd).drew)
    rw [← HQ.out] at hg hl
    obtain ⟨N1, cb, fb⟩ := NW.leave (hh := hh) (cap := cap') HD ht kb4 ho hg hl
    obtain ⟨B1, A1, W1, S1, P1, hbb⟩ := NW.leave_more (k := k4 + 1) (cap := cap') HD ht hg hl HB.out.drew BS.out (PT.out.below ((Below.refl _ wd).drew)) AW.out
    rw [HQ.out] at cb
    exact ⟨⟨_, N1, B1, A1, W1, S1⟩, cb, fb, (World.cell?_of_block hbb).trans c1, P1.c1⟩)
  have OW := Lib.hid (own_belowF OWN4 ((Below.refl _ wd).drew))
  have BS2 := Lib.hid (show ∀ o : Obj, base ≤ (wd.drew.alloc o).heap.size from fun o => by have := BS.out; simp; omega)
  have LB := Lib.hid HN.out.lt.2.1
  have GB := Lib.hid (show rl ≠ g from Ne.symm AW.out.2.1)
  have GC := Lib.hid (show rl ≠ b from Ne.symm HN.out.ne.1)
  clear HN HB PT AW BS OWN4 HQ hq4
  have lb : rl < wd.heap.size := LB.out
  refine wp_region_G (fun w' => w'.cell? ⟨b, 1, none⟩ = some (.slice (some ⟨rl, 0, none⟩) n n) ∧ w'.cell? ⟨g, 1, none⟩ = some (.int .i64 (t : Int)) ∧ w'.cell? ⟨rl, t, none⟩ = some (.slice q4 k4 cc4)) 18 (by kernel_rfl) ?_
  have hS : wd.drew.cell? ⟨b, 1, none⟩ = some (.slice (some ⟨rl, 0, none⟩) n n) ∧ wd.drew.cell? ⟨g, 1, none⟩ = some (.int .i64 (t : Int)) ∧ wd.drew.cell? ⟨rl, t, none⟩ = some (.slice q4 k4 cc4) := ⟨cellDr c1, cellDr bg, cellDr cl⟩
  refine wpAnyG_take (i := 0) (oi := _) (v := .pointer (some ⟨b, 0, none⟩)) rfl (by kernel_rfl) (by kernel_rfl) (by kernel_rfl) (by kernel_rfl) (by kernel_rfl) (by decide) (fun _ _ _ h => h) (by rfl) (fun w' hw' => ?_) hS ?_
  · obtain ⟨h1, h2, h3⟩ := hw'
    go_simp
  try simp only [Act.put, List.setIfInBounds_toArray, List.set_cons_zero, List.set_cons_succ]
  refine wpAnyG_take (i := 1) (oi := _) (v := .pointer (some ⟨b, 0, none⟩)) rfl (by kernel_rfl) (by kernel_rfl) (by kernel_rfl) (by kernel_rfl) (by kernel_rfl) (by decide) (fun _ _ _ h => h) (by rfl) (fun w' hw' => ?_) hS ?_
  · obtain ⟨h1, h2, h3⟩ := hw'
    go_simp
  try simp only [Act.put, List.setIfInBounds_toArray, List.set_cons_zero, List.set_cons_succ]
  refine wpAnyG_take (i := 2) (oi := _) (v := .pointer (some ⟨b, 1, none⟩)) rfl (by kernel_rfl) (by kernel_rfl) (by kernel_rfl) (by kernel_rfl) (by kernel_rfl) (by decide) (fun _ _ _ h => h) (by rfl) (fun w' hw' => ?_) hS ?_
  · obtain ⟨h1, h2, h3⟩ := hw'
    go_simp
  try simp only [Act.put, List.setIfInBounds_toArray, List.set_cons_zero, List.set_cons_succ]
  refine wpAnyG_take (i := 3) (oi := _) (v := .slice (some ⟨rl, 0, none⟩) n n) rfl (by kernel_rfl) (by kernel_rfl) (by kernel_rfl) (by kernel_rfl) (by kernel_rfl) (by decide) (fun _ _ _ h => h) (by rfl) (fun w' hw' => ?_) hS ?_
  · obtain ⟨h1, h2, h3⟩ := hw'
    go_simp
  try simp only [Act.put, List.setIfInBounds_toArray, List.set_cons_zero, List.set_cons_succ]
  refine wpAnyG_take (i := 4) (oi := _) (v := .pointer (some ⟨g, 1, none⟩)) rfl (by kernel_rfl) (by kernel_rfl) (by kernel_rfl) (by kernel_rfl) (by kernel_rfl) (by decide) (fun _ _ _ h => h) (by rfl) (fun w' hw' => ?_) hS ?_
  · obtain ⟨h1, h2, h3⟩ := hw'
    go_simp
  try simp only [Act.put, List.setIfInBounds_toArray, List.set_cons_zero, List.set_cons_succ]
  refine wpAnyG_take (i := 5) (oi := _) (v := .int .i64 (t : Int)) rfl (by kernel_rfl) (by kernel_rfl) (by kernel_rfl) (by kernel_rfl) (by kernel_rfl) (by decide) (fun _ _ _ h => h) (by rfl) (fun w' hw' => ?_) hS ?_
  · obtain ⟨h1, h2, h3⟩ := hw'
    go_simp
  try simp only [Act.put, List.setIfInBounds_toArray, List.set_cons_zero, List.set_cons_succ]
  refine wpAnyG_take (i := 6) (oi := _) (v := .pointer (some ⟨b, 0, none⟩)) rfl (by kernel_rfl) (by kernel_rfl) (by kernel_rfl) (by kernel_rfl) (by kernel_rfl) (by decide) (fun _ _ _ h => h) (by rfl) (fun w' hw' => ?_) hS ?_
  · obtain ⟨h1, h2, h3⟩ := hw'
    go_simp
  try simp only [Act.put, List.setIfInBounds_toArray, List.set_cons_zero, List.set_cons_succ]
  refine wpAnyG_take (i := 7) (oi := _) (v := .pointer (some ⟨b, 0, none⟩)) rfl (by kernel_rfl) (by kernel_rfl) (by kernel_rfl) (by kernel_rfl) (by kernel_rfl) (by decide) (fun _ _ _ h => h) (by rfl) (fun w' hw' => ?_) hS ?_
  · obtain ⟨h1, h2, h3⟩ := hw'
    go_simp
  try simp only [Act.put, List.setIfInBounds_toArray, List.set_cons_zero, List.set_cons_succ]
  refine wpAnyG_take (i := 8) (oi := _) (v := .pointer (some ⟨b, 1, none⟩)) rfl (by kernel_rfl) (by kernel_rfl) (by kernel_rfl) (by kernel_rfl) (by kernel_rfl) (by decide) (fun _ _ _ h => h) (by rfl) (fun w' hw' => ?_) hS ?_
  · obtain ⟨h1, h2, h3⟩ := hw'
    go_simp
  try simp only [Act.put, List.setIfInBounds_toArray, List.set_cons_zero, List.set_cons_succ]
  refine wpAnyG_take (i := 9) (oi := _) (v := .slice (some ⟨rl, 0, none⟩) n n) rfl (by kernel_rfl) (by kernel_rfl) (by kernel_rfl) (by kernel_rfl) (by kernel_rfl) (by decide) (fun _ _ _ h => h) (by rfl) (fun w' hw' => ?_) hS ?_
  · obtain ⟨h1, h2, h3⟩ := hw'
    go_simp
  try simp only [Act.put, List.setIfInBounds_toArray, List.set_cons_zero, List.set_cons_succ]
  refine wpAnyG_take (i := 10) (oi := _) (v := .pointer (some ⟨g, 1, none⟩)) rfl (by kernel_rfl) (by kernel_rfl) (by kernel_rfl) (by kernel_rfl) (by kernel_rfl) (by decide) (fun _ _ _ h => h) (by rfl) (fun w' hw' => ?_) hS ?_
  · obtain ⟨h1, h2, h3⟩ := hw'
    go_simp
  try simp only [Act.put, List.setIfInBounds_toArray, List.set_cons_zero, List.set_cons_succ]
  refine wpAnyG_take (i := 11) (oi := _) (v := .int .i64 (t : Int)) rfl (by kernel_rfl) (by kernel_rfl) (by kernel_rfl) (by kernel_rfl) (by kernel_rfl) (by decide) (fun _ _ _ h => h) (by rfl) (fun w' hw' => ?_) hS ?_
  · obtain ⟨h1, h2, h3⟩ := hw'
    go_simp
  try simp only [Act.put, List.setIfInBounds_toArray, List.set_cons_zero, List.set_cons_succ]
  refine wpAnyG_take (i := 12) (oi := _) (v := .pointer (some ⟨rl, t, none⟩)) rfl (by kernel_rfl) (by kernel_rfl) (by kernel_rfl) (by kernel_rfl) (by kernel_rfl) (by decide) (fun _ _ _ h => h) (by rfl) (fun w' hw' => ?_) hS ?_
  · obtain ⟨h1, h2, h3⟩ := hw'
    go_simp
  try simp only [Act.put, List.setIfInBounds_toArray, List.set_cons_zero, List.set_cons_succ]
  refine wpAnyG_take (i := 13) (oi := _) (v := .slice q4 k4 cc4) rfl (by kernel_rfl) (by kernel_rfl) (by kernel_rfl) (by kernel_rfl) (by kernel_rfl) (by decide) (fun _ _ _ h => h) (by rfl) (fun w' hw' => ?_) hS ?_
  · obtain ⟨h1, h2, h3⟩ := hw'
    go_simp
  try simp only [Act.put, List.setIfInBounds_toArray, List.set_cons_zero, List.set_cons_succ]
  refine wpAnyG_take (i := 14) (oi := _) (v := .int .i64 ((E.length : Nat) : Int)) rfl (by kernel_rfl) (by kernel_rfl) (by kernel_rfl) (by kernel_rfl) (by kernel_rfl) (by decide) (fun _ _ _ h => h) (by rfl) (fun w' hw' => ?_) hS ?_
  · obtain ⟨h1, h2, h3⟩ := hw'
    go_simp
  try simp only [Act.put, List.setIfInBounds_toArray, List.set_cons_zero, List.set_cons_succ]
  refine wpAnyG_take (i := 15) (oi := _) (v := .int .i64 (((E.length : Nat) : Int) + 1)) rfl (by kernel_rfl) (by kernel_rfl) (by kernel_rfl) (by kernel_rfl) (by kernel_rfl) (by decide) (fun _ _ _ h => h) (by rfl) (fun w' hw' => ?_) hS ?_
  · obtain ⟨h1, h2, h3⟩ := hw'
    go_simp
  try simp only [Act.put, List.setIfInBounds_toArray, List.set_cons_zero, List.set_cons_succ]
  refine wpAnyG_one (i := 16) (o := _) (by kernel_rfl) rfl (fun KK hK => ?_)
  go_simp
  refine hK.out _ _ (fun _ => ⟨cell_al _ (cellDr c1), cell_al _ (cellDr bg), cell_al _ (cellDr cl)⟩) ?_
  try simp only [Act.put, List.setIfInBounds_toArray, List.set_cons_zero, List.set_cons_succ]
  clear hK
  refine wpAnyG_one (i := 17) (o := _) (by kernel_rfl) rfl (fun KK hK => ?_)
  refine step_append_lies _ (by rfl) _ _ _ (by rfl) base 3 i0 (.int .i64 0) 1 8 Try.underlying40 hi hz0 hz1 hz2 rfl (by omega) (.slice q4 k4 cc4) k4 xs4 (by rfl) (OW.out.alloc _) ⟨wd.heap.size, 0, none⟩ 1 1 [.int .i64 (((E.length : Nat) : Int) + 1)] (by rfl) (by rfl) (World.news_of_block (cs := #[.int .i64 (((E.length : Nat) : Int) + 1)]) (t := 3) (fr := (0, 0)) (heap_alloc_new _ _)) (by simp [Value.oneCell']) (by omega) (by unfold maxLen; omega) (by omega) (BS2.out _) (wd.heap.size + 1) (by simp) ?_
  intro hh cap' w1 hown1 hgrow hat hlt
  obtain ⟨N1, cl, f0, c1, bg⟩ := STEP.out _ hh cap' w1 hown1 hgrow hat
  have NN := Lib.hid N1
  clear hown1 hgrow hat hlt N1
  refine hK.out _ _ (fun _ => ⟨c1, bg, cl⟩) ?_
  try simp only [Act.put, List.setIfInBounds_toArray, List.set_cons_zero, List.set_cons_succ]
  clear hK
  refine wpAnyG_one (i := 18) (o := _) (by kernel_rfl) rfl (fun KK hK => ?_)
  go_simp
  refine hK.out _ _ (fun h => absurd h (by decide)) ?_
  try simp only [Act.put, List.setIfInBounds_toArray, List.set_cons_zero, List.set_cons_succ]
  clear hK
  refine wpAnyG_one (i := 19) (o := _) (by kernel_rfl) rfl (fun KK hK => ?_)
  go_simp
  refine hK.out _ _ (fun h => absurd h (by decide)) ?_
  try simp only [Act.put, List.setIfInBounds_toArray, List.set_cons_zero, List.set_cons_succ]
  clear hK
  refine wpAnyG_done (by kernel_rfl) ?_ _
  all_goals
    go_wp2_with fail
    go_end0
    obtain ⟨lv', N1, B1, A1, W1, S1⟩ := NN.out
    exact ⟨rfl, _, _, (by first | exact N1.more (by omega) | exact (N1.below ((Below.refl _ _).drew)).more (by omega) | exact (N1.below (below_drewN (Below.refl _ _) _)).more (by omega)), (by first | exact B1 | exact B1.drew | exact below_drewN B1 _), (by first | exact S1)⟩
end Go.Proofs.Ytbcfafihkdddeaa
