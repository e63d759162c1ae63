/- A row of numbers in place, while a sort goes through it; swapRange and rotate. -/
import Derived.Test.YtmdhmpfagekonaaB0
import Derived.Test.YtmdhmpfagekonaaST1
import Derived.BigRegion
import Derived.Deep.Cut
import Derived.Deep.CutRange
import Derived.Deep.RegionHeld3
namespace Go.Proofs.Ytmdhmpfagekonaa
open Go.RowKit Go.Proofs.Ytmdhmpfagekonaa.Stb
set_option linter.unusedVariables false
set_option linter.unusedSimpArgs false

theorem w64 {x : Int} {n : Nat} (h : x = (n : Int)) (hn : n ≤ 9223372036854775807) : IntKind.i64.wrap x = (n : Int) := by rw [h]; exact IntWalk.i64_in _ (by omega)
def upd (f : Nat → Int) (k : Nat) (v : Int) : Nat → Int := fun j => if j = k then v else f j
/-- The row at block B holds f; what was there else is as it was. -/
structure SW (B N C : Nat) (w0 w : World) (f : Nat → Int) : Prop where
  row : w.ownsRow 0 3 1 (.slice (some ⟨B, 0, none⟩) N C) N ((List.range N).map fun k => .int .i64 (f k))
  sz : w0.heap.size ≤ w.heap.size
  bl : ∀ k, k ≠ B → k < w0.heap.size → w.heap[k]? = w0.heap[k]?
  os : w.os = w0.os
  tp : w.tape = w0.tape
  ou : w.output = w0.output
section
variable {B N C : Nat} {w0 w : World} {f : Nat → Int}
theorem SW.cell (s : SW B N C w0 w f) {k : Nat} (h : k < N) : w.cell? ⟨B, k, none⟩ = some (.int .i64 (f k)) := by
  rw [s.row.cellAt k (by omega)]; simp [h]
theorem SW.frozen (s : SW B N C w0 w f) (k : Nat) : w.frozen? ⟨B, k, none⟩ = false := s.row.frozenAt k
theorem SW.drewN (s : SW B N C w0 w f) (n : Nat) : SW B N C w0 (w.drewN n) f := ⟨s.row, s.sz, s.bl, s.os, s.tp, s.ou⟩
theorem SW.drew (s : SW B N C w0 w f) : SW B N C w0 w.drew f := ⟨s.row, s.sz, s.bl, s.os, s.tp, s.ou⟩
theorem SW.set (s : SW B N C w0 w f) (k : Nat) (v : Int) : SW B N C w0 (w.setCell ⟨B, k, none⟩ (.int .i64 v)) (upd f k v) := by
  refine ⟨?_, by rw [World.size_setCell]; exact s.sz, fun j hj hl => by rw [Below.heap_setCell _ _ _ _ hj]; exact s.bl j hj hl, s.os, s.tp, s.ou⟩
  have := (s.row.stored k (.int .i64 v)).1
  have e : ((List.range N).map fun k => Value.int .i64 (f k)).set k (.int .i64 v) = (List.range N).map fun j => Value.int .i64 (upd f k v j) := by
    apply List.ext_getElem
    · simp
    · intro i h1 h2
      simp only [List.getElem_set, List.getElem_map, List.getElem_range, upd]
      by_cases c : k = i
      · subst c; simp
      · rw [if_neg c, if_neg (fun e => c e.symm)]
  rw [e] at this
  exact this
/-- A call that leaves alone what there is. -/
theorem SW.call {w' : World} (s : SW B N C w0 w f) (st : Below w.heap.size w w') : SW B N C w0 w' f := by
  refine ⟨⟨s.row.1, ?_⟩, Nat.le_trans s.sz st.size, fun k hk hl => (st.block k (Nat.lt_of_lt_of_le hl s.sz)).trans (s.bl k hk hl), st.os.trans s.os, st.tape.trans s.tp, st.output.trans s.ou⟩
  rcases s.row.2 with h0 | ⟨g, cap, cur, e, hb, hg, r⟩
  · exact .inl h0
  · exact .inr ⟨g, cap, cur, e, hb, (st.block g (Array.getElem?_eq_some_iff.1 hg).1).trans hg, r⟩
theorem upd_swp (f : Nat → Int) (x y : Nat) : upd (upd f x (f y)) y (f x) = swp x y f := by
  funext k; unfold upd swp
  by_cases a : k = y <;> by_cases b : k = x <;> simp [a, b]
  all_goals (intro e; rw [e])
theorem SW.swap (s : SW B N C w0 w f) (x y : Nat) : SW B N C w0 ((w.setCell ⟨B, x, none⟩ (.int .i64 (f y))).setCell ⟨B, y, none⟩ (.int .i64 (f x))) (swp x y f) := by
  rw [← upd_swp]; exact (s.set x (f y)).set y (f x)
end

set_option maxRecDepth 100000 in
theorem swapRange_any (B N C a b n : Nat) (f : Nat → Int) (w0 w : World) (s : SW B N C w0 w f) (hab : a + n ≤ b) (hbn : b + n ≤ N) (hN : N ≤ 4611686018427387904) (cf : Value) :
    Calls Try.prog 74 #[.slice (some ⟨B, 0, none⟩) N C, .int .i64 a, .int .i64 b, .int .i64 n, cf] w fun e w' => e = .returned (.tuple #[]) ∧ SW B N C w0 w' (swr a b n f) := by
  have S := Lib.hid s
  clear s
  go_enter Try.func74, Try.ntmps74
  go_wp2_with fail
  go_loopw [10] (fun kv wr => ∃ i : Nat, i ≤ n ∧ kv = .int .i64 i ∧ Hid (SW B N C w0 wr (swr a b i f))) (fun kv _ => n - (intOf kv).toNat)
  case atStart => exact ⟨0, Nat.zero_le _, rfl, by rw [swr_zero]; exact S⟩
  case round =>
    obtain ⟨i, hi, rfl, R⟩ := hrel
    by_cases t1 : i < n
    · obtain ⟨x, hx⟩ : ∃ x, x = a + i := ⟨_, rfl⟩
      obtain ⟨y, hy⟩ : ∃ y, y = b + i := ⟨_, rfl⟩
      have ex : IntKind.i64.wrap ((a : Int) + (i : Int)) = (x : Int) := w64 (by omega) (by omega)
      have ey : IntKind.i64.wrap ((b : Int) + (i : Int)) = (y : Int) := w64 (by omega) (by omega)
      have x0 : (0 : Int) ≤ (x : Int) := by omega
      have x1 : (x : Int) < (N : Int) := by omega
      have y0 : (0 : Int) ≤ (y : Int) := by omega
      have y1 : (y : Int) < (N : Int) := by omega
      have xy : ¬ x = y := by omega
      have yx : ¬ y = x := by omega
      have cx := R.out.cell (show x < N by omega)
      have cy := R.out.cell (show y < N by omega)
      have fx := R.out.frozen x
      have fy := R.out.frozen y
      have E := Lib.hid (fun W => (show SW B N C w0 W (swp x y (swr a b i f)) → SW B N C w0 W (swr a b (i + 1) f) from fun h => by rw [hx, hy, swr_succ _ (by omega)] at h; exact h))
      have SS := Lib.hid (R.out.swap x y)
      have HX := Lib.hid hx
      have HY := Lib.hid hy
      generalize swr a b i f x = p at *
      generalize swr a b i f y = q at *
      clear hx hy R S
      go_wp2_with fail
      go_region
      have R := Lib.hid (E.out _ SS.out.drew)
      clear cx cy fx fy SS E ex ey x0 x1 y0 y1 xy yx
      generalize ((wr.setCell ⟨B, x, none⟩ (.int .i64 q)).setCell ⟨B, y, none⟩ (.int .i64 p)).drew = v at R ⊢
      clear HX HY
      go_wp2_with fail
      go_roundw
      case rel => exact ⟨i + 1, by omega, by go_num, R⟩
      case measure => simp [intOf]; omega
    · obtain rfl : i = n := by omega
      go_wp2_with fail
      go_end0
      exact ⟨rfl, R.out⟩

set_option maxRecDepth 100000 in
set_option maxHeartbeats 4000000 in
theorem rotate_any (B N C a m b : Nat) (f : Nat → Int) (w0 w : World) (s : SW B N C w0 w f) (ham : a < m) (hmb : m < b) (hbn : b ≤ N) (hN : N ≤ 4611686018427387904) (cf : Value) :
    Calls Try.prog 71 #[.slice (some ⟨B, 0, none⟩) N C, .int .i64 a, .int .i64 m, .int .i64 b, cf] w fun e w' => e = .returned (.tuple #[]) ∧ SW B N C w0 w' (rot a m b f) := by
  have S := Lib.hid s
  clear s
  have e1 : IntKind.i64.wrap ((m : Int) - (a : Int)) = ((m - a : Nat) : Int) := w64 (by omega) (by omega)
  have e2 : IntKind.i64.wrap ((b : Int) - (m : Int)) = ((b - m : Nat) : Int) := w64 (by omega) (by omega)
  go_enter Try.func71, Try.ntmps71
  go_wp2_with fail
  go_loopw [10, 11] (fun iv jv wr => ∃ i j : Nat, ∃ g, 0 < i ∧ 0 < j ∧ i ≤ m - a ∧ j ≤ b - m ∧ iv = .int .i64 i ∧ jv = .int .i64 j ∧ Hid (SW B N C w0 wr g) ∧ Hid (rot (m - i) m (m + j) g = rot a m b f)) (fun iv jv _ => (intOf iv).toNat + (intOf jv).toNat)
  case atStart => exact ⟨m - a, b - m, f, by omega, by omega, Nat.le_refl _, Nat.le_refl _, rfl, rfl, S, Lib.hid (by rw [show m - (m - a) = a by omega, show m + (b - m) = b by omega])⟩
  case round =>
    obtain ⟨i, j, g, i0, j0, hi, hj, rfl, rfl, R, E⟩ := hrel
    clear S e1 e2
    obtain ⟨z, hz⟩ : ∃ z, z = m - i := ⟨_, rfl⟩
    have x1 : IntKind.i64.wrap ((m : Int) - (i : Int)) = (z : Int) := w64 (by omega) (by omega)
    rcases Nat.lt_trichotomy i j with h | h | h
    · obtain ⟨u, hu⟩ : ∃ u, u = m + j := ⟨_, rfl⟩
      obtain ⟨y, hy⟩ : ∃ y, y = m + j - i := ⟨_, rfl⟩
      obtain ⟨d, hd⟩ : ∃ d, d = j - i := ⟨_, rfl⟩
      have x2 : IntKind.i64.wrap ((m : Int) + (j : Int)) = (u : Int) := w64 (by omega) (by omega)
      have x3 : IntKind.i64.wrap ((u : Int) - (i : Int)) = (y : Int) := w64 (by omega) (by omega)
      have x4 : IntKind.i64.wrap ((j : Int) - (i : Int)) = (d : Int) := w64 (by omega) (by omega)
      have n1 : ¬ (i : Int) = (j : Int) := by omega
      have n2 : ¬ (j : Int) < (i : Int) := by omega
      have E2 := Lib.hid (show rot (m - i) m (m + (j - i)) (swr (m - i) (m + j - i) i g) = rot a m b f by rw [← E.out, show m + (j - i) = m + j - i by omega]; exact rot_less g (by omega) h)
      have CC := Lib.hid (swapRange_any B N C (m - i) (m + j - i) i g w0 wr R.out (by omega) (by omega) hN cf)
      have FF := Lib.hid (show 0 < i ∧ 0 < d ∧ i ≤ m - a ∧ d ≤ b - m ∧ i + d < i + j from ⟨i0, by omega, hi, by omega, by omega⟩)
      rw [← hd] at E2
      rw [← hz, ← hy] at CC
      clear R E i0 j0 hi hj h hu hd
      rw [← hz, ← hy] at E2
      have HZ := Lib.hid hz
      generalize swr z y i g = g2 at *
      clear hz hy
      go_wp2_with fail
      refine CC.out.mono ?_
      rintro e v ⟨rfl, R⟩
      have R := Lib.hid R
      clear CC
      go_wp2_with fail
      go_roundw
      case rel => obtain ⟨f1, f2, f3, f4, f5⟩ := FF.out; exact ⟨i, d, g2, f1, f2, f3, f4, rfl, rfl, R, by rw [HZ.out] at E2; exact E2⟩
      case measure => have := FF.out; simp [intOf]; omega
    · subst h
      have CC := Lib.hid (swapRange_any B N C (m - i) m i g w0 wr R.out (by omega) (by omega) hN cf)
      rw [rot_same g (by omega), E.out, ← hz] at CC
      clear R E i0 j0 hi hj hz
      go_wp2_with fail
      refine CC.out.mono ?_
      rintro e v ⟨rfl, R⟩
      have R := Lib.hid R
      clear CC
      go_wp2_with fail
      go_end0
      exact ⟨rfl, R.out⟩
    · obtain ⟨d, hd⟩ : ∃ d, d = i - j := ⟨_, rfl⟩
      have x4 : IntKind.i64.wrap ((i : Int) - (j : Int)) = (d : Int) := w64 (by omega) (by omega)
      have n1 : ¬ (i : Int) = (j : Int) := by omega
      have n2 : (j : Int) < (i : Int) := by omega
      have E2 := Lib.hid (show rot (m - (i - j)) m (m + j) (swr (m - i) m j g) = rot a m b f by rw [← E.out, show m - (i - j) = m - i + j by omega]; exact rot_more g (by omega) h)
      have CC := Lib.hid (swapRange_any B N C (m - i) m j g w0 wr R.out (by omega) (by omega) hN cf)
      have FF := Lib.hid (show 0 < d ∧ 0 < j ∧ d ≤ m - a ∧ j ≤ b - m ∧ d + j < i + j from ⟨by omega, j0, by omega, hj, by omega⟩)
      rw [← hd, ← hz] at E2
      rw [← hz] at CC
      clear R E i0 j0 hi hj h hz hd
      generalize swr z m j g = g2 at *
      go_wp2_with fail
      refine CC.out.mono ?_
      rintro e v ⟨rfl, R⟩
      have R := Lib.hid R
      clear CC
      go_wp2_with fail
      go_roundw
      case rel => obtain ⟨f1, f2, f3, f4, f5⟩ := FF.out; exact ⟨d, j, g2, f1, f2, f3, f4, rfl, rfl, R, E2⟩
      case measure => have := FF.out; simp [intOf]; omega
end Go.Proofs.Ytmdhmpfagekonaa
