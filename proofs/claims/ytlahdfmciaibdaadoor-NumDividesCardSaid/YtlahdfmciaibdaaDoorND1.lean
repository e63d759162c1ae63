/- Several texts in one: ST2 ST3 ST4. -/
import Derived.Test.YtlahdfmciaibdaaDoorB0
import Derived.Test.YtlahdfmciaibdaaDoorST1
import Derived.BigRegion
import Derived.Deep.Cut
import Derived.Deep.CutRange
import Derived.Deep.RegionHeld3

/- A row of numbers in place, while a sort goes through it; swapRange and rotate. -/
namespace Go.Proofs.YtlahdfmciaibdaaDoor
open Go.RowKit Go.Proofs.YtlahdfmciaibdaaDoor.Stb
set_option linter.unusedVariables false
set_option linter.unusedSimpArgs false

theorem w64 {x : Int} {n : Nat} (h : x = (n : Int)) (hn : n ≤ 9223372036854775807) : IntKind.i64.wrap x = (n : Int) := by rw [h]; exact IntWalk.i64_in _ (by omega)
def upd (f : Nat → Int) (k : Nat) (v : Int) : Nat → Int := fun j => if j = k then v else f j
/-- The row at block B holds f; what was there else is as it was. -/
structure SW (B N C : Nat) (w0 w : World) (f : Nat → Int) : Prop where
  row : w.ownsRow 0 3 1 (.slice (some ⟨B, 0, none⟩) N C) N ((List.range N).map fun k => .int .i64 (f k))
  sz : w0.heap.size ≤ w.heap.size
  bl : ∀ k, k ≠ B → k < w0.heap.size → w.heap[k]? = w0.heap[k]?
  os : w.os = w0.os
  tp : w.tape = w0.tape
  ou : w.output = w0.output
section
variable {B N C : Nat} {w0 w : World} {f : Nat → Int}
theorem SW.cell (s : SW B N C w0 w f) {k : Nat} (h : k < N) : w.cell? ⟨B, k, none⟩ = some (.int .i64 (f k)) := by
  rw [s.row.cellAt k (by omega)]; simp [h]
theorem SW.frozen (s : SW B N C w0 w f) (k : Nat) : w.frozen? ⟨B, k, none⟩ = false := s.row.frozenAt k
theorem SW.drewN (s : SW B N C w0 w f) (n : Nat) : SW B N C w0 (w.drewN n) f := ⟨s.row, s.sz, s.bl, s.os, s.tp, s.ou⟩
theorem SW.drew (s : SW B N C w0 w f) : SW B N C w0 w.drew f := ⟨s.row, s.sz, s.bl, s.os, s.tp, s.ou⟩
theorem SW.set (s : SW B N C w0 w f) (k : Nat) (v : Int) : SW B N C w0 (w.setCell ⟨B, k, none⟩ (.int .i64 v)) (upd f k v) := by
  refine ⟨?_, by rw [World.size_setCell]; exact s.sz, fun j hj hl => by rw [Below.heap_setCell _ _ _ _ hj]; exact s.bl j hj hl, s.os, s.tp, s.ou⟩
  have := (s.row.stored k (.int .i64 v)).1
  have e : ((List.range N).map fun k => Value.int .i64 (f k)).set k (.int .i64 v) = (List.range N).map fun j => Value.int .i64 (upd f k v j) := by
    apply List.ext_getElem
    · simp
    · intro i h1 h2
      simp only [List.getElem_set, List.getElem_map, List.getElem_range, upd]
      by_cases c : k = i
      · subst c; simp
      · rw [if_neg c, if_neg (fun e => c e.symm)]
  rw [e] at this
  exact this
/-- A call that leaves alone what there is. -/
theorem SW.call {w' : World} (s : SW B N C w0 w f) (st : Below w.heap.size w w') : SW B N C w0 w' f := by
  refine ⟨⟨s.row.1, ?_⟩, Nat.le_trans s.sz st.size, fun k hk hl => (st.block k (Nat.lt_of_lt_of_le hl s.sz)).trans (s.bl k hk hl), st.os.trans s.os, st.tape.trans s.tp, st.output.trans s.ou⟩
  rcases s.row.2 with h0 | ⟨g, cap, cur, e, hb, hg, r⟩
  · exact .inl h0
  · exact .inr ⟨g, cap, cur, e, hb, (st.block g (Array.getElem?_eq_some_iff.1 hg).1).trans hg, r⟩
theorem upd_swp (f : Nat → Int) (x y : Nat) : upd (upd f x (f y)) y (f x) = swp x y f := by
  funext k; unfold upd swp
  by_cases a : k = y <;> by_cases b : k = x <;> simp [a, b]
  all_goals (intro e; rw [e])
theorem SW.swap (s : SW B N C w0 w f) (x y : Nat) : SW B N C w0 ((w.setCell ⟨B, x, none⟩ (.int .i64 (f y))).setCell ⟨B, y, none⟩ (.int .i64 (f x))) (swp x y f) := by
  rw [← upd_swp]; exact (s.set x (f y)).set y (f x)
end

set_option maxRecDepth 100000 in
theorem swapRange_any (B N C a b n : Nat) (f : Nat → Int) (w0 w : World) (s : SW B N C w0 w f) (hab : a + n ≤ b) (hbn : b + n ≤ N) (hN : N ≤ 4611686018427387904) (cf : Value) :
    Calls Tryd.prog 122 #[.slice (some ⟨B, 0, none⟩) N C, .int .i64 a, .int .i64 b, .int .i64 n, cf] w fun e w' => e = .returned (.tuple #[]) ∧ SW B N C w0 w' (swr a b n f) := by
  have S := Lib.hid s
  clear s
  go_enter Tryd.func122, Tryd.ntmps122
  go_wp2_with fail
  go_loopw [10] (fun kv wr => ∃ i : Nat, i ≤ n ∧ kv = .int .i64 i ∧ Hid (SW B N C w0 wr (swr a b i f))) (fun kv _ => n - (intOf kv).toNat)
  case atStart => exact ⟨0, Nat.zero_le _, rfl, by rw [swr_zero]; exact S⟩
  case round =>
    obtain ⟨i, hi, rfl, R⟩ := hrel
    by_cases t1 : i < n
    · obtain ⟨x, hx⟩ : ∃ x, x = a + i := ⟨_, rfl⟩
      obtain ⟨y, hy⟩ : ∃ y, y = b + i := ⟨_, rfl⟩
      have ex : IntKind.i64.wrap ((a : Int) + (i : Int)) = (x : Int) := w64 (by omega) (by omega)
      have ey : IntKind.i64.wrap ((b : Int) + (i : Int)) = (y : Int) := w64 (by omega) (by omega)
      have x0 : (0 : Int) ≤ (x : Int) := by omega
      have x1 : (x : Int) < (N : Int) := by omega
      have y0 : (0 : Int) ≤ (y : Int) := by omega
      have y1 : (y : Int) < (N : Int) := by omega
      have xy : ¬ x = y := by omega
      have yx : ¬ y = x := by omega
      have cx := R.out.cell (show x < N by omega)
      have cy := R.out.cell (show y < N by omega)
      have fx := R.out.frozen x
      have fy := R.out.frozen y
      have E := Lib.hid (fun W => (show SW B N C w0 W (swp x y (swr a b i f)) → SW B N C w0 W (swr a b (i + 1) f) from fun h => by rw [hx, hy, swr_succ _ (by omega)] at h; exact h))
      have SS := Lib.hid (R.out.swap x y)
      have HX := Lib.hid hx
      have HY := Lib.hid hy
      generalize swr a b i f x = p at *
      generalize swr a b i f y = q at *
      clear hx hy R S
      go_wp2_with fail
      go_region
      have R := Lib.hid (E.out _ SS.out.drew)
      clear cx cy fx fy SS E ex ey x0 x1 y0 y1 xy yx
      generalize ((wr.setCell ⟨B, x, none⟩ (.int .i64 q)).setCell ⟨B, y, none⟩ (.int .i64 p)).drew = v at R ⊢
      clear HX HY
      go_wp2_with fail
      go_roundw
      case rel => exact ⟨i + 1, by omega, by go_num, R⟩
      case measure => simp [intOf]; omega
    · obtain rfl : i = n := by omega
      go_wp2_with fail
      go_end0
      exact ⟨rfl, R.out⟩

set_option maxRecDepth 100000 in
set_option maxHeartbeats 4000000 in
theorem rotate_any (B N C a m b : Nat) (f : Nat → Int) (w0 w : World) (s : SW B N C w0 w f) (ham : a < m) (hmb : m < b) (hbn : b ≤ N) (hN : N ≤ 4611686018427387904) (cf : Value) :
    Calls Tryd.prog 108 #[.slice (some ⟨B, 0, none⟩) N C, .int .i64 a, .int .i64 m, .int .i64 b, cf] w fun e w' => e = .returned (.tuple #[]) ∧ SW B N C w0 w' (rot a m b f) := by
  have S := Lib.hid s
  clear s
  have e1 : IntKind.i64.wrap ((m : Int) - (a : Int)) = ((m - a : Nat) : Int) := w64 (by omega) (by omega)
  have e2 : IntKind.i64.wrap ((b : Int) - (m : Int)) = ((b - m : Nat) : Int) := w64 (by omega) (by omega)
  go_enter Tryd.func108, Tryd.ntmps108
  go_wp2_with fail
  go_loopw [10, 11] (fun iv jv wr => ∃ i j : Nat, ∃ g, 0 < i ∧ 0 < j ∧ i ≤ m - a ∧ j ≤ b - m ∧ iv = .int .i64 i ∧ jv = .int .i64 j ∧ Hid (SW B N C w0 wr g) ∧ Hid (rot (m - i) m (m + j) g = rot a m b f)) (fun iv jv _ => (intOf iv).toNat + (intOf jv).toNat)
  case atStart => exact ⟨m - a, b - m, f, by omega, by omega, Nat.le_refl _, Nat.le_refl _, rfl, rfl, S, Lib.hid (by rw [show m - (m - a) = a by omega, show m + (b - m) = b by omega])⟩
  case round =>
    obtain ⟨i, j, g, i0, j0, hi, hj, rfl, rfl, R, E⟩ := hrel
    clear S e1 e2
    obtain ⟨z, hz⟩ : ∃ z, z = m - i := ⟨_, rfl⟩
    have x1 : IntKind.i64.wrap ((m : Int) - (i : Int)) = (z : Int) := w64 (by omega) (by omega)
    rcases Nat.lt_trichotomy i j with h | h | h
    · obtain ⟨u, hu⟩ : ∃ u, u = m + j := ⟨_, rfl⟩
      obtain ⟨y, hy⟩ : ∃ y, y = m + j - i := ⟨_, rfl⟩
      obtain ⟨d, hd⟩ : ∃ d, d = j - i := ⟨_, rfl⟩
      have x2 : IntKind.i64.wrap ((m : Int) + (j : Int)) = (u : Int) := w64 (by omega) (by omega)
      have x3 : IntKind.i64.wrap ((u : Int) - (i : Int)) = (y : Int) := w64 (by omega) (by omega)
      have x4 : IntKind.i64.wrap ((j : Int) - (i : Int)) = (d : Int) := w64 (by omega) (by omega)
      have n1 : ¬ (i : Int) = (j : Int) := by omega
      have n2 : ¬ (j : Int) < (i : Int) := by omega
      have E2 := Lib.hid (show rot (m - i) m (m + (j - i)) (swr (m - i) (m + j - i) i g) = rot a m b f by rw [← E.out, show m + (j - i) = m + j - i by omega]; exact rot_less g (by omega) h)
      have CC := Lib.hid (swapRange_any B N C (m - i) (m + j - i) i g w0 wr R.out (by omega) (by omega) hN cf)
      have FF := Lib.hid (show 0 < i ∧ 0 < d ∧ i ≤ m - a ∧ d ≤ b - m ∧ i + d < i + j from ⟨i0, by omega, hi, by omega, by omega⟩)
      rw [← hd] at E2
      rw [← hz, ← hy] at CC
      clear R E i0 j0 hi hj h hu hd
      rw [← hz, ← hy] at E2
      have HZ := Lib.hid hz
      generalize swr z y i g = g2 at *
      clear hz hy
      go_wp2_with fail
      refine CC.out.mono ?_
      rintro e v ⟨rfl, R⟩
      have R := Lib.hid R
      clear CC
      go_wp2_with fail
      go_roundw
      case rel => obtain ⟨f1, f2, f3, f4, f5⟩ := FF.out; exact ⟨i, d, g2, f1, f2, f3, f4, rfl, rfl, R, by rw [HZ.out] at E2; exact E2⟩
      case measure => have := FF.out; simp [intOf]; omega
    · subst h
      have CC := Lib.hid (swapRange_any B N C (m - i) m i g w0 wr R.out (by omega) (by omega) hN cf)
      rw [rot_same g (by omega), E.out, ← hz] at CC
      clear R E i0 j0 hi hj hz
      go_wp2_with fail
      refine CC.out.mono ?_
      rintro e v ⟨rfl, R⟩
      have R := Lib.hid R
      clear CC
      go_wp2_with fail
      go_end0
      exact ⟨rfl, R.out⟩
    · obtain ⟨d, hd⟩ : ∃ d, d = i - j := ⟨_, rfl⟩
      have x4 : IntKind.i64.wrap ((i : Int) - (j : Int)) = (d : Int) := w64 (by omega) (by omega)
      have n1 : ¬ (i : Int) = (j : Int) := by omega
      have n2 : (j : Int) < (i : Int) := by omega
      have E2 := Lib.hid (show rot (m - (i - j)) m (m + j) (swr (m - i) m j g) = rot a m b f by rw [← E.out, show m - (i - j) = m - i + j by omega]; exact rot_more g (by omega) h)
      have CC := Lib.hid (swapRange_any B N C (m - i) m j g w0 wr R.out (by omega) (by omega) hN cf)
      have FF := Lib.hid (show 0 < d ∧ 0 < j ∧ d ≤ m - a ∧ j ≤ b - m ∧ d + j < i + j from ⟨by omega, j0, by omega, hj, by omega⟩)
      rw [← hd, ← hz] at E2
      rw [← hz] at CC
      clear R E i0 j0 hi hj h hz hd
      generalize swr z m j g = g2 at *
      go_wp2_with fail
      refine CC.out.mono ?_
      rintro e v ⟨rfl, R⟩
      have R := Lib.hid R
      clear CC
      go_wp2_with fail
      go_roundw
      case rel => obtain ⟨f1, f2, f3, f4, f5⟩ := FF.out; exact ⟨d, j, g2, f1, f2, f3, f4, rfl, rfl, R, E2⟩
      case measure => have := FF.out; simp [intOf]; omega
end Go.Proofs.YtlahdfmciaibdaaDoor

/- The stable sort's insertion, over any comparison that only looks. -/
namespace Go.Proofs.YtlahdfmciaibdaaDoor
open Go.RowKit Go.Proofs.YtlahdfmciaibdaaDoor.Stb
set_option linter.unusedVariables false
set_option linter.unusedSimpArgs false

/-- A comparison: function K with what it has captured answers c; of two numbers, the younger first, less than 0 says R. -/
structure Cmp (K : Nat) (e0 : Value) (B : Nat) (V : Int → Prop) (R : Int → Int → Prop) (c : Int → Int → Int) (Kp : World → Prop) : Prop where
  call : ∀ x y w, Kp w → V x → V y → Calls Tryd.prog K #[.int .i64 x, .int .i64 y, e0] w fun e w' => e = .returned (.int .i64 (c x y)) ∧ Below w.heap.size w w'
  neg : ∀ x y, V x → V y → x < y → (c y x < 0 ↔ R y x)
  keep : ∀ w w', w.heap.size ≤ w'.heap.size → (∀ k, k ≠ B → k < w.heap.size → w'.heap[k]? = w.heap[k]?) → Kp w → Kp w'
  tot : Tot R V
  ent : ∀ args w, (callFunc K args).run Tryd.prog w = .ok (.enter K args) w
theorem SW.kp {B N C K : Nat} {e0 : Value} {V : Int → Prop} {R : Int → Int → Prop} {c : Int → Int → Int} {Kp : World → Prop} {w0 w : World} {f : Nat → Int} (H : Cmp K e0 B V R c Kp) (h0 : Kp w0) (s : SW B N C w0 w f) : Kp w := H.keep w0 w s.sz s.bl h0
theorem cellGr {A B : World} {a : Addr} {x : Value} (st : Below A.heap.size A B) (h : A.cell? a = some x) : B.cell? a = some x := (st.cell (World.block_lt_of_cell? A _ h)).trans h
theorem cellDr {W : World} {a : Addr} {x : Value} (h : W.cell? a = some x) : W.drew.cell? a = some x := h

/-- While number i goes down, from its place to j. -/
structure InsI (R : Int → Int → Prop) (a i j : Nat) (f h : Nat → Int) : Prop where
  aj : a ≤ j
  ji : j ≤ i
  ins : Ins R a i j h
  me : h j = i
  oth : ∀ p, a ≤ p → p ≤ i → p ≠ j → (a : Int) ≤ h p ∧ h p < i
  pm : Pm a (i + 1) f h
theorem InsI.begin {R : Int → Int → Prop} {a b i : Nat} {f g : Nat → Int} (hi : a ≤ i) (ib : i < b) (hf : ∀ k, a ≤ k → k < b → f k = k) (hs : Srt R a i g) (hp : Pm a i f g) : InsI R a i i f g :=
  ⟨hi, Nat.le_refl _, Ins.begin hs, by rw [hp.out (.inr (Nat.le_refl _)), hf i hi ib], fun p p1 p2 p3 => by
    obtain ⟨k, k1, k2, e⟩ := hp.src p1 (by omega)
    rw [e, hf k k1 (by omega)]; omega, hp.mono (Nat.le_refl _) (by omega)⟩
theorem InsI.step {R : Int → Int → Prop} {a i j : Nat} {f h : Nat → Int} (H : InsI R a i j f h) (aj : a < j) (hr : R (h j) (h (j - 1))) : InsI R a i (j - 1) f (swp j (j - 1) h) :=
  ⟨by omega, by have := H.ji; omega, H.ins.step aj H.ji hr, by unfold swp; rw [if_neg (by omega), if_pos rfl]; exact H.me, fun p p1 p2 p3 => by
    unfold swp
    by_cases c : p = j
    · rw [if_pos c]; exact H.oth (j - 1) (by omega) (by have := H.ji; omega) (by omega)
    · rw [if_neg c, if_neg p3]; exact H.oth p p1 p2 c, H.pm.trans (Pm.swp _ (by omega) (by have := H.ji; omega) (by omega) (by have := H.ji; omega))⟩
theorem InsI.val {R : Int → Int → Prop} {V : Int → Prop} {a b i j : Nat} {f h : Nat → Int} (H : InsI R a i j f h) (ib : i < b) (hv : ∀ k : Nat, a ≤ k → k < b → V k) (p : Nat) (p1 : a ≤ p) (p2 : p ≤ i) : V (h p) := by
  by_cases c : p = j
  · rw [c, H.me]; exact hv i (by omega) ib
  · have := H.oth p p1 p2 c
    obtain ⟨n, e⟩ := Int.eq_ofNat_of_zero_le (show 0 ≤ h p by omega)
    rw [e]; exact hv n (by omega) (by omega)
theorem InsI.done {R : Int → Int → Prop} {V : Int → Prop} (T : Tot R V) {a b i j : Nat} {f h : Nat → Int} (H : InsI R a i j f h) (ib : i < b) (hv : ∀ k : Nat, a ≤ k → k < b → V k) (hr : j = a ∨ ¬ R (h j) (h (j - 1))) : Srt R a (i + 1) h := by
  refine H.ins.done T H.aj H.ji (fun k k1 k2 => H.val ib hv k k1 k2) ?_
  rcases hr with hr | hr
  · exact .inl hr
  · by_cases c : j = a
    · exact .inl c
    · have a1 := H.aj
      have a2 := H.ji
      have := H.oth (j - 1) (by omega) (by omega) (by omega)
      have me := H.me
      exact .inr (T.tot _ _ (H.val ib hv j a1 a2) (H.val ib hv (j - 1) (by omega) (by omega)) (by omega) hr)

set_option maxRecDepth 100000 in
set_option maxHeartbeats 4000000 in
theorem insertion_any (B N C K : Nat) (e0 : Value) (V : Int → Prop) (R : Int → Int → Prop) (c : Int → Int → Int) (Kp : World → Prop) (H : Cmp K e0 B V R c Kp) (w0 : World) (h0 : Kp w0) (a b : Nat) (f : Nat → Int) (w : World)
    (s : SW B N C w0 w f) (hab : a ≤ b) (hbn : b ≤ N) (hN : N ≤ 4611686018427387904) (hf : ∀ k, a ≤ k → k < b → f k = k) (hv : ∀ k : Nat, a ≤ k → k < b → V k) :
    Calls Tryd.prog 89 #[.slice (some ⟨B, 0, none⟩) N C, .int .i64 a, .int .i64 b, .func (.func K) #[] #[e0]] w fun e w' => e = .returned (.tuple #[]) ∧ ∃ g, SW B N C w0 w' g ∧ Pm a b f g ∧ Srt R a b g := by
  have S := Lib.hid s
  have HF := Lib.hid hf
  have HV := Lib.hid hv
  have HH := Lib.hid H
  have H0 := Lib.hid h0
  clear s hf hv H h0
  obtain ⟨a1, ha1⟩ : ∃ a1, a1 = a + 1 := ⟨_, rfl⟩
  have ea : IntKind.i64.wrap ((a : Int) + 1) = (a1 : Int) := w64 (by omega) (by omega)
  have HA := Lib.hid ha1
  clear ha1
  go_enter Tryd.func89, Tryd.ntmps89
  go_wp2_with fail
  clear ea
  -- i: the first so many are in order, the others where they were
  go_loopw [8] (fun kv wr => ∃ (i : Nat) (g : Nat → Int), a + 1 ≤ i ∧ kv = .int .i64 i ∧ (i ≤ b ∨ b ≤ a + 1) ∧ Hid (SW B N C w0 wr g ∧ Pm a b f g ∧ Srt R a i g ∧ Pm a i f g)) (fun kv _ => b - (intOf kv).toNat)
  case atStart => exact ⟨a1, f, by have := HA.out; omega, rfl, by have := HA.out; omega, Lib.hid ⟨S.out, Pm.refl _ _ _, fun p q h1 h2 h3 => by have := HA.out; omega, Pm.refl _ _ _⟩⟩
  case round =>
    obtain ⟨i, g, hi, rfl, hb, G⟩ := hrel
    clear S
    by_cases t1 : i < b
    · obtain ⟨i1, hi1⟩ : ∃ i1, i1 = i + 1 := ⟨_, rfl⟩
      have ei : IntKind.i64.wrap ((i : Int) + 1) = (i1 : Int) := w64 (by omega) (by omega)
      have HI := Lib.hid hi1
      have HI2 := Lib.hid hi
      have IB := Lib.hid (InsI.begin (by omega) t1 HF.out G.out.2.2.1 G.out.2.2.2)
      have G0 := Lib.hid G.out.1
      have IBN := Lib.hid (show i < b ∧ b ≤ N from ⟨t1, hbn⟩)
      clear G hi1 hi
      go_wp2_with fail
      clear ei
      go_loopw [9] (fun jv wr => ∃ (j : Nat) (h : Nat → Int), jv = .int .i64 j ∧ Hid (SW B N C w0 wr h) ∧ Hid (InsI R a i j f h)) (fun jv _ => (intOf jv).toNat)
      case atStart => exact ⟨i, g, rfl, G0, IB⟩
      case round =>
        obtain ⟨j, h, rfl, RS, RI⟩ := hrel
        clear G0 IB
        by_cases t2 : j = a
        · have DN := Lib.hid (RI.out.done HH.out.tot t1 HV.out (.inl t2))
          have PN := Lib.hid RI.out.pm
          have t3 : ¬ a < j := by omega
          have t4 : decide (a < j) = false := decide_eq_false t3
          clear RI t2
          go_wp2_with fail
          go_quiet (fail)
          clear t3 t4
          have RS := Lib.hid (RS.out.drewN nq)
          generalize wr.drewN nq = v at RS ⊢
          go_wp2_with fail
          go_roundw
          case rel =>
            have := IBN.out; have := HI.out; have := HI2.out
            exact ⟨i1, h, by omega, by go_num, .inl (by omega), Lib.hid ⟨RS.out, PN.out.mono (Nat.le_refl _) (by omega), by rw [HI.out]; exact DN.out, by rw [HI.out]; exact PN.out⟩⟩
          case measure => have := HI.out; simp [intOf]; omega
        · have aj : a < j := by have := RI.out.aj; omega
          have ji : j < N := by have := RI.out.ji; have := IBN.out; omega
          obtain ⟨x, hx⟩ : ∃ x, x = j - 1 := ⟨_, rfl⟩
          have ex : IntKind.i64.wrap ((j : Int) - 1) = (x : Int) := w64 (by omega) (by omega)
          have t3 : decide (a < j) = true := decide_eq_true aj
          have x0 : (0 : Int) ≤ (x : Int) := by omega
          have x1 : (x : Int) < (N : Int) := by omega
          have j0 : (0 : Int) ≤ (j : Int) := by omega
          have j1 : (j : Int) < (N : Int) := by omega
          have cj := RS.out.cell (show j < N by omega)
          have cx := RS.out.cell (show x < N by omega)
          have CN := Lib.hid (HH.out.neg (h x) (h j) (by have := RI.out.ji; exact RI.out.val IBN.out.1 HV.out x (by omega) (by omega)) (RI.out.val IBN.out.1 HV.out j RI.out.aj RI.out.ji) (by have := RI.out.me; have := RI.out.ji; have := RI.out.oth x (by omega) (by omega) (by omega); omega))
          have CL := Lib.hid (fun W (st : Below wr.heap.size wr W) => HH.out.call (h j) (h x) W ((RS.out.call st).kp HH.out H0.out) (RI.out.val IBN.out.1 HV.out j RI.out.aj RI.out.ji) (by have := RI.out.ji; exact RI.out.val IBN.out.1 HV.out x (by omega) (by omega)))
          have HX := Lib.hid hx
          clear hx
          by_cases cc : c (h j) (h x) < 0
          · have ST := Lib.hid (RI.out.step aj (by rw [← HX.out]; exact CN.out.1 cc))
            rw [← HX.out] at ST
            have XJ : ¬ x = j := by have := HX.out; omega
            have JX : ¬ j = x := fun e => XJ e.symm
            have AJ := Lib.hid aj
            have CE := HH.out.ent
            have RS0 := RS
            clear CN RI RS
            generalize c (h j) (h x) = r at *
            generalize hp : h j = p at *
            generalize hq : h x = q at *
            have hp := Lib.hid hp
            have hq := Lib.hid hq
            go_wp2_with fail
            go_region_held3 (fun w' => w'.cell? ⟨B, j, none⟩ = some (.int .i64 p) ∧ w'.cell? ⟨B, x, none⟩ = some (.int .i64 q)) (first | exact ⟨cj, cx⟩ | exact ⟨cellDr cj, cellDr cx⟩) (first | ((with_reducible refine (CL.out _ (Below.refl _ _).drew).mono ?_); rintro e w1 ⟨rfl, st⟩; have cj := cellGr st (cellDr cj); have cx := cellGr st (cellDr cx)))
            have RS1 := Lib.hid (RS0.out.drew.call st)
            clear CL CE cj cx st
            have fj := RS1.out.frozen j
            have fx := RS1.out.frozen x
            have SP := Lib.hid (RS1.out.swap j x)
            have cj := RS1.out.cell (show j < N by omega)
            have cx := RS1.out.cell (show x < N by have := HX.out; omega)
            rw [hp.out] at cj SP
            rw [hq.out] at cx SP
            clear RS0 RS1 hp hq
            generalize w1 = v at *
            go_wp2_with fail
            go_region
            have RS := Lib.hid SP.out.drew
            clear SP cj cx fj fx
            generalize ((v.setCell ⟨B, j, none⟩ (.int .i64 q)).setCell ⟨B, x, none⟩ (.int .i64 p)).drew = v2 at RS ⊢
            go_wp2_with fail
            go_roundw
            case rel => exact ⟨x, swp j x h, rfl, RS, ST⟩
            case measure => have := HX.out; have := AJ.out; simp [intOf]; omega
          · have DN := Lib.hid (RI.out.done HH.out.tot IBN.out.1 HV.out (.inr (by rw [← HX.out]; exact fun e => cc (CN.out.2 e))))
            have PN := Lib.hid RI.out.pm
            have CE := HH.out.ent
            clear CN RI HX
            have RS0 := RS
            clear RS
            generalize c (h j) (h x) = r at *
            generalize h j = p at *
            generalize h x = q at *
            go_wp2_with fail
            go_region_held3 (fun w' => w'.cell? ⟨B, j, none⟩ = some (.int .i64 p) ∧ w'.cell? ⟨B, x, none⟩ = some (.int .i64 q)) (first | exact ⟨cj, cx⟩ | exact ⟨cellDr cj, cellDr cx⟩) (first | ((with_reducible refine (CL.out _ (Below.refl _ _).drew).mono ?_); rintro e w1 ⟨rfl, st⟩; have cj := cellGr st (cellDr cj); have cx := cellGr st (cellDr cx)))
            have RS := Lib.hid (RS0.out.drew.call st)
            clear RS0 CE CL cj cx st
            generalize w1 = v at *
            go_wp2_with fail
            go_roundw
            case rel =>
              have := IBN.out; have := HI.out; have := HI2.out
              exact ⟨i1, h, by omega, by go_num, .inl (by omega), Lib.hid ⟨RS.out, PN.out.mono (Nat.le_refl _) (by omega), by rw [HI.out]; exact DN.out, by rw [HI.out]; exact PN.out⟩⟩
            case measure => have := HI.out; simp [intOf]; omega
    · go_wp2_with fail
      go_end0
      refine ⟨rfl, g, G.out.1, G.out.2.1, ?_⟩
      rcases hb with hb | hb
      · have : i = b := by omega
        rw [this] at G; exact G.out.2.2.1
      · exact fun p q h1 h2 h3 => by omega
end Go.Proofs.YtlahdfmciaibdaaDoor

/- The stable sort's symmetric merge. -/
namespace Go.Proofs.YtlahdfmciaibdaaDoor
open Go.RowKit Go.Proofs.YtlahdfmciaibdaaDoor.Stb
set_option linter.unusedVariables false
set_option linter.unusedSimpArgs false

namespace Stb
/-- A search by halves: before i it is not so, from j on it is so. -/
structure Hlf (p : Nat → Prop) (lo hi i j : Nat) : Prop where
  a : lo ≤ i
  b : i ≤ j
  c : j ≤ hi
  bef : ∀ k, lo ≤ k → k < i → ¬ p k
  beh : ∀ k, j ≤ k → k < hi → p k
theorem Hlf.begin {p : Nat → Prop} {lo hi : Nat} (h : lo ≤ hi) : Hlf p lo hi lo hi := ⟨Nat.le_refl _, h, Nat.le_refl _, fun k h1 h2 => by omega, fun k h1 h2 => by omega⟩
theorem Hlf.up {p : Nat → Prop} {lo hi i j h : Nat} (H : Hlf p lo hi i j) (mono : ∀ k l, lo ≤ k → k < l → l < hi → p k → p l) (h1 : i ≤ h) (h2 : h < j) (n : ¬ p h) : Hlf p lo hi (h + 1) j :=
  ⟨by have := H.a; omega, by omega, H.c, fun k k1 k2 => by
    by_cases e : k = h
    · rw [e]; exact n
    · exact fun pk => n (mono k h k1 (by omega) (by have := H.c; omega) pk), H.beh⟩
theorem Hlf.down {p : Nat → Prop} {lo hi i j h : Nat} (H : Hlf p lo hi i j) (mono : ∀ k l, lo ≤ k → k < l → l < hi → p k → p l) (h1 : i ≤ h) (h2 : h < j) (y : p h) : Hlf p lo hi i h :=
  ⟨H.a, h1, by have := H.c; omega, H.bef, fun k k1 k2 => by
    by_cases e : k = h
    · rw [e]; exact y
    · exact mono h k (by have := H.a; omega) (by omega) k2 y⟩
theorem half (i j : Nat) (hi : i < j) (hj : j ≤ 4611686018427387904) : i ≤ (i + j) / 2 ∧ (i + j) / 2 < j := by omega
section
variable {R : Int → Int → Prop} {V : Int → Prop} {a m b : Nat} {f : Nat → Int}
/-- In the second part it goes on as it has begun. -/
theorem Mrg.mono1 (T : Tot R V) (h : Mrg R V a (a + 1) b f) (hb : a + 1 < b) : ∀ k l, a + 1 ≤ k → k < l → l < b → ¬ R (f k) (f a) → ¬ R (f l) (f a) := fun k l k1 kl l1 n r =>
  n (T.tr _ _ _ (h.ok k (by omega) (by omega)) (h.ok l (by omega) l1) (h.ok a (by omega) (by omega)) (h.s2 k l k1 kl l1) r)
theorem Mrg.mono2 (T : Tot R V) (h : Mrg R V a m (m + 1) f) : ∀ k l, a ≤ k → k < l → l < m → R (f m) (f k) → R (f m) (f l) := fun k l k1 kl l1 r =>
  T.tr _ _ _ (h.ok m (by omega) (by omega)) (h.ok k k1 (by omega)) (h.ok l (by omega) (by omega)) r (h.s1 k l k1 kl l1)
/-- .. at once in both. -/
theorem Mrg.mono3 (T : Tot R V) (h : Mrg R V a m b f) {n lo hi : Nat} (l1 : a ≤ lo) (l2 : hi ≤ m) (l3 : n ≤ lo + b) (l4 : m + hi ≤ n) : ∀ k l, lo ≤ k → k < l → l < hi → R (f (n - 1 - k)) (f k) → R (f (n - 1 - l)) (f l) := fun k l k1 kl l2 r => by
  have e1 := h.s1 k l (by omega) kl (by omega)
  have e2 := h.s2 (n - 1 - l) (n - 1 - k) (by omega) (by omega) (by omega)
  have v1 := h.ok k (by omega) (by omega)
  have v2 := h.ok l (by omega) (by omega)
  have v3 := h.ok (n - 1 - k) (by omega) (by omega)
  have v4 := h.ok (n - 1 - l) (by omega) (by omega)
  exact T.tr _ _ _ v4 v1 v2 (T.tr _ _ _ v4 v3 v1 e2 r) e1
/-- What the search finds is the cut. -/
theorem Hlf.cut {mid s lo hi : Nat} (am : a < m) (mb : m < b) (hm : mid = (a + b) / 2) (H : Hlf (fun k => R (f (mid + m - 1 - k)) (f k)) lo hi s s) (hc : (mid < m ∧ lo = mid + m - b ∧ hi = mid) ∨ (m ≤ mid ∧ lo = a ∧ hi = m)) : Cut R a m b mid s f := by
  have h1 := H.a
  have h2 := H.c
  refine ⟨by omega, by omega, by omega, by omega, fun k k1 k2 k3 => ?_, fun k1 k2 => ?_⟩
  · have := H.bef k (by omega) (by omega)
    rw [show mid + m - 1 - k = mid + m - s by omega] at this
    exact this
  · have := H.beh s (Nat.le_refl _) (by omega)
    rw [show mid + m - 1 - s = mid + m - s - 1 by omega] at this
    exact this
/-- Both recursions' work. -/
theorem Cut.whole {V : Int → Prop} {mid s : Nat} {g1 g2 : Nat → Int} (T : Tot R V) (h : Mrg R V a m b f) (c : Cut R a m b mid s f) (am : a < mid) (mb : mid < b)
    (p1 : Pm a mid (rot s m (mid + m - s) f) g1) (s1 : Srt R a mid g1) (p2 : Pm mid b g1 g2) (s2 : Srt R mid b g2) : Pm a b f g2 ∧ Srt R a b g2 := by
  obtain ⟨-, -, x⟩ := c.parts T h am mb
  refine ⟨(((Pm.rot f c.sm (by have := c.smid; omega)).mono c.lo c.eb).trans (p1.mono (Nat.le_refl _) (by omega))).trans (p2.mono (by omega) (Nat.le_refl _)), ?_⟩
  refine srt_join (s1.congr fun k k1 k2 => p2.out (.inl k2)) s2 (cross_pm x p1 p2)
theorem Mrg.congr {g : Nat → Int} (h : Mrg R V a m b f) (am : a ≤ m) (mb : m ≤ b) (e : ∀ k, a ≤ k → k < b → g k = f k) : Mrg R V a m b g :=
  ⟨h.s1.congr fun k k1 k2 => e k k1 (by omega), h.s2.congr fun k k1 k2 => e k (by omega) k2, fun i j i1 i2 j1 j2 => by rw [e i i1 (by omega), e j (by omega) j2]; exact h.old i j i1 i2 j1 j2, fun k k1 k2 => by rw [e k k1 k2]; exact h.ok k k1 k2⟩
end
end Stb

set_option maxRecDepth 100000 in
set_option maxHeartbeats 4000000 in
theorem symMerge_one (B N C K : Nat) (e0 : Value) (V : Int → Prop) (R : Int → Int → Prop) (c : Int → Int → Int) (Kp : World → Prop) (H : Cmp K e0 B V R c Kp) (w0 : World) (h0 : Kp w0) (a b : Nat) (f : Nat → Int) (w : World)
    (s : SW B N C w0 w f) (hab : a + 1 < b) (hbn : b ≤ N) (hN : N ≤ 4611686018427387904) (M : Mrg R V a (a + 1) b f) :
    Calls Tryd.prog 90 #[.slice (some ⟨B, 0, none⟩) N C, .int .i64 a, .int .i64 ((a + 1 : Nat) : Int), .int .i64 b, .func (.func K) #[] #[e0]] w fun e w' => e = .returned (.tuple #[]) ∧ ∃ g, SW B N C w0 w' g ∧ Pm a b f g ∧ Srt R a b g := by
  have S := Lib.hid s
  have HM := Lib.hid M
  have HH := Lib.hid H
  have H0 := Lib.hid h0
  obtain ⟨m, hm⟩ : ∃ m, m = a + 1 := ⟨_, rfl⟩
  rw [← hm]
  have e1 : IntKind.i64.wrap ((m : Int) - (a : Int)) = 1 := by rw [show (m : Int) - (a : Int) = 1 by omega]; rfl
  have H1 := Lib.hid (show m = a + 1 ∧ m < b ∧ b ≤ N from ⟨hm, by omega, hbn⟩)
  have HB := Lib.hid (Hlf.begin (p := fun k => ¬ R (f k) (f a)) (lo := m) (hi := b) (by omega))
  have MO := Lib.hid (show ∀ k l, m ≤ k → k < l → l < b → ¬ R (f k) (f a) → ¬ R (f l) (f a) by rw [hm]; exact M.mono1 H.tot hab)
  clear s M H h0 hab hbn hm
  go_enter Tryd.func90, Tryd.ntmps90
  go_wp2_with fail
  go_loopw [10, 11] (fun iv jv wr => ∃ i j : Nat, iv = .int .i64 i ∧ jv = .int .i64 j ∧ Hid (Hlf (fun k => ¬ R (f k) (f a)) m b i j) ∧ Hid (SW B N C w0 wr f)) (fun iv jv _ => (intOf jv).toNat - (intOf iv).toNat)
  case atStart => exact ⟨m, b, rfl, rfl, HB, S⟩
  case round =>
    obtain ⟨i, j, rfl, rfl, HL, RS⟩ := hrel
    clear HB S
    by_cases t1 : i < j
    · obtain ⟨u, hu⟩ : ∃ u, u = i + j := ⟨_, rfl⟩
      obtain ⟨h, hh⟩ : ∃ h, h = u / 2 := ⟨_, rfl⟩
      have eu : IntKind.i64.wrap ((i : Int) + (j : Int)) = (u : Int) := w64 (by omega) (by have := HL.out.c; have := H1.out; omega)
      have ev : IntKind.u64.wrap (u : Int) = (u : Int) := IntWalk.u64_in _ (by have := HL.out.c; have := H1.out; omega)
      have eh : wrap64 ((u : Int) / 2) = (h : Int) := by
        have := HL.out.c; have := H1.out
        rw [show (u : Int) / 2 = (h : Int) by omega]
        exact IntWalk.wrap64_in _ (by omega)
      have hb : i ≤ h ∧ h < j := by omega
      have h0 : (0 : Int) ≤ (h : Int) := by omega
      have h1 : (h : Int) < (N : Int) := by have := HL.out.c; have := H1.out; omega
      have a0 : (0 : Int) ≤ (a : Int) := by omega
      have a1 : (a : Int) < (N : Int) := by have := H1.out; omega
      have ch := RS.out.cell (show h < N by omega)
      have ca := RS.out.cell (show a < N by omega)
      have vh := HM.out.ok h (by have := HL.out.a; have := H1.out; omega) (by have := HL.out.c; omega)
      have va := HM.out.ok a (Nat.le_refl _) (by have := H1.out; omega)
      have CN := Lib.hid (HH.out.neg (f a) (f h) va vh (HM.out.old a h (Nat.le_refl _) (by omega) (by have := HL.out.a; have := H1.out; omega) (by have := HL.out.c; omega)))
      have CL := Lib.hid (fun W (st : Below wr.heap.size wr W) => HH.out.call (f h) (f a) W ((RS.out.call st).kp HH.out H0.out) vh va)
      have UP := Lib.hid (fun nr => HL.out.up MO.out hb.1 hb.2 (fun e => e nr))
      have DN := Lib.hid (fun nr => HL.out.down MO.out hb.1 hb.2 nr)
      obtain ⟨h2, hh2⟩ : ∃ h2, h2 = h + 1 := ⟨_, rfl⟩
      have eh2 : IntKind.i64.wrap ((h : Int) + 1) = (h2 : Int) := w64 (by omega) (by omega)
      have HI := Lib.hid (show i ≤ h ∧ h < j ∧ h2 = h + 1 from ⟨hb.1, hb.2, hh2⟩)
      rw [← hh2] at UP
      have CE := HH.out.ent
      clear vh va hb hu hh hh2 HL
      by_cases cc : c (f h) (f a) < 0
      · have NX := Lib.hid (UP.out (CN.out.1 cc))
        clear CN UP DN
        generalize c (f h) (f a) = r at *
        generalize f h = p at *
        generalize f a = q at *
        go_wp2_with fail
        go_region_held3 (fun w' => w'.cell? ⟨B, h, none⟩ = some (.int .i64 p) ∧ w'.cell? ⟨B, a, none⟩ = some (.int .i64 q)) (first | exact ⟨ch, ca⟩ | exact ⟨cellDr ch, cellDr ca⟩) (first | ((with_reducible refine (CL.out _ (Below.refl _ _).drew).mono ?_); rintro e w1 ⟨rfl, st⟩; have ch := cellGr st (cellDr ch); have ca := cellGr st (cellDr ca)))
        have RS := Lib.hid (RS.out.drew.call st)
        clear CE CL ch ca st
        generalize w1 = v at RS ⊢
        go_wp2_with fail
        go_roundw
        case rel => exact ⟨h2, j, by first | rfl | go_num, rfl, NX, RS⟩
        case measure => have := HI.out; simp [intOf]; omega
      · have NX := Lib.hid (DN.out (fun e => cc (CN.out.2 e)))
        clear CN UP DN
        generalize c (f h) (f a) = r at *
        generalize f h = p at *
        generalize f a = q at *
        go_wp2_with fail
        go_region_held3 (fun w' => w'.cell? ⟨B, h, none⟩ = some (.int .i64 p) ∧ w'.cell? ⟨B, a, none⟩ = some (.int .i64 q)) (first | exact ⟨ch, ca⟩ | exact ⟨cellDr ch, cellDr ca⟩) (first | ((with_reducible refine (CL.out _ (Below.refl _ _).drew).mono ?_); rintro e w1 ⟨rfl, st⟩; have ch := cellGr st (cellDr ch); have ca := cellGr st (cellDr ca)))
        have RS := Lib.hid (RS.out.drew.call st)
        clear CE CL ch ca st
        generalize w1 = v at RS ⊢
        go_wp2_with fail
        go_roundw
        case rel => exact ⟨i, h, rfl, by first | rfl | go_num, NX, RS⟩
        case measure => have := HI.out; simp [intOf]; omega
    · obtain rfl : i = j := by have := HL.out.b; omega
      obtain ⟨x, hx⟩ : ∃ x, x = i - 1 := ⟨_, rfl⟩
      have ex : IntKind.i64.wrap ((i : Int) - 1) = (x : Int) := w64 (by have := HL.out.a; have := H1.out; omega) (by have := HL.out.c; have := H1.out; omega)
      have HX := Lib.hid (show x + 1 = i ∧ a ≤ x ∧ i ≤ b by have := HL.out.a; have := HL.out.c; have := H1.out; omega)
      have FIN := Lib.hid (show Srt R a b (rot a (a + 1) i f) by
        have := HL.out.a; have := HL.out.c; have := H1.out
        exact HM.out.up HH.out.tot (by omega) (by omega) (fun k k1 k2 => Classical.not_not.1 (HL.out.bef k (by omega) k2)) (fun k k1 k2 => HL.out.beh k k1 k2))
      have PIN := Lib.hid (show Pm a b f (rot a (a + 1) i f) by
        have := HL.out.a; have := HL.out.c; have := H1.out
        exact (Pm.rot f (by omega) (by omega)).mono (Nat.le_refl _) (by omega))
      clear hx HL MO HM
      go_wp2_with fail
      go_loopw [13] (fun kv wr => ∃ k : Nat, kv = .int .i64 k ∧ a ≤ k ∧ k ≤ x ∧ Hid (SW B N C w0 wr (rot a (a + 1) (k + 1) f))) (fun kv _ => x - (intOf kv).toNat)
      case atStart => exact ⟨a, rfl, Nat.le_refl _, HX.out.2.1, by rw [rot_right _ (by omega)]; exact RS⟩
      case round =>
        obtain ⟨k, rfl, k0, k1, RK⟩ := hrel
        clear RS
        by_cases t2 : k < x
        · obtain ⟨y, hy⟩ : ∃ y, y = k + 1 := ⟨_, rfl⟩
          have ey : IntKind.i64.wrap ((k : Int) + 1) = (y : Int) := w64 (by omega) (by have := HX.out; have := H1.out; omega)
          have lk : k < N := by have := HX.out; have := H1.out; omega
          have ly : y < N := by have := HX.out; have := H1.out; omega
          have x0 : (0 : Int) ≤ (k : Int) := by omega
          have x1 : (k : Int) < (N : Int) := by omega
          have y0 : (0 : Int) ≤ (y : Int) := by omega
          have y1 : (y : Int) < (N : Int) := by omega
          have ky : ¬ k = y := by omega
          have yk : ¬ y = k := by omega
          have NX := Lib.hid (RK.out.swap k y)
          have EQ := Lib.hid (show swp k y (rot a (a + 1) (k + 1) f) = rot a (a + 1) (y + 1) f by rw [hy]; exact rot_up f k0)
          have ck := RK.out.cell lk
          have cy := RK.out.cell ly
          have fk := RK.out.frozen k
          have fy := RK.out.frozen y
          have HY := Lib.hid (show y = k + 1 ∧ a ≤ k ∧ k < x from ⟨hy, k0, t2⟩)
          clear RK hy k0 k1 lk ly
          rw [EQ.out] at NX
          generalize rot a (a + 1) (k + 1) f k = p at *
          generalize rot a (a + 1) (k + 1) f y = q at *
          go_wp2_with fail
          go_region
          have RK := Lib.hid NX.out.drew
          clear NX ck cy fk fy EQ
          generalize ((wr.setCell ⟨B, k, none⟩ (.int .i64 q)).setCell ⟨B, y, none⟩ (.int .i64 p)).drew = v at RK ⊢
          go_wp2_with fail
          go_roundw
          case rel => exact ⟨y, by first | rfl | go_num, by have := HY.out; omega, by have := HY.out; omega, RK⟩
          case measure => have := HY.out; simp [intOf]; omega
        · obtain rfl : k = x := by omega
          go_wp2_with fail
          first | go_ret2 | go_ret | go_returns
          rw [HX.out.1] at RK
          exact ⟨rfl, _, RK.out, PIN.out, FIN.out⟩
end Go.Proofs.YtlahdfmciaibdaaDoor
