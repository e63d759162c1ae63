/- Classing: Share. -/
import Derived.Test.YthbgeikdamajlaaHQ1
import Derived.Laws.Slices
namespace Go.Proofs.Ythbgeikdamajlaa
open Go.RowKit
set_option linter.unusedVariables false
set_option linter.unusedSimpArgs false

theorem hist_len : Try.prog.arrayLen 23 = 64 := by
  unfold Program.arrayLen
  rw [Try.underlying23]
theorem hist_elem : Try.prog.elem 23 = 3 := by
  unfold Program.elem
  rw [Try.underlying23]
theorem slice_hist (g k : Nat) (hk : k ≤ 64) (W : World) : (Instr.sliceAt 23 (.pointer (some ⟨g, 0, none⟩)) none (some (.int .i64 (k : Int))) none).run Try.prog W = .ok (.slice (some ⟨g, 0, none⟩) k 64) W := by
  have ht : Try.prog.underlying 23 = some (.array (Try.prog.arrayLen 23) (Try.prog.elem 23)) := by rw [hist_len, hist_elem]; exact Try.underlying23
  rw [run_sliceAt_array_h (w := W) (t := 23) (a := ⟨g, 0, none⟩) (ht := ht) .i64 (k : Int) (by omega) (by rw [hist_len]; omega), hist_elem, size_int, hist_len]
  simp [slicedAt]
  rfl
/-- What Share answers. -/
def ShaQ (H : Nat → Int) (b V D e : Int) : Prop := (¬ HOk H 64 ∧ e = 2) ∨ (HOk H 64 ∧ ¬ (0 ≤ b ∧ b ≤ 64) ∧ e = 2) ∨ (HOk H 64 ∧ (0 ≤ b ∧ b ≤ 64) ∧ hsum H 64 = 0 ∧ e = 5) ∨ (HOk H 64 ∧ (0 ≤ b ∧ b ≤ 64) ∧ 0 < hsum H 64 ∧ e = 0 ∧ vldB V D = true ∧ ∃ k : Nat, b = k ∧ k ≤ 64 ∧ V * hsum H 64 = hsum H k * D)
/-- The boxed histogram and the result's cells. -/
structure SB (w v : World) (gh gr : Nat) (H : Nat → Int) : Prop where
  hb : HB v gh H
  r : v.heap[gr]? = some (.cells #[.int .i64 0, .int .i64 0] 32 (0, 0))
  bel : Below w.heap.size w v
  lo : w.heap.size ≤ gr
theorem SB.below {w v v' : World} {gh gr : Nat} {H : Nat → Int} (h : SB w v gh gr H) (b : Below v.heap.size v v') : SB w v' gh gr H :=
  ⟨h.hb.below b, (b.block _ (Array.getElem?_eq_some_iff.1 h.r).1).trans h.r, h.bel.trans (b.mono h.bel.size), h.lo⟩
theorem SB.cells {w v : World} {gh gr : Nat} {H : Nat → Int} (h : SB w v gh gr H) : v.cell? ⟨gr, 0, none⟩ = some (.int .i64 0) ∧ v.cell? ⟨gr, 1, none⟩ = some (.int .i64 0) ∧ ∀ k, v.frozen? ⟨gr, k, none⟩ = false := by
  have r := h.r
  exact ⟨by simp [World.cell?, r], by simp [World.cell?, r], fun k => by simp [World.frozen?, r]⟩
theorem SB.new (w : World) (H : Nat → Int) : SB w ((w.alloc (Obj.cells (hC H) 23)).alloc (Obj.cells #[Value.int .i64 0, Value.int .i64 0] 32)) w.heap.size (w.heap.size + 1) H := by
  refine ⟨?_, ?_, ((Below.refl _ w).alloc (Nat.le_refl _) _).alloc (by simp) _, by omega⟩
  · show ((w.alloc _).alloc _).heap[w.heap.size]? = _
    rw [Below.heap_alloc _ _ _ (by simp), heap_alloc_new]
  · have := heap_alloc_new (w.alloc (Obj.cells (hC H) 23)) (Obj.cells #[Value.int .i64 0, Value.int .i64 0] 32)
    simpa using this
/-- The result is written. -/
theorem SB.put {w v : World} {gh gr : Nat} {H : Nat → Int} (h : SB w v gh gr H) (x y : Int) : (v.setCell ⟨gr, 0, none⟩ (.int .i64 x)).setCell ⟨gr, 1, none⟩ (.int .i64 y) = (v.setCell ⟨gr, 0, none⟩ (.int .i64 x)).setCell ⟨gr, 1, none⟩ (.int .i64 y) ∧ ((v.setCell ⟨gr, 0, none⟩ (.int .i64 x)).setCell ⟨gr, 1, none⟩ (.int .i64 y)).cell? ⟨gr, 0, none⟩ = some (.int .i64 x) ∧ ((v.setCell ⟨gr, 0, none⟩ (.int .i64 x)).setCell ⟨gr, 1, none⟩ (.int .i64 y)).cell? ⟨gr, 1, none⟩ = some (.int .i64 y) ∧ Below w.heap.size w ((v.setCell ⟨gr, 0, none⟩ (.int .i64 x)).setCell ⟨gr, 1, none⟩ (.int .i64 y)) := by
  obtain ⟨c0, c1, f⟩ := h.cells
  refine ⟨rfl, ?_, ?_, (h.bel.setCell (by exact h.lo) _).setCell (by exact h.lo) _⟩
  · simp [go_sem, c0]
  · simp [go_sem, c1]

set_option maxRecDepth 100000 in
set_option maxHeartbeats 8000000 in
theorem Share_any (H : Nat → Int) (b : Int) (w : World) :
    Calls Try.prog 20 #[hV H, .int .i64 b] w fun e w' => ∃ V D x, e = .returned (fracV V D x) ∧ ShaQ H b V D x ∧ Below w.heap.size w w' := by
  have HQ := Lib.hid (show ∀ V D e, ShaQ H b V D e = ((¬ HOk H 64 ∧ e = 2) ∨ (HOk H 64 ∧ ¬ (0 ≤ b ∧ b ≤ 64) ∧ e = 2) ∨ (HOk H 64 ∧ (0 ≤ b ∧ b ≤ 64) ∧ hsum H 64 = 0 ∧ e = 5) ∨ (HOk H 64 ∧ (0 ≤ b ∧ b ≤ 64) ∧ 0 < hsum H 64 ∧ e = 0 ∧ vldB V D = true ∧ ∃ k : Nat, b = k ∧ k ≤ 64 ∧ V * hsum H 64 = hsum H k * D)) from fun _ _ _ => rfl)
  have CT := Lib.hid (fun W => Total_any H W)
  have K0 := Lib.hid (SB.new w H)
  go_enter Try.func20, Try.ntmps20
  go_upto_region 1 with fail
  generalize (w.alloc (Obj.cells (hC H) 23)).alloc (Obj.cells #[Value.int .i64 0, Value.int .i64 0] 32) = w1 at *
  obtain ⟨gh, hgh⟩ : ∃ g, g = w.heap.size := ⟨_, rfl⟩
  obtain ⟨gr, hgr⟩ : ∃ g, g = w.heap.size + 1 := ⟨_, rfl⟩
  have K1 := Lib.hid (show SB w w1 gh gr H from by rw [hgh, hgr]; exact K0.out)
  rw [← hgr, ← hgh]
  clear hgh hgr K0
  go_wp2_with (refine wpList_load_row rfl _ _ rfl gh rfl _ (hC H) (0, 0) _ K1.out.hb Try.underlying23 rfl (histSize' H) ?_)
  refine (CT.out w1).mono ?_
  rintro e w2 ⟨S, x, rfl, tq, st⟩
  have TQ := Lib.hid tq
  have K2 := Lib.hid (K1.out.below st)
  clear tq st K1 CT
  have PT := Lib.hid (K2.out.put 0 0)
  have KB := Lib.hid K2.out.bel
  by_cases x0 : x = 0
  case neg =>
    have x1 : (x == 0) = false := by simpa using x0
    have x2 : (x != 0) = true := by simpa using x0
    have FF := Lib.hid (show ShaQ H b 0 0 x from by
      rw [HQ.out]
      rcases TQ.out with ⟨_, a, _⟩ | ⟨a, b, _⟩
      · exact absurd a x0
      · exact .inl ⟨a, b⟩)
    obtain ⟨c0, c1, fz⟩ := K2.out.cells
    have fz0 := fz 0
    have fz1 := fz 1
    clear x0 HQ fz
    go_wp2_with fail
    clear c0 c1 fz0 fz1
    generalize (w2.setCell ⟨gr, 0, none⟩ (.int .i64 0)).setCell ⟨gr, 1, none⟩ (.int .i64 0) = w3 at *
    obtain ⟨-, p0, p1, pb⟩ := PT.out
    exact bodyPost_ret (v := fracV 0 0 x) (by simp [results, Try.results20, go_sem, fracV, p0, p1]) rfl ⟨0, 0, x, rfl, FF.out, pb⟩
  subst x0
  obtain ⟨ok, hS⟩ : HOk H 64 ∧ S = hsum H 64 := by
    rcases TQ.out with ⟨a, _, b⟩ | ⟨_, a, _⟩
    · exact ⟨a, b⟩
    · omega
  have OK := Lib.hid ok
  have HS := Lib.hid hS
  have s0 : 0 ≤ S := by rw [hS]; exact hsum_nonneg ok
  have s1 : S ≤ 1048576 := by rw [hS]; exact ok.2
  have BAD := Lib.hid (show ¬ (0 ≤ b ∧ b ≤ 64) → ShaQ H b 0 0 2 from fun h => by rw [HQ.out]; exact .inr (.inl ⟨OK.out, h, rfl⟩))
  clear hS ok TQ
  have x2 : ((0 : Int) != 0) = false := by decide
  by_cases bb : 0 ≤ b ∧ b ≤ 64
  case neg =>
    have FF := Lib.hid (BAD.out bb)
    have WAY : (b < 0 ∧ decide (b < 0) = true) ∨ (decide (b < 0) = false ∧ 64 < b ∧ decide (64 < b) = true) := by
      by_cases h : b < 0
      · exact .inl ⟨h, decide_eq_true h⟩
      · exact .inr ⟨decide_eq_false h, by omega, decide_eq_true (by omega)⟩
    obtain ⟨c0, c1, fz⟩ := K2.out.cells
    have fz0 := fz 0
    have fz1 := fz 1
    clear BAD HQ bb fz
    rcases WAY with ⟨-, d1⟩ | ⟨d1, -, d2⟩
    · go_wp2_with fail
      clear c0 c1 fz0 fz1
      generalize (w2.setCell ⟨gr, 0, none⟩ (.int .i64 0)).setCell ⟨gr, 1, none⟩ (.int .i64 0) = w3 at *
      obtain ⟨-, p0, p1, pb⟩ := PT.out
      exact bodyPost_ret (v := fracV 0 0 2) (by simp [results, Try.results20, go_sem, fracV, p0, p1]) rfl ⟨0, 0, 2, rfl, FF.out, pb⟩
    · go_wp2_with fail
      clear c0 c1 fz0 fz1
      generalize (w2.setCell ⟨gr, 0, none⟩ (.int .i64 0)).setCell ⟨gr, 1, none⟩ (.int .i64 0) = w3 at *
      obtain ⟨-, p0, p1, pb⟩ := PT.out
      exact bodyPost_ret (v := fracV 0 0 2) (by simp [results, Try.results20, go_sem, fracV, p0, p1]) rfl ⟨0, 0, 2, rfl, FF.out, pb⟩
  have d1 : decide (b < 0) = false := decide_eq_false (by omega)
  have d2 : decide (64 < b) = false := decide_eq_false (by omega)
  obtain ⟨k, rfl⟩ := Int.eq_ofNat_of_zero_le bb.1
  have k64 : k ≤ 64 := by omega
  clear BAD PT bb
  have SL := Lib.hid (fun W => slice_hist gh k k64 W)
  have sl := SL.out w2
  have FZ := Lib.hid (show S = 0 → ∀ V D, ShaQ H k V D 5 from fun h V D => by rw [HQ.out]; exact .inr (.inr (.inl ⟨OK.out, ⟨by omega, by omega⟩, by rw [← HS.out]; exact h, rfl⟩)))
  have FG := Lib.hid (show 0 < S → ∀ V D E, IsFrac (hsum H k) S V D E → ShaQ H k V D E from fun h V D E hf => by
    obtain ⟨e1, e2, e3⟩ := frac_share (hsum_nonneg (OK.out.less k64)) (by rw [HS.out]; exact hsum_mono OK.out.1 k64) (by omega) s1 hf
    rw [HQ.out]
    exact .inr (.inr (.inr ⟨OK.out, ⟨by omega, by omega⟩, by rw [← HS.out]; exact h, e1, e2, k, rfl, k64, by rw [← HS.out]; exact e3⟩)))
  have NZ := Lib.hid (show ∀ k, k ≤ 64 → 0 ≤ hsum H k ∧ hsum H k ≤ S from fun k hk => ⟨hsum_nonneg (OK.out.less hk), by rw [HS.out]; exact hsum_mono OK.out.1 hk⟩)
  have HBB := Lib.hid K2.out.hb
  clear SL HQ OK HS
  go_wp2_with fail
  clear sl d1 d2 x2
  go_loopw [8, 30] (fun cv jv wr => ∃ j : Nat, j ≤ k ∧ jv = .int .i64 j ∧ cv = .int .i64 (hsum H j) ∧ wr = w2) (fun _ jv _ => k - (intOf jv).toNat)
  case atStart => exact ⟨0, Nat.zero_le _, rfl, rfl, rfl⟩
  case round =>
    obtain ⟨j, hj, rfl, rfl, rfl⟩ := hrel
    by_cases t1 : j < k
    · have j1 : (0 : Int) ≤ (j : Int) := by omega
      have j2 : (j : Int) < (k : Int) := by omega
      have cj := HBB.out.cell (k := j) (by omega)
      have SS := Lib.hid (show hsum H (j + 1) = hsum H j + H j from rfl)
      have n1 := NZ.out j (by omega)
      have n2 := NZ.out (j + 1) (by omega)
      rw [SS.out] at n2
      generalize hsum H j = C at *
      generalize H j = x at *
      have wC : IntKind.i64.wrap (C + x) = C + x := hwI (by omega) (by omega)
      clear FZ FG NZ
      go_wp2_with fail
      go_roundw
      case rel => exact ⟨j + 1, by omega, by go_num, by rw [SS.out], by first | rfl | trivial⟩
      case measure => simp [intOf]; omega
    obtain rfl : j = k := by omega
    have nk := NZ.out j k64
    generalize hsum H j = C at *
    have MK := Lib.hid (show ∀ W, Calls Try.prog 62 #[.int .i64 C, .int .i64 S] W (fun e w' => ∃ V D E, ShaQ H j V D E ∧ e = .returned (fracV V D E) ∧ Below W.heap.size W w') from fun W => by
      by_cases sz : S = 0
      · have := Make_zero C W
        rw [← sz] at this
        refine this.mono ?_
        rintro e w' ⟨V, D, E, ⟨_, _, rfl⟩, h, b⟩
        exact ⟨V, D, 5, FZ.out sz V D, h, b⟩
      · refine (Make_any C S (by omega) (by omega) (by omega) (by omega) sz W).mono ?_
        rintro e w' ⟨V, D, E, h1, h, b⟩
        exact ⟨V, D, E, FG.out (by omega) V D E h1, h, b⟩)
    clear FZ FG NZ HBB nk
    go_wp2_with fail
    refine (MK.out wr).mono ?_
    rintro e w4 ⟨V, D, E, FF, rfl, st⟩
    have FF := Lib.hid FF
    have K4 := Lib.hid (K2.out.below st)
    unfold fracV
    obtain ⟨c0, c1, fz⟩ := K4.out.cells
    have fz0 := fz 0
    have fz1 := fz 1
    have PT := Lib.hid (K4.out.put V D)
    clear MK st fz K2 K4
    go_wp2_with fail
    clear c0 c1 fz0 fz1
    generalize (w4.setCell ⟨gr, 0, none⟩ (.int .i64 V)).setCell ⟨gr, 1, none⟩ (.int .i64 D) = w5 at *
    obtain ⟨-, p0, p1, pb⟩ := PT.out
    exact bodyPost_ret (v := fracV V D E) (by simp [results, Try.results20, go_sem, fracV, p0, p1]) rfl ⟨V, D, E, rfl, FF.out, pb⟩
end Go.Proofs.Ythbgeikdamajlaa
