/- Several texts in one: HV1 HV0 HV2 HV3 M5 M6. -/
import Derived.Test.YtbcfafihkdddeaaHW1
import Derived.Test.YtbcfafihkdddeaaB0
import Derived.Laws.Slices
import Derived.Deep.QuietTactic

/- Classing: Share, with what it answers beside an error. -/
namespace Go.Proofs.Ytbcfafihkdddeaa
open Go.RowKit
set_option linter.unusedVariables false
set_option linter.unusedSimpArgs false

theorem hist_len : Try.prog.arrayLen 23 = 64 := by
  unfold Program.arrayLen
  rw [Try.underlying23]
theorem hist_elem : Try.prog.elem 23 = 3 := by
  unfold Program.elem
  rw [Try.underlying23]
theorem slice_hist (g k : Nat) (hk : k ≤ 64) (W : World) : (Instr.sliceAt 23 (.pointer (some ⟨g, 0, none⟩)) none (some (.int .i64 (k : Int))) none).run Try.prog W = .ok (.slice (some ⟨g, 0, none⟩) k 64) W := by
  have ht : Try.prog.underlying 23 = some (.array (Try.prog.arrayLen 23) (Try.prog.elem 23)) := by rw [hist_len, hist_elem]; exact Try.underlying23
  rw [run_sliceAt_array_h (w := W) (t := 23) (a := ⟨g, 0, none⟩) (ht := ht) .i64 (k : Int) (by omega) (by rw [hist_len]; omega), hist_elem, size_int, hist_len]
  simp [slicedAt]
  rfl
/-- What Share answers. -/
def ShaR (H : Nat → Int) (b V D e : Int) : Prop := (¬ HOk H 64 ∧ e = 2 ∧ V = 0 ∧ D = 0) ∨ (HOk H 64 ∧ ¬ (0 ≤ b ∧ b ≤ 64) ∧ e = 2 ∧ V = 0 ∧ D = 0) ∨ (HOk H 64 ∧ (0 ≤ b ∧ b ≤ 64) ∧ hsum H 64 = 0 ∧ e = 5 ∧ V = 0 ∧ D = 0) ∨ (HOk H 64 ∧ (0 ≤ b ∧ b ≤ 64) ∧ 0 < hsum H 64 ∧ ∃ k : Nat, b = k ∧ k ≤ 64 ∧ IsFrac (hsum H k) (hsum H 64) V D e)
/-- The boxed histogram and the result's cells. -/
structure SB (w v : World) (gh gr : Nat) (H : Nat → Int) : Prop where
  hb : HB v gh H
  r : v.heap[gr]? = some (.cells #[.int .i64 0, .int .i64 0] 25 (0, 0))
  bel : Below w.heap.size w v
  lo : w.heap.size ≤ gr
theorem SB.below {w v v' : World} {gh gr : Nat} {H : Nat → Int} (h : SB w v gh gr H) (b : Below v.heap.size v v') : SB w v' gh gr H :=
  ⟨h.hb.below b, (b.block _ (Array.getElem?_eq_some_iff.1 h.r).1).trans h.r, h.bel.trans (b.mono h.bel.size), h.lo⟩
theorem SB.cells {w v : World} {gh gr : Nat} {H : Nat → Int} (h : SB w v gh gr H) : v.cell? ⟨gr, 0, none⟩ = some (.int .i64 0) ∧ v.cell? ⟨gr, 1, none⟩ = some (.int .i64 0) ∧ ∀ k, v.frozen? ⟨gr, k, none⟩ = false := by
  have r := h.r
  exact ⟨by simp [World.cell?, r], by simp [World.cell?, r], fun k => by simp [World.frozen?, r]⟩
theorem SB.new (w : World) (H : Nat → Int) : SB w ((w.alloc (Obj.cells (hC H) 23)).alloc (Obj.cells #[Value.int .i64 0, Value.int .i64 0] 25)) w.heap.size (w.heap.size + 1) H := by
  refine ⟨?_, ?_, ((Below.refl _ w).alloc (Nat.le_refl _) _).alloc (by simp) _, by omega⟩
  · show ((w.alloc _).alloc _).heap[w.heap.size]? = _
    rw [Below.heap_alloc _ _ _ (by simp), heap_alloc_new]
  · have := heap_alloc_new (w.alloc (Obj.cells (hC H) 23)) (Obj.cells #[Value.int .i64 0, Value.int .i64 0] 25)
    simpa using this
/-- The result is written. -/
theorem SB.put {w v : World} {gh gr : Nat} {H : Nat → Int} (h : SB w v gh gr H) (x y : Int) : (v.setCell ⟨gr, 0, none⟩ (.int .i64 x)).setCell ⟨gr, 1, none⟩ (.int .i64 y) = (v.setCell ⟨gr, 0, none⟩ (.int .i64 x)).setCell ⟨gr, 1, none⟩ (.int .i64 y) ∧ ((v.setCell ⟨gr, 0, none⟩ (.int .i64 x)).setCell ⟨gr, 1, none⟩ (.int .i64 y)).cell? ⟨gr, 0, none⟩ = some (.int .i64 x) ∧ ((v.setCell ⟨gr, 0, none⟩ (.int .i64 x)).setCell ⟨gr, 1, none⟩ (.int .i64 y)).cell? ⟨gr, 1, none⟩ = some (.int .i64 y) ∧ Below w.heap.size w ((v.setCell ⟨gr, 0, none⟩ (.int .i64 x)).setCell ⟨gr, 1, none⟩ (.int .i64 y)) := by
  obtain ⟨c0, c1, f⟩ := h.cells
  refine ⟨rfl, ?_, ?_, (h.bel.setCell (by exact h.lo) _).setCell (by exact h.lo) _⟩
  · simp [go_sem, c0]
  · simp [go_sem, c1]

set_option maxRecDepth 100000 in
set_option maxHeartbeats 8000000 in
theorem Share_any (H : Nat → Int) (b : Int) (w : World) :
    Calls Try.prog 21 #[hV H, .int .i64 b] w fun e w' => ∃ V D x, e = .returned (fracV V D x) ∧ ShaR H b V D x ∧ Below w.heap.size w w' := by
  have HQ := Lib.hid (show ∀ V D e, ShaR H b V D e = ((¬ HOk H 64 ∧ e = 2 ∧ V = 0 ∧ D = 0) ∨ (HOk H 64 ∧ ¬ (0 ≤ b ∧ b ≤ 64) ∧ e = 2 ∧ V = 0 ∧ D = 0) ∨ (HOk H 64 ∧ (0 ≤ b ∧ b ≤ 64) ∧ hsum H 64 = 0 ∧ e = 5 ∧ V = 0 ∧ D = 0) ∨ (HOk H 64 ∧ (0 ≤ b ∧ b ≤ 64) ∧ 0 < hsum H 64 ∧ ∃ k : Nat, b = k ∧ k ≤ 64 ∧ IsFrac (hsum H k) (hsum H 64) V D e)) from fun _ _ _ => rfl)
  have CT := Lib.hid (fun W => Total_any H W)
  have K0 := Lib.hid (SB.new w H)
  go_enter Try.func21, Try.ntmps21
  go_upto_region 1 with fail
  generalize (w.alloc (Obj.cells (hC H) 23)).alloc (Obj.cells #[Value.int .i64 0, Value.int .i64 0] 25) = w1 at *
  obtain ⟨gh, hgh⟩ : ∃ g, g = w.heap.size := ⟨_, rfl⟩
  obtain ⟨gr, hgr⟩ : ∃ g, g = w.heap.size + 1 := ⟨_, rfl⟩
  have K1 := Lib.hid (show SB w w1 gh gr H from by rw [hgh, hgr]; exact K0.out)
  rw [← hgr, ← hgh]
  clear hgh hgr K0
  go_wp2_with (refine wpList_load_row rfl _ _ rfl gh rfl _ (hC H) (0, 0) _ K1.out.hb Try.underlying23 rfl (histSize' H) ?_)
  refine (CT.out w1).mono ?_
  rintro e w2 ⟨S, x, rfl, tq, st⟩
  have TQ := Lib.hid tq
  have K2 := Lib.hid (K1.out.below st)
  clear tq st K1 CT
  have PT := Lib.hid (K2.out.put 0 0)
  have KB := Lib.hid K2.out.bel
  by_cases x0 : x = 0
  case neg =>
    have x1 : (x == 0) = false := by simpa using x0
    have x2 : (x != 0) = true := by simpa using x0
    have FF := Lib.hid (show ShaR H b 0 0 x from by
      rw [HQ.out]
      rcases TQ.out with ⟨_, a, _⟩ | ⟨a, b, _⟩
      · exact absurd a x0
      · exact .inl ⟨a, b, rfl, rfl⟩)
    obtain ⟨c0, c1, fz⟩ := K2.out.cells
    have fz0 := fz 0
    have fz1 := fz 1
    clear x0 HQ fz
    go_wp2_with fail
    clear c0 c1 fz0 fz1
    generalize (w2.setCell ⟨gr, 0, none⟩ (.int .i64 0)).setCell ⟨gr, 1, none⟩ (.int .i64 0) = w3 at *
    obtain ⟨-, p0, p1, pb⟩ := PT.out
    exact bodyPost_ret (v := fracV 0 0 x) (by simp [results, Try.results21, go_sem, fracV, p0, p1]) rfl ⟨0, 0, x, rfl, FF.out, pb⟩
  subst x0
  obtain ⟨ok, hS⟩ : HOk H 64 ∧ S = hsum H 64 := by
    rcases TQ.out with ⟨a, _, b⟩ | ⟨_, a, _⟩
    · exact ⟨a, b⟩
    · omega
  have OK := Lib.hid ok
  have HS := Lib.hid hS
  have s0 : 0 ≤ S := by rw [hS]; exact hsum_nonneg ok
  have s1 : S ≤ 1048576 := by rw [hS]; exact ok.2
  have BAD := Lib.hid (show ¬ (0 ≤ b ∧ b ≤ 64) → ShaR H b 0 0 2 from fun h => by rw [HQ.out]; exact .inr (.inl ⟨OK.out, h, rfl, rfl, rfl⟩))
  clear hS ok TQ
  have x2 : ((0 : Int) != 0) = false := by decide
  by_cases bb : 0 ≤ b ∧ b ≤ 64
  case neg =>
    have FF := Lib.hid (BAD.out bb)
    have WAY : (b < 0 ∧ decide (b < 0) = true) ∨ (decide (b < 0) = false ∧ 64 < b ∧ decide (64 < b) = true) := by
      by_cases h : b < 0
      · exact .inl ⟨h, decide_eq_true h⟩
      · exact .inr ⟨decide_eq_false h, by omega, decide_eq_true (by omega)⟩
    obtain ⟨c0, c1, fz⟩ := K2.out.cells
    have fz0 := fz 0
    have fz1 := fz 1
    clear BAD HQ bb fz
    rcases WAY with ⟨-, d1⟩ | ⟨d1, -, d2⟩
    · go_wp2_with fail
      clear c0 c1 fz0 fz1
      generalize (w2.setCell ⟨gr, 0, none⟩ (.int .i64 0)).setCell ⟨gr, 1, none⟩ (.int .i64 0) = w3 at *
      obtain ⟨-, p0, p1, pb⟩ := PT.out
      exact bodyPost_ret (v := fracV 0 0 2) (by simp [results, Try.results21, go_sem, fracV, p0, p1]) rfl ⟨0, 0, 2, rfl, FF.out, pb⟩
    · go_wp2_with fail
      clear c0 c1 fz0 fz1
      generalize (w2.setCell ⟨gr, 0, none⟩ (.int .i64 0)).setCell ⟨gr, 1, none⟩ (.int .i64 0) = w3 at *
      obtain ⟨-, p0, p1, pb⟩ := PT.out
      exact bodyPost_ret (v := fracV 0 0 2) (by simp [results, Try.results21, go_sem, fracV, p0, p1]) rfl ⟨0, 0, 2, rfl, FF.out, pb⟩
  have d1 : decide (b < 0) = false := decide_eq_false (by omega)
  have d2 : decide (64 < b) = false := decide_eq_false (by omega)
  obtain ⟨k, rfl⟩ := Int.eq_ofNat_of_zero_le bb.1
  have k64 : k ≤ 64 := by omega
  clear BAD PT bb
  have SL := Lib.hid (fun W => slice_hist gh k k64 W)
  have sl := SL.out w2
  have FZ := Lib.hid (show S = 0 → ShaR H k 0 0 5 from fun h => by rw [HQ.out]; exact .inr (.inr (.inl ⟨OK.out, ⟨by omega, by omega⟩, by rw [← HS.out]; exact h, rfl, rfl, rfl⟩)))
  have FG := Lib.hid (show 0 < S → ∀ V D E, IsFrac (hsum H k) S V D E → ShaR H k V D E from fun h V D E hf => by
    rw [HQ.out]
    exact .inr (.inr (.inr ⟨OK.out, ⟨by omega, by omega⟩, by rw [← HS.out]; exact h, k, rfl, k64, by rw [← HS.out]; exact hf⟩)))
  have NZ := Lib.hid (show ∀ k, k ≤ 64 → 0 ≤ hsum H k ∧ hsum H k ≤ S from fun k hk => ⟨hsum_nonneg (OK.out.less hk), by rw [HS.out]; exact hsum_mono OK.out.1 hk⟩)
  have HBB := Lib.hid K2.out.hb
  clear SL HQ OK HS
  go_wp2_with fail
  clear sl d1 d2 x2
  go_loopw [8, 30] (fun cv jv wr => ∃ j : Nat, j ≤ k ∧ jv = .int .i64 j ∧ cv = .int .i64 (hsum H j) ∧ wr = w2) (fun _ jv _ => k - (intOf jv).toNat)
  case atStart => exact ⟨0, Nat.zero_le _, rfl, rfl, rfl⟩
  case round =>
    obtain ⟨j, hj, rfl, rfl, rfl⟩ := hrel
    by_cases t1 : j < k
    · have j1 : (0 : Int) ≤ (j : Int) := by omega
      have j2 : (j : Int) < (k : Int) := by omega
      have cj := HBB.out.cell (k := j) (by omega)
      have SS := Lib.hid (show hsum H (j + 1) = hsum H j + H j from rfl)
      have n1 := NZ.out j (by omega)
      have n2 := NZ.out (j + 1) (by omega)
      rw [SS.out] at n2
      generalize hsum H j = C at *
      generalize H j = x at *
      have wC : IntKind.i64.wrap (C + x) = C + x := hwI (by omega) (by omega)
      clear FZ FG NZ
      go_wp2_with fail
      go_roundw
      case rel => exact ⟨j + 1, by omega, by go_num, by rw [SS.out], by first | rfl | trivial⟩
      case measure => simp [intOf]; omega
    obtain rfl : j = k := by omega
    have nk := NZ.out j k64
    generalize hsum H j = C at *
    have MK := Lib.hid (show ∀ W, Calls Try.prog 69 #[.int .i64 C, .int .i64 S] W (fun e w' => ∃ V D E, ShaR H j V D E ∧ e = .returned (fracV V D E) ∧ Below W.heap.size W w') from fun W => by
      by_cases sz : S = 0
      · rw [sz]
        refine (Make_zero C W).mono ?_
        rintro e w' ⟨V, D, E, ⟨rfl, rfl, rfl⟩, h, b⟩
        exact ⟨0, 0, 5, FZ.out sz, h, b⟩
      · refine (Make_any C S (by omega) (by omega) (by omega) (by omega) sz W).mono ?_
        rintro e w' ⟨V, D, E, h1, h, b⟩
        exact ⟨V, D, E, FG.out (by omega) V D E h1, h, b⟩)
    clear FZ FG NZ HBB nk
    go_wp2_with fail
    refine (MK.out wr).mono ?_
    rintro e w4 ⟨V, D, E, FF, rfl, st⟩
    have FF := Lib.hid FF
    have K4 := Lib.hid (K2.out.below st)
    unfold fracV
    obtain ⟨c0, c1, fz⟩ := K4.out.cells
    have fz0 := fz 0
    have fz1 := fz 1
    have PT := Lib.hid (K4.out.put V D)
    clear MK st fz K2 K4
    go_wp2_with fail
    clear c0 c1 fz0 fz1
    generalize (w4.setCell ⟨gr, 0, none⟩ (.int .i64 V)).setCell ⟨gr, 1, none⟩ (.int .i64 D) = w5 at *
    obtain ⟨-, p0, p1, pb⟩ := PT.out
    exact bodyPost_ret (v := fracV V D E) (by simp [results, Try.results21, go_sem, fracV, p0, p1]) rfl ⟨V, D, E, rfl, FF.out, pb⟩
theorem ShaR.det {H : Nat → Int} {b V D e V' D' e' : Int} (h : ShaR H b V D e) (g : ShaR H b V' D' e') : V' = V ∧ D' = D ∧ e' = e := by
  rcases h with ⟨h1, h2, h3, h4⟩ | ⟨h1, h2, h3, h4, h5⟩ | ⟨h1, h2, h3, h4, h5, h6⟩ | ⟨h1, h2, h3, k, h4, h5, h6⟩ <;> rcases g with ⟨g1, g2, g3, g4⟩ | ⟨g1, g2, g3, g4, g5⟩ | ⟨g1, g2, g3, g4, g5, g6⟩ | ⟨g1, g2, g3, j, g4, g5, g6⟩ <;> first
    | exact absurd h1 g1
    | exact absurd g1 h1
    | exact absurd h2 g2
    | exact absurd g2 h2
    | (exfalso; omega)
    | exact ⟨by omega, by omega, by omega⟩
    | (obtain rfl : j = k := by omega
       obtain ⟨p, q, t⟩ := frac_unique (show hsum H 64 ≠ 0 by omega) h6 g6
       exact ⟨p.symm, q.symm, t.symm⟩)
theorem QuaQ.det {H : Nat → Int} {fn fd z e z' e' : Int} (h : QuaQ H fn fd z e) (g : QuaQ H fn fd z' e') : z' = z ∧ e' = e := by
  rcases h with ⟨h1, h2, h3⟩ | ⟨h1, h2, h3, h4⟩ | ⟨h1, h2, h3, h4, h5⟩ | ⟨h1, h2, h3, h4, i, h5, h6, h7, h8⟩ <;> rcases g with ⟨g1, g2, g3⟩ | ⟨g1, g2, g3, g4⟩ | ⟨g1, g2, g3, g4, g5⟩ | ⟨g1, g2, g3, g4, j, g5, g6, g7, g8⟩ <;> first
    | exact absurd h1 g1
    | exact absurd g1 h1
    | exact absurd h2 g2
    | exact absurd g2 h2
    | (exfalso; omega)
    | exact ⟨by omega, by omega⟩
    | (refine ⟨?_, by omega⟩
       have : ¬ i < j := fun c => by have := g8 i c; omega
       have : ¬ j < i := fun c => by have := h8 j c; omega
       omega)
theorem MrgQ.det {A B X Y : Nat → Int} {x y : Int} (h : MrgQ A B X x) (g : MrgQ A B Y y) : y = x ∧ hC Y = hC X := by
  rcases h with ⟨h1, h2, h3⟩ | ⟨h1, h2, h3, h4, h5⟩ | ⟨h1, h2, h3, h4, h5⟩ <;> rcases g with ⟨g1, g2, g3⟩ | ⟨g1, g2, g3, g4, g5⟩ | ⟨g1, g2, g3, g4, g5⟩
  · exact ⟨by omega, hC_ext fun k _ => by rw [h3, g3]⟩
  · exact absurd ⟨g1, g2⟩ h1
  · exact absurd ⟨g1, g2⟩ h1
  · exact absurd ⟨h1, h2⟩ g1
  · exact ⟨by omega, hC_ext fun k _ => by rw [h5, g5]⟩
  · omega
  · exact absurd ⟨h1, h2⟩ g1
  · omega
  · exact ⟨by omega, hC_ext fun k hk => by rw [h5 k hk, g5 k hk]⟩
end Go.Proofs.Ytbcfafihkdddeaa

/- Classing, plain: the second moment and what the variance is of. -/
namespace Go.Proofs.Ytbcfafihkdddeaa
open Go.RowKit
set_option linter.unusedVariables false
set_option linter.unusedSimpArgs false

/-- The second moment of the first k counts. -/
def hmom2 (H : Nat → Int) (k : Nat) : Int := hsum (fun j => H j * (j : Int) * (j : Int)) k
theorem hmom2_bd {H : Nat → Int} : ∀ {n : Nat}, n ≤ 64 → HOk H n → 0 ≤ hmom2 H n ∧ hmom2 H n ≤ 63 * hmom H n
  | 0, _, _ => by simp [hmom2, hmom, hsum]
  | n + 1, hn, h => by
    have ih := hmom2_bd (n := n) (by omega) (h.less (by omega))
    have h0 := h.1 n (by omega)
    have e1 : hmom2 H (n + 1) = hmom2 H n + H n * (n : Int) * (n : Int) := rfl
    have e2 : hmom H (n + 1) = hmom H n + H n * (n : Int) := rfl
    have p0 : 0 ≤ H n * (n : Int) := Int.mul_nonneg h0 (by omega)
    have p1 : 0 ≤ H n * (n : Int) * (n : Int) := Int.mul_nonneg p0 (by omega)
    have p2 : H n * (n : Int) * (n : Int) ≤ H n * (n : Int) * 63 := Int.mul_le_mul_of_nonneg_left (by omega) p0
    rw [e1, e2]; omega
/-- The sum of the squares of what lies apart from k. -/
theorem hmom_off {H : Nat → Int} (k : Int) : ∀ {n : Nat}, (∀ j, j < n → 0 ≤ H j) → 0 ≤ hmom2 H n + k * k * hsum H n - 2 * (k * hmom H n)
  | 0, _ => by simp [hmom2, hmom, hsum]
  | n + 1, h => by
    have ih := hmom_off k (n := n) (fun j hj => h j (by omega))
    have h0 := h n (by omega)
    have e1 : hmom2 H (n + 1) = hmom2 H n + H n * (n : Int) * (n : Int) := rfl
    have e2 : hmom H (n + 1) = hmom H n + H n * (n : Int) := rfl
    have e3 : hsum H (n + 1) = hsum H n + H n := rfl
    rw [e1, e2, e3]
    have sq : 0 ≤ H n * (((n : Int) - k) * ((n : Int) - k)) := Int.mul_nonneg h0 (by
      rcases Int.le_total 0 ((n : Int) - k) with g | g
      · exact Int.mul_nonneg g g
      · exact Int.mul_nonneg_of_nonpos_of_nonpos g g)
    have ex : H n * (((n : Int) - k) * ((n : Int) - k)) = H n * (n : Int) * (n : Int) + k * k * H n - 2 * (k * (H n * (n : Int))) := by
      generalize (n : Int) = m
      generalize H n = a
      rw [Int.sub_mul, Int.mul_sub, Int.mul_sub, Int.mul_sub, Int.mul_sub, Int.mul_sub]
      rw [show a * (m * m) = a * m * m from (Int.mul_assoc a m m).symm, show a * (m * k) = k * (a * m) by rw [← Int.mul_assoc, Int.mul_comm], show a * (k * m) = k * (a * m) by rw [Int.mul_left_comm], show a * (k * k) = k * k * a from Int.mul_comm _ _]
      omega
    rw [Int.mul_add, Int.mul_add]
    omega
theorem hvar_nonneg {H : Nat → Int} : ∀ {n : Nat}, (∀ j, j < n → 0 ≤ H j) → 0 ≤ hsum H n * hmom2 H n - hmom H n * hmom H n
  | 0, _ => by simp [hmom2, hmom, hsum]
  | n + 1, h => by
    have ih := hvar_nonneg (n := n) (fun j hj => h j (by omega))
    have h0 := h n (by omega)
    have of := hmom_off (n : Int) (n := n) (fun j hj => h j (by omega))
    have e1 : hmom2 H (n + 1) = hmom2 H n + H n * (n : Int) * (n : Int) := rfl
    have e2 : hmom H (n + 1) = hmom H n + H n * (n : Int) := rfl
    have e3 : hsum H (n + 1) = hsum H n + H n := rfl
    rw [e1, e2, e3]
    have t := Int.mul_nonneg h0 of
    generalize hmom2 H n = B at *
    generalize hmom H n = M at *
    generalize hsum H n = S at *
    generalize H n = a at *
    generalize (n : Int) = m at *
    have x1 : a * (B + m * m * S - 2 * (m * M)) = a * B + a * (m * m * S) - 2 * (a * (m * M)) := by
      rw [Int.mul_sub, Int.mul_add, show a * (2 * (m * M)) = 2 * (a * (m * M)) from Int.mul_left_comm _ _ _]
    have x2 : (S + a) * (B + a * m * m) = S * B + a * (m * m * S) + a * B + a * m * (a * m) := by
      rw [Int.add_mul, Int.mul_add, Int.mul_add]
      rw [show S * (a * m * m) = a * (m * m * S) by rw [Int.mul_assoc a m m, Int.mul_left_comm, Int.mul_comm S], show a * (a * m * m) = a * m * (a * m) by rw [← Int.mul_assoc, Int.mul_comm (a * m) (a * m), Int.mul_assoc a (a * m) m, ]; simp [Int.mul_comm, Int.mul_left_comm]]
      omega
    have x3 : (M + a * m) * (M + a * m) = M * M + 2 * (a * (m * M)) + a * m * (a * m) := by
      rw [Int.add_mul, Int.mul_add, Int.mul_add]
      rw [show M * (a * m) = a * (m * M) by rw [Int.mul_comm M, Int.mul_assoc], show a * m * M = a * (m * M) from Int.mul_assoc _ _ _]
      omega
    rw [x2, x3]
    rw [x1] at t
    omega
/-- What the variance is of. -/
def hvar (H : Nat → Int) : Int := hsum H 64 * hmom2 H 64 - hmom H 64 * hmom H 64
theorem hvar_bd {H : Nat → Int} (h : HOk H 64) : 0 ≤ hvar H ∧ 4 * hvar H ≤ 3969 * (hsum H 64 * hsum H 64) := by
  refine ⟨hvar_nonneg h.1, ?_⟩
  have b2 := hmom2_bd (n := 64) (by omega) h
  have b1 := hmom_bd (n := 64) (by omega) h
  have s0 := hsum_nonneg h
  unfold hvar
  generalize hmom2 H 64 = B at *
  generalize hmom H 64 = M at *
  generalize hsum H 64 = S at *
  have t1 : S * B ≤ S * (63 * M) := Int.mul_le_mul_of_nonneg_left b2.2 s0
  have sq : 0 ≤ (63 * S - 2 * M) * (63 * S - 2 * M) := by
    rcases Int.le_total 0 (63 * S - 2 * M) with g | g
    · exact Int.mul_nonneg g g
    · exact Int.mul_nonneg_of_nonpos_of_nonpos g g
  have ex : (63 * S - 2 * M) * (63 * S - 2 * M) = 3969 * (S * S) - 252 * (S * M) + 4 * (M * M) := by
    rw [Int.sub_mul, Int.mul_sub, Int.mul_sub]
    rw [show 63 * S * (63 * S) = 3969 * (S * S) by rw [Int.mul_assoc, Int.mul_left_comm S 63 S]; omega, show 63 * S * (2 * M) = 126 * (S * M) by rw [Int.mul_assoc, Int.mul_left_comm S 2 M]; omega, show 2 * M * (63 * S) = 126 * (S * M) by rw [Int.mul_assoc, Int.mul_left_comm M 63 S, Int.mul_comm M S]; omega, show 2 * M * (2 * M) = 4 * (M * M) by rw [Int.mul_assoc, Int.mul_left_comm M 2 M]; omega]
    omega
  rw [ex] at sq
  rw [Int.mul_left_comm] at t1
  omega
/-- What Variance answers. -/
def VarQ (H : Nat → Int) (z e : Int) : Prop := (¬ HOk H 64 ∧ e = 2 ∧ z = 0) ∨ (HOk H 64 ∧ hsum H 64 = 0 ∧ e = 5 ∧ z = 0) ∨ (HOk H 64 ∧ 0 < hsum H 64 ∧ e = 0 ∧ z = hev (hvar H * 100) (hsum H 64 * hsum H 64))
theorem TotQ.det {H : Nat → Int} {n x n' x' : Int} (h : TotQ H n x) (g : TotQ H n' x') : n' = n ∧ x' = x := by
  rcases h with ⟨h1, h2, h3⟩ | ⟨h1, h2, h3⟩ <;> rcases g with ⟨g1, g2, g3⟩ | ⟨g1, g2, g3⟩
  · exact ⟨by omega, by omega⟩
  · exact absurd h1 g1
  · exact absurd g1 h1
  · exact ⟨by omega, by omega⟩
theorem MicQ.det {H : Nat → Int} {z e z' e' : Int} (h : MicQ H z e) (g : MicQ H z' e') : z' = z ∧ e' = e := by
  rcases h with ⟨h1, h2, h3⟩ | ⟨h1, h2, h3, h4⟩ | ⟨h1, h2, h3, h4⟩ <;> rcases g with ⟨g1, g2, g3⟩ | ⟨g1, g2, g3, g4⟩ | ⟨g1, g2, g3, g4⟩ <;> first
    | exact absurd h1 g1
    | exact absurd g1 h1
    | (rw [h2] at g2; exact absurd g2 (by omega))
    | (rw [g2] at h2; exact absurd h2 (by omega))
    | (subst h3 h4 g3 g4; exact ⟨rfl, rfl⟩)
    | (subst h2 h3 g2 g3; exact ⟨rfl, rfl⟩)
theorem VarQ.det {H : Nat → Int} {z e z' e' : Int} (h : VarQ H z e) (g : VarQ H z' e') : z' = z ∧ e' = e := by
  rcases h with ⟨h1, h2, h3⟩ | ⟨h1, h2, h3, h4⟩ | ⟨h1, h2, h3, h4⟩ <;> rcases g with ⟨g1, g2, g3⟩ | ⟨g1, g2, g3, g4⟩ | ⟨g1, g2, g3, g4⟩ <;> first
    | exact absurd h1 g1
    | exact absurd g1 h1
    | (rw [h2] at g2; exact absurd g2 (by omega))
    | (rw [g2] at h2; exact absurd h2 (by omega))
    | (subst h3 h4 g3 g4; exact ⟨rfl, rfl⟩)
    | (subst h2 h3 g2 g3; exact ⟨rfl, rfl⟩)
end Go.Proofs.Ytbcfafihkdddeaa

/- Classing: the second moment; Variance. -/
namespace Go.Proofs.Ytbcfafihkdddeaa
open Go.RowKit
set_option linter.unusedVariables false
set_option linter.unusedSimpArgs false

set_option maxRecDepth 100000 in
set_option maxHeartbeats 4000000 in
theorem moment2_any (H : Nat → Int) (ok : HOk H 64) (w : World) :
    Calls Try.prog 59 #[hV H, .int .i64 2] w fun e w' => e = .returned (.int .i64 (hmom2 H 64)) ∧ Below w.heap.size w w' := by
  have IX := Lib.hid (fun (k : Nat) (hk : k < 64) => index_hist H hk)
  have OK := Lib.hid ok
  have BD := Lib.hid (heap_alloc_new w (Obj.cells (hC H) 23))
  have B1 := Lib.hid (show Below w.heap.size w (w.alloc (Obj.cells (hC H) 23)) from (Below.refl _ w).alloc (Nat.le_refl _) _)
  clear ok
  go_enter Try.func59, Try.ntmps59
  go_upto_region 2 with fail
  generalize w.alloc (Obj.cells (hC H) 23) = w1 at *
  obtain ⟨g, hg⟩ : ∃ g, g = w.heap.size := ⟨_, rfl⟩
  rw [← hg] at BD ⊢
  clear hg
  go_upto_region 3 with (refine wpList_load_row rfl _ _ rfl g rfl _ (hC H) (0, 0) _ BD.out Try.underlying23 rfl (histSize' H) ?_)
  clear BD
  go_loopw [5, 9] (fun sv kv wr => ∃ k : Nat, k ≤ 64 ∧ kv = .int .i64 k ∧ sv = .int .i64 (hmom2 H k) ∧ wr = w1) (fun _ kv _ => 64 - (intOf kv).toNat)
  case atStart => exact ⟨0, by omega, rfl, rfl, rfl⟩
  case round =>
    obtain ⟨k, hk, rfl, rfl, rfl⟩ := hrel
    by_cases t1 : k < 64
    · have k2 : (k : Int) < 64 := by omega
      have ix := IX.out k t1
      have SS := Lib.hid (show hmom2 H (k + 1) = hmom2 H k + H k * (k : Int) * (k : Int) from rfl)
      have b1 := hmom2_bd (n := k) (by omega) (OK.out.less (by omega))
      have c1 := hmom_bd (n := k) (by omega) (OK.out.less (by omega))
      have b2 := (OK.out.less (k := k) (by omega)).2
      have b3 := hmom2_bd (n := k + 1) (by omega) (OK.out.less (by omega))
      have c3 := hmom_bd (n := k + 1) (by omega) (OK.out.less (by omega))
      have b4 := (OK.out.less (k := k + 1) (by omega)).2
      have SM := Lib.hid (show hmom H (k + 1) = hmom H k + H k * (k : Int) from rfl)
      rw [SS.out] at b3
      rw [SM.out] at b3 c3
      have xb : 0 ≤ H k ∧ H k ≤ 1048576 := by
        have h0 := OK.out.1 k (by omega)
        have h1 : hsum H (k + 1) = hsum H k + H k := rfl
        have h2 : 0 ≤ hsum H k := by have := hsum_mono (k := 0) (fun j hj => OK.out.1 j (by omega)) (Nat.zero_le k); exact this
        omega
      have p1 : H k * (k : Int) ≤ 1048576 * 63 := Int.mul_le_mul xb.2 (by omega) (by omega) (by omega)
      have p0 : 0 ≤ H k * (k : Int) := Int.mul_nonneg xb.1 (by omega)
      generalize hmom2 H k = S at *
      generalize hmom H k = S1 at *
      obtain ⟨y, hy⟩ : ∃ y, y = H k * (k : Int) := ⟨_, rfl⟩
      rw [← hy] at SS b3 c3 p0 p1
      have q0 : 0 ≤ y * (k : Int) := Int.mul_nonneg p0 (by omega)
      have q1 : y * (k : Int) ≤ 1048576 * 63 * 63 := Int.mul_le_mul p1 (by omega) (by omega) (by omega)
      obtain ⟨z, hz⟩ : ∃ z, z = y * (k : Int) := ⟨_, rfl⟩
      rw [← hz] at SS b3 q0 q1
      have wY : IntKind.i64.wrap (H k * (k : Int)) = y := by rw [← hy]; exact hwI (by omega) (by omega)
      have wY2 : wrap64 (H k * (k : Int)) = y := by rw [← IntWalk.i64_left]; exact wY
      have wM : IntKind.i64.wrap (y * (k : Int)) = z := by rw [← hz]; exact hwI (by omega) (by omega)
      have wM2 : wrap64 (y * (k : Int)) = z := by rw [← IntWalk.i64_left]; exact wM
      have wS : IntKind.i64.wrap (S + z) = S + z := hwI (by omega) (by omega)
      generalize H k = x at *
      clear hz hy b2 b4 SM c1 c3
      go_upto_region 6 with fail
      rename World => wv
      go_loopw [7, 14] (fun cv jv wq => ((jv = .int .i64 0 ∧ cv = .int .i64 x) ∨ (jv = .int .i64 1 ∧ cv = .int .i64 y) ∨ (jv = .int .i64 2 ∧ cv = .int .i64 z)) ∧ wq = wv) (fun _ jv _ => 2 - (intOf jv).toNat)
      case atStart => exact ⟨.inl ⟨rfl, rfl⟩, rfl⟩
      case round =>
        obtain ⟨h, rfl⟩ := hrel
        rcases h with ⟨rfl, rfl⟩ | ⟨rfl, rfl⟩ | ⟨rfl, rfl⟩
        · clear wS SS wM wM2
          go_wp2_with fail
          go_roundw
          case rel => exact ⟨.inr (.inl ⟨by go_num, by first | rfl | trivial⟩), by first | rfl | trivial⟩
          case measure => simp [intOf]
        · clear wS SS wY wY2
          go_wp2_with fail
          go_roundw
          case rel => exact ⟨.inr (.inr ⟨by go_num, by first | rfl | trivial⟩), by first | rfl | trivial⟩
          case measure => simp [intOf]
        · clear wM wM2 wY wY2
          go_wp2_with fail
          go_roundw
          case rel => exact ⟨k + 1, by omega, by go_num, by rw [SS.out], by first | rfl | trivial⟩
          case measure => simp [intOf]; omega
    obtain rfl : k = 64 := by omega
    clear OK IX
    go_wp2_with fail
    go_ret
    exact ⟨rfl, B1.out⟩

theorem muldiv_var (O S : Int) (h1 : 0 ≤ O) (h2 : 4 * O ≤ 3969 * (S * S)) (h3 : 0 < S) (h4 : S ≤ 1048576) (w : World) :
    Calls Try.prog 58 #[.int .i64 O, .int .i64 100, .int .i64 (S * S), .int .i64 4] w fun e w' => e = .returned (.tuple #[.int .i64 (hev (O * 100) (S * S)), .int .i64 0]) ∧ Below w.heap.size w w' := by
  have q0 : 0 < S * S := Int.mul_pos h3 h3
  have q1 : S * S ≤ 1048576 * 1048576 := Int.mul_le_mul h4 h4 (by omega) (by omega)
  generalize S * S = Q at *
  refine (MulDiv_ok O 100 Q 4 (wthB_true.2 (by omega)) (by decide) (wthB_true.2 (by omega)) (by decide) (by omega) w).mono ?_
  rintro e w' ⟨rfl, n, rfl⟩
  refine ⟨?_, hb_drewN w n⟩
  have e1 : decide (O < 0) = false := decide_eq_false (by omega)
  have e2 : decide (Q < 0) = false := decide_eq_false (by omega)
  have e3 : (!((!(decide (O < 0) == decide ((100 : Int) < 0))) == decide (Q < 0))) = false := by rw [e1, e2]; decide
  have e4 : ((O.natAbs : Int) * ((100 : Int).natAbs : Int)) = O * 100 := by rw [show ((100 : Int).natAbs : Int) = 100 from rfl]; omega
  have e5 : ((Q.natAbs : Nat) : Int) = Q := by omega
  rw [e3, e4, e5]
  have t := hev_two (O * 100) Q (by omega)
  have q : O * 100 / Q ≤ 99300 := by
    have : O * 100 ≤ 99300 * Q := by omega
    exact Int.ediv_le_of_le_mul (by omega) this
  have b : rndQ false (O * 100) Q 4 ≤ 1125899906842624 := by
    show hev (O * 100) Q ≤ _
    omega
  obtain ⟨v1, v2⟩ := rnd_ok b
  rw [v1, v2]
  rfl

set_option maxRecDepth 100000 in
set_option maxHeartbeats 4000000 in
theorem Variance_any (H : Nat → Int) (w : World) :
    Calls Try.prog 17 #[hV H] w fun e w' => ∃ z x, e = .returned (.tuple #[.int .i64 z, .int .i64 x]) ∧ VarQ H z x ∧ Below w.heap.size w w' := by
  have HQ := Lib.hid (show ∀ z e, VarQ H z e = ((¬ HOk H 64 ∧ e = 2 ∧ z = 0) ∨ (HOk H 64 ∧ hsum H 64 = 0 ∧ e = 5 ∧ z = 0) ∨ (HOk H 64 ∧ 0 < hsum H 64 ∧ e = 0 ∧ z = hev (hvar H * 100) (hsum H 64 * hsum H 64))) from fun _ _ => rfl)
  have CT := Lib.hid (fun W => Total_any H W)
  have CM := Lib.hid (fun (ok : HOk H 64) W => moment_any H ok W)
  have BD := Lib.hid (show HB (w.alloc (Obj.cells (hC H) 23)) w.heap.size H ∧ Below w.heap.size w (w.alloc (Obj.cells (hC H) 23)) from ⟨heap_alloc_new w (Obj.cells (hC H) 23), (Below.refl _ w).alloc (Nat.le_refl _) _⟩)
  go_enter Try.func17, Try.ntmps17
  go_upto_region 1 with fail
  generalize w.alloc (Obj.cells (hC H) 23) = w1 at *
  obtain ⟨g, hg⟩ : ∃ g, g = w.heap.size := ⟨_, rfl⟩
  have BD := Lib.hid (show HB w1 g H ∧ Below w.heap.size w w1 from by rw [hg]; exact BD.out)
  rw [← hg]
  clear hg
  go_wp2_with (refine wpList_load_row rfl _ _ rfl g rfl _ (hC H) (0, 0) _ BD.out.1 Try.underlying23 rfl (histSize' H) ?_)
  refine (CT.out w1).mono ?_
  rintro e w2 ⟨n, x, rfl, tq, st⟩
  have TQ := Lib.hid tq
  have BD2 := Lib.hid (show HB w2 g H ∧ Below w.heap.size w w2 from ⟨BD.out.1.keep (st.block _ BD.out.1.lt), BD.out.2.trans (st.mono BD.out.2.size)⟩)
  clear tq st BD CT
  by_cases x0 : x = 0
  case neg =>
    have x1 : (x == 0) = false := by simpa using x0
    have x2 : (x != 0) = true := by simpa using x0
    have FF := Lib.hid (show VarQ H 0 x from by
      rw [HQ.out]
      rcases TQ.out with ⟨_, a, _⟩ | ⟨a, b, _⟩
      · exact absurd a x0
      · exact .inl ⟨a, b, rfl⟩)
    clear x0 CM HQ
    go_wp2_with fail
    go_ret2
    exact ⟨0, x, rfl, FF.out, BD2.out.2⟩
  subst x0
  obtain ⟨ok, rfl⟩ : HOk H 64 ∧ n = hsum H 64 := by
    rcases TQ.out with ⟨a, _, b⟩ | ⟨_, a, _⟩
    · exact ⟨a, b⟩
    · omega
  have OK := Lib.hid ok
  have S0 := hsum_nonneg ok
  have S1 := ok.2
  have MB := hmom_bd (n := 64) (by omega) ok
  have MB2 := hmom2_bd (n := 64) (by omega) ok
  have VB := hvar_bd ok
  have CM2 := Lib.hid (CM.out ok)
  have CN := Lib.hid (fun W => moment2_any H ok W)
  have VE := Lib.hid (show hvar H = hsum H 64 * hmom2 H 64 - hmom H 64 * hmom H 64 from rfl)
  have MX := Lib.hid (show ∀ W, Calls Try.prog 58 #[.int .i64 (hvar H), .int .i64 100, .int .i64 (hsum H 64 * hsum H 64), .int .i64 4] W fun e w' => ∃ z x, e = .returned (.tuple #[.int .i64 z, .int .i64 x]) ∧ VarQ H z x ∧ Below W.heap.size W w' from fun W => by
    by_cases s0 : hsum H 64 = 0
    · have o0 : hvar H = 0 := by have := VB; rw [s0] at this; omega
      rw [o0, s0]
      refine (MulDiv_zero 0 100 4 (by decide) (by decide) (by decide) W).mono ?_
      rintro e w' ⟨rfl, rfl⟩
      exact ⟨0, 5, rfl, by rw [HQ.out]; exact .inr (.inl ⟨OK.out, s0, rfl, rfl⟩), Below.refl _ _⟩
    · refine (muldiv_var (hvar H) (hsum H 64) VB.1 VB.2 (by omega) S1 W).mono ?_
      rintro e w' ⟨rfl, st⟩
      exact ⟨_, 0, rfl, by rw [HQ.out]; exact .inr (.inr ⟨OK.out, by omega, rfl, rfl⟩), st⟩)
  have x1 : ((0 : Int) == 0) = true := by decide
  have x2 : ((0 : Int) != 0) = false := by decide
  clear ok CM TQ HQ
  have MX := Lib.hid MX.out
  obtain ⟨O, hO⟩ : ∃ O, O = hvar H := ⟨_, rfl⟩
  rw [← hO] at VB VE
  have MX2 := Lib.hid (show ∀ W, Calls Try.prog 58 #[.int .i64 O, .int .i64 100, .int .i64 (hsum H 64 * hsum H 64), .int .i64 4] W fun e w' => ∃ z x, e = .returned (.tuple #[.int .i64 z, .int .i64 x]) ∧ VarQ H z x ∧ Below W.heap.size W w' from by rw [hO]; exact MX.out)
  clear MX hO
  generalize hmom H 64 = M at *
  generalize hmom2 H 64 = B at *
  generalize hsum H 64 = S at *
  have p1 : S * B ≤ 1048576 * 4161798144 := Int.mul_le_mul S1 (by omega) MB2.1 (by omega)
  have p0 : 0 ≤ S * B := Int.mul_nonneg S0 MB2.1
  have r1 : M * M ≤ 66060288 * 66060288 := Int.mul_le_mul (by omega) (by omega) MB.1 (by omega)
  have r0 : 0 ≤ M * M := Int.mul_nonneg MB.1 MB.1
  have q1 : S * S ≤ 1048576 * 1048576 := Int.mul_le_mul S1 S1 S0 (by omega)
  have q0 : 0 ≤ S * S := Int.mul_nonneg S0 S0
  have wA : IntKind.i64.wrap (S * B) = S * B := hwI (by omega) (by omega)
  have wB : IntKind.i64.wrap (M * M) = M * M := hwI (by omega) (by omega)
  have wC : IntKind.i64.wrap (S * B - M * M) = O := by rw [← VE.out]; exact hwI (by rw [VE.out]; omega) (by rw [VE.out]; omega)
  have wD : IntKind.i64.wrap (S * S) = S * S := hwI (by omega) (by omega)
  clear p0 p1 q0 q1 r0 r1 MB MB2 VB VE
  go_wp2_with (refine wpList_load_row rfl _ _ rfl g rfl _ (hC H) (0, 0) _ BD2.out.1 Try.underlying23 rfl (histSize' H) ?_)
  refine (CM2.out w2).mono ?_
  rintro e w3 ⟨rfl, st⟩
  have BD3 := Lib.hid (show Below w.heap.size w w3 from BD2.out.2.trans (st.mono BD2.out.2.size))
  have BD3H := Lib.hid (show HB w3 g H from BD2.out.1.keep (st.block _ BD2.out.1.lt))
  clear st CM2
  clear BD2
  go_wp2_with (refine wpList_load_row rfl _ _ rfl g rfl _ (hC H) (0, 0) _ BD3H.out Try.underlying23 rfl (histSize' H) ?_)
  refine (CN.out w3).mono ?_
  rintro e w4 ⟨rfl, st⟩
  have BD4 := Lib.hid (show Below w.heap.size w w4 from BD3.out.trans (st.mono BD3.out.size))
  clear st CN BD3 BD3H
  go_wp2_with fail
  refine (MX2.out w4).mono ?_
  rintro e w5 ⟨z, x, rfl, vq, st⟩
  have FF := Lib.hid vq
  have BD5 := Lib.hid (BD4.out.trans (st.mono BD4.out.size))
  clear st vq BD4 MX2
  go_wp2_with fail
  go_ret2
  exact ⟨z, x, rfl, FF.out, BD5.out⟩
end Go.Proofs.Ytbcfafihkdddeaa

/- Classing: the reference's sum, Total, first, moments. -/
namespace Go.Proofs.Ytbcfafihkdddeaa
open Go.RowKit
set_option linter.unusedVariables false
set_option linter.unusedSimpArgs false

/-- What the reference's sum answers. -/
def SumQ (H : Nat → Int) (n : Int) (b : Bool) : Prop := (HOk H 64 ∧ b = true ∧ n = hsum H 64) ∨ (¬ HOk H 64 ∧ b = false)
/-- What first answers. -/
def FirQ (H : Nat → Int) (n e : Int) : Prop := (¬ HOk H 64 ∧ e = 2 ∧ n = 0) ∨ (HOk H 64 ∧ hsum H 64 = 0 ∧ e = 5 ∧ n = 0) ∨ (HOk H 64 ∧ 0 < hsum H 64 ∧ e = 0 ∧ n = hsum H 64)
theorem hsum_top {H : Nat → Int} : ∀ {k : Nat}, (∀ j, j < k → 0 ≤ H j ∧ H j ≤ 1048576) → 0 ≤ hsum H k ∧ hsum H k ≤ k * 1048576
  | 0, _ => by simp [hsum]
  | k + 1, h => by
    have ih := hsum_top (k := k) (fun j hj => h j (by omega))
    have := h k (by omega)
    show 0 ≤ hsum H k + H k ∧ hsum H k + H k ≤ ((k + 1 : Nat) : Int) * 1048576
    omega
theorem HB.alloc (w : World) (H : Nat → Int) : HB (w.alloc (Obj.cells (hC H) 23)) w.heap.size H ∧ Below w.heap.size w (w.alloc (Obj.cells (hC H) 23)) := ⟨heap_alloc_new w (Obj.cells (hC H) 23), (Below.refl _ w).alloc (Nat.le_refl _) _⟩

set_option maxRecDepth 100000 in
set_option maxHeartbeats 4000000 in
theorem rsum_any (H : Nat → Int) (w : World) :
    Calls Try.prog 57 #[hV H] w fun e w' => ∃ n b, e = .returned (.tuple #[.int .i64 n, .bool b]) ∧ SumQ H n b ∧ Below w.heap.size w w' := by
  have HQ := Lib.hid (show ∀ n b, SumQ H n b = ((HOk H 64 ∧ b = true ∧ n = hsum H 64) ∨ (¬ HOk H 64 ∧ b = false)) from fun _ _ => rfl)
  have BD := Lib.hid (HB.alloc w H)
  go_enter Try.func57, Try.ntmps57
  go_upto_region 1 with fail
  generalize w.alloc (Obj.cells (hC H) 23) = w1 at *
  obtain ⟨g, hg⟩ : ∃ g, g = w.heap.size := ⟨_, rfl⟩
  have HBB := Lib.hid (show HB w1 g H from by rw [hg]; exact BD.out.1)
  have B1 := Lib.hid BD.out.2
  rw [← hg]
  clear hg BD
  go_wp2_with fail
  go_loopw [4, 5] (fun sv kv wr => ∃ k : Nat, k ≤ 64 ∧ kv = .int .i64 k ∧ sv = .int .i64 (hsum H k) ∧ Hid (∀ j, j < k → 0 ≤ H j ∧ H j ≤ 1048576) ∧ wr = w1) (fun _ kv _ => 64 - (intOf kv).toNat)
  case atStart => exact ⟨0, by omega, rfl, rfl, Lib.hid fun j hj => by omega, rfl⟩
  case round =>
    obtain ⟨k, hk, rfl, rfl, OK, rfl⟩ := hrel
    by_cases t1 : k < 64
    · have k1 : (0 : Int) ≤ (k : Int) := by omega
      have k2 : (k : Int) < 64 := by omega
      have ck := HBB.out.cell t1
      have SS := Lib.hid (show hsum H (k + 1) = hsum H k + H k from rfl)
      have sb := hsum_top OK.out
      have BAD := Lib.hid (show ¬ (0 ≤ H k ∧ H k ≤ 1048576) → ∀ n, SumQ H n false from fun h n => by
        rw [HQ.out]
        exact .inr ⟨fun g => h (hok_at g t1), rfl⟩)
      have O2 := Lib.hid (show (0 ≤ H k ∧ H k ≤ 1048576) → ∀ j, j < k + 1 → 0 ≤ H j ∧ H j ≤ 1048576 from fun h j hj => by
        by_cases e : j = k
        · rw [e]; exact h
        · exact OK.out j (by omega))
      generalize hsum H k = S at *
      generalize H k = x at *
      clear OK HQ
      by_cases c1 : x < 0
      · have d1 : decide (x < 0) = true := decide_eq_true c1
        have FF := Lib.hid (BAD.out (by omega) 0)
        clear BAD O2 SS c1
        go_wp2_with fail
        go_ret2
        exact ⟨0, false, rfl, FF.out, B1.out⟩
      have d1 : decide (x < 0) = false := decide_eq_false c1
      by_cases c2 : 1048576 < x
      · have d2 : decide (1048576 < x) = true := decide_eq_true c2
        have FF := Lib.hid (BAD.out (by omega) 0)
        clear BAD O2 SS c1 c2
        go_wp2_with fail
        go_ret2
        exact ⟨0, false, rfl, FF.out, B1.out⟩
      have d2 : decide (1048576 < x) = false := decide_eq_false c2
      have O3 := Lib.hid (O2.out (by omega))
      have wS : IntKind.i64.wrap (S + x) = S + x := hwI (by omega) (by omega)
      clear BAD O2 c1 c2
      go_wp2_with fail
      go_roundw
      case rel => exact ⟨k + 1, by omega, by go_num, by rw [SS.out], O3, by first | rfl | trivial⟩
      case measure => simp [intOf]; omega
    obtain rfl : k = 64 := by omega
    have FF := Lib.hid (show SumQ H (hsum H 64) (decide (hsum H 64 ≤ 1048576)) from by
      rw [HQ.out]
      by_cases c : hsum H 64 ≤ 1048576
      · exact .inl ⟨⟨fun j hj => (OK.out j hj).1, c⟩, decide_eq_true c, rfl⟩
      · exact .inr ⟨fun g => c g.2, decide_eq_false c⟩)
    clear OK HQ HBB
    generalize hsum H 64 = S at *
    go_wp2_with fail
    go_ret2
    exact ⟨S, _, rfl, FF.out, B1.out⟩

set_option maxRecDepth 100000 in
set_option maxHeartbeats 4000000 in
theorem rTotal_any (H : Nat → Int) (w : World) :
    Calls Try.prog 12 #[hV H] w fun e w' => ∃ n x, e = .returned (.tuple #[.int .i64 n, .int .i64 x]) ∧ TotQ H n x ∧ Below w.heap.size w w' := by
  have CS := Lib.hid (fun W => rsum_any H W)
  have BD := Lib.hid (HB.alloc w H)
  go_enter Try.func12, Try.ntmps12
  go_upto_region 1 with fail
  generalize w.alloc (Obj.cells (hC H) 23) = w1 at *
  obtain ⟨g, hg⟩ : ∃ g, g = w.heap.size := ⟨_, rfl⟩
  have HBB := Lib.hid (show HB w1 g H from by rw [hg]; exact BD.out.1)
  have B1 := Lib.hid BD.out.2
  rw [← hg]
  clear hg BD
  go_wp2_with (refine wpList_load_row rfl _ _ rfl g rfl _ (hC H) (0, 0) _ HBB.out Try.underlying23 rfl (histSize' H) ?_)
  refine (CS.out w1).mono ?_
  rintro e w2 ⟨n, b, rfl, sq, st⟩
  have B2 := Lib.hid (B1.out.trans (st.mono B1.out.size))
  have Q := Lib.hid sq
  clear st sq CS HBB B1
  cases b
  · have FF := Lib.hid (show TotQ H 0 2 from by
      rcases Q.out with ⟨_, a, _⟩ | ⟨a, _⟩
      · cases a
      · exact .inr ⟨a, rfl, rfl⟩)
    clear Q
    go_wp2_with fail
    go_ret2
    exact ⟨0, 2, rfl, FF.out, B2.out⟩
  · have FF := Lib.hid (show TotQ H n 0 from by
      rcases Q.out with ⟨a, _, b⟩ | ⟨_, a⟩
      · exact .inl ⟨a, rfl, b⟩
      · cases a)
    clear Q
    go_wp2_with fail
    go_ret2
    exact ⟨n, 0, rfl, FF.out, B2.out⟩

set_option maxRecDepth 100000 in
set_option maxHeartbeats 4000000 in
theorem rfirst_any (H : Nat → Int) (w : World) :
    Calls Try.prog 60 #[hV H] w fun e w' => ∃ n x, e = .returned (.tuple #[.int .i64 n, .int .i64 x]) ∧ FirQ H n x ∧ Below w.heap.size w w' := by
  have CS := Lib.hid (fun W => rsum_any H W)
  have BD := Lib.hid (HB.alloc w H)
  go_enter Try.func60, Try.ntmps60
  go_upto_region 1 with fail
  generalize w.alloc (Obj.cells (hC H) 23) = w1 at *
  obtain ⟨g, hg⟩ : ∃ g, g = w.heap.size := ⟨_, rfl⟩
  have HBB := Lib.hid (show HB w1 g H from by rw [hg]; exact BD.out.1)
  have B1 := Lib.hid BD.out.2
  rw [← hg]
  clear hg BD
  go_wp2_with (refine wpList_load_row rfl _ _ rfl g rfl _ (hC H) (0, 0) _ HBB.out Try.underlying23 rfl (histSize' H) ?_)
  refine (CS.out w1).mono ?_
  rintro e w2 ⟨n, b, rfl, sq, st⟩
  have B2 := Lib.hid (B1.out.trans (st.mono B1.out.size))
  have Q := Lib.hid sq
  clear st sq CS HBB B1
  cases b
  · have FF := Lib.hid (show FirQ H 0 2 from by
      rcases Q.out with ⟨_, a, _⟩ | ⟨a, _⟩
      · cases a
      · exact .inl ⟨a, rfl, rfl⟩)
    clear Q
    go_wp2_with fail
    go_ret2
    exact ⟨0, 2, rfl, FF.out, B2.out⟩
  · obtain ⟨ok, hn⟩ : HOk H 64 ∧ n = hsum H 64 := by
      rcases Q.out with ⟨a, _, b⟩ | ⟨_, a⟩
      · exact ⟨a, b⟩
      · cases a
    have s0 := hsum_nonneg ok
    by_cases z : n = 0
    · have FF := Lib.hid (show FirQ H 0 5 from .inr (.inl ⟨ok, by omega, rfl, rfl⟩))
      have z1 : (n == 0) = true := by simpa using z
      clear Q ok hn s0 z
      go_wp2_with fail
      go_ret2
      exact ⟨0, 5, rfl, FF.out, B2.out⟩
    · have FF := Lib.hid (show FirQ H n 0 from .inr (.inr ⟨ok, by omega, rfl, hn⟩))
      have z1 : (n == 0) = false := by simpa using z
      clear Q ok hn s0 z
      go_wp2_with fail
      go_ret2
      exact ⟨n, 0, rfl, FF.out, B2.out⟩

set_option maxRecDepth 100000 in
set_option maxHeartbeats 4000000 in
theorem rmoments_any (H : Nat → Int) (ok : HOk H 64) (w : World) :
    Calls Try.prog 61 #[hV H] w fun e w' => e = .returned (.tuple #[.int .i64 (hmom H 64), .int .i64 (hmom2 H 64)]) ∧ Below w.heap.size w w' := by
  have OK := Lib.hid ok
  have BD := Lib.hid (HB.alloc w H)
  clear ok
  go_enter Try.func61, Try.ntmps61
  go_upto_region 1 with fail
  generalize w.alloc (Obj.cells (hC H) 23) = w1 at *
  obtain ⟨g, hg⟩ : ∃ g, g = w.heap.size := ⟨_, rfl⟩
  have HBB := Lib.hid (show HB w1 g H from by rw [hg]; exact BD.out.1)
  have B1 := Lib.hid BD.out.2
  rw [← hg]
  clear hg BD
  go_wp2_with fail
  go_loopw [4, 5, 6] (fun sv tv kv wr => ∃ k : Nat, k ≤ 64 ∧ kv = .int .i64 k ∧ sv = .int .i64 (hmom H k) ∧ tv = .int .i64 (hmom2 H k) ∧ wr = w1) (fun _ _ kv _ => 64 - (intOf kv).toNat)
  case atStart => exact ⟨0, by omega, rfl, rfl, rfl, rfl⟩
  case round =>
    obtain ⟨k, hk, rfl, rfl, rfl, rfl⟩ := hrel
    by_cases t1 : k < 64
    · have k1 : (0 : Int) ≤ (k : Int) := by omega
      have k2 : (k : Int) < 64 := by omega
      have ck := HBB.out.cell t1
      have SM := Lib.hid (show hmom H (k + 1) = hmom H k + H k * (k : Int) from rfl)
      have SS := Lib.hid (show hmom2 H (k + 1) = hmom2 H k + H k * (k : Int) * (k : Int) from rfl)
      have b1 := hmom2_bd (n := k) (by omega) (OK.out.less (by omega))
      have c1 := hmom_bd (n := k) (by omega) (OK.out.less (by omega))
      have b2 := (OK.out.less (k := k) (by omega)).2
      have b3 := hmom2_bd (n := k + 1) (by omega) (OK.out.less (by omega))
      have c3 := hmom_bd (n := k + 1) (by omega) (OK.out.less (by omega))
      have b4 := (OK.out.less (k := k + 1) (by omega)).2
      have xb := hok_at OK.out t1
      rw [SS.out, SM.out] at b3
      rw [SM.out] at c3
      have p1 : H k * (k : Int) ≤ 1048576 * 63 := Int.mul_le_mul xb.2 (by omega) (by omega) (by omega)
      have p0 : 0 ≤ H k * (k : Int) := Int.mul_nonneg xb.1 (by omega)
      generalize hmom2 H k = S at *
      generalize hmom H k = S1 at *
      obtain ⟨y, hy⟩ : ∃ y, y = H k * (k : Int) := ⟨_, rfl⟩
      rw [← hy] at SM SS b3 c3 p0 p1
      have q0 : 0 ≤ y * (k : Int) := Int.mul_nonneg p0 (by omega)
      have q1 : y * (k : Int) ≤ 1048576 * 63 * 63 := Int.mul_le_mul p1 (by omega) (by omega) (by omega)
      obtain ⟨z, hz⟩ : ∃ z, z = y * (k : Int) := ⟨_, rfl⟩
      rw [← hz] at SS b3 q0 q1
      have kk : (k : Int) * (k : Int) ≤ 63 * 63 := Int.mul_le_mul (by omega) (by omega) (by omega) (by omega)
      have kk0 : 0 ≤ (k : Int) * (k : Int) := Int.mul_nonneg (by omega) (by omega)
      have wY : IntKind.i64.wrap ((k : Int) * H k) = y := by rw [Int.mul_comm, ← hy]; exact hwI (by omega) (by omega)
      have wY2 : wrap64 ((k : Int) * H k) = y := by rw [← IntWalk.i64_left]; exact wY
      have wK : IntKind.i64.wrap ((k : Int) * (k : Int)) = (k : Int) * (k : Int) := hwI (by omega) (by omega)
      have wK2 : wrap64 ((k : Int) * (k : Int)) = (k : Int) * (k : Int) := by rw [← IntWalk.i64_left]; exact wK
      have wZ : IntKind.i64.wrap ((k : Int) * (k : Int) * H k) = z := by rw [show (k : Int) * (k : Int) * H k = z by rw [hz, hy, Int.mul_comm, Int.mul_assoc]]; exact hwI (by omega) (by omega)
      have wZ2 : wrap64 ((k : Int) * (k : Int) * H k) = z := by rw [← IntWalk.i64_left]; exact wZ
      have wA : IntKind.i64.wrap (S1 + y) = S1 + y := hwI (by omega) (by omega)
      have wB : IntKind.i64.wrap (S + z) = S + z := hwI (by omega) (by omega)
      generalize H k = x at *
      clear hz hy b1 b2 b3 b4 c1 c3 p0 p1 q0 q1 kk kk0 xb
      go_wp2_with fail
      go_roundw
      case rel => exact ⟨k + 1, by omega, by go_num, by rw [SM.out], by rw [SS.out], by first | rfl | trivial⟩
      case measure => simp [intOf]; omega
    obtain rfl : k = 64 := by omega
    clear OK HBB
    go_wp2_with fail
    go_ret2
    exact ⟨rfl, B1.out⟩
end Go.Proofs.Ytbcfafihkdddeaa

/- Numbers as rows of digits to the base 10000, the lowest first: plain facts for the reference's Big. -/
namespace Go.Proofs.Ytbcfafihkdddeaa
open Go.RowKit
set_option linter.unusedVariables false
set_option linter.unusedSimpArgs false

def dval : List Int → Int
  | [] => 0
  | d :: l => d + 10000 * dval l
def Digs (l : List Int) : Prop := ∀ x ∈ l, 0 ≤ x ∧ x < 10000
/-- No highest digit 0. -/
def Norm (l : List Int) : Prop := ∀ h : l ≠ [], l.getLast h ≠ 0

theorem Digs.nil : Digs [] := fun _ h => by cases h
theorem Digs.cons {d : Int} {l : List Int} : Digs (d :: l) ↔ (0 ≤ d ∧ d < 10000) ∧ Digs l := by simp [Digs]
theorem Digs.app {a b : List Int} : Digs (a ++ b) ↔ Digs a ∧ Digs b := by
  simp only [Digs, List.mem_append]
  exact ⟨fun h => ⟨fun x m => h x (.inl m), fun x m => h x (.inr m)⟩, fun ⟨h, k⟩ x m => m.elim (h x) (k x)⟩

theorem pow_pos' (n : Nat) : (1 : Int) ≤ 10000 ^ n := by
  induction n with
  | zero => simp
  | succ n ih => rw [Int.pow_succ]; omega
theorem pow_mono {a b : Nat} (h : a ≤ b) : (10000 : Int) ^ a ≤ 10000 ^ b := by
  obtain ⟨k, rfl⟩ := Nat.le.dest h
  rw [Int.pow_add]
  have := Int.mul_le_mul_of_nonneg_left (pow_pos' k) (show 0 ≤ (10000 : Int) ^ a by have := pow_pos' a; omega)
  omega

theorem dval_nonneg : ∀ {l : List Int}, Digs l → 0 ≤ dval l
  | [], _ => by simp [dval]
  | d :: l, h => by have ⟨a, b⟩ := Digs.cons.1 h; have := dval_nonneg b; simp only [dval]; omega
theorem dval_lt : ∀ {l : List Int}, Digs l → dval l < 10000 ^ l.length
  | [], _ => by simp [dval]
  | d :: l, h => by
    have ⟨a, b⟩ := Digs.cons.1 h
    have k := dval_lt b
    simp only [dval, List.length_cons, Int.pow_succ]
    omega
theorem dval_app : ∀ (a b : List Int), dval (a ++ b) = dval a + 10000 ^ a.length * dval b
  | [], b => by simp [dval]
  | d :: l, b => by
    simp only [List.cons_append, dval, dval_app l b, List.length_cons, Int.pow_succ]
    rw [Int.mul_add, Int.mul_comm (10000 ^ l.length) 10000, Int.mul_assoc]
    omega
theorem dval_snoc (a : List Int) (d : Int) : dval (a ++ [d]) = dval a + 10000 ^ a.length * d := by rw [dval_app]; simp [dval]
theorem snoc_of {l : List Int} (h : l ≠ []) : ∃ a, l = a ++ [l.getLast h] := ⟨l.dropLast, (List.dropLast_concat_getLast h).symm⟩

/-- A row without a highest digit 0 is at least the power of its length less one. -/
theorem Norm.ge {l : List Int} (n : Norm l) (h : Digs l) (e : l ≠ []) : (10000 : Int) ^ (l.length - 1) ≤ dval l := by
  obtain ⟨a, ha⟩ := snoc_of e
  have k := n e
  generalize l.getLast e = d at ha k
  subst ha
  have ⟨h1, h2⟩ := Digs.app.1 h
  have h3 := (Digs.cons.1 h2).1
  have p := dval_nonneg h1
  rw [dval_snoc]
  simp only [List.length_append, List.length_cons, List.length_nil, Nat.zero_add, Nat.add_sub_cancel]
  have q : (10000 : Int) ^ a.length * 1 ≤ 10000 ^ a.length * d := Int.mul_le_mul_of_nonneg_left (by omega) (by have := pow_pos' a.length; omega)
  omega
/-- A shorter row is less. -/
theorem dval_shorter {a b : List Int} (ha : Digs a) (hb : Digs b) (n : Norm b) (h : a.length < b.length) : dval a < dval b := by
  have e : b ≠ [] := by intro e; subst e; simp at h
  have k1 := dval_lt ha
  have k2 := n.ge hb e
  have k3 : (10000 : Int) ^ a.length ≤ 10000 ^ (b.length - 1) := pow_mono (by omega)
  omega
/-- Two rows that agree above a digit are told apart by it. -/
theorem dval_at {a b c : List Int} {x y : Int} (ha : Digs a) (hb : Digs b) (h : a.length = b.length) (t : x < y) : dval (a ++ x :: c) < dval (b ++ y :: c) := by
  rw [dval_app, dval_app, h]
  simp only [dval]
  have k1 := dval_lt ha
  have k2 := dval_nonneg hb
  rw [h] at k1
  have k3 : (10000 : Int) ^ b.length * (x + 10000 * dval c + 1) ≤ 10000 ^ b.length * (y + 10000 * dval c) := Int.mul_le_mul_of_nonneg_left (by omega) (by have := pow_pos' b.length; omega)
  rw [Int.mul_add _ _ 1] at k3
  omega
/-- Two rows of digits of one length and one value are one. -/
theorem dval_same : ∀ {a b : List Int}, Digs a → Digs b → a.length = b.length → dval a = dval b → a = b
  | [], [], _, _, _, _ => rfl
  | [], _ :: _, _, _, h, _ => by simp at h
  | _ :: _, [], _, _, h, _ => by simp at h
  | x :: a, y :: b, ha, hb, h, e => by
    have ⟨p, q⟩ := Digs.cons.1 ha
    have ⟨r, s⟩ := Digs.cons.1 hb
    simp only [dval] at e
    have e1 : x = y := by omega
    have e2 : dval a = dval b := by omega
    rw [e1, dval_same q s (by simpa using h) e2]
/-- Two such rows of one value are one. -/
theorem dval_inj {a b : List Int} (ha : Digs a) (hb : Digs b) (na : Norm a) (nb : Norm b) (e : dval a = dval b) : a = b := by
  refine dval_same ha hb ?_ e
  rcases Nat.lt_trichotomy a.length b.length with t | t | t
  · have := dval_shorter ha hb nb t; omega
  · exact t
  · have := dval_shorter hb ha na t; omega
end Go.Proofs.Ytbcfafihkdddeaa

/- Rows of digits to the base 10000: what the reference's loops over them keep. -/
namespace Go.Proofs.Ytbcfafihkdddeaa
open Go.RowKit
set_option linter.unusedVariables false
set_option linter.unusedSimpArgs false

/-- The digits, without a highest 0, of v. -/
structure Can (l : List Int) (v : Int) : Prop where
  digs : Digs l
  norm : Norm l
  val : dval l = v
theorem Can.nonneg {l : List Int} {v : Int} (c : Can l v) : 0 ≤ v := by rw [← c.val]; exact dval_nonneg c.digs
theorem Can.one {a b : List Int} {v : Int} (c : Can a v) (d : Can b v) : a = b := dval_inj c.digs d.digs c.norm d.norm (c.val.trans d.val.symm)
theorem Norm.nil : Norm [] := fun h => absurd rfl h
theorem Can.nil : Can [] 0 := ⟨Digs.nil, Norm.nil, rfl⟩
theorem Can.empty {l : List Int} {v : Int} (c : Can l v) : l = [] ↔ v = 0 := by
  constructor
  · intro h; rw [← c.val, h]; rfl
  · intro h; exact c.one (h ▸ Can.nil)
theorem Can.length_zero {l : List Int} {v : Int} (c : Can l v) : l.length = 0 ↔ v = 0 := by rw [List.length_eq_zero_iff]; exact c.empty
theorem Can.digit {d : Int} (h1 : 1 ≤ d) (h2 : d < 10000) : Can [d] d := ⟨by intro x m; simp at m; omega, by intro h; simp; omega, by simp [dval]⟩

theorem dval_zeros : ∀ {l : List Int}, (∀ x ∈ l, x = 0) → dval l = 0
  | [], _ => rfl
  | d :: l, h => by simp only [dval, dval_zeros (fun x m => h x (.tail _ m)), h d (.head _)]; omega
theorem dval_take_zeros {l : List Int} {k : Nat} (h : ∀ x ∈ l.drop k, x = 0) : dval (l.take k) = dval l := by
  have e := dval_app (l.take k) (l.drop k)
  rw [List.take_append_drop, dval_zeros h] at e
  omega
theorem Digs.take {l : List Int} (h : Digs l) (k : Nat) : Digs (l.take k) := fun x m => h x (List.mem_of_mem_take m)
theorem Digs.drop {l : List Int} (h : Digs l) (k : Nat) : Digs (l.drop k) := fun x m => h x (List.mem_of_mem_drop m)
theorem dval_set : ∀ (l : List Int) (i : Nat) (h : i < l.length) (x : Int), dval (l.set i x) = dval l + 10000 ^ i * (x - l[i])
  | [], i, h, _ => by simp at h
  | d :: l, 0, h, x => by simp [dval]; omega
  | d :: l, i + 1, h, x => by
    simp only [List.set_cons_succ, dval, dval_set l i (by simpa using h) x, Int.pow_succ, List.getElem_cons_succ]
    rw [Int.mul_add, Int.mul_comm (10000 ^ i) 10000, Int.mul_assoc]
    omega
theorem Digs.set {l : List Int} (h : Digs l) (i : Nat) {x : Int} (hx : 0 ≤ x ∧ x < 10000) : Digs (l.set i x) := fun y m => by
  rcases List.mem_or_eq_of_mem_set m with m | m
  · exact h y m
  · exact m ▸ hx

/-- The digit at a place, 0 beyond the row. -/
def gd (l : List Int) (k : Nat) : Int := (l[k]?).getD 0
theorem gd_in {l : List Int} {k : Nat} (h : k < l.length) : gd l k = l[k] := by simp [gd, h]
theorem gd_out {l : List Int} {k : Nat} (h : l.length ≤ k) : gd l k = 0 := by simp [gd, h]
theorem gd_le {l : List Int} (h : Digs l) (k : Nat) : 0 ≤ gd l k ∧ gd l k < 10000 := by
  by_cases c : k < l.length
  · rw [gd_in c]; exact h _ (List.getElem_mem c)
  · rw [gd_out (by omega)]; omega
theorem dval_drop (l : List Int) (k : Nat) : dval (l.drop k) = gd l k + 10000 * dval (l.drop (k + 1)) := by
  by_cases c : k < l.length
  · rw [List.drop_eq_getElem_cons c, gd_in c]; rfl
  · rw [List.drop_of_length_le (by omega), List.drop_of_length_le (by omega), gd_out (by omega)]; rfl
theorem carry_step {P u m z : Int} (h : u = m + 10000 * z) : P * u = P * m + P * 10000 * z := by rw [h, Int.mul_add, Int.mul_assoc]

/-- One step of the sum. -/
theorem add_step {a b o : List Int} {k : Nat} {c X : Int} (hl : o.length = k)
    (h : dval o + 10000 ^ k * (c + dval (a.drop k) + dval (b.drop k)) = X) :
    dval (o ++ [(c + gd a k + gd b k) % 10000]) + 10000 ^ (k + 1) * ((c + gd a k + gd b k) / 10000 + dval (a.drop (k + 1)) + dval (b.drop (k + 1))) = X := by
  rw [dval_snoc, hl, ← h, Int.pow_succ]
  rw [carry_step (P := 10000 ^ k) (u := c + dval (a.drop k) + dval (b.drop k)) (m := (c + gd a k + gd b k) % 10000) (z := (c + gd a k + gd b k) / 10000 + dval (a.drop (k + 1)) + dval (b.drop (k + 1)))
    (by rw [dval_drop a k, dval_drop b k]; omega)]
  omega
/-- One step of the difference. -/
theorem sub_step {a b o : List Int} {k : Nat} {c s c' X : Int} (hl : o.length = k) (hs : s - 10000 * c' = gd a k - gd b k - c)
    (h : dval o + 10000 ^ k * (dval (a.drop k) - dval (b.drop k) - c) = X) :
    dval (o ++ [s]) + 10000 ^ (k + 1) * (dval (a.drop (k + 1)) - dval (b.drop (k + 1)) - c') = X := by
  rw [dval_snoc, hl, ← h, Int.pow_succ]
  rw [carry_step (P := 10000 ^ k) (u := dval (a.drop k) - dval (b.drop k) - c) (m := s) (z := dval (a.drop (k + 1)) - dval (b.drop (k + 1)) - c')
    (by rw [dval_drop a k, dval_drop b k]; omega)]
  omega
theorem sub_end {o : List Int} {n : Nat} {c X : Int} (ho : Digs o) (hl : o.length = n) (h : dval o + 10000 ^ n * (0 - 0 - c) = X) (hc : c = 0 ∨ c = 1) (hX : 0 ≤ X) : dval o = X := by
  have q := dval_lt ho
  rw [hl] at q
  rcases hc with rfl | rfl
  · omega
  · rw [show ((0 : Int) - 0 - 1) = -1 from rfl, Int.mul_neg, Int.mul_one] at h; omega
/-- One step of a row times a digit, added in place. -/
theorem mul_step {b O : List Int} {i k : Nat} {ai c X : Int} (hi : i + k < O.length)
    (h : dval O + 10000 ^ (i + k) * (c + ai * dval (b.drop k)) = X) :
    dval (O.set (i + k) ((O[i + k] + ai * gd b k + c) % 10000)) + 10000 ^ (i + (k + 1)) * ((O[i + k] + ai * gd b k + c) / 10000 + ai * dval (b.drop (k + 1))) = X := by
  rw [dval_set _ _ hi, ← h, ← Nat.add_assoc, Int.pow_succ]
  have e : ai * dval (b.drop k) = ai * gd b k + 10000 * (ai * dval (b.drop (k + 1))) := by
    rw [dval_drop b k, Int.mul_add]; congr 1; rw [← Int.mul_assoc, ← Int.mul_assoc, Int.mul_comm ai 10000]
  rw [carry_step (P := 10000 ^ (i + k)) (u := c + ai * dval (b.drop k)) (m := (O[i + k] + ai * gd b k + c) % 10000 - O[i + k]) (z := (O[i + k] + ai * gd b k + c) / 10000 + ai * dval (b.drop (k + 1)))
    (by rw [e]; omega)]
  omega
theorem mul_carry {x y z c : Int} (hx : 0 ≤ x ∧ x < 10000) (hy : 0 ≤ y ∧ y < 10000) (hz : 0 ≤ z ∧ z < 10000) (hc : 0 ≤ c ∧ c < 10000) : 0 ≤ y * z ∧ y * z ≤ 99980001 ∧ 0 ≤ x + y * z + c ∧ x + y * z + c ≤ 99999999 := by
  have a : 0 ≤ y * z := Int.mul_nonneg hy.1 hz.1
  have b : y * z ≤ 9999 * z := Int.mul_le_mul_of_nonneg_right (by omega) hz.1
  omega
/-- The last carry of a row. -/
theorem mul_last {a b O : List Int} {i : Nat} {c X T : Int} (hi : i + b.length < O.length) (h0 : O[i + b.length] = 0)
    (h : dval O + 10000 ^ (i + b.length) * (c + gd a i * dval (b.drop b.length)) = T + 10000 ^ i * (gd a i * dval b))
    (hT : T + 10000 ^ i * (dval (a.drop i) * dval b) = X) :
    dval (O.set (i + b.length) c) + 10000 ^ (i + 1) * (dval (a.drop (i + 1)) * dval b) = X := by
  rw [dval_set _ _ hi, h0]
  rw [List.drop_length] at h
  simp only [dval, Int.mul_zero, Int.add_zero] at h
  rw [← hT, Int.pow_succ]
  have e : dval (a.drop i) * dval b = gd a i * dval b + 10000 * (dval (a.drop (i + 1)) * dval b) := by
    rw [dval_drop a i, Int.add_mul, Int.mul_assoc]
  rw [carry_step (P := 10000 ^ i) e]
  have e2 : c - 0 = c := by omega
  rw [e2]
  omega
/-- One digit of the quotient. -/
theorem div_step {a Q : List Int} {k : Nat} {B R r q : Int} (hk : k < Q.length)
    (h : dval (a.drop (k + 1)) = B * dval (Q.drop (k + 1)) + R) (hr : gd a k + 10000 * R = B * q + r) :
    dval (a.drop k) = B * dval ((Q.set k q).drop k) + r := by
  have e : (Q.set k q).drop k = q :: Q.drop (k + 1) := by
    rw [List.drop_eq_getElem_cons (by simpa using hk)]
    simp [List.drop_set]
  rw [dval_drop a k, h, e]
  simp only [dval]
  rw [Int.mul_add B q, ← Int.mul_assoc B 10000, Int.mul_comm B 10000, Int.mul_assoc 10000]
  omega
theorem div_bound {B R d : Int} (hR : 0 ≤ R ∧ R < B) (hd : 0 ≤ d ∧ d < 10000) : d + 10000 * R < B * 10000 := by omega
theorem div_end {A B q r : Int} (h : A = B * q + r) (h0 : 0 ≤ r) (h1 : r < B) : q = A / B ∧ r = A % B := by
  have hB : B ≠ 0 := by omega
  have e1 : A / B = q := by
    rw [h, Int.add_comm, Int.add_mul_ediv_left _ _ hB, Int.ediv_eq_zero_of_lt h0 h1]; omega
  have e2 := Int.mul_ediv_add_emod A B
  rw [e1] at e2
  exact ⟨e1.symm, by omega⟩
end Go.Proofs.Ytbcfafihkdddeaa
