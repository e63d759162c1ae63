/- Classing: Quantile. -/
import Derived.Test.YthbgeikdamajlaaHQ0
import Derived.Deep.QuietTactic
namespace Go.Proofs.Ythbgeikdamajlaa
open Go.RowKit
set_option linter.unusedVariables false
set_option linter.unusedSimpArgs false

/-- A share from 0 to 1. -/
def FOk (fn fd : Int) : Prop := vldB fn fd = true ∧ 0 ≤ fn ∧ fn ≤ fd
/-- What Quantile answers. -/
def QuaQ (H : Nat → Int) (fn fd z e : Int) : Prop := (¬ HOk H 64 ∧ e = 2 ∧ z = 0) ∨ (HOk H 64 ∧ ¬ FOk fn fd ∧ e = 2 ∧ z = 0) ∨ (HOk H 64 ∧ FOk fn fd ∧ hsum H 64 = 0 ∧ e = 5 ∧ z = 0) ∨ (HOk H 64 ∧ FOk fn fd ∧ 0 < hsum H 64 ∧ e = 0 ∧ ∃ i : Nat, z = i ∧ i < 64 ∧ fn * hsum H 64 ≤ hsum H (i + 1) * fd ∧ ∀ j, j < i → hsum H (j + 1) * fd < fn * hsum H 64)
/-- The boxed histogram and fraction. -/
structure QB (w v : World) (gh gf : Nat) (H : Nat → Int) (fn fd : Int) : Prop where
  hb : HB v gh H
  f0 : v.cell? ⟨gf, 0, none⟩ = some (.int .i64 fn)
  f1 : v.cell? ⟨gf, 1, none⟩ = some (.int .i64 fd)
  lt : gf < v.heap.size
  bel : Below w.heap.size w v
theorem QB.below {w v v' : World} {gh gf : Nat} {H : Nat → Int} {fn fd : Int} (h : QB w v gh gf H fn fd) (b : Below v.heap.size v v') : QB w v' gh gf H fn fd :=
  ⟨h.hb.below b, (b.cell (p := ⟨gf, 0, none⟩) h.lt).trans h.f0, (b.cell (p := ⟨gf, 1, none⟩) h.lt).trans h.f1, Nat.lt_of_lt_of_le h.lt b.size, h.bel.trans (b.mono h.bel.size)⟩
theorem QB.new (w : World) (H : Nat → Int) (fn fd : Int) : QB w ((w.alloc (Obj.cells (hC H) 23)).alloc (Obj.cells #[Value.int .i64 fn, Value.int .i64 fd] 32)) w.heap.size (w.heap.size + 1) H fn fd := by
  refine ⟨?_, by simp [go_sem], by simp [go_sem], by simp, ((Below.refl _ w).alloc (Nat.le_refl _) _).alloc (by simp) _⟩
  show ((w.alloc _).alloc _).heap[w.heap.size]? = _
  rw [Below.heap_alloc _ _ _ (by simp), heap_alloc_new]

set_option maxRecDepth 100000 in
set_option maxHeartbeats 8000000 in
theorem Quantile_any (H : Nat → Int) (fn fd : Int) (n1 : -9223372036854775808 ≤ fn ∧ fn ≤ 9223372036854775807) (w : World) :
    Calls Try.prog 19 #[hV H, .agg #[.int .i64 fn, .int .i64 fd]] w fun e w' => ∃ z x, e = .returned (.tuple #[.int .i64 z, .int .i64 x]) ∧ QuaQ H fn fd z x ∧ Below w.heap.size w w' := by
  have HQ := Lib.hid (show ∀ z e, QuaQ H fn fd z e = ((¬ HOk H 64 ∧ e = 2 ∧ z = 0) ∨ (HOk H 64 ∧ ¬ FOk fn fd ∧ e = 2 ∧ z = 0) ∨ (HOk H 64 ∧ FOk fn fd ∧ hsum H 64 = 0 ∧ e = 5 ∧ z = 0) ∨ (HOk H 64 ∧ FOk fn fd ∧ 0 < hsum H 64 ∧ e = 0 ∧ ∃ i : Nat, z = i ∧ i < 64 ∧ fn * hsum H 64 ≤ hsum H (i + 1) * fd ∧ ∀ j, j < i → hsum H (j + 1) * fd < fn * hsum H 64)) from fun _ _ => rfl)
  have CT := Lib.hid (fun W => Total_any H W)
  have CV := Lib.hid (fun W => Valid_any fn fd n1.1 n1.2 W)
  have K0 := Lib.hid (QB.new w H fn fd)
  go_enter Try.func19, Try.ntmps19
  go_upto_region 1 with fail
  generalize (w.alloc (Obj.cells (hC H) 23)).alloc (Obj.cells #[Value.int .i64 fn, Value.int .i64 fd] 32) = w1 at *
  obtain ⟨gh, hgh⟩ : ∃ g, g = w.heap.size := ⟨_, rfl⟩
  obtain ⟨gf, hgf⟩ : ∃ g, g = w.heap.size + 1 := ⟨_, rfl⟩
  have K1 := Lib.hid (show QB w w1 gh gf H fn fd from by rw [hgh, hgf]; exact K0.out)
  rw [← hgf, ← hgh]
  clear hgh hgf K0
  go_wp2_with (refine wpList_load_row rfl _ _ rfl gh rfl _ (hC H) (0, 0) _ K1.out.hb Try.underlying23 rfl (histSize' H) ?_)
  refine (CT.out w1).mono ?_
  rintro e w2 ⟨S, x, rfl, tq, st⟩
  have TQ := Lib.hid tq
  have K2 := Lib.hid (K1.out.below st)
  clear tq st K1 CT
  by_cases x0 : x = 0
  case neg =>
    have x1 : (x == 0) = false := by simpa using x0
    have x2 : (x != 0) = true := by simpa using x0
    have FF := Lib.hid (show QuaQ H fn fd 0 x from by
      rw [HQ.out]
      rcases TQ.out with ⟨_, a, _⟩ | ⟨a, b, _⟩
      · exact absurd a x0
      · exact .inl ⟨a, b, rfl⟩)
    clear x0 CV HQ
    go_wp2_with fail
    go_ret2
    exact ⟨0, x, rfl, FF.out, K2.out.bel⟩
  subst x0
  obtain ⟨ok, hS⟩ : HOk H 64 ∧ S = hsum H 64 := by
    rcases TQ.out with ⟨a, _, b⟩ | ⟨_, a, _⟩
    · exact ⟨a, b⟩
    · omega
  have OK := Lib.hid ok
  have HS := Lib.hid hS
  have s0 : 0 ≤ S := by rw [hS]; exact hsum_nonneg ok
  have s1 : S ≤ 1048576 := by rw [hS]; exact ok.2
  have BAD := Lib.hid (show ¬ FOk fn fd → QuaQ H fn fd 0 2 from fun h => by rw [HQ.out]; exact .inr (.inl ⟨OK.out, h, rfl, rfl⟩))
  clear hS ok TQ
  obtain ⟨hb2, c0, c1, lt2, -⟩ := K2.out
  have x2 : ((0 : Int) != 0) = false := by decide
  go_wp2_with fail
  refine (CV.out w2).mono ?_
  rintro e w3 ⟨rfl, st⟩
  have K3 := Lib.hid (K2.out.below st)
  clear hb2 c0 c1 lt2 st K2 CV x2
  obtain ⟨-, c0, c1, lt3, -⟩ := K3.out
  by_cases v : vldB fn fd = true
  case neg =>
    have v1 : vldB fn fd = false := by simpa using v
    have FF := Lib.hid (BAD.out (fun h => v h.1))
    rw [v1]
    clear v BAD HQ
    go_wp2_with fail
    go_ret2
    exact ⟨0, 2, rfl, FF.out, K3.out.bel⟩
  have V := Lib.hid v
  rw [v]
  by_cases f0 : fn < 0
  · have d1 : decide (fn < 0) = true := decide_eq_true f0
    have FF := Lib.hid (BAD.out (fun h => by have := h.2.1; omega))
    clear v f0 BAD HQ V
    go_wp2_with fail
    go_ret2
    exact ⟨0, 2, rfl, FF.out, K3.out.bel⟩
  have d1 : decide (fn < 0) = false := decide_eq_false f0
  by_cases f1 : fd < fn
  · have d2 : decide (fd < fn) = true := decide_eq_true f1
    have FF := Lib.hid (BAD.out (fun h => by have := h.2.2; omega))
    clear v f0 f1 BAD HQ V
    go_wp2_with fail
    go_ret2
    exact ⟨0, 2, rfl, FF.out, K3.out.bel⟩
  have d2 : decide (fd < fn) = false := decide_eq_false f1
  have FO := Lib.hid (show FOk fn fd from ⟨V.out, by omega, by omega⟩)
  obtain ⟨b1, b2, b3, b4, -⟩ := vldB_true.1 v
  clear v BAD V
  by_cases z0 : S = 0
  · have FF := Lib.hid (show QuaQ H fn fd 0 5 from by rw [HQ.out]; exact .inr (.inr (.inl ⟨OK.out, FO.out, by rw [← HS.out]; exact z0, rfl, rfl⟩)))
    have z1 : (S == 0) = true := by simpa using z0
    clear HQ b3 b4 z0 f0 f1
    go_wp2_with fail
    go_ret2
    exact ⟨0, 5, rfl, FF.out, K3.out.bel⟩
  have z1 : (S == 0) = false := by simpa using z0
  have FIN := Lib.hid (show ∀ i : Nat, i < 64 → fn * S ≤ hsum H (i + 1) * fd → (∀ j, j < i → hsum H (j + 1) * fd < fn * S) → QuaQ H fn fd i 0 from fun i h1 h2 h3 => by
    rw [HQ.out]
    exact .inr (.inr (.inr ⟨OK.out, FO.out, by rw [← HS.out]; omega, rfl, i, rfl, h1, by rw [← HS.out]; exact h2, fun j hj => by rw [← HS.out]; exact h3 j hj⟩))
  )
  have NZ := Lib.hid (show ∀ k, k ≤ 64 → 0 ≤ hsum H k ∧ hsum H k ≤ S from fun k hk => ⟨hsum_nonneg (OK.out.less hk), by rw [HS.out]; exact hsum_mono OK.out.1 hk⟩)
  have END := Lib.hid (show ¬ hsum H 64 * fd < fn * S from fun h => by
    rw [← HS.out] at h
    have : fn * S ≤ fd * S := Int.mul_le_mul_of_nonneg_right (by omega) s0
    rw [Int.mul_comm fd S] at this
    omega)
  have AT := Lib.hid (show ∀ k, k < 64 → 0 ≤ H k ∧ H k ≤ 1048576 from fun k hk => hok_at OK.out hk)
  have H1 := Lib.hid (show hsum H 1 = H 0 from Int.zero_add _)
  obtain ⟨hb3, -, -, -, -⟩ := K3.out
  have ch := hb3.cell (k := 0) (by omega)
  have fs : 0 ≤ fn * S ∧ fn * S ≤ 1048576 * 1048576 := by
    refine ⟨Int.mul_nonneg (by omega) s0, ?_⟩
    exact Int.le_trans (Int.mul_le_mul_of_nonneg_right (show fn ≤ 1048576 by omega) s0) (Int.mul_le_mul_of_nonneg_left s1 (by omega))
  clear HQ OK FO HS b3 b4 z0 f0 f1 hb3
  go_upto_region 8 with fail
  go_quiet (fail)
  have K4 := Lib.hid (K3.out.below (hb_drewN w3 nq))
  generalize w3.drewN nq = w4 at *
  obtain ⟨hb4, c0, c1, lt4, bel4⟩ := K4.out
  have B4 := Lib.hid bel4
  have HB4 := Lib.hid hb4
  obtain ⟨Q, hQ⟩ : ∃ Q, Q = fn * S := ⟨_, rfl⟩
  rw [← hQ] at FIN END fs
  have wQ : IntKind.i64.wrap (fn * S) = Q := by rw [← hQ]; exact hwI (by omega) (by omega)
  have wQ2 : wrap64 (fn * S) = Q := by rw [← IntWalk.i64_left]; exact wQ
  clear hQ fs K3 K4 hb4 lt4 bel4 ch
  go_wp2_with fail
  go_loopw [8, 9] (fun iv cv wr => ∃ i : Nat, i < 64 ∧ iv = .int .i64 i ∧ cv = .int .i64 (hsum H (i + 1)) ∧ Hid (∀ j, j < i → hsum H (j + 1) * fd < Q) ∧ wr = w4) (fun iv _ _ => 64 - (intOf iv).toNat)
  case atStart => exact ⟨0, by omega, rfl, by rw [H1.out], Lib.hid (fun j hj => by omega), rfl⟩
  case round =>
    obtain ⟨i, hi, rfl, rfl, ALL, rfl⟩ := hrel
    have nz := NZ.out (i + 1) (by omega)
    have SS := Lib.hid (show hsum H (i + 1 + 1) = hsum H (i + 1) + H (i + 1) from rfl)
    have FI := Lib.hid (FIN.out i hi)
    have EN := Lib.hid (show hsum H (i + 1) * fd < Q → i + 1 < 64 from fun h => by
      apply Classical.byContradiction; intro g
      rw [show i + 1 = 64 by omega] at h
      have := END.out; omega)
    have AL2 := Lib.hid (show hsum H (i + 1) * fd < Q → ∀ j, j < i + 1 → hsum H (j + 1) * fd < Q from fun h j hj => by
      by_cases e : j = i
      · rw [e]; exact h
      · exact ALL.out j (by omega))
    have NX := Lib.hid (show i + 1 < 64 → 0 ≤ hsum H (i + 1) + H (i + 1) ∧ hsum H (i + 1) + H (i + 1) ≤ S from fun h => by
      have := NZ.out (i + 1 + 1) (by omega)
      rw [SS.out] at this; exact this)
    generalize hsum H (i + 1) = C at *
    obtain ⟨P, hP⟩ : ∃ P, P = C * fd := ⟨_, rfl⟩
    rw [← hP] at FI EN AL2
    have pb : 0 ≤ P ∧ P ≤ 1048576 * 1048576 := by
      rw [hP]
      exact ⟨Int.mul_nonneg nz.1 (by omega), Int.le_trans (Int.mul_le_mul_of_nonneg_right (show C ≤ 1048576 by omega) (by omega)) (Int.mul_le_mul_of_nonneg_left b2 (by omega))⟩
    have wP : IntKind.i64.wrap (C * fd) = P := by rw [← hP]; exact hwI (by omega) (by omega)
    have wP2 : wrap64 (C * fd) = P := by rw [← IntWalk.i64_left]; exact wP
    clear hP pb
    by_cases lt : P < Q
    · have d3 : decide (P < Q) = true := decide_eq_true lt
      have e64 := EN.out lt
      have nx := NX.out e64
      have A2 := Lib.hid (AL2.out lt)
      have wi : IntKind.i64.wrap ((i : Int) + 1) = (i : Int) + 1 := hwI (by omega) (by omega)
      have i1 : (0 : Int) ≤ (i : Int) + 1 := by omega
      have i2 : (i : Int) + 1 < 64 := by omega
      have ci := HB4.out.cell (k := i + 1) e64
      have ti : ((i : Int) + 1).toNat = i + 1 := by omega
      have wC : IntKind.i64.wrap (C + H (i + 1)) = C + H (i + 1) := hwI (by omega) (by omega)
      clear lt FI EN AL2 NX nx ALL
      go_wp2_with fail
      go_roundw
      case rel => exact ⟨i + 1, e64, by go_num, by rw [SS.out], A2, by first | rfl | trivial⟩
      case measure => simp [intOf]; omega
    · have d3 : decide (P < Q) = false := decide_eq_false lt
      have FF := Lib.hid (FI.out (by omega) ALL.out)
      clear lt FI EN AL2 NX
      go_wp2_with fail
      go_ret2
      exact ⟨i, 0, rfl, FF.out, B4.out⟩
end Go.Proofs.Ythbgeikdamajlaa
