/- Flow: the reference's Blend. -/
import Derived.Test.YtapffmaihkimkaaFP8
namespace Go.Proofs.Ytapffmaihkimkaa
open Go.RowKit
set_option linter.unusedVariables false
set_option linter.unusedSimpArgs false

set_option maxRecDepth 100000 in
set_option maxHeartbeats 8000000 in
theorem rBlend_any (p : Option Addr) (c m : Nat) (A : Nat → Pa) (b l h : Int) (w : World) (r : PaR w p m A) (lm : m ≤ 9223372036854775807) :
    Calls Try.prog 7 #[.slice p m c, .int .i64 b, .int .i64 l, .int .i64 h] w (BlQ m A b l h w) := by
  obtain ⟨i0, hi, hz0, hz1, hz2⟩ := info_parts intInfo
  have R := Lib.hid r
  have QE := Lib.hid (show ∀ x w', BErr m A b l h x → x ≠ 0 → Below w.heap.size w w' → BlQ m A b l h w (.returned (.tuple #[.slice none 0 0, .int .i64 0, .int .i64 x])) w' from fun x w' q g B => ⟨x, _, 0, rfl, B, .inl ⟨g, rfl, rfl, .inl q⟩⟩)
  clear r
  by_cases u0 : 6 < m
  · have d0 : decide ((6 : Int) < (m : Int)) = true := decide_eq_true (by omega)
    have FF := Lib.hid (QE.out 3 w (.inl ⟨u0, rfl⟩) (by decide) (Below.refl _ _))
    clear u0 R QE
    go_enter Try.func7, Try.ntmps7
    go_wp2_with fail
    go_returns
    exact FF.out
  have d0 : decide ((6 : Int) < (m : Int)) = false := decide_eq_false (by omega)
  have m6 : m ≤ 6 := by omega
  have BADQ := Lib.hid (show ¬ blOk b l h → BErr m A b l h 2 from fun g => .inr (.inl ⟨by omega, g, rfl⟩))
  have OKK := Lib.hid (show blOk b l h = ((1 ≤ b ∧ b ≤ 24) ∧ (0 ≤ l ∧ l ≤ 10000) ∧ (0 ≤ h ∧ h ≤ 10000)) from rfl)
  have RESQ := Lib.hid (show blOk b l h → ((∀ i, i < m → paOk (A i)) → BErr m A b l h 0) ∧ ∀ i, i < m → ¬ paOk (A i) → BErr m A b l h 2 from fun g => ⟨fun k => .inr (.inr (.inr ⟨by omega, g, k, rfl⟩)), fun i hi k => .inr (.inr (.inl ⟨by omega, g, fun k2 => k (k2 i hi), rfl⟩))⟩)
  clear u0
  by_cases u1 : b < 1
  · have d1 : decide (b < 1) = true := decide_eq_true u1
    have FF := Lib.hid (QE.out 2 w (BADQ.out (by rw [OKK.out]; omega)) (by decide) (Below.refl _ _))
    clear R u1 QE BADQ OKK RESQ
    go_enter Try.func7, Try.ntmps7
    go_wp2_with fail
    go_returns
    exact FF.out
  have d1 : decide (b < 1) = false := decide_eq_false u1
  by_cases u2 : 24 < b
  · have d2 : decide (24 < b) = true := decide_eq_true u2
    have FF := Lib.hid (QE.out 2 w (BADQ.out (by rw [OKK.out]; omega)) (by decide) (Below.refl _ _))
    clear R u1 u2 QE BADQ OKK RESQ
    go_enter Try.func7, Try.ntmps7
    go_wp2_with fail
    go_returns
    exact FF.out
  have d2 : decide (24 < b) = false := decide_eq_false u2
  by_cases z0 : 0 ≤ l ∧ l ≤ 10000
  case neg =>
    have f0 : decide (0 ≤ l ∧ l ≤ 10000) = false := decide_eq_false z0
    have FF := Lib.hid (QE.out 2 w (BADQ.out (by rw [OKK.out]; exact fun h => z0 h.2.1)) (by decide) (Below.refl _ _))
    clear R u1 u2 z0 QE BADQ OKK RESQ
    go_enter Try.func7, Try.ntmps7
    go_wp2_with fail
    refine (between_b l 10000 _ f0 _).mono ?_
    rintro e1 u1 ⟨rfl, rfl⟩
    go_wp2_with fail
    go_returns
    exact FF.out
  have f0 : decide (0 ≤ l ∧ l ≤ 10000) = true := decide_eq_true z0
  by_cases z1 : 0 ≤ h ∧ h ≤ 10000
  case neg =>
    have f1 : decide (0 ≤ h ∧ h ≤ 10000) = false := decide_eq_false z1
    have FF := Lib.hid (QE.out 2 w (BADQ.out (by rw [OKK.out]; exact fun h => z1 h.2.2)) (by decide) (Below.refl _ _))
    clear R u1 u2 z0 z1 QE BADQ OKK RESQ
    go_enter Try.func7, Try.ntmps7
    go_wp2_with fail
    refine (between_b l 10000 _ f0 _).mono ?_
    rintro e1 u1 ⟨rfl, rfl⟩
    go_wp2_with fail
    refine (between_b h 10000 _ f1 _).mono ?_
    rintro e1 u1 ⟨rfl, rfl⟩
    go_wp2_with fail
    go_returns
    exact FF.out
  have f1 : decide (0 ≤ h ∧ h ≤ 10000) = true := decide_eq_true z1
  have RES := Lib.hid (RESQ.out (by rw [OKK.out]; exact ⟨⟨by omega, by omega⟩, z0, z1⟩))
  have bb : 1 ≤ b ∧ b ≤ 24 := ⟨by omega, by omega⟩
  have wl : IntKind.i64.wrap (l * b) = l * b := hwI (by have := Int.mul_nonneg z0.1 (show 0 ≤ b by omega); omega) (by have := Int.mul_le_mul z0.2 bb.2 (by omega) (by omega); omega)
  have wh : IntKind.i64.wrap (h * b) = h * b := hwI (by have := Int.mul_nonneg z1.1 (show 0 ≤ b by omega); omega) (by have := Int.mul_le_mul z1.2 bb.2 (by omega) (by omega); omega)
  clear u1 u2 z0 z1 BADQ OKK RESQ
  go_enter Try.func7, Try.ntmps7
  go_wp2_with fail
  refine (between_b l 10000 _ f0 _).mono ?_
  rintro e1 u1 ⟨rfl, rfl⟩
  go_wp2_with fail
  refine (between_b h 10000 _ f1 _).mono ?_
  rintro e1 u1 ⟨rfl, rfl⟩
  go_wp2_with fail
  clear d0 d1 d2 f0 f1
  go_loopw [11] (fun kv wr => ∃ i : Nat, i ≤ m ∧ kv = .int .i64 i ∧ Hid (∀ j, j < i → paOk (A j)) ∧ Hid (Below w.heap.size w wr)) (fun kv _ => m - (intOf kv).toNat)
  case atStart => exact ⟨0, Nat.zero_le _, rfl, Lib.hid (fun j hj => by omega), Lib.hid (Below.refl _ _)⟩
  case round =>
    obtain ⟨i, hi', rfl, ALL, HB⟩ := hrel
    by_cases t1 : i < m
    · have i1 : (0 : Int) ≤ (i : Int) := by omega
      have i2 : (i : Int) < (m : Int) := by omega
      obtain ⟨x, rfl, -, a0, a1, a2, a3, a4⟩ := (R.out.below HB.out) i t1
      have BAD := Lib.hid (RES.out.2 i t1)
      have GOOD := Lib.hid (show paOk (A i) → ∀ j, j < i + 1 → paOk (A j) from fun h j hj => by
        by_cases e : j = i
        · rw [e]; exact h
        · exact ALL.out j (by omega))
      have PC := Lib.hid (fun W => parcel_any (A i).ba (A i).pr (A i).mi (A i).ve (A i).st W)
      have PE := Lib.hid (show paOk ⟨(A i).ba, (A i).pr, (A i).mi, (A i).ve, (A i).st⟩ = paOk (A i) from rfl)
      generalize (A i).ba = v0 at *
      generalize (A i).pr = v1 at *
      generalize (A i).mi = v2 at *
      generalize (A i).ve = v3 at *
      generalize (A i).st = v4 at *
      go_wp2_with fail
      refine (PC.out _).mono ?_
      rintro e1 u1 ⟨r, rfl, hr, st⟩
      have KB := Lib.hid (HB.out.trans (st.mono HB.out.size))
      rw [PE.out] at hr
      have HR := Lib.hid hr
      clear st PC PE HB a0 a1 a2 a3 a4 hr
      cases r with
      | false =>
        have FF := Lib.hid (QE.out 2 u1 (BAD.out (fun h => by have := HR.out.2 h; cases this)) (by decide) KB.out)
        clear BAD GOOD HR ALL RES QE
        go_wp2_with fail
        go_returns
        exact FF.out
      | true =>
        have A2 := Lib.hid (GOOD.out (HR.out.1 rfl))
        clear BAD GOOD HR ALL
        go_wp2_with fail
        go_roundw
        case rel => exact ⟨i + 1, by omega, by go_num, A2, KB⟩
        case measure => simp [intOf]; omega
    · obtain rfl : i = m := by omega
      have BE := Lib.hid (RES.out.1 ALL.out)
      clear RES QE
      go_upto_region 11 with fail
      have Z := Lib.hid (show (wr.alloc (Obj.cells #[Value.slice none 0 0, Value.int .i64 (-1)] 50)).heap[wr.heap.size]? = some (.cells #[Value.slice none 0 0, Value.int .i64 (-1)] 50 (0, 0)) ∧ Below w.heap.size w (wr.alloc (Obj.cells #[Value.slice none 0 0, Value.int .i64 (-1)] 50)) ∧ wr.heap.size < (wr.alloc (Obj.cells #[Value.slice none 0 0, Value.int .i64 (-1)] 50)).heap.size from ⟨heap_alloc_new wr _, HB.out.alloc HB.out.size _, by rw [box_size]; exact Nat.lt_succ_self _⟩)
      have S0 := Lib.hid (show w.heap.size ≤ wr.heap.size from HB.out.size)
      generalize wr.alloc (Obj.cells #[Value.slice none 0 0, Value.int .i64 (-1)] 50) = w4 at *
      clear HB
      generalize wr.heap.size = bs at *
      go_wp2_with (first
        | (at_make; refine wpList_make_full _ rfl _ _ 24 rfl w4.heap.size 3 i0 (.int .i64 0) 1 Try.underlying24 hi hz0 hz1 .i64 .i64 _ _ i rfl rfl (by omega) (by omega) (by rw [hz2]; omega) (by unfold maxLen; omega) (Nat.le_refl _) ?_; intro w5 hown0 hgrow0))
      rw [made_ints] at hown0
      have I5 := IR.of hown0
      have B5 : Below w4.heap.size w4 w5 := (Below.refl _ _).grown hgrow0 (Nat.le_refl _) (fun k e => by cases e)
      have X5 := Lib.hid (show RB bs w4.heap.size i w5 (.slice none 0 0) (-1) (fun _ => 0) from ⟨(B5.block _ Z.out.2.2).trans Z.out.1, I5⟩)
      have BW := Lib.hid (Z.out.2.1.trans (B5.mono Z.out.2.1.size))
      have LT := Lib.hid Z.out.2.2
      clear hown0 hgrow0 I5 B5 Z
      generalize w4.heap.size = br at *
      have RT := Lib.hid (R.out.below BW.out)
      have hp := Lib.hid (show ∀ x, p = some x → 0 < i → x.block < bs from fun x e h0 => by
        obtain ⟨y, e', k⟩ := R.out 0 h0
        rw [e] at e'; cases e'
        have := k.blk
        rw [addB] at this
        have := S0.out
        omega)
      have GC := Lib.hid (rbsea_any (c := c) (lo := l * b) (hi := h * b) LT.out m6 A ALL.out hp.out (baF A i) (fun j hj => if_pos hj) i 0 (Nat.zero_add i) b [] none w5 (.slice none 0 0) (-1) (fun _ => 0) rfl (by omega) bb.2 (fun e => by omega) X5.out (.inl ⟨rfl, rfl, rfl⟩) RT.out (fun j hj => by omega) (fun j hj => by omega))
      clear hp RT X5 m6 bb ALL
      go_wp2_with fail
      refine GC.out.mono ?_
      rintro e w9 ⟨rfl, v9, L9, O9, x9, hb9, -, f9⟩
      have B9 := Lib.hid (show Below w.heap.size w w9 from BW.out.trans ⟨f9.os, f9.tape, f9.output, f9.size, fun k hk => f9.block k (Nat.lt_of_lt_of_le hk BW.out.size) (RMod_not LT.out (.inl (Nat.lt_of_lt_of_le hk S0.out)))⟩)
      have c0 := x9.cell0
      have c1 := x9.cell1
      rcases hb9 with ⟨e1, rfl, rfl⟩ | ⟨ys, g, cc, e1, l0, rfl, hg, hy, nr⟩
      · have FF := Lib.hid (show BlQ i A b l h w (.returned (.tuple #[.slice none 0 0, .int .i64 0, .int .i64 13])) w9 from ⟨13, _, 0, rfl, B9.out, .inl ⟨by decide, rfl, rfl, .inr ⟨BE.out, rfl, e1⟩⟩⟩)
        clear x9 f9 e1 GC
        go_wp2_with fail
        go_returns
        exact FF.out
      · have FF := Lib.hid (show ∀ k, BlQ i A b l h w (.returned (.tuple #[.slice (some ⟨g, 0, none⟩) i cc, .int .i64 L9, .int .i64 0])) (w9.drewN k) from fun k => ⟨0, _, L9, rfl, below_drewN B9.out _, .inr ⟨rfl, BE.out, ys, g, cc, e1, rfl, hy, fun i hi => nr i hi⟩⟩)
        have e5 : decide (L9 < 0) = false := decide_eq_false (by omega)
        clear x9 f9 e1 GC nr hy hg l0
        go_upto_region 14 with fail
        go_region_law (fail)
        all_goals
          go_wp2_with fail
          go_returns
          first | exact FF.out 0 | exact FF.out 1 | exact FF.out _
end Go.Proofs.Ytapffmaihkimkaa
