/-
  The law ClassingLines answers true for every input, and its input reads behind the call as it read before. Conditions: none beside the row's own.
-/
import Derived.Test.YtmdhmpfagekonaaLY
import Derived.Test.YtmdhmpfagekonaaRows
import Derived.ProofKit
import Derived.OpenShut
import Derived.ChangeOld
import Derived.ChangeSlices
import Derived.Lib.SmallJoins
import Derived.Deep.SlicePairs
import Derived.Carry
namespace Go.Proofs.Ytmdhmpfagekonaa.classingLines
open Go.ChangeShapes Go.WideShapes Go.ChangeAt Go.RowKit Go.Proofs.Ytmdhmpfagekonaa.Ct Go.Proofs.Ytmdhmpfagekonaa.Ce
set_option linter.unusedVariables false
set_option linter.unusedSimpArgs false

theorem own : ownKnob Try.prog.godebug = none := by kernel_rfl
theorem i64_of_wf {x : Int} (h : (Lit.int .i64 x).wf = true) : -9223372036854775808 ≤ x ∧ x ≤ 9223372036854775807 := by
  simp [Lit.wf, IntKind.min, IntKind.max, IntKind.signed, IntKind.bits] at h
  exact ⟨by omega, by omega⟩
theorem u16_of_wf {x : Int} (h : (Lit.int .u16 x).wf = true) : 0 ≤ x ∧ x ≤ 65535 := by
  simp [Lit.wf, IntKind.min, IntKind.max, IntKind.signed, IntKind.bits] at h
  exact ⟨by omega, by omega⟩
theorem u8_of_wf {x : Int} (h : (Lit.int .u8 x).wf = true) : 0 ≤ x ∧ x ≤ 255 := by
  simp [Lit.wf, IntKind.min, IntKind.max, IntKind.signed, IntKind.bits] at h
  exact ⟨by omega, by omega⟩
theorem laidOut : laidOutB Try.prog = true := by kernel_rfl
theorem getD_take {zs : List Int} {n i : Nat} (h : i < n) : (zs.take n).getD i 0 = zs.getD i 0 := by
  rw [List.getD_eq_getElem?_getD, List.getD_eq_getElem?_getD, List.getElem?_take, if_pos h]

theorem add_posE (x : Addr) (i : Nat) (h : ¬ i = 0) : x.add i = ⟨x.block, x.off + i, none⟩ := by unfold Addr.add; rw [if_neg h]
theorem add_nul (y : Addr) : y.add 0 = y := rfl
theorem cellsI : Try.prog.cellsOf 3 = 1 := by kernel_rfl
theorem cellsU : Try.prog.cellsOf 5 = 1 := by kernel_rfl
theorem cellsK : Try.prog.cellsOf 35 = 4 := by kernel_rfl
theorem cellsA : Try.prog.cellsOf 55 = 6 := by kernel_rfl
section
variable {H : Type} {enc : TypeId × Value → H} {w : World} {base : Nat} {spare : Nat → Bool} {held : Bool}
theorem fl_of_cells {w : World} {x : Addr} {a b c d e f : Int} (c0 : w.cell? x = some (.int .u8 a)) (c1 : w.cell? (x.add 1) = some (.int .u8 b)) (c2 : w.cell? (x.add 2) = some (.int .u8 c)) (c3 : w.cell? (x.add 3) = some (.int .u8 d)) (c4 : w.cell? (x.add 4) = some (.int .i64 e)) (c5 : w.cell? (x.add 5) = some (.int .i64 f)) : FlAt w x ⟨a, b, c, d, e, f⟩ := by
  rw [add_posE _ _ (by omega)] at c1 c2 c3 c4 c5
  exact ⟨World.block_lt_of_cell? w _ c0, c0, c1, c2, c3, c4, c5⟩
set_option maxRecDepth 100000 in
theorem open_fls {fuel : Nat} {cs : List Value} {x : DataW H × List MemPlace} (h : DataW.trod enc Try.prog w base spare held fuel 22 cs = some x) :
    ∃ (p : Option Addr) (n c : Nat) (A : Nat → Fl), cs = [.slice p n c] ∧ n ≤ maxLen ∧ FlR w p n A ∧ ∀ k, k < n → (A k).kok := by
  rcases Go.Deep.open_slice Try.underlying22 h with ⟨rfl, _⟩ | ⟨a, len, cap, m, n, D, Pl, rfl, hb, hl, hm, hmm, _, hx⟩
  · exact ⟨none, 0, 0, fun _ => ⟨0, 0, 0, 0, 0, 0⟩, rfl, Nat.zero_le _, fun i hi => absurd hi (by simp), fun i hi => absurd hi (by simp)⟩
  have hle : len ≤ m := by rw [hmm]; split <;> omega
  have each : ∀ i, i < len → ∃ q : Fl, FlAt w (a.add (i * 6)) q ∧ q.kok := by
    intro i hi
    obtain ⟨cs', h1, h2⟩ := hx i (by omega)
    rw [cellsA] at h1
    obtain ⟨_, hlen, hcell⟩ := World.cells?_some h1
    obtain ⟨xs, k, _, _, _, hxl, hf⟩ := DataW.trod_struct Try.underlying55 h2
    match cs', hlen, xs, hxl with
    | [v0, v1, v2, v3, v4, v5], _, [y0, y1, y2], _ =>
      have g0 : DataW.trod enc Try.prog w base spare held k 35 (([v0, v1, v2, v3, v4, v5].drop 0).take (Try.prog.cellsOf 35)) = some y0 := hf 0 _ rfl
      have g1 : DataW.trod enc Try.prog w base spare held k 3 (([v0, v1, v2, v3, v4, v5].drop 4).take (Try.prog.cellsOf 3)) = some y1 := hf 1 _ rfl
      have g2 : DataW.trod enc Try.prog w base spare held k 3 (([v0, v1, v2, v3, v4, v5].drop 5).take (Try.prog.cellsOf 3)) = some y2 := hf 2 _ rfl
      rw [cellsI] at g1 g2
      rw [cellsK] at g0
      obtain ⟨ys, k2, _, _, _, hyl, hg⟩ := DataW.trod_array Try.underlying35 g0
      match ys, hyl with
      | [t0, t1, t2, t3], _ =>
        have q0 := hg 0 (by omega)
        have q1 := hg 1 (by omega)
        have q2 := hg 2 (by omega)
        have q3 := hg 3 (by omega)
        rw [cellsU] at q0 q1 q2 q3
        obtain ⟨u0, e0, -, w0⟩ := DataW.trod_int Try.underlying5 q0
        obtain ⟨u1, e1, -, w1⟩ := DataW.trod_int Try.underlying5 q1
        obtain ⟨u2, e2, -, w2⟩ := DataW.trod_int Try.underlying5 q2
        obtain ⟨u3, e3, -, w3⟩ := DataW.trod_int Try.underlying5 q3
        obtain ⟨u4, e4, -, -⟩ := DataW.trod_int Try.underlying3 g1
        obtain ⟨u5, e5, -, -⟩ := DataW.trod_int Try.underlying3 g2
        have d0 := hcell 0 (by omega)
        have d1 := hcell 1 (by omega)
        have d2 := hcell 2 (by omega)
        have d3 := hcell 3 (by omega)
        have d4 := hcell 4 (by omega)
        have d5 := hcell 5 (by omega)
        rw [add_nul] at d0
        simp at e0 e1 e2 e3 e4 e5 d0 d1 d2 d3 d4 d5
        subst e0 e1 e2 e3 e4 e5
        exact ⟨_, fl_of_cells d0 d1 d2 d3 d4 d5, u8_of_wf w0, u8_of_wf w1, u8_of_wf w2, u8_of_wf w3⟩
  obtain ⟨q, hq⟩ := Go.Deep.choose_lt each
  exact ⟨some a, len, cap, q, rfl, by omega, fun i hi => ⟨a, rfl, (hq i hi).1⟩, fun i hi => (hq i hi).2⟩
end
theorem cellsD : Try.prog.cellsOf 24 = 3 := by kernel_rfl
set_option maxRecDepth 100000 in
theorem lifted (os : Os) (started : os.Started) (H : Type) (enc : TypeId × Value → H) :
    ReturnsInHanded {} Try.checked os 3 .any (Rows.classingLinesSpec.pre6 enc Try.prog Try.f3 Rows.classingLinesRow.domain false) (Rows.classingLinesSpec.post enc Try.prog Try.f3 false true false false) := by
  refine returnsInHanded_of_change (C := Try.checked) own started (by kernel_rfl) Try.func3
    (ChangeSpec.witness6 (enc := enc) (C := Try.checked) false ⟨#[], #[.slice none 0 0, .agg #[.int .i64 0, .int .i64 0, .int .i64 0]], []⟩ 8 (by kernel_rfl) (by kernel_rfl) (by kernel_rfl) (by kernel_rfl)) ?_
  intro W base args ds gs before hval0 hW hcnd _
  have hval : ∀ (j : Nat) t v, Try.f3.params[j]? = some t → args[j]? = some v → Value.okWide Try.prog W .any base t v := hval0
  have hW' := hW
  obtain ⟨p, q, hA0, hV, rfl, hfz, hnd⟩ := hW
  have hA : DataW.TrodAll enc Try.prog W 0 (fun _ => true) true Try.f3.params.toList args.toList ds p := hA0
  rw [Try.params3] at hA hval
  obtain ⟨v0, vs0, d0, ds0, p0, q0, hargs, rfl, rfl, h0, r0⟩ := trodAll_cons hA
  obtain ⟨v1, vs1, d1, ds1, p1, q1, rfl, rfl, rfl, h1, r1⟩ := trodAll_cons r0
  obtain ⟨rfl, rfl, rfl⟩ := trodAll_nil r1
  obtain rfl : args = #[v0, v1] := by cases args; simp_all
  obtain ⟨rfl, rfl⟩ := trodVars_none hV
  obtain ⟨b0, n0, c0, rfl⟩ := okWide_slice Try.underlying22 (hval 0 22 v0 rfl rfl)
  have k0 := h0
  have lt0 : ∀ x ∈ p0, x.block < W.heap.size := by obtain ⟨m, hm⟩ := k0; exact DataW.trod_lt m _ _ _ hm
  obtain ⟨l0, z0, w0, kk0⟩ : ∃ l : Nat → Fl, n0 ≤ 9223372036854775807 ∧ FlR W b0 n0 l ∧ ∀ k, k < n0 → (l k).kok := by
    obtain ⟨fuel, hf⟩ := h0
    obtain ⟨p', n', c', l, hcs, hl, ha⟩ := open_fls hf
    simp [Value.cells] at hcs
    obtain ⟨rfl, rfl, rfl⟩ := hcs
    exact ⟨l, by unfold maxLen at hl; omega, ha⟩
  have k1 := h1
  have lt1 : ∀ x ∈ p1, x.block < W.heap.size := by obtain ⟨m, hm⟩ := k1; exact DataW.trod_lt m _ _ _ hm
  obtain ⟨c10, c11, c12, y10, y11, y12, nn1, rfl, hd1, hp1, s10, s11, s12⟩ := Go.Joins.open_agg3 Try.underlying24 (by kernel_rfl) cellsD (hval 1 24 v1 rfl rfl) h1
  obtain ⟨x10, e10, -, -⟩ := DataW.trod_int Try.underlying3 s10
  simp at e10
  subst e10
  obtain ⟨x11, e11, -, -⟩ := DataW.trod_int Try.underlying3 s11
  simp at e11
  subst e11
  obtain ⟨x12, e12, -, -⟩ := DataW.trod_int Try.underlying3 s12
  simp at e12
  subst e12
  clear hA0 hval0
  refine (classingLines_walk b0 c0 n0 l0 W w0 z0 kk0 x10 x11 x12).mono fun e W' ⟨he, hg⟩ => ?_
  subst he
  exact ⟨_, rfl, _, _, _, [], _, [], hW', trodAll_cons_mk (shut_bool Try.underlying4 _) trodAll_mk0, trodAll_cons_mk (Below.trod laidOut (by kernel_rfl) (of_decide_eq_true (by kernel_rfl)) k0 hg lt0) (trodAll_cons_mk (Below.trod laidOut (by kernel_rfl) (of_decide_eq_true (by kernel_rfl)) k1 hg lt1) trodAll_mk0), rfl, hg.frame _, fun h => by cases h⟩

theorem over : Rows.classingLinesRow.holds Try.pinned (OpenSpec.ofChange Rows.classingLinesSpec) :=
  OpenClaim.holds_of_wide 3 Try.f3 rfl rfl rfl rfl rfl rfl rfl ⟨rfl, rfl, rfl, rfl, rfl⟩ rfl rfl rfl rfl rfl (by kernel_rfl) Try.func3 (by kernel_rfl)
    (of_decide_eq_true (by kernel_rfl)) (by unfold Func.isWrapper; rw [if_neg (of_decide_eq_false (by kernel_rfl))]; exact ⟨rfl, rfl⟩)
    (fun os started H enc _ => lifted os started H enc)

theorem proved : Rows.ClassingLinesSaid := over
end Go.Proofs.Ytmdhmpfagekonaa.classingLines
