/-
  The law TreeSets answers true for every input, and its input reads behind the call as it read before. Conditions: none beside the row's own.
-/
import Derived.Test.YtbphmcjjanchlaaTWS
import Derived.Test.YtbphmcjjanchlaaRows
import Derived.ProofKit
import Derived.OpenShut
import Derived.ChangeOld
import Derived.ChangeSlices
import Derived.Deep.Slices
import Derived.Carry
namespace Go.Proofs.Ytbphmcjjanchlaa.treeSets
open Go.ChangeShapes Go.WideShapes Go.ChangeAt Go.RowKit Go.Proofs.Ytbphmcjjanchlaa.Mii
set_option linter.unusedVariables false
set_option linter.unusedSimpArgs false

theorem own : ownKnob Try.prog.godebug = none := by kernel_rfl
theorem i64_of_wf {x : Int} (h : (Lit.int .i64 x).wf = true) : -9223372036854775808 ≤ x ∧ x ≤ 9223372036854775807 := by
  simp [Lit.wf, IntKind.min, IntKind.max, IntKind.signed, IntKind.bits] at h
  exact ⟨by omega, by omega⟩
theorem u16_of_wf {x : Int} (h : (Lit.int .u16 x).wf = true) : 0 ≤ x ∧ x ≤ 65535 := by
  simp [Lit.wf, IntKind.min, IntKind.max, IntKind.signed, IntKind.bits] at h
  exact ⟨by omega, by omega⟩
theorem u8_of_wf {x : Int} (h : (Lit.int .u8 x).wf = true) : 0 ≤ x ∧ x ≤ 255 := by
  simp [Lit.wf, IntKind.min, IntKind.max, IntKind.signed, IntKind.bits] at h
  exact ⟨by omega, by omega⟩
theorem laidOut : laidOutB Try.prog = true := by kernel_rfl
theorem getD_take {zs : List Int} {n i : Nat} (h : i < n) : (zs.take n).getD i 0 = zs.getD i 0 := by
  rw [List.getD_eq_getElem?_getD, List.getD_eq_getElem?_getD, List.getElem?_take, if_pos h]

theorem add_cell (a : Addr) (i j : Nat) (h : ¬ j = 0) : (a.add i).add j = ⟨(a.add i).block, (a.add i).off + j, none⟩ := by
  generalize a.add i = y
  unfold Addr.add
  rw [if_neg h]
set_option maxRecDepth 100000 in
theorem open_ops {H : Type} {enc : TypeId × Value → H} {W : World} {base : Nat} {sp : Nat → Bool} {hd : Bool} {fuel : Nat} {b : Option Addr} {n c : Nat} {x : DataW H × List MemPlace}
    (hf : DataW.trod enc Try.prog W base sp hd fuel 22 (Value.slice b n c).cells.toList = some x) : ∃ l : List OpV, n = l.length ∧ l.length ≤ 9223372036854775807 ∧ OpsR W b l := by
  rcases Go.Deep.open_slice Try.underlying22 hf with ⟨hcs, _⟩ | ⟨a, len, cap, m, q, D, Pl, hcs, _, hl, hm, hmm, _, hx⟩
  · simp [Value.cells] at hcs
    obtain ⟨rfl, rfl, rfl⟩ := hcs
    exact ⟨[], rfl, by simp, fun i h => by simp at h⟩
  · simp [Value.cells] at hcs
    obtain ⟨rfl, rfl, rfl⟩ := hcs
    have hle : n ≤ m := by rw [hmm]; split <;> omega
    have ce : Try.prog.cellsOf 107 = 5 := by kernel_rfl
    have each : ∀ i, i < n → ∃ o : OpV, W.cell? ((a.add (i * 5)).add 0) = some (.int .u8 o.kind) ∧ W.cell? ((a.add (i * 5)).add 1) = some (.int .u8 o.a) ∧ W.cell? ((a.add (i * 5)).add 2) = some (.int .u8 o.b) ∧ W.cell? ((a.add (i * 5)).add 3) = some (.int .i64 o.k) ∧ W.cell? ((a.add (i * 5)).add 4) = some (.int .i64 o.v) ∧ o.Ok := fun i hi => by
      obtain ⟨cs', h1, h2⟩ := hx i (by omega)
      rw [ce] at h1
      obtain ⟨_, hlen, hcell⟩ := World.cells?_some h1
      obtain ⟨xs, k, hk, hxy, _, hxl, hff⟩ := DataW.trod_struct Try.underlying107 h2
      match xs, hxl, cs', hlen with
      | [x0, x1, x2, x3, x4], _, [v0, v1, v2, v3, v4], _ =>
        have g0 := hff 0 _ rfl
        have g1 := hff 1 _ rfl
        have g2 := hff 2 _ rfl
        have g3 := hff 3 _ rfl
        have g4 := hff 4 _ rfl
        have cu : Try.prog.cellsOf 5 = 1 := by kernel_rfl
        have ci : Try.prog.cellsOf 3 = 1 := by kernel_rfl
        simp [cu, ci] at g0 g1 g2 g3 g4
        obtain ⟨u0, e0, _, w0⟩ := DataW.trod_int Try.underlying5 g0
        obtain ⟨u1, e1, _, w1⟩ := DataW.trod_int Try.underlying5 g1
        obtain ⟨u2, e2, _, w2⟩ := DataW.trod_int Try.underlying5 g2
        obtain ⟨u3, e3, _, w3⟩ := DataW.trod_int Try.underlying3 g3
        obtain ⟨u4, e4, _, w4⟩ := DataW.trod_int Try.underlying3 g4
        cases e0; cases e1; cases e2; cases e3; cases e4
        have f0 := hcell 0 (by omega)
        have f1 := hcell 1 (by omega)
        have f2 := hcell 2 (by omega)
        have f3 := hcell 3 (by omega)
        have f4 := hcell 4 (by omega)
        exact ⟨⟨u0, u1, u2, u3, u4⟩, by simpa using f0, by simpa using f1, by simpa using f2, by simpa using f3, by simpa using f4, u8_of_wf w0, u8_of_wf w1, u8_of_wf w2, i64_of_wf w3, i64_of_wf w4⟩
    obtain ⟨q, hq⟩ := choose_ops each
    refine ⟨(List.range n).map q, by simp, by simp; unfold maxLen at hm; omega, fun i h => ?_⟩
    have hi : i < n := by simpa using h
    obtain ⟨e0, e1, e2, e3, e4, ok⟩ := hq i hi
    have eq : ((List.range n).map q)[i] = q i := by simp
    rw [eq]
    rw [add_cell _ _ _ (by decide)] at e1 e2 e3 e4
    rw [show (a.add (i * 5)).add 0 = a.add (i * 5) from rfl] at e0
    refine ⟨a, rfl, ?_, e0, e1, e2, e3, e4, ok⟩
    have := World.block_lt_of_cell? W _ e0
    rwa [adb] at this
where choose_ops {n : Nat} {R : Nat → OpV → Prop} (h : ∀ i, i < n → ∃ o, R i o) : ∃ q : Nat → OpV, ∀ i, i < n → R i (q i) :=
  ⟨fun i => if hi : i < n then (h i hi).choose else ⟨0, 0, 0, 0, 0⟩, fun i hi => by simp only [hi, dif_pos]; exact (h i hi).choose_spec⟩
set_option maxRecDepth 100000 in
theorem lifted (os : Os) (started : os.Started) (H : Type) (enc : TypeId × Value → H) :
    ReturnsInHanded {} Try.checked os 9 .any (Rows.treeSetsSpec.pre6 enc Try.prog Try.f9 Rows.treeSetsRow.domain false) (Rows.treeSetsSpec.post enc Try.prog Try.f9 false true false false) := by
  refine returnsInHanded_of_change (C := Try.checked) own started (by kernel_rfl) Try.func9
    (ChangeSpec.witness6 (enc := enc) (C := Try.checked) false ⟨#[], #[.slice none 0 0, .int .u8 0, .int .u8 0, .int .i64 0], []⟩ 8 (by kernel_rfl) (by kernel_rfl) (by kernel_rfl) (by kernel_rfl)) ?_
  intro W base args ds gs before hval0 hW hcnd _
  have hval : ∀ (j : Nat) t v, Try.f9.params[j]? = some t → args[j]? = some v → Value.okWide Try.prog W .any base t v := hval0
  have hW' := hW
  obtain ⟨p, q, hA0, hV, rfl, hfz, hnd⟩ := hW
  have hA : DataW.TrodAll enc Try.prog W 0 (fun _ => true) true Try.f9.params.toList args.toList ds p := hA0
  rw [Try.params9] at hA hval
  obtain ⟨v0, vs0, d0, ds0, p0, q0, hargs, rfl, rfl, h0, r0⟩ := trodAll_cons hA
  obtain ⟨v1, vs1, d1, ds1, p1, q1, rfl, rfl, rfl, h1, r1⟩ := trodAll_cons r0
  obtain ⟨v2, vs2, d2, ds2, p2, q2, rfl, rfl, rfl, h2, r2⟩ := trodAll_cons r1
  obtain ⟨v3, vs3, d3, ds3, p3, q3, rfl, rfl, rfl, h3, r3⟩ := trodAll_cons r2
  obtain ⟨rfl, rfl, rfl⟩ := trodAll_nil r3
  obtain rfl : args = #[v0, v1, v2, v3] := by cases args; simp_all
  obtain ⟨rfl, rfl⟩ := trodVars_none hV
  obtain ⟨b0, n0, c0, rfl⟩ := okWide_slice Try.underlying22 (hval 0 22 v0 rfl rfl)
  have k0 := h0
  have lt0 : ∀ x ∈ p0, x.block < W.heap.size := by obtain ⟨m, hm⟩ := k0; exact DataW.trod_lt m _ _ _ hm
  obtain ⟨l0, hn0, z0, w0⟩ : ∃ l : List OpV, n0 = l.length ∧ l.length ≤ 9223372036854775807 ∧ OpsR W b0 l := by
    obtain ⟨fuel, hf⟩ := h0
    exact open_ops hf
  subst hn0
  obtain ⟨a1, rfl, rfl, rfl, w1⟩ := open_int Try.underlying5 (hval 1 5 v1 rfl rfl) h1
  have g1 := u8_of_wf w1
  obtain ⟨a2, rfl, rfl, rfl, w2⟩ := open_int Try.underlying5 (hval 2 5 v2 rfl rfl) h2
  have g2 := u8_of_wf w2
  obtain ⟨a3, rfl, rfl, rfl, w3⟩ := open_int Try.underlying3 (hval 3 3 v3 rfl rfl) h3
  have g3 := i64_of_wf w3
  clear hA0 hval0
  refine (treeSets_walk b0 c0 l0 W w0 z0 a1 g1 a2 g2 a3 g3).mono fun e W' ⟨he, hg⟩ => ?_
  subst he
  exact ⟨_, rfl, _, _, _, [], _, [], hW', trodAll_cons_mk (shut_bool Try.underlying4 _) trodAll_mk0, trodAll_cons_mk (Below.trod laidOut (by kernel_rfl) (of_decide_eq_true (by kernel_rfl)) k0 hg lt0) (trodAll_cons_mk (shut_int Try.underlying5 w1) (trodAll_cons_mk (shut_int Try.underlying5 w2) (trodAll_cons_mk (shut_int Try.underlying3 w3) trodAll_mk0))), rfl, hg.frame _, fun h => by cases h⟩

theorem over : Rows.treeSetsRow.holds Try.pinned (OpenSpec.ofChange Rows.treeSetsSpec) :=
  OpenClaim.holds_of_wide 9 Try.f9 rfl rfl rfl rfl rfl rfl rfl ⟨rfl, rfl, rfl, rfl, rfl⟩ rfl rfl rfl rfl rfl (by kernel_rfl) Try.func9 (by kernel_rfl)
    (of_decide_eq_true (by kernel_rfl)) (by unfold Func.isWrapper; rw [if_neg (of_decide_eq_false (by kernel_rfl))]; exact ⟨rfl, rfl⟩)
    (fun os started H enc _ => lifted os started H enc)

theorem proved : Rows.TreeSetsSaid := over
end Go.Proofs.Ytbphmcjjanchlaa.treeSets
