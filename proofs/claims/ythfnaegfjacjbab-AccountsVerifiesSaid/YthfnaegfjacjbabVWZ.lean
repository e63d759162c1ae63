/-
  The law AccountsVerifies answers true for every input, and its input reads behind the call as it read before. Conditions: none beside the row's own.
-/
import Derived.Test.YthfnaegfjacjbabVW1
import Derived.Test.YthfnaegfjacjbabRows
import Derived.ProofKit
import Derived.OpenShut
import Derived.ChangeOld
import Derived.ChangeSlices
import Derived.Deep.SlicePairs
import Derived.Carry
namespace Go.Proofs.Ythfnaegfjacjbab.accountsVerifies
open Go.ChangeShapes Go.WideShapes Go.ChangeAt Go.RowKit
set_option linter.unusedVariables false
set_option linter.unusedSimpArgs false

theorem own : ownKnob Try.prog.godebug = none := by kernel_rfl
theorem i64_of_wf {x : Int} (h : (Lit.int .i64 x).wf = true) : -9223372036854775808 ≤ x ∧ x ≤ 9223372036854775807 := by
  simp [Lit.wf, IntKind.min, IntKind.max, IntKind.signed, IntKind.bits] at h
  exact ⟨by omega, by omega⟩
theorem u16_of_wf {x : Int} (h : (Lit.int .u16 x).wf = true) : 0 ≤ x ∧ x ≤ 65535 := by
  simp [Lit.wf, IntKind.min, IntKind.max, IntKind.signed, IntKind.bits] at h
  exact ⟨by omega, by omega⟩
theorem u8_of_wf {x : Int} (h : (Lit.int .u8 x).wf = true) : 0 ≤ x ∧ x ≤ 255 := by
  simp [Lit.wf, IntKind.min, IntKind.max, IntKind.signed, IntKind.bits] at h
  exact ⟨by omega, by omega⟩
theorem laidOut : laidOutB Try.prog = true := by kernel_rfl
theorem add_pos (y : Addr) (k : Nat) (h : k ≠ 0) : y.add k = ⟨y.block, y.off + k, none⟩ := by unfold Addr.add; rw [if_neg h]
instance : Inhabited Rc := ⟨⟨0, 0, 0, 0, none, 0, []⟩⟩
theorem add_nul (y : Addr) : y.add 0 = y := rfl
theorem cellsI : Try.prog.cellsOf 3 = 1 := by kernel_rfl
theorem cellsS : Try.prog.cellsOf 9 = 1 := by kernel_rfl
theorem cellsU : Try.prog.cellsOf 44 = 1 := by kernel_rfl
theorem cellsP : Try.prog.cellsOf 43 = 1 := by kernel_rfl
theorem cellsPost : Try.prog.cellsOf 48 = 2 := by kernel_rfl
theorem cellsRec : Try.prog.cellsOf 46 = 5 := by kernel_rfl
section
variable {H : Type} {enc : TypeId × Value → H} {w : World} {base : Nat} {spare : Nat → Bool} {held : Bool}
set_option maxRecDepth 100000 in
theorem open_posts {fuel : Nat} {cs : List Value} {x : DataW H × List MemPlace} (h : DataW.trod enc Try.prog w base spare held fuel 43 cs = some x) :
    ∃ (p : Option Addr) (n c : Nat) (L : List (ByteArray × Int)), cs = [.slice p n c] ∧ L.length = n ∧ PosR w p L := by
  rcases Go.Deep.open_slice Try.underlying43 h with ⟨rfl, _⟩ | ⟨a, len, cap, m, n, D, Pl, rfl, hb, hl, hm, hmm, _, hx⟩
  · exact ⟨none, 0, 0, [], rfl, rfl, fun i hi => absurd hi (by simp)⟩
  have hle : len ≤ m := by rw [hmm]; split <;> omega
  have each : ∀ i, i < len → ∃ q : ByteArray × Int, w.cell? (a.add (i * 2)) = some (.string q.1) ∧ w.cell? ⟨(a.add (i * 2)).block, (a.add (i * 2)).off + 1, none⟩ = some (.int .i64 q.2) := by
    intro i hi
    obtain ⟨cs', h1, h2⟩ := hx i (by omega)
    rw [cellsPost] at h1
    obtain ⟨_, hlen, hcell⟩ := World.cells?_some h1
    obtain ⟨xs, k, _, _, _, hxl, hf⟩ := DataW.trod_struct Try.underlying48 h2
    match cs', hlen, xs, hxl with
    | [v0, v1], _, [y0, y1], _ =>
      have g0 : DataW.trod enc Try.prog w base spare held k 9 (([v0, v1].drop 0).take (Try.prog.cellsOf 9)) = some y0 := hf 0 _ rfl
      have g1 : DataW.trod enc Try.prog w base spare held k 3 (([v0, v1].drop 1).take (Try.prog.cellsOf 3)) = some y1 := hf 1 _ rfl
      rw [cellsS] at g0
      rw [cellsI] at g1
      obtain ⟨s, e0, -, -⟩ := DataW.trod_string Try.underlying9 g0
      obtain ⟨u, e1, -, -⟩ := DataW.trod_int Try.underlying3 g1
      have c0 := hcell 0 (by omega)
      have c1 := hcell 1 (by omega)
      rw [add_nul] at c0
      rw [add_pos _ 1 (by omega)] at c1
      simp at e0 e1 c0 c1
      subst e0 e1
      exact ⟨(s, u), c0, c1⟩
  obtain ⟨q, hq⟩ := Go.Deep.choose_lt each
  refine ⟨some a, len, cap, (List.range len).map q, rfl, by simp, fun i hi => ?_⟩
  have hi : i < len := by simpa using hi
  obtain ⟨c0, c1⟩ := hq i hi
  have k1 : ps ((List.range len).map q) i = (q i).1 := by simp [ps, hi]
  have k2 : pc ((List.range len).map q) i = (q i).2 := by simp [pc, hi]
  refine ⟨a, rfl, ?_, by rw [k1]; exact c0, by rw [k2]; exact c1⟩
  have := World.block_lt_of_cell? w _ c0
  rwa [addB] at this
theorem rc_of_cells {w : World} {x : Addr} {no day rev sum : Int} {pp : Option Addr} {n cap : Nat} {L : List (ByteArray × Int)} (c0 : w.cell? x = some (.int .i64 no)) (c1 : w.cell? (x.add 1) = some (.int .i64 day)) (c2 : w.cell? (x.add 2) = some (.slice pp n cap)) (c3 : w.cell? (x.add 3) = some (.int .i64 rev)) (c4 : w.cell? (x.add 4) = some (.int .u64 sum)) (hn : L.length = n) (hp : PosR w pp L) (s0 : 0 ≤ sum) (s1 : sum < 18446744073709551616) : RcAt w x ⟨no, day, rev, sum, pp, cap, L⟩ := by
  rw [add_pos _ _ (by omega)] at c1 c2 c3 c4
  exact ⟨World.block_lt_of_cell? w _ c0, c0, c1, by rw [hn]; exact c2, c3, c4, hp, s0, s1⟩
set_option maxRecDepth 100000 in
theorem open_recs {fuel : Nat} {cs : List Value} {x : DataW H × List MemPlace} (h : DataW.trod enc Try.prog w base spare held fuel 42 cs = some x) :
    ∃ (p : Option Addr) (n c : Nat) (R : List Rc), cs = [.slice p n c] ∧ R.length = n ∧ n ≤ maxLen ∧ RecR w p R := by
  rcases Go.Deep.open_slice Try.underlying42 h with ⟨rfl, _⟩ | ⟨a, len, cap, m, n, D, Pl, rfl, hb, hl, hm, hmm, _, hx⟩
  · exact ⟨none, 0, 0, [], rfl, rfl, Nat.zero_le _, fun i hi => absurd hi (by simp)⟩
  have hle : len ≤ m := by rw [hmm]; split <;> omega
  have each : ∀ i, i < len → ∃ q : Rc, RcAt w (a.add (i * 5)) q := by
    intro i hi
    obtain ⟨cs', h1, h2⟩ := hx i (by omega)
    rw [cellsRec] at h1
    obtain ⟨_, hlen, hcell⟩ := World.cells?_some h1
    obtain ⟨xs, k, _, _, _, hxl, hf⟩ := DataW.trod_struct Try.underlying46 h2
    match cs', hlen, xs, hxl with
    | [v0, v1, v2, v3, v4], _, [y0, y1, y2, y3, y4], _ =>
      have g0 : DataW.trod enc Try.prog w base spare held k 3 (([v0, v1, v2, v3, v4].drop 0).take (Try.prog.cellsOf 3)) = some y0 := hf 0 _ rfl
      have g1 : DataW.trod enc Try.prog w base spare held k 3 (([v0, v1, v2, v3, v4].drop 1).take (Try.prog.cellsOf 3)) = some y1 := hf 1 _ rfl
      have g2 : DataW.trod enc Try.prog w base spare held k 43 (([v0, v1, v2, v3, v4].drop 2).take (Try.prog.cellsOf 43)) = some y2 := hf 2 _ rfl
      have g3 : DataW.trod enc Try.prog w base spare held k 3 (([v0, v1, v2, v3, v4].drop 3).take (Try.prog.cellsOf 3)) = some y3 := hf 3 _ rfl
      have g4 : DataW.trod enc Try.prog w base spare held k 44 (([v0, v1, v2, v3, v4].drop 4).take (Try.prog.cellsOf 44)) = some y4 := hf 4 _ rfl
      rw [cellsI] at g0 g1 g3
      rw [cellsP] at g2
      rw [cellsU] at g4
      obtain ⟨u0, e0, -, -⟩ := DataW.trod_int Try.underlying3 g0
      obtain ⟨u1, e1, -, -⟩ := DataW.trod_int Try.underlying3 g1
      obtain ⟨pp, n2, c2, L, e2, hL, hP⟩ := open_posts g2
      obtain ⟨u3, e3, -, -⟩ := DataW.trod_int Try.underlying3 g3
      obtain ⟨u4, e4, -, wf⟩ := DataW.trod_int Try.underlying44 g4
      have d0 := hcell 0 (by omega)
      have d1 := hcell 1 (by omega)
      have d2 := hcell 2 (by omega)
      have d3 := hcell 3 (by omega)
      have d4 := hcell 4 (by omega)
      rw [add_nul] at d0
      simp at e0 e1 e2 e3 e4 d0 d1 d2 d3 d4
      subst e0 e1 e2 e3 e4
      have sb : 0 ≤ u4 ∧ u4 < 18446744073709551616 := by
        simp [Lit.wf, IntKind.min, IntKind.max, IntKind.signed, IntKind.bits] at wf
        exact ⟨by omega, by omega⟩
      exact ⟨_, rc_of_cells d0 d1 d2 d3 d4 hL hP sb.1 sb.2⟩
  obtain ⟨q, hq⟩ := Go.Deep.choose_lt each
  refine ⟨some a, len, cap, (List.range len).map q, rfl, by simp, by omega, fun i hi => ⟨a, rfl, ?_⟩⟩
  have hi : i < len := by simpa using hi
  have k1 : rc ((List.range len).map q) i = q i := by simp [rc, hi]
  rw [k1]
  exact hq i hi
end
set_option maxRecDepth 100000 in
theorem lifted (os : Os) (started : os.Started) (H : Type) (enc : TypeId × Value → H) :
    ReturnsInHanded {} Try.checked os 6 .any (Rows.accountsVerifiesSpec.pre6 enc Try.prog Try.f6 Rows.accountsVerifiesRow.domain false) (Rows.accountsVerifiesSpec.post enc Try.prog Try.f6 false true false false) := by
  refine returnsInHanded_of_change (C := Try.checked) own started (by kernel_rfl) Try.func6
    (ChangeSpec.witness6 (enc := enc) (C := Try.checked) false ⟨#[], #[.slice none 0 0], []⟩ 8 (by kernel_rfl) (by kernel_rfl) (by kernel_rfl) (by kernel_rfl)) ?_
  intro W base args ds gs before hval0 hW hcnd _
  have hval : ∀ (j : Nat) t v, Try.f6.params[j]? = some t → args[j]? = some v → Value.okWide Try.prog W .any base t v := hval0
  have hW' := hW
  obtain ⟨p, q, hA0, hV, rfl, hfz, hnd⟩ := hW
  have hA : DataW.TrodAll enc Try.prog W 0 (fun _ => true) true Try.f6.params.toList args.toList ds p := hA0
  rw [Try.params6] at hA hval
  obtain ⟨v0, vs0, d0, ds0, p0, q0, hargs, rfl, rfl, h0, r0⟩ := trodAll_cons hA
  obtain ⟨rfl, rfl, rfl⟩ := trodAll_nil r0
  obtain rfl : args = #[v0] := by cases args; simp_all
  obtain ⟨rfl, rfl⟩ := trodVars_none hV
  obtain ⟨b0, n0, c0, rfl⟩ := okWide_slice Try.underlying42 (hval 0 42 v0 rfl rfl)
  have k0 := h0
  have lt0 : ∀ x ∈ p0, x.block < W.heap.size := by obtain ⟨m, hm⟩ := k0; exact DataW.trod_lt m _ _ _ hm
  obtain ⟨l0, hn0, z0, w0⟩ : ∃ l : List Rc, n0 = l.length ∧ l.length ≤ 9223372036854775807 ∧ RecR W b0 l := by
    obtain ⟨fuel, hf⟩ := h0
    obtain ⟨p, n, c, R, hcs, hR, hm, hr⟩ := open_recs hf
    simp [Value.cells] at hcs
    obtain ⟨rfl, rfl, rfl⟩ := hcs
    exact ⟨R, hR.symm, by unfold maxLen at hm; omega, hr⟩
  subst hn0
  clear hA0 hval0
  refine (walk b0 c0 l0 W w0 z0).mono fun e W' ⟨he, hg⟩ => ?_
  subst he
  exact ⟨_, rfl, _, _, _, [], _, [], hW', trodAll_cons_mk (shut_bool Try.underlying4 _) trodAll_mk0, trodAll_cons_mk (Below.trod laidOut (by kernel_rfl) (of_decide_eq_true (by kernel_rfl)) k0 hg lt0) trodAll_mk0, rfl, hg.frame _, fun h => by cases h⟩

theorem over : Rows.accountsVerifiesRow.holds Try.pinned (OpenSpec.ofChange Rows.accountsVerifiesSpec) :=
  OpenClaim.holds_of_wide 6 Try.f6 rfl rfl rfl rfl rfl rfl rfl ⟨rfl, rfl, rfl, rfl, rfl⟩ rfl rfl rfl rfl rfl (by kernel_rfl) Try.func6 (by kernel_rfl)
    (of_decide_eq_true (by kernel_rfl)) (by unfold Func.isWrapper; rw [if_neg (of_decide_eq_false (by kernel_rfl))]; exact ⟨rfl, rfl⟩)
    (fun os started H enc _ => lifted os started H enc)

theorem proved : Rows.AccountsVerifiesSaid := over
end Go.Proofs.Ythfnaegfjacjbab.accountsVerifies
