/-
  The law NumMeans answers true for every input, and its input reads behind the call as it read before. Conditions: none beside the row's own: the listed tables of the library stand as their initialisers lay them (the card ties them to the text).
-/
import Derived.Test.YtblaakjldpcjlaaDoorW2
import Derived.Test.YtblaakjldpcjlaaDoorE1
import Derived.Test.YtblaakjldpcjlaaDoorCards
import Derived.Test.YtblaakjldpcjlaaDoorTie
import Derived.ProofKit
import Derived.OpenShut
import Derived.Deep.DeepHandedRow
import Derived.Lib.LaidTab
import Derived.Lib.SmallJoins
import Derived.ChangeOld
import Derived.ChangeSlices
import Derived.Carry
namespace Go.Proofs.YtblaakjldpcjlaaDoor
open Go.RowKit
set_option linter.unusedVariables false
set_option linter.unusedSimpArgs false

theorem few_all (p : Option Addr) (n c : Nat) (w : World) :
    Calls Tryd.prog 20 #[.slice p n c] w fun e w' => e = .returned (.bool (decide (n ≤ 300))) ∧ w = w' := by
  go_enter Tryd.func20, Tryd.ntmps20
  go_wp2
  all_goals go_ret
  all_goals exact ⟨ret_b (by rw [Bool.eq_iff_iff]; simp; try omega), rfl⟩
end Go.Proofs.YtblaakjldpcjlaaDoor
namespace Go.Proofs.YtblaakjldpcjlaaDoor.numMeans
open Go.RowKit
set_option linter.unusedVariables false
set_option linter.unusedSimpArgs false

set_option maxRecDepth 100000 in
set_option maxHeartbeats 4000000 in
theorem walk (p : Option Addr) (c : Nat) (a : List Int) (q : Option Addr) (d : Nat) (l : List Int) (m : Int) (w : World) (r : RowA w p a) (s : RowA w q l) :
    Calls Tryd.prog 7 #[.slice p a.length c, .slice q l.length d, .int .i64 m] w fun e w' => e = .returned (.bool true) ∧ Below w.heap.size w w' := by
  have R := Lib.hid r
  have S := Lib.hid s
  have CP1 := Lib.hid (fun W h (ln : a.length ≤ 300) => copied_any p c a W h ln)
  have CP2 := Lib.hid (fun W h (ln : l.length ≤ 300) => copied_any q d l W h ln)
  have FA := Lib.hid (fun b b' cc dd W h h' (la : a.length ≤ 300) (ll : l.length ≤ 300) => Mean_any (some ⟨b, 0, none⟩) (some ⟨b', 0, none⟩) cc dd a l m W h h' (by omega) (by omega))
  have RF := Lib.hid (fun W h h' (la : a.length ≤ 300) (ll : l.length ≤ 300) => rMean_any p q c d a l m W h h' (by omega) (by omega))
  have KP1 := Lib.hid (fun b W h h' (la : a.length ≤ 300) => kept_any b p c a W h h' (by omega))
  have KP2 := Lib.hid (fun b W h h' (ll : l.length ≤ 300) => kept_any b q d l W h h' (by omega))
  obtain ⟨x, hx⟩ : ∃ x, x = a.length := ⟨_, rfl⟩
  obtain ⟨y, hy⟩ : ∃ y, y = l.length := ⟨_, rfl⟩
  rw [← hx] at CP1 KP1
  rw [← hy] at CP2 KP2
  rw [← hx, ← hy] at FA RF ⊢
  clear hx hy r s
  have KB : Hid (Below w.heap.size w w) := Below.refl _ _
  go_enter Tryd.func7, Tryd.ntmps7
  go_wp2_with fail
  refine (few_all p x c _).mono ?_
  rintro e w1 ⟨rfl, rfl⟩
  by_cases hf : x ≤ 300
  · rw [show decide (x ≤ 300) = true by simpa using hf]
    go_wp2_with fail
    refine (few_all q y d _).mono ?_
    rintro e w1 ⟨rfl, rfl⟩
    by_cases hg : y ≤ 300
    · rw [show decide (y ≤ 300) = true by simpa using hg]
      go_wp2_with fail
      refine (CP1.out _ R.out hf).mono ?_
      rintro e w1 ⟨b1, rfl, C1, z1, hb1⟩
      replace KB := Lib.hid hb1
      have R1 := Lib.hid (R.out.below hb1)
      have S1 := Lib.hid (S.out.below hb1)
      have C1 := Lib.hid C1
      clear hb1 z1 CP1
      go_wp2_with fail
      refine (CP2.out _ S1.out hg).mono ?_
      rintro e w2 ⟨b2, rfl, C2, z2, hb2⟩
      replace KB := Lib.hid (KB.out.trans (hb2.mono KB.out.size))
      have R2 := Lib.hid (R1.out.below hb2)
      have S2 := Lib.hid (S1.out.below hb2)
      have D1 := Lib.hid (C1.out.below hb2)
      have C2 := Lib.hid C2
      clear hb2 z2 CP2 C1 R1 S1
      go_wp2_with fail
      refine (FA.out b1 b2 _ _ _ D1.out.rowA C2.out.rowA hf hg).mono ?_
      rintro e w3 ⟨⟨F, E, rfl, FR⟩, n, rfl⟩
      have hb3 := below_drewN (Below.refl w2.heap.size w2) n
      replace KB := Lib.hid (KB.out.trans (hb3.mono KB.out.size))
      have R3 := Lib.hid (R2.out.below hb3)
      have S3 := Lib.hid (S2.out.below hb3)
      have D3 := Lib.hid (D1.out.below hb3)
      have C3 := Lib.hid (C2.out.below hb3)
      clear hb3 FA D1 C2 R2 S2
      generalize w2.drewN n = w3 at *
      go_wp2_with fail
      refine (RF.out _ R3.out S3.out hf hg).mono ?_
      rintro e w4 ⟨⟨F', E', rfl, FR'⟩, hb4⟩
      obtain ⟨rfl, rfl⟩ := FR.uniq FR'
      clear FR FR'
      replace KB := Lib.hid (KB.out.trans (hb4.mono KB.out.size))
      have R4 := Lib.hid (R3.out.below hb4)
      have S4 := Lib.hid (S3.out.below hb4)
      have D4 := Lib.hid (D3.out.below hb4)
      have C4 := Lib.hid (C3.out.below hb4)
      clear hb4 RF D3 C3 R3 S3
      go_wp2_with fail
      refine (KP1.out b1 _ D4.out R4.out hf).mono ?_
      rintro e w5 ⟨rfl, n, rfl⟩
      have hb5 := below_drewN (Below.refl w4.heap.size w4) n
      replace KB := Lib.hid (KB.out.trans (hb5.mono KB.out.size))
      have S5 := Lib.hid (S4.out.below hb5)
      have C5 := Lib.hid (C4.out.below hb5)
      clear hb5 KP1 D4 C4 R4 S4
      generalize w4.drewN n = w5 at *
      go_wp2_with fail
      refine (KP2.out b2 _ C5.out S5.out hg).mono ?_
      rintro e w6 ⟨rfl, n, rfl⟩
      have hb6 := below_drewN (Below.refl w5.heap.size w5) n
      replace KB := Lib.hid (KB.out.trans (hb6.mono KB.out.size))
      clear hb6 KP2 C5 S5
      generalize w5.drewN n = w6 at *
      go_wp2_with fail
      refine (alive_any _).mono ?_
      rintro e wq ⟨rfl, hq⟩
      have B9 := Lib.hid (KB.out.trans ((show Below _ _ wq from by first | exact hq | exact ((Below.refl _ _).drew).trans hq | exact (below_drewN (Below.refl _ _) _).trans hq).mono KB.out.size))
      clear hq
      go_wp2_with fail
      go_ret
      exact ⟨rfl, by first | exact B9.out | exact B9.out.drew | exact below_drewN B9.out _⟩
    · rw [show decide (y ≤ 300) = false by simpa using hg]
      go_wp2_with fail
      refine (alive_any _).mono ?_
      rintro e wq ⟨rfl, hq⟩
      have B9 := Lib.hid (KB.out.trans ((show Below _ _ wq from by first | exact hq | exact ((Below.refl _ _).drew).trans hq | exact (below_drewN (Below.refl _ _) _).trans hq).mono KB.out.size))
      clear hq
      go_wp2_with fail
      go_ret
      exact ⟨rfl, by first | exact B9.out | exact B9.out.drew | exact below_drewN B9.out _⟩
  · rw [show decide (x ≤ 300) = false by simpa using hf]
    go_wp2_with fail
    refine (alive_any _).mono ?_
    rintro e wq ⟨rfl, hq⟩
    have B9 := Lib.hid (KB.out.trans ((show Below _ _ wq from by first | exact hq | exact ((Below.refl _ _).drew).trans hq | exact (below_drewN (Below.refl _ _) _).trans hq).mono KB.out.size))
    clear hq
    go_wp2_with fail
    go_ret
    exact ⟨rfl, by first | exact B9.out | exact B9.out.drew | exact below_drewN B9.out _⟩
end Go.Proofs.YtblaakjldpcjlaaDoor.numMeans
namespace Go.Proofs.YtblaakjldpcjlaaDoor.numMeans
open Go.ChangeShapes Go.WideShapes Go.ChangeAt Go.RowKit Go.Joins
set_option linter.unusedVariables false
set_option linter.unusedSimpArgs false

theorem own : ownKnob Tryd.prog.godebug = none := by kernel_rfl
theorem i64_of_wf {x : Int} (h : (Lit.int .i64 x).wf = true) : -9223372036854775808 ≤ x ∧ x ≤ 9223372036854775807 := by
  simp [Lit.wf, IntKind.min, IntKind.max, IntKind.signed, IntKind.bits] at h
  exact ⟨by omega, by omega⟩

theorem laidOut : laidOutB Tryd.prog = true := by kernel_rfl
theorem gd_take {zs : List Int} {n i : Nat} (h : i < n) : gd (zs.take n) i = zs.getD i 0 := by
  unfold gd
  rw [List.getElem?_take, if_pos h, List.getD_eq_getElem?_getD]

/-- Memory for the witness: the settled one, the listed tables holding what their initialisers lay. -/
noncomputable def laidWorld (os : Os) : World :=
  { World.holding Tryd.prog os ⟨#[], #[], []⟩ with heap := ((((World.holding Tryd.prog os ⟨#[], #[], []⟩).heap.modify 4 fun
      | .cells _ t frozen => .cells #[.int .u8 0, .int .u8 1, .int .u8 28, .int .u8 2, .int .u8 29, .int .u8 14, .int .u8 24, .int .u8 3, .int .u8 30, .int .u8 22, .int .u8 20, .int .u8 15, .int .u8 25, .int .u8 17, .int .u8 4, .int .u8 8, .int .u8 31, .int .u8 27, .int .u8 13, .int .u8 23, .int .u8 21, .int .u8 19, .int .u8 16, .int .u8 7, .int .u8 26, .int .u8 12, .int .u8 18, .int .u8 6, .int .u8 11, .int .u8 5, .int .u8 10, .int .u8 9] t frozen
      | o => o).modify 5 fun
      | .cells _ t frozen => .cells #[.int .u8 0, .int .u8 1, .int .u8 56, .int .u8 2, .int .u8 57, .int .u8 49, .int .u8 28, .int .u8 3, .int .u8 61, .int .u8 58, .int .u8 42, .int .u8 50, .int .u8 38, .int .u8 29, .int .u8 17, .int .u8 4, .int .u8 62, .int .u8 47, .int .u8 59, .int .u8 36, .int .u8 45, .int .u8 43, .int .u8 51, .int .u8 22, .int .u8 53, .int .u8 39, .int .u8 33, .int .u8 30, .int .u8 24, .int .u8 18, .int .u8 12, .int .u8 5, .int .u8 63, .int .u8 55, .int .u8 48, .int .u8 27, .int .u8 60, .int .u8 41, .int .u8 37, .int .u8 16, .int .u8 46, .int .u8 35, .int .u8 44, .int .u8 21, .int .u8 52, .int .u8 32, .int .u8 23, .int .u8 11, .int .u8 54, .int .u8 26, .int .u8 40, .int .u8 15, .int .u8 34, .int .u8 20, .int .u8 31, .int .u8 10, .int .u8 25, .int .u8 14, .int .u8 19, .int .u8 9, .int .u8 13, .int .u8 8, .int .u8 7, .int .u8 6] t frozen
      | o => o).modify 2 fun
      | .cells _ t frozen => .cells #[.int .u64 1, .int .u64 10, .int .u64 100, .int .u64 1000, .int .u64 10000, .int .u64 100000, .int .u64 1000000, .int .u64 10000000, .int .u64 100000000, .int .u64 1000000000, .int .u64 10000000000, .int .u64 100000000000, .int .u64 1000000000000, .int .u64 10000000000000, .int .u64 100000000000000, .int .u64 1000000000000000, .int .u64 10000000000000000, .int .u64 100000000000000000, .int .u64 1000000000000000000, .int .u64 10000000000000000000] t frozen
      | o => o) }
theorem laid_met (os : Os) : laidMet Tryd.prog Rows.numMeansRow.laid ((laidWorld os).forCall (fun _ _ => 0) ⟨#[], #[.slice none 0 0, .slice none 0 0, .int .i64 0], []⟩).memory :=
  laidMet_of_run' 8 (by kernel_rfl) (by kernel_rfl)
set_option maxRecDepth 100000 in
theorem reads (os : Os) {H : Type} (enc : TypeId × Value → H) : ∃ places, DataW.whole enc Tryd.prog ((laidWorld os).forCall (fun _ _ => 0) ⟨#[], #[.slice none 0 0, .slice none 0 0, .int .i64 0], []⟩).memory Tryd.f7.params.toList Rows.numMeansSpec.vars false (#[.slice none 0 0, .slice none 0 0, .int .i64 0] : Array Value).toList 8 = some ([.nil, .nil, .lit (.int .i64 0)], [], places) :=
  ⟨[], by kernel_rfl⟩

set_option maxRecDepth 100000 in
theorem contract (H : Type) (enc : TypeId × Value → H) (W : World) (base : Nat) (args : Array Value) (ds gs : List (DataW H)) (before : List MemPlace)
    (hval : ∀ (j : Nat) t v, Tryd.f7.params[j]? = some t → args[j]? = some v → Value.okWide Tryd.prog W .any base t v)
    (hW : DataW.Whole enc Tryd.prog Tryd.f7.params.toList Rows.numMeansSpec.vars false W args.toList ds gs before) :
    Calls Tryd.prog 7 args W fun e W' => ∃ v, e = .returned v ∧ Rows.numMeansSpec.post enc Tryd.prog Tryd.f7 false true false false W args v W' := by
  have hW' := hW
  obtain ⟨p, q, hA0, hV, rfl, hfz, hnd⟩ := hW
  have hA : DataW.TrodAll enc Tryd.prog W 0 (fun _ => true) true Tryd.f7.params.toList args.toList ds p := hA0
  rw [Tryd.params7] at hA hval
  obtain ⟨v0, vs0, d0, ds0, p0, q0, hargs, rfl, rfl, h0, r0⟩ := trodAll_cons hA
  obtain ⟨v1, vs1, d1, ds1, p1, q1, rfl, rfl, rfl, h1, r1⟩ := trodAll_cons r0
  obtain ⟨v2, vs2, d2, ds2, p2, q2, rfl, rfl, rfl, h2, r2⟩ := trodAll_cons r1
  obtain ⟨rfl, rfl, rfl⟩ := trodAll_nil r2
  obtain rfl : args = #[v0, v1, v2] := by cases args; simp_all
  obtain ⟨rfl, rfl⟩ := trodVars_none hV
  obtain ⟨b0, n0, c0, rfl⟩ := okWide_slice Tryd.underlying28 (hval 0 28 v0 rfl rfl)
  have k0 := h0
  have lt0 : ∀ x ∈ p0, x.block < W.heap.size := by obtain ⟨m, hm⟩ := k0; exact DataW.trod_lt m _ _ _ hm
  obtain ⟨l0, hn0, w0⟩ : ∃ l : List Int, n0 = l.length ∧ RowA W b0 l := by
    obtain ⟨fuel, hf⟩ := h0
    rcases open_ints Tryd.underlying28 Tryd.underlying3 (by kernel_rfl) hf with ⟨hcs, _⟩ | ⟨x, l, c, zs, hcs, _, hl, hm, hz, _, hcell, hwz⟩
    · simp [Value.cells] at hcs
      obtain ⟨rfl, rfl, rfl⟩ := hcs
      exact ⟨[], rfl, fun i h => by simp at h⟩
    · simp [Value.cells] at hcs
      obtain ⟨rfl, rfl, rfl⟩ := hcs
      have hz' : zs.length = c0 := by simpa using hz
      refine ⟨zs.take n0, by rw [List.length_take]; omega, fun i h => ?_⟩
      rw [List.length_take] at h
      have hc := hcell i (by omega)
      refine ⟨x, rfl, ?_, by rw [gd_take (by omega)]; exact hc⟩
      have := World.block_lt_of_cell? W _ hc
      rwa [add_block] at this
  subst hn0
  obtain ⟨b1, n1, c1, rfl⟩ := okWide_slice Tryd.underlying28 (hval 1 28 v1 rfl rfl)
  have k1 := h1
  have lt1 : ∀ x ∈ p1, x.block < W.heap.size := by obtain ⟨m, hm⟩ := k1; exact DataW.trod_lt m _ _ _ hm
  obtain ⟨l1, hn1, w1⟩ : ∃ l : List Int, n1 = l.length ∧ RowA W b1 l := by
    obtain ⟨fuel, hf⟩ := h1
    rcases open_ints Tryd.underlying28 Tryd.underlying3 (by kernel_rfl) hf with ⟨hcs, _⟩ | ⟨x, l, c, zs, hcs, _, hl, hm, hz, _, hcell, hwz⟩
    · simp [Value.cells] at hcs
      obtain ⟨rfl, rfl, rfl⟩ := hcs
      exact ⟨[], rfl, fun i h => by simp at h⟩
    · simp [Value.cells] at hcs
      obtain ⟨rfl, rfl, rfl⟩ := hcs
      have hz' : zs.length = c1 := by simpa using hz
      refine ⟨zs.take n1, by rw [List.length_take]; omega, fun i h => ?_⟩
      rw [List.length_take] at h
      have hc := hcell i (by omega)
      refine ⟨x, rfl, ?_, by rw [gd_take (by omega)]; exact hc⟩
      have := World.block_lt_of_cell? W _ hc
      rwa [add_block] at this
  subst hn1
  obtain ⟨a2, rfl, rfl, rfl, w2⟩ := open_int Tryd.underlying3 (hval 2 3 v2 rfl rfl) h2
  obtain ⟨x2, y2⟩ := i64_of_wf w2
  clear hA0
  refine (walk b0 c0 l0 b1 c1 l1 a2 W w0 w1).mono fun e W' ⟨he, hg⟩ => ?_
  subst he
  exact ⟨_, rfl, _, _, _, [], _, [], hW', trodAll_cons_mk (shut_bool Tryd.underlying4 _) trodAll_mk0, (trodAll_cons_mk (Below.trod laidOut (by kernel_rfl) (of_decide_eq_true (by kernel_rfl)) k0 hg lt0) (trodAll_cons_mk (Below.trod laidOut (by kernel_rfl) (of_decide_eq_true (by kernel_rfl)) k1 hg lt1) (trodAll_cons_mk (shut_int Tryd.underlying3 w2) trodAll_mk0))), rfl, hg.frame _, fun h => by cases h⟩

set_option maxRecDepth 100000 in
theorem lifted (os : Os) (started : os.Started) (H : Type) (enc : TypeId × Value → H) (F : Stop.Interp) :
    ReturnsInHanded {} Tryd.checked os 7 .any ((OpenSpec.ofChange Rows.numMeansSpec).preRow enc Tryd.prog Tryd.f7 Rows.numMeansRow.domain false Rows.numMeansRow.laid) (((OpenSpec.ofChange Rows.numMeansSpec).at F).post enc Tryd.prog Tryd.f7 false true false false) := by
  obtain ⟨places, hx⟩ := reads os enc
  refine returnsInHanded_of_row (C := Tryd.checked) (s := OpenSpec.ofChange Rows.numMeansSpec) own started (by kernel_rfl) Tryd.func7
    (witness_row_at (enc := enc) (C := Tryd.checked) false (laidWorld os) #[.slice none 0 0, .slice none 0 0, .int .i64 0] rfl (by kernel_rfl) (by kernel_rfl) (by kernel_rfl)
      (OpenSpec.preRow_of_cond 8 hx (by kernel_rfl) (fun k hk => by cases hk) (by kernel_rfl) (laid_met os))) ?_
  intro W base args ds gs before hval hW _ _ _ hL _ _
  exact contract H enc W base args ds gs before hval hW

theorem said : Rows.NumMeansSaid :=
  OpenClaim.holds_of_cond 7 Tryd.f7 rfl rfl rfl rfl rfl rfl rfl ⟨rfl, rfl, rfl, rfl, rfl⟩ rfl rfl rfl rfl rfl (by kernel_rfl) Tryd.func7 (by kernel_rfl)
    (of_decide_eq_true (by kernel_rfl)) (by unfold Func.isWrapper; rw [if_neg (of_decide_eq_false (by kernel_rfl))]; exact ⟨rfl, rfl⟩)
    (fun os started H enc _ F => by rw [OpenClaim.pre_eq_preRow]; exact lifted os started H enc F)

/-- What the card asks of the program's looks and of the parameters. -/
theorem plain (f : FuncId) (fn : Func) (hf : Tryd.pinned.checked.prog.funcNamed Rows.numMeansRow.func = some f) (hfn : Tryd.pinned.checked.prog.funcs[f]? = some fn) :
    Rows.numMeansCard.stood.looks = Tryd.pinned.checked.prog.looks [] ∧ ∀ (j : Nat) t, fn.params[j]? = some t → Tryd.pinned.checked.prog.wantsStandIn t = false := by
  obtain rfl : f = 7 := Option.some.inj ((show Tryd.prog.funcNamed Rows.numMeansRow.func = some 7 by kernel_rfl).symm.trans hf) |>.symm
  obtain rfl : fn = Tryd.f7 := (Option.some.inj (Tryd.func7.symm.trans hfn)).symm
  refine ⟨by kernel_rfl, fun j t ht => ?_⟩
  rw [Tryd.params7] at ht
  have hm := Array.mem_of_getElem? ht
  simp at hm
  rcases hm with rfl | rfl
  · exact (show Tryd.prog.wantsStandIn 28 = false by kernel_rfl)
  · exact (show Tryd.prog.wantsStandIn 3 = false by kernel_rfl)

/-- The card. -/
theorem card : Rows.NumMeansCardSaid :=
  Claim7.holds_tied_plain_at .later [] _ _ _ _ said (fun _ h => by cases h) (by kernel_rfl) (fun _ h => by cases h) numMeans_row_tie rfl ⟨rfl, rfl⟩ (by kernel_rfl) rfl plain (by kernel_rfl)
end Go.Proofs.YtblaakjldpcjlaaDoor.numMeans
