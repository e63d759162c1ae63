/-
  The law AccountsNobody answers true for every input, and its input reads behind the call as it read before. Conditions: none beside the row's own.
-/
import Derived.Test.YtlahdfmciaibdaaAN1
import Derived.Test.YtlahdfmciaibdaaRows
import Derived.ProofKit
import Derived.OpenShut
import Derived.Deep.DeepHandedRow
import Derived.Lib.SmallJoins
import Derived.ChangeOld
import Derived.Carry
namespace Go.Proofs.Ytlahdfmciaibdaa.accountsNobody
open Go.ChangeShapes Go.WideShapes Go.ChangeAt Go.RowKit Go.Joins Go.Deep
set_option linter.unusedVariables false
set_option linter.unusedSimpArgs false

theorem cell_one {P : Program} {w : World} {r : Reach} {base : Nat} {t : TypeId} {v : Value} (h : Cell.okWide P w r base t v) : v.oneCell' = true := by
  cases v <;> first | rfl | skip
  all_goals
    unfold Cell.okWide at h
    split at h <;> first | (rename_i e; cases e; done) | skip
    all_goals
      unfold Cell.ok at h
      split at h <;> first | (rename_i e; cases e; done) | cases h | skip
theorem struct_one {P : Program} {w : World} {r : Reach} {base : Nat} {t : TypeId} {v : Value} {fs : Array Field} (hs : P.underlying t = some (.struct fs)) (h : Value.okWide P w r base t v) :
    ∃ cs, v = .agg cs ∧ cs.size = P.cellsOf t ∧ ∀ (i : Nat) (c : Value), cs[i]? = some c → c.oneCell' = true := by
  simp only [Value.okWide, hs] at h
  obtain ⟨cs, h1, h2, ts, _, _, h3⟩ := h
  exact ⟨cs, h1, h2, fun i c hc => by obtain ⟨u, _, h4⟩ := h3 i c hc; exact cell_one h4⟩

theorem nobody_any (cs : Array Value) (hn : cs.size = 5) (h1 : ∀ (i : Nat) (c : Value), cs[i]? = some c → c.oneCell' = true) (plain : Bool) (w : World) :
    Calls Try.prog 7 #[.agg cs, .bool plain] w fun e w' => e = .returned (.bool true) ∧ Below w.heap.size w w' := by
  have hh : ∀ m : Ev.Names, Ev.VR m (.agg #[hole, hole, hole, hole, hole]) (.agg cs) := fun m => by
    refine .agg _ _ hn.symm fun i x y hx hy => ?_
    have hx' : x = hole := by
      rw [← Array.getElem?_toList] at hx
      have := List.mem_of_getElem? hx
      simpa using this
    subst hx'
    exact .hole 0 y (h1 i y hy)
  cases plain
  · exact Ev.closedH_true (by kernel_rfl) aaX_ok (Ev.listQ_ok aaQ_ok) aaK_ok (Ev.TabOk.nil _ _) (args' := [.agg cs, .bool false]) (fun m => .cons (hh m) (.cons (.bool _) .nil)) nobody_run0 ⟨_, _, Try.func7, by kernel_rfl, rfl⟩ w
  · exact Ev.closedH_true (by kernel_rfl) aaX_ok (Ev.listQ_ok aaQ_ok) aaK_ok (Ev.TabOk.nil _ _) (args' := [.agg cs, .bool true]) (fun m => .cons (hh m) (.cons (.bool _) .nil)) nobody_run1 ⟨_, _, Try.func7, by kernel_rfl, rfl⟩ w

theorem own : ownKnob Try.prog.godebug = none := by kernel_rfl
theorem laidOut : laidOutB Try.prog = true := by kernel_rfl
theorem cells0 : Try.prog.cellsOf 52 = 5 := by kernel_rfl

set_option maxRecDepth 100000 in
theorem lifted (os : Os) (started : os.Started) (H : Type) (enc : TypeId × Value → H) :
    ReturnsInHanded {} Try.checked os 7 .any (Rows.accountsNobodySpec.pre6 enc Try.prog Try.f7 Rows.accountsNobodyRow.domain false) (Rows.accountsNobodySpec.post enc Try.prog Try.f7 false true false false) := by
  refine returnsInHanded_of_change (C := Try.checked) own started (by kernel_rfl) Try.func7
    (ChangeSpec.witness6 (enc := enc) (C := Try.checked) false ⟨#[], #[.agg #[.int .u8 0, .string ⟨#[]⟩, .int .i64 0, .int .i64 0, .slice none 0 0], .bool false], []⟩ 8 (by kernel_rfl) (by kernel_rfl) (by kernel_rfl) (by kernel_rfl)) ?_
  intro W base args ds gs before hval0 hW hcnd _
  have hval : ∀ (j : Nat) t v, Try.f7.params[j]? = some t → args[j]? = some v → Value.okWide Try.prog W .any base t v := hval0
  have hW' := hW
  obtain ⟨p, q, hA0, hV, rfl, hfz, hnd⟩ := hW
  have hA : DataW.TrodAll enc Try.prog W 0 (fun _ => true) true Try.f7.params.toList args.toList ds p := hA0
  rw [Try.params7] at hA hval
  obtain ⟨v0, vs0, d0, ds0, p0, q0, hargs, rfl, rfl, h0, r0⟩ := trodAll_cons hA
  obtain ⟨v1, vs1, d1, ds1, p1, q1, rfl, rfl, rfl, h1, r1⟩ := trodAll_cons r0
  obtain ⟨rfl, rfl, rfl⟩ := trodAll_nil r1
  obtain rfl : args = #[v0, v1] := by cases args; simp_all
  obtain ⟨rfl, rfl⟩ := trodVars_none hV
  have k0 := h0
  have lt0 : ∀ x ∈ p0, x.block < W.heap.size := by obtain ⟨m, hm⟩ := k0; exact DataW.trod_lt m _ _ _ hm
  have k1 := h1
  have lt1 : ∀ x ∈ p1, x.block < W.heap.size := by obtain ⟨m, hm⟩ := k1; exact DataW.trod_lt m _ _ _ hm
  obtain ⟨cs, rfl, hsz, hone⟩ := struct_one Try.underlying52 (hval 0 52 v0 rfl rfl)
  obtain ⟨plain, rfl, rfl, rfl⟩ := open_bool Try.underlying4 (hval 1 4 v1 rfl rfl) h1
  clear hA0 hval0
  refine (nobody_any cs (hsz.trans cells0) hone plain W).mono fun e W' ⟨he, hg⟩ => ?_
  subst he
  exact ⟨_, rfl, _, _, _, [], _, [], hW', trodAll_cons_mk (shut_bool Try.underlying4 _) trodAll_mk0, trodAll_cons_mk (Below.trod laidOut (by kernel_rfl) (of_decide_eq_true (by kernel_rfl)) k0 hg lt0) (trodAll_cons_mk (Below.trod laidOut (by kernel_rfl) (of_decide_eq_true (by kernel_rfl)) k1 hg lt1) trodAll_mk0), rfl, hg.frame _, fun h => by cases h⟩

theorem over : Rows.accountsNobodyRow.holds Try.pinned (OpenSpec.ofChange Rows.accountsNobodySpec) :=
  OpenClaim.holds_of_wide 7 Try.f7 rfl rfl rfl rfl rfl rfl rfl ⟨rfl, rfl, rfl, rfl, rfl⟩ rfl rfl rfl rfl rfl (by kernel_rfl) Try.func7 (by kernel_rfl)
    (of_decide_eq_true (by kernel_rfl)) (by unfold Func.isWrapper; rw [if_neg (of_decide_eq_false (by kernel_rfl))]; exact ⟨rfl, rfl⟩)
    (fun os started H enc _ => lifted os started H enc)

theorem proved : Rows.AccountsNobodySaid := over
end Go.Proofs.Ytlahdfmciaibdaa.accountsNobody
