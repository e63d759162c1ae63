/- A region whose operations come in any order, by what holds behind each of them: plain facts on the model's own words. -/
import Derived.Test.YtbcfafihkdddeaaB0
import Derived.Orders
import Derived.RegionTactic
namespace Go.Proofs.Ytbcfafihkdddeaa
open Go.RowKit
set_option linter.unusedVariables false
set_option linter.unusedSimpArgs false

/-- Every operation waits for earlier ones alone. -/
def topoB (ops : Array Oper) : Bool := (List.range ops.size).all fun i => ((ops[i]?).map fun o => o.after.all fun e => decide (e.on < i)).getD true
theorem topo_spec {ops : Array Oper} (h : topoB ops = true) {i : Nat} {o : Oper} (ho : ops[i]? = some o) : ∀ e ∈ o.after, e.on < i := by
  have hi : i < ops.size := (Array.getElem?_eq_some_iff.1 ho).1
  unfold topoB at h
  rw [List.all_eq_true] at h
  have := h i (List.mem_range.2 hi)
  rw [ho] at this
  simp only [Option.map_some, Option.getD_some] at this
  intro e he
  rw [Array.all_eq_true_iff_forall_mem] at this
  simpa using this e he

theorem getD_bool {l : Array Bool} {i : Nat} (h : l.getD i true = true) (hi : i < l.size) : l.getD i false = true := by
  simp [Array.getD, hi] at h ⊢
  exact h

/-- While one has not come up, one may come up. -/
theorem ready_some {ops : Array Oper} {md : Region.Mode} (ht : topoB ops = true) {listed : Array Bool} (hs : listed.size = ops.size) : ∀ (n i : Nat), i < n → i < ops.size → listed.getD i true = false → Region.ready md ops listed ≠ [] := by
  intro n
  induction n with
  | zero => intro i h; omega
  | succ n ih =>
    intro i hn hi hl
    by_cases hall : ∀ j, j < i → listed.getD j true = true
    · have ho : ops[i]? = some ops[i] := Array.getElem?_eq_getElem hi
      have hm : i ∈ Region.ready md ops listed := mem_ready.2 ⟨hl, ops[i], ho, fun e he _ => getD_bool (hall _ (topo_spec ht ho e he)) (by have := topo_spec ht ho e he; omega)⟩
      intro h0
      rw [h0] at hm
      cases hm
    · have hex : ∃ j, j < i ∧ listed.getD j true = false := by
        apply Classical.byContradiction
        intro hno
        apply hall
        intro j hj
        cases hb : listed.getD j true
        · exact absurd ⟨j, hj, hb⟩ hno
        · rfl
      obtain ⟨j, hj, hb⟩ := hex
      exact ih j (by omega) (by omega) hb

/-- What is listed has what it waits for listed too. -/
def Closed (md : Region.Mode) (ops : Array Oper) (listed : Array Bool) : Prop :=
  ∀ i o, ops[i]? = some o → listed.getD i false = true → ∀ e ∈ o.after, Region.binds md e = true → listed.getD e.on false = true
theorem getD_set_same {l : Array Bool} {i : Nat} (h : i < l.size) : (l.setIfInBounds i true).getD i false = true := by simp [Array.getD, h]
theorem getD_set_keep {l : Array Bool} {i j : Nat} (h : l.getD j false = true) : (l.setIfInBounds i true).getD j false = true := by
  by_cases hj : j < l.size
  · by_cases e : i = j
    · subst e; exact getD_set_same hj
    · simp [Array.getD, hj, Array.getElem_setIfInBounds_ne hj e] at h ⊢; exact h
  · simp [Array.getD, hj] at h
theorem getD_set_back {l : Array Bool} {i j : Nat} (h : (l.setIfInBounds i true).getD j false = true) (e : i ≠ j) : l.getD j false = true := by
  by_cases hj : j < l.size
  · simp [Array.getD, hj, Array.getElem_setIfInBounds_ne hj e] at h ⊢; exact h
  · simp [Array.getD, hj] at h
theorem Closed.step {md : Region.Mode} {ops : Array Oper} {listed : Array Bool} (h : Closed md ops listed) {i : Nat} (hi : i ∈ Region.ready md ops listed) : Closed md ops (listed.setIfInBounds i true) := by
  intro j o ho hj e he hb
  by_cases eq : i = j
  · subst eq
    obtain ⟨_, o', ho', hall⟩ := mem_ready.1 hi
    rw [ho] at ho'
    cases ho'
    exact getD_set_keep (hall e he hb)
  · exact getD_set_keep (h j o ho (getD_set_back hj eq) e he hb)

/-- How many have not come up. -/
def unl (l : Array Bool) : Nat := (l.toList.filter (fun b => !b)).length
theorem unl_set {l : Array Bool} {i : Nat} (hi : i < l.size) (h : l.getD i true = false) : unl (l.setIfInBounds i true) + 1 = unl l := by
  unfold unl
  have hg : l[i] = false := by simpa [Array.getD, hi] using h
  have e : l.toList = l.toList.take i ++ l[i] :: l.toList.drop (i + 1) := by
    have := List.take_append_drop i l.toList
    rw [List.drop_eq_getElem_cons (by simpa using hi)] at this
    simpa using this.symm
  have e2 : (l.setIfInBounds i true).toList = l.toList.take i ++ true :: l.toList.drop (i + 1) := by
    rw [Array.toList_setIfInBounds, List.set_eq_take_append_cons_drop, if_pos (by simpa using hi)]
  rw [e2]
  conv => rhs; rw [e]
  simp [hg]
  omega
theorem unl_zero {l : Array Bool} (h : unl l = 0) (i : Nat) : l.getD i true = true := by
  by_cases hi : i < l.size
  · cases hb : l.getD i true
    · have := unl_set hi hb; omega
    · rfl
  · simp [Array.getD, hi]

section
variable {P : Program} {ops : Array Oper} {Q : Exit → Act → World → Prop} {md : Region.Mode}
/-- Any order, by an invariant; where 'stop' holds the walk goes on by other means. -/
theorem wpAny_inv (ht : topoB ops = true) (I : Array Bool → Act → World → Prop) (stop : Array Bool → Prop)
    (hstop : ∀ listed, (∀ i, listed.getD i true = true) → listed.size = ops.size → stop listed)
    (hstep : ∀ listed a w, listed.size = ops.size → Closed md ops listed → I listed a w → ¬ stop listed → ∀ i o, ops[i]? = some o → listed.getD i true = false →
      (∀ e ∈ o.after, Region.binds md e = true → listed.getD e.on false = true) → ∀ K' : Act → World → Prop, (∀ a w, I (listed.setIfInBounds i true) a w → K' a w) →
      if Region.wanted o (yielded ops a.tmps) = true then Oper.wp P o a w K' Q else K' (a.put o.dst undef) w)
    (hend : ∀ fuel listed a w, listed.size = ops.size → Closed md ops listed → I listed a w → stop listed → unl listed ≤ fuel → wpAny P md ops Q fuel listed a w) :
    ∀ fuel listed a w, listed.size = ops.size → Closed md ops listed → unl listed ≤ fuel → I listed a w → wpAny P md ops Q fuel listed a w := by
  intro fuel
  induction fuel with
  | zero =>
    intro listed a w hs hc hu hI
    exact hend 0 listed a w hs hc hI (hstop listed (unl_zero (by omega)) hs) hu
  | succ fuel ih =>
    intro listed a w hs hc hu hI
    by_cases hst : stop listed
    · exact hend _ listed a w hs hc hI hst hu
    · have hex : ∃ i, i < ops.size ∧ listed.getD i true = false := by
        apply Classical.byContradiction
        intro hno
        apply hst
        refine hstop listed (fun i => ?_) hs
        by_cases hi : i < ops.size
        · cases hb : listed.getD i true
          · exact absurd ⟨i, hi, hb⟩ hno
          · rfl
        · simp [Array.getD, hs, hi]
      obtain ⟨i0, hi0, hb0⟩ := hex
      refine ⟨fun h0 => absurd h0 (ready_some ht hs (i0 + 1) i0 (by omega) hi0 hb0), fun i hi => ?_⟩
      obtain ⟨hun, o, ho, hall⟩ := mem_ready.1 hi
      have hi' : i < listed.size := by have := (Array.getElem?_eq_some_iff.1 ho).1; omega
      refine wpOp_step ho (fun K' hK => hstep listed a w hs hc hI hst i o ho hun hall K' (fun a w h => hK a w ?_))
      exact ih _ a w (by simpa using hs) (hc.step hi) (by have := unl_set hi' hun; omega) h
end
end Go.Proofs.Ytbcfafihkdddeaa
