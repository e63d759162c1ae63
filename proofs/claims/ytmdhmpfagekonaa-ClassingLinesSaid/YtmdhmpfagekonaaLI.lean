/- Regions by what holds behind their first operations. -/
import Derived.Test.YtmdhmpfagekonaaB0
import Derived.Orders
import Derived.RegionTactic
import Derived.OrdersHeld
import Derived.StillTail
import Derived.Deep.RegionHeld
/- A region whose operations come in any order, by what holds behind each of them: plain facts on the model's own words. -/
namespace Go.Proofs.Ytmdhmpfagekonaa
open Go.RowKit
set_option linter.unusedVariables false
set_option linter.unusedSimpArgs false

/-- Every operation waits for earlier ones alone. -/
def topoB (ops : Array Oper) : Bool := (List.range ops.size).all fun i => ((ops[i]?).map fun o => o.after.all fun e => decide (e.on < i)).getD true
theorem topo_spec {ops : Array Oper} (h : topoB ops = true) {i : Nat} {o : Oper} (ho : ops[i]? = some o) : ∀ e ∈ o.after, e.on < i := by
  have hi : i < ops.size := (Array.getElem?_eq_some_iff.1 ho).1
  unfold topoB at h
  rw [List.all_eq_true] at h
  have := h i (List.mem_range.2 hi)
  rw [ho] at this
  simp only [Option.map_some, Option.getD_some] at this
  intro e he
  rw [Array.all_eq_true_iff_forall_mem] at this
  simpa using this e he

theorem getD_bool {l : Array Bool} {i : Nat} (h : l.getD i true = true) (hi : i < l.size) : l.getD i false = true := by
  simp [Array.getD, hi] at h ⊢
  exact h

/-- While one has not come up, one may come up. -/
theorem ready_some {ops : Array Oper} {md : Region.Mode} (ht : topoB ops = true) {listed : Array Bool} (hs : listed.size = ops.size) : ∀ (n i : Nat), i < n → i < ops.size → listed.getD i true = false → Region.ready md ops listed ≠ [] := by
  intro n
  induction n with
  | zero => intro i h; omega
  | succ n ih =>
    intro i hn hi hl
    by_cases hall : ∀ j, j < i → listed.getD j true = true
    · have ho : ops[i]? = some ops[i] := Array.getElem?_eq_getElem hi
      have hm : i ∈ Region.ready md ops listed := mem_ready.2 ⟨hl, ops[i], ho, fun e he _ => getD_bool (hall _ (topo_spec ht ho e he)) (by have := topo_spec ht ho e he; omega)⟩
      intro h0
      rw [h0] at hm
      cases hm
    · have hex : ∃ j, j < i ∧ listed.getD j true = false := by
        apply Classical.byContradiction
        intro hno
        apply hall
        intro j hj
        cases hb : listed.getD j true
        · exact absurd ⟨j, hj, hb⟩ hno
        · rfl
      obtain ⟨j, hj, hb⟩ := hex
      exact ih j (by omega) (by omega) hb

/-- What is listed has what it waits for listed too. -/
def Closed (md : Region.Mode) (ops : Array Oper) (listed : Array Bool) : Prop :=
  ∀ i o, ops[i]? = some o → listed.getD i false = true → ∀ e ∈ o.after, Region.binds md e = true → listed.getD e.on false = true
theorem getD_set_same {l : Array Bool} {i : Nat} (h : i < l.size) : (l.setIfInBounds i true).getD i false = true := by simp [Array.getD, h]
theorem getD_set_keep {l : Array Bool} {i j : Nat} (h : l.getD j false = true) : (l.setIfInBounds i true).getD j false = true := by
  by_cases hj : j < l.size
  · by_cases e : i = j
    · subst e; exact getD_set_same hj
    · simp [Array.getD, hj, Array.getElem_setIfInBounds_ne hj e] at h ⊢; exact h
  · simp [Array.getD, hj] at h
theorem getD_set_back {l : Array Bool} {i j : Nat} (h : (l.setIfInBounds i true).getD j false = true) (e : i ≠ j) : l.getD j false = true := by
  by_cases hj : j < l.size
  · simp [Array.getD, hj, Array.getElem_setIfInBounds_ne hj e] at h ⊢; exact h
  · simp [Array.getD, hj] at h
theorem Closed.step {md : Region.Mode} {ops : Array Oper} {listed : Array Bool} (h : Closed md ops listed) {i : Nat} (hi : i ∈ Region.ready md ops listed) : Closed md ops (listed.setIfInBounds i true) := by
  intro j o ho hj e he hb
  by_cases eq : i = j
  · subst eq
    obtain ⟨_, o', ho', hall⟩ := mem_ready.1 hi
    rw [ho] at ho'
    cases ho'
    exact getD_set_keep (hall e he hb)
  · exact getD_set_keep (h j o ho (getD_set_back hj eq) e he hb)

/-- How many have not come up. -/
def unl (l : Array Bool) : Nat := (l.toList.filter (fun b => !b)).length
theorem unl_set {l : Array Bool} {i : Nat} (hi : i < l.size) (h : l.getD i true = false) : unl (l.setIfInBounds i true) + 1 = unl l := by
  unfold unl
  have hg : l[i] = false := by simpa [Array.getD, hi] using h
  have e : l.toList = l.toList.take i ++ l[i] :: l.toList.drop (i + 1) := by
    have := List.take_append_drop i l.toList
    rw [List.drop_eq_getElem_cons (by simpa using hi)] at this
    simpa using this.symm
  have e2 : (l.setIfInBounds i true).toList = l.toList.take i ++ true :: l.toList.drop (i + 1) := by
    rw [Array.toList_setIfInBounds, List.set_eq_take_append_cons_drop, if_pos (by simpa using hi)]
  rw [e2]
  conv => rhs; rw [e]
  simp [hg]
  omega
theorem unl_zero {l : Array Bool} (h : unl l = 0) (i : Nat) : l.getD i true = true := by
  by_cases hi : i < l.size
  · cases hb : l.getD i true
    · have := unl_set hi hb; omega
    · rfl
  · simp [Array.getD, hi]

section
variable {P : Program} {ops : Array Oper} {Q : Exit → Act → World → Prop} {md : Region.Mode}
/-- Any order, by an invariant; where 'stop' holds the walk goes on by other means. -/
theorem wpAny_inv (ht : topoB ops = true) (I : Array Bool → Act → World → Prop) (stop : Array Bool → Prop)
    (hstop : ∀ listed, (∀ i, listed.getD i true = true) → listed.size = ops.size → stop listed)
    (hstep : ∀ listed a w, listed.size = ops.size → Closed md ops listed → I listed a w → ¬ stop listed → ∀ i o, ops[i]? = some o → listed.getD i true = false →
      (∀ e ∈ o.after, Region.binds md e = true → listed.getD e.on false = true) → ∀ K' : Act → World → Prop, (∀ a w, I (listed.setIfInBounds i true) a w → K' a w) →
      if Region.wanted o (yielded ops a.tmps) = true then Oper.wp P o a w K' Q else K' (a.put o.dst undef) w)
    (hend : ∀ fuel listed a w, listed.size = ops.size → Closed md ops listed → I listed a w → stop listed → unl listed ≤ fuel → wpAny P md ops Q fuel listed a w) :
    ∀ fuel listed a w, listed.size = ops.size → Closed md ops listed → unl listed ≤ fuel → I listed a w → wpAny P md ops Q fuel listed a w := by
  intro fuel
  induction fuel with
  | zero =>
    intro listed a w hs hc hu hI
    exact hend 0 listed a w hs hc hI (hstop listed (unl_zero (by omega)) hs) hu
  | succ fuel ih =>
    intro listed a w hs hc hu hI
    by_cases hst : stop listed
    · exact hend _ listed a w hs hc hI hst hu
    · have hex : ∃ i, i < ops.size ∧ listed.getD i true = false := by
        apply Classical.byContradiction
        intro hno
        apply hst
        refine hstop listed (fun i => ?_) hs
        by_cases hi : i < ops.size
        · cases hb : listed.getD i true
          · exact absurd ⟨i, hi, hb⟩ hno
          · rfl
        · simp [Array.getD, hs, hi]
      obtain ⟨i0, hi0, hb0⟩ := hex
      refine ⟨fun h0 => absurd h0 (ready_some ht hs (i0 + 1) i0 (by omega) hi0 hb0), fun i hi => ?_⟩
      obtain ⟨hun, o, ho, hall⟩ := mem_ready.1 hi
      have hi' : i < listed.size := by have := (Array.getElem?_eq_some_iff.1 ho).1; omega
      refine wpOp_step ho (fun K' hK => hstep listed a w hs hc hI hst i o ho hun hall K' (fun a w h => hK a w ?_))
      exact ih _ a w (by simpa using hs) (hc.step hi) (by have := unl_set hi' hun; omega) h
end
end Go.Proofs.Ytmdhmpfagekonaa

/- A region whose last operations store into what its first ones read: what is held is held behind the first n operations alone. Plain facts on the model's own words. -/
namespace Go.Proofs.Ytmdhmpfagekonaa
open Go.RowKit
set_option linter.unusedVariables false
set_option linter.unusedSimpArgs false

section
variable {P : Program} {ops : Array Oper} {Q : Exit → Act → World → Prop} {md : Region.Mode} {S : World → Prop} {n : Nat}
/-- Whatever order is picked; S holds behind each of the first n. -/
def wpAnyG (P : Program) (md : Region.Mode) (ops : Array Oper) (Q : Exit → Act → World → Prop) (S : World → Prop) (n : Nat) : Nat → Array Bool → Act → World → Prop
  | 0, listed, a, w => Region.ready md ops listed = [] ∧ Q .normal a w
  | fuel + 1, listed, a, w =>
    (Region.ready md ops listed = [] → Q .normal a w) ∧
    ∀ i ∈ Region.ready md ops listed, wpOp P ops Q i (fun a' w' => (i < n → S w') ∧ wpAnyG P md ops Q S n fuel (listed.setIfInBounds i true) a' w') a w
theorem wpAny_of_G : ∀ (fuel : Nat) (listed : Array Bool) (a : Act) (w : World), wpAnyG P md ops Q S n fuel listed a w → wpAny P md ops Q fuel listed a w
  | 0, _, _, _, h => h
  | fuel + 1, _, _, _, h => ⟨h.1, fun i hi => wpOp_mono (fun a' w' h' => wpAny_of_G fuel _ a' w' h'.2) (h.2 i hi)⟩
/-- Number t waits for number i, at once or through others. -/
def waitsT (md : Region.Mode) (ops : Array Oper) : Nat → Nat → Nat → Bool
  | 0, _, _ => false
  | f + 1, t, i => match ops[t]? with
    | some o => o.after.any fun e => Region.binds md e && (e.on == i || waitsT md ops f e.on i)
    | none => false
theorem waitsT_spec {i : Nat} {listed : Array Bool} (hc : Closed md ops listed) (hi : listed.getD i false = false) : ∀ (f t : Nat), waitsT md ops f t i = true → ∃ o, ops[t]? = some o ∧ ∃ e ∈ o.after, Region.binds md e = true ∧ listed.getD e.on false = false
  | 0, t, h => by cases h
  | f + 1, t, h => by
    unfold waitsT at h
    split at h
    · rename_i o ho
      obtain ⟨e, he, hb⟩ := Array.any_eq_true'.1 h
      simp only [Bool.and_eq_true, Bool.or_eq_true, beq_iff_eq] at hb
      refine ⟨o, ho, e, he, hb.1, ?_⟩
      rcases hb.2 with h2 | h2
      · rw [h2]; exact hi
      · obtain ⟨o2, ho2, e2, he2, hb2, hl2⟩ := waitsT_spec hc hi f e.on h2
        cases hl : listed.getD e.on false with
        | false => rfl
        | true => have := hc e.on o2 ho2 hl e2 he2 hb2; rw [hl2] at this; cases this
    · cases h
/-- From number n on every operation waits for number i. -/
def tailB (md : Region.Mode) (ops : Array Oper) (n i : Nat) : Bool := (List.range ops.size).all fun t => decide (t < n) || waitsT md ops 6 t i
theorem tail_not {i : Nat} {listed : Array Bool} (hc : Closed md ops listed) (hT : tailB md ops n i = true) (hi : listed.getD i false = false) : ∀ j ∈ Region.ready md ops listed, j < n := fun j hj => by
  obtain ⟨_, oj, hoj, hall⟩ := mem_ready.1 hj
  unfold tailB at hT
  rw [List.all_eq_true] at hT
  have h1 := hT j (List.mem_range.2 (Array.getElem?_eq_some_iff.1 hoj).1)
  rw [Bool.or_eq_true] at h1
  rcases h1 with h1 | h1
  · simpa using h1
  · obtain ⟨o', ho', e, he, hb, hl⟩ := waitsT_spec hc hi 6 j h1
    rw [hoj] at ho'; cases ho'
    have := hall e he hb
    rw [hl] at this; cases this
def closedB (md : Region.Mode) (ops : Array Oper) (listed : Array Bool) : Bool := (List.range ops.size).all fun j => !listed.getD j false || ((ops[j]?).map fun o => o.after.all fun e => !Region.binds md e || listed.getD e.on false).getD true
theorem closedB_spec {listed : Array Bool} (h : closedB md ops listed = true) : Closed md ops listed := fun j o ho hl e he hb => by
  unfold closedB at h
  rw [List.all_eq_true] at h
  have h1 := h j (List.mem_range.2 (Array.getElem?_eq_some_iff.1 ho).1)
  rw [hl, ho] at h1
  simp only [Bool.not_true, Bool.false_or, Option.map_some, Option.getD_some] at h1
  have h2 := Array.all_eq_true_iff_forall_mem.1 h1 e he
  rw [hb] at h2
  simpa using h2
theorem wpAnyG_first {i : Nat} {oi : Oper} {v : Value} (hi : ops[i]? = some oi) (hsel : ∀ (j : Nat) (o : Oper) cs b, ops[j]? = some o → o.op ≠ .select cs b)
    (hQ : ∀ c a w, Q (.panic c) (a.put oi.dst v) w → Q (.panic c) a w) (hT : tailB md ops n i = true) (hin : i < n) :
    ∀ (fuel : Nat) (listed : Array Bool) (a : Act) (w : World), Closed md ops listed →
      (∀ j oj, ops[j]? = some oj → j ≠ i → listed.getD j true = false → (∀ e ∈ oj.after, Region.binds md e = true → e.on ≠ i) → oi.apart ops oj = true) →
      i ∈ Region.ready md ops listed → YieldsIf P ops S oi v a → S w →
      wpAnyG P md ops Q S n fuel (listed.setIfInBounds i true) (a.put oi.dst v) w → wpAnyG P md ops Q S n (fuel + 1) listed a w := by
  intro fuel
  induction fuel with
  | zero =>
    intro listed a w _ _ hr hy hS H
    refine ⟨fun h => (by rw [h] at hr; cases hr), fun j hj => ?_⟩
    by_cases hji : j = i
    · subst hji; exact hy.wpOp hi hS ⟨fun _ => hS, H⟩
    · have := ready_mono hj hji
      rw [H.1] at this
      cases this
  | succ fuel ih =>
    intro listed a w hcl hfree hr hy hS H
    refine ⟨fun h => (by rw [h] at hr; cases hr), fun j hj => ?_⟩
    by_cases hji : j = i
    · subst hji; exact hy.wpOp hi hS ⟨fun _ => hS, H⟩
    · have hjn : j < n := tail_not hcl hT (getD_both (mem_ready.1 hr).1) j hj
      have h1 := H.2 j (ready_mono hj hji)
      obtain ⟨hjun, oj, hoj, hall⟩ := mem_ready.1 hj
      have hnot : ∀ e ∈ oj.after, Region.binds md e = true → e.on ≠ i := fun e he hb heq => by
        have h1 := hall e he hb
        have h0 := getD_both (mem_ready.1 hr).1
        rw [heq, h0] at h1
        cases h1
      have h2 := wpOp_putIf hoj (hfree j oj hoj hji hjun hnot) (fun cs b => hsel i oi cs b hi) (fun cs b => hsel j oj cs b hoj) hQ hy h1
      have hfree' : ∀ k ok, ops[k]? = some ok → k ≠ i → (listed.setIfInBounds j true).getD k true = false →
          (∀ e ∈ ok.after, Region.binds md e = true → e.on ≠ i) → oi.apart ops ok = true := fun k ok hk hki hun hno => by
        refine hfree k ok hk hki ?_ hno
        by_cases hjk : j = k
        · subst hjk; exact hjun
        · rw [getD_set_ne true hjk] at hun; exact hun
      refine wpOp_mono (fun a' w' h3 => ⟨fun _ => h3.2.1 hjn, ih (listed.setIfInBounds j true) a' w' (hcl.step hj) hfree' (ready_mono hr (Ne.symm hji)) h3.1 (h3.2.1 hjn) ?_⟩) h2
      rw [Array.setIfInBounds_comm _ _ hji]
      exact h3.2.2
theorem wpAnyG_take {i : Nat} {oi : Oper} {v : Value} {fuel : Nat} {listed : Array Bool} {a : Act} {w : World} (hi : ops[i]? = some oi)
    (hs : Region.noSelect ops = true) (hf : Region.free md ops listed i = true) (hr : (Region.ready md ops listed).contains i = true) (hT : tailB md ops n i = true) (hcl : closedB md ops listed = true) (hin : i < n)
    (hQ : ∀ c a w, Q (.panic c) (a.put oi.dst v) w → Q (.panic c) a w) (hw : Region.wanted oi (yielded ops a.tmps) = true) (hy : ∀ w, S w → (execOp a.eval oi).run P w = .ok (.value v) w) (hS : S w)
    (h : wpAnyG P md ops Q S n fuel (listed.setIfInBounds i true) (a.put oi.dst v) w) : wpAnyG P md ops Q S n (fuel + 1) listed a w :=
  wpAnyG_first hi (Region.noSelect_spec hs) hQ hT hin fuel listed a w (closedB_spec hcl) (Region.free_spec hi hf) (by simpa using hr) (.inl ⟨hw, hy⟩) hS h
/-- One alone may come up. -/
theorem wpAnyG_one {i : Nat} {o : Oper} {fuel : Nat} {listed : Array Bool} {a : Act} {w : World} (hr : Region.ready md ops listed = [i]) (ho : ops[i]? = some o)
    (h : ∀ K' : Act → World → Prop, Shut (∀ a w, (i < n → S w) → wpAnyG P md ops Q S n fuel (listed.setIfInBounds i true) a w → K' a w) → if Region.wanted o (yielded ops a.tmps) = true then Oper.wp P o a w K' Q else K' (a.put o.dst undef) w) : wpAnyG P md ops Q S n (fuel + 1) listed a w :=
  ⟨fun h0 => (by rw [hr] at h0; cases h0), hr ▸ fun j hj => by
    rw [List.mem_singleton] at hj; subst hj
    exact wpOp_step ho (fun K' hK => h K' (fun a w h1 h2 => hK a w ⟨h1, h2⟩))⟩
theorem wpAnyG_done {listed : Array Bool} {a : Act} {w : World} (hr : Region.ready md ops listed = []) (h : Q .normal a w) :
    ∀ fuel, wpAnyG P md ops Q S n fuel listed a w
  | 0 => ⟨hr, h⟩
  | _ + 1 => ⟨fun _ => h, by rw [hr]; simp⟩
theorem wp_region_G (S : World → Prop) (n : Nat) {id : Nat} {a : Act} {w : World} (hm : P.follows .mixedOrders = true)
    (h : wpAnyG P .any ops Q S n ops.size (Array.replicate ops.size false) a w.drew) : (Code.region id ops true).wp P Q a w := wp_region_any hm (wpAny_of_G _ _ _ _ h)
end
end Go.Proofs.Ytmdhmpfagekonaa

/- A region of which two operations may come up: plain facts on the model's own words. -/
namespace Go.Proofs.Ytmdhmpfagekonaa
open Go.RowKit
set_option linter.unusedVariables false
set_option linter.unusedSimpArgs false

section
variable {P : Program} {ops : Array Oper} {Q : Exit → Act → World → Prop} {md : Region.Mode} {S : World → Prop} {n : Nat}
/-- Two alone may come up. -/
theorem wpAnyG_two {i j : Nat} {o p : Oper} {fuel : Nat} {listed : Array Bool} {a : Act} {w : World} (hr : Region.ready md ops listed = [i, j]) (ho : ops[i]? = some o) (hp : ops[j]? = some p)
    (h1 : ∀ K' : Act → World → Prop, Shut (∀ a w, (i < n → S w) → wpAnyG P md ops Q S n fuel (listed.setIfInBounds i true) a w → K' a w) → if Region.wanted o (yielded ops a.tmps) = true then Oper.wp P o a w K' Q else K' (a.put o.dst undef) w)
    (h2 : ∀ K' : Act → World → Prop, Shut (∀ a w, (j < n → S w) → wpAnyG P md ops Q S n fuel (listed.setIfInBounds j true) a w → K' a w) → if Region.wanted p (yielded ops a.tmps) = true then Oper.wp P p a w K' Q else K' (a.put p.dst undef) w) : wpAnyG P md ops Q S n (fuel + 1) listed a w :=
  ⟨fun h0 => (by rw [hr] at h0; cases h0), hr ▸ fun k hk => by
    rcases List.mem_cons.1 hk with e | hk
    · subst e
      exact wpOp_step ho (fun K' hK => h1 K' (fun a w x y => hK a w ⟨x, y⟩))
    · rw [List.mem_singleton] at hk
      subst hk
      exact wpOp_step hp (fun K' hK => h2 K' (fun a w x y => hK a w ⟨x, y⟩))⟩
end
end Go.Proofs.Ytmdhmpfagekonaa
