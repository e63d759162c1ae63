/- Several texts in one: AF1 AD4. -/
import Derived.Test.YtlahdfmciaibdaaDoorND8
import Derived.Test.YtlahdfmciaibdaaDoorND11

/- Operations of a region that come up in any order, each told by what its result is: calls one behind the other, and boxes anywhere between them. Plain facts on the model's own words. -/
namespace Go.Proofs.YtlahdfmciaibdaaDoor
open Go.RowKit
set_option linter.unusedVariables false
set_option linter.unusedSimpArgs false

theorem putL_same (a : Act) (s : Nat) (v v' : Value) : (a.put (some s) v).put (some s) v' = a.put (some s) v' := by simp [Act.put]
theorem putL_comm (a : Act) {s t : Nat} (h : s ≠ t) (v v' : Value) : (a.put (some s) v).put (some t) v' = (a.put (some t) v').put (some s) v := by
  simp [Act.put, Array.setIfInBounds_comm _ _ h]
/-- Slots put one by one. -/
def putL (a : Act) : List Nat → List Value → Act
  | s :: ss, v :: vs => putL (a.put (some s) v) ss vs
  | _, _ => a
theorem putL_out {s : Nat} {v : Value} : ∀ (ss : List Nat) (vs : List Value) (a : Act), s ∉ ss → (putL a ss vs).put (some s) v = putL (a.put (some s) v) ss vs
  | [], _, _, _ => rfl
  | _ :: _, [], _, _ => rfl
  | t :: ss, x :: vs, a, h => by
    have h1 : s ≠ t := fun e => h (by rw [e]; exact List.mem_cons_self)
    have h2 : s ∉ ss := fun e => h (List.mem_cons_of_mem _ e)
    show (putL (a.put (some t) x) ss vs).put (some s) v = putL ((a.put (some s) v).put (some t) x) ss vs
    rw [putL_out ss vs _ h2, putL_comm _ (Ne.symm h1)]
theorem putL_set {v : Value} : ∀ (ss : List Nat) (vs : List Value) (a : Act) (p : Nat), ss.Nodup → vs.length = ss.length → p < ss.length → (putL a ss vs).put (some (ss.getD p 0)) v = putL a ss (vs.set p v)
  | [], _, _, p, _, _, h => by simp at h
  | s :: ss, [], _, p, _, h, _ => by simp at h
  | s :: ss, x :: vs, a, 0, hn, hl, hp => by
    show (putL (a.put (some s) x) ss vs).put (some s) v = putL (a.put (some s) v) ss vs
    rw [putL_out ss vs _ (List.nodup_cons.1 hn).1, putL_same]
  | s :: ss, x :: vs, a, p + 1, hn, hl, hp => by
    show (putL (a.put (some s) x) ss vs).put (some (ss.getD p 0)) v = putL (a.put (some s) x) ss (vs.set p v)
    exact putL_set ss vs _ p (List.nodup_cons.1 hn).2 (by simpa using hl) (by simpa using hp)
theorem put_own (a : Act) (d : Nat) : a.put (some d) (a.tmps.getD d undef) = a := by
  unfold Act.put
  have : a.tmps.setIfInBounds d (a.tmps.getD d undef) = a.tmps := by
    by_cases h : d < a.tmps.size
    · apply Array.ext
      · simp
      · intro i h1 h2
        by_cases e : d = i
        · subst e; simp [Array.getD, h]
        · simp [Array.getElem_setIfInBounds_ne h2 e]
    · simp [Array.setIfInBounds, h]
  simp only [this]
theorem putL_own (a : Act) : ∀ ds : List Nat, putL a ds (ds.map fun d => a.tmps.getD d undef) = a
  | [] => rfl
  | d :: ds => by
    show putL (a.put (some d) (a.tmps.getD d undef)) ds (ds.map fun d => a.tmps.getD d undef) = a
    rw [put_own]; exact putL_own a ds
theorem getD_set_p {vs : List Value} {p : Nat} {v : Value} (h : p < vs.length) : (vs.set p v).getD p undef = v := by simp [List.getD, h]
theorem getD_set_q {vs : List Value} {p q : Nat} {v : Value} (h : p ≠ q) : (vs.set p v).getD q undef = vs.getD q undef := by simp [List.getD, List.getElem?_set_ne h]
theorem setb_other {l : Array Bool} {i j : Nat} (e : i ≠ j) : (l.setIfInBounds i true).getD j false = l.getD j false := by
  by_cases hj : j < l.size
  · simp [Array.getD, hj, Array.getElem_setIfInBounds_ne hj e]
  · simp [Array.getD, hj]

section
variable {P : Program} {ops : Array Oper} {Q : Exit → Act → World → Prop} {md : Region.Mode} {S : World → Prop} {n : Nat}
/-- Every operation waits for earlier ones alone, where it must wait. -/
def topoM (md : Region.Mode) (ops : Array Oper) : Bool := (List.range ops.size).all fun i => ((ops[i]?).map fun o => o.after.all fun e => !Region.binds md e || decide (e.on < i)).getD true
theorem topoM_spec (h : topoM md ops = true) {i : Nat} {o : Oper} (ho : ops[i]? = some o) : ∀ e ∈ o.after, Region.binds md e = true → e.on < i := by
  have hi : i < ops.size := (Array.getElem?_eq_some_iff.1 ho).1
  unfold topoM at h
  rw [List.all_eq_true] at h
  have := h i (List.mem_range.2 hi)
  rw [ho] at this
  simp only [Option.map_some, Option.getD_some] at this
  intro e he hb
  rw [Array.all_eq_true_iff_forall_mem] at this
  have := this e he
  rw [hb] at this
  simpa using this
theorem ready_someM (ht : topoM md ops = true) {listed : Array Bool} (hs : listed.size = ops.size) : ∀ (n i : Nat), i < n → i < ops.size → listed.getD i true = false → Region.ready md ops listed ≠ [] := by
  intro n
  induction n with
  | zero => intro i h; omega
  | succ n ih =>
    intro i hn hi hl
    by_cases hall : ∀ j, j < i → listed.getD j true = true
    · have ho : ops[i]? = some ops[i] := Array.getElem?_eq_getElem hi
      have hm : i ∈ Region.ready md ops listed := mem_ready.2 ⟨hl, ops[i], ho, fun e he hb => getD_bool (hall _ (topoM_spec ht ho e he hb)) (by have := topoM_spec ht ho e he hb; omega)⟩
      intro h0
      rw [h0] at hm
      cases hm
    · have hex : ∃ j, j < i ∧ listed.getD j true = false := by
        apply Classical.byContradiction
        intro hno
        apply hall
        intro j hj
        cases hb : listed.getD j true
        · exact absurd ⟨j, hj, hb⟩ hno
        · rfl
      obtain ⟨j, hj, hb⟩ := hex
      exact ih j (by omega) (by omega) hb
/-- From number m on every operation waits for number i. -/
def tailM (md : Region.Mode) (ops : Array Oper) (m i : Nat) : Bool := (List.range ops.size).all fun t => decide (t < m) || waitsT md ops 6 t i
theorem tailM_not {m i : Nat} {listed : Array Bool} (hc : Closed md ops listed) (hT : tailM md ops m i = true) (hi : listed.getD i false = false) : ∀ j ∈ Region.ready md ops listed, j < m := fun j hj => by
  obtain ⟨_, oj, hoj, hall⟩ := mem_ready.1 hj
  unfold tailM at hT
  rw [List.all_eq_true] at hT
  have h1 := hT j (List.mem_range.2 (Array.getElem?_eq_some_iff.1 hoj).1)
  rw [Bool.or_eq_true] at h1
  rcases h1 with h1 | h1
  · simpa using h1
  · obtain ⟨o', ho', e, he, hb, hl⟩ := waitsT_spec hc hi 6 j h1
    rw [hoj] at ho'; cases ho'
    have := hall e he hb
    rw [hl] at this; cases this
theorem wpAnyG_inv' (ht : topoM md ops = true) (I : Array Bool → Act → World → Prop) (stop : Array Bool → Prop) (hIS : ∀ L a w, I L a w → S w)
    (hstop : ∀ listed, (∀ i, listed.getD i true = true) → listed.size = ops.size → stop listed)
    (hstep : ∀ listed a w, listed.size = ops.size → Closed md ops listed → I listed a w → ¬ stop listed → ∀ i o, ops[i]? = some o → listed.getD i true = false →
      (∀ e ∈ o.after, Region.binds md e = true → listed.getD e.on false = true) → ∀ K' : Act → World → Prop, Shut (∀ a w, I (listed.setIfInBounds i true) a w → K' a w) →
      if Region.wanted o (yielded ops a.tmps) = true then Oper.wp P o a w K' Q else K' (a.put o.dst undef) w)
    (hend : ∀ fuel listed a w, listed.size = ops.size → Closed md ops listed → I listed a w → stop listed → unl listed ≤ fuel → wpAnyG P md ops Q S n fuel listed a w) :
    ∀ fuel listed a w, listed.size = ops.size → Closed md ops listed → unl listed ≤ fuel → I listed a w → wpAnyG P md ops Q S n fuel listed a w := by
  intro fuel
  induction fuel with
  | zero =>
    intro listed a w hs hc hu hI
    exact hend 0 listed a w hs hc hI (hstop listed (unl_zero (by omega)) hs) hu
  | succ fuel ih =>
    intro listed a w hs hc hu hI
    by_cases hst : stop listed
    · exact hend _ listed a w hs hc hI hst hu
    · have hex : ∃ i, i < ops.size ∧ listed.getD i true = false := by
        apply Classical.byContradiction
        intro hno
        apply hst
        refine hstop listed (fun i => ?_) hs
        by_cases hi : i < ops.size
        · cases hb : listed.getD i true
          · exact absurd ⟨i, hi, hb⟩ hno
          · rfl
        · simp [Array.getD, hs, hi]
      obtain ⟨i0, hi0, hb0⟩ := hex
      refine ⟨fun h0 => absurd h0 (ready_someM ht hs (i0 + 1) i0 (by omega) hi0 hb0), fun i hi => ?_⟩
      obtain ⟨hun, o, ho, hall⟩ := mem_ready.1 hi
      have hi' : i < listed.size := by have := (Array.getElem?_eq_some_iff.1 ho).1; omega
      refine wpOp_step ho (fun K' hK => hstep listed a w hs hc hI hst i o ho hun hall K' (fun a w h => hK a w ⟨fun _ => hIS _ _ _ h, ?_⟩))
      exact ih _ a w (by simpa using hs) (hc.step hi) (by have := unl_set hi' hun; omega) h

/-- What holds while they come up. -/
structure FlI (a0 : Act) (w0 : World) (S : World → Prop) (ds ix : List Nat) (Val : Nat → Value → World → Prop) (bx : Nat → Bool) (m : Nat) (vs : List Value) (L : Array Bool) (a : Act) (w : World) : Prop where
  len : vs.length = ds.length
  act : a = putL a0 ds vs
  s : S w
  bel : Below w0.heap.size w0 w
  val : ∀ p, p < ds.length → L.getD (ix.getD p 0) false = true → Val p (vs.getD p undef) w
  dis : ∀ p q, p < q → q < ds.length → bx p = true → bx q = true → L.getD (ix.getD p 0) false = true → L.getD (ix.getD q 0) false = true → vs.getD p undef ≠ vs.getD q undef
  low : ∀ j, j < m → j ∉ ix → L.getD j false = true
  high : ∀ j, m ≤ j → L.getD j false = false
/-- Each operation waits for those that it is told to want. -/
def depB (md : Region.Mode) (ops : Array Oper) (ix : List Nat) (dp : Nat → List Nat) : Bool :=
  (List.range ix.length).all fun p => match ops[ix.getD p 0]? with
    | some o => (dp p).all fun q => decide (q < ix.length) && o.after.any fun e => Region.binds md e && e.on == ix.getD q 0
    | none => false
theorem depB_spec {ix : List Nat} {dp : Nat → List Nat} (h : depB md ops ix dp = true) {p : Nat} (hp : p < ix.length) {o : Oper} (ho : ops[ix.getD p 0]? = some o) : ∀ q ∈ dp p, q < ix.length ∧ ∃ e ∈ o.after, Region.binds md e = true ∧ e.on = ix.getD q 0 := by
  unfold depB at h
  rw [List.all_eq_true] at h
  have h1 := h p (List.mem_range.2 hp)
  rw [ho] at h1
  intro q hq
  have h2 := List.all_eq_true.1 h1 q hq
  rw [Bool.and_eq_true, decide_eq_true_eq] at h2
  obtain ⟨e, he, hb⟩ := Array.any_eq_true'.1 h2.2
  simp only [Bool.and_eq_true, beq_iff_eq] at hb
  exact ⟨h2.1, e, he, hb.1, hb.2⟩
theorem pos_of {ix : List Nat} {i : Nat} (h : i ∈ ix) : ∃ p, p < ix.length ∧ ix.getD p 0 = i := by
  obtain ⟨p, hp, e⟩ := List.mem_iff_getElem.1 h
  exact ⟨p, hp, by simp [List.getD, hp, e]⟩
theorem inj_of {ix : List Nat} (hn : ix.Nodup) {p q : Nat} (hp : p < ix.length) (hq : q < ix.length) (e : ix.getD p 0 = ix.getD q 0) : p = q := by
  rw [List.getD, List.getD, List.getElem?_eq_getElem hp, List.getElem?_eq_getElem hq] at e
  exact (List.getElem_inj hn).1 e

theorem wpAnyG_flow {fuel : Nat} {listed Lend : Array Bool} {a0 : Act} {w0 w : World} (ds ix : List Nat) (Val : Nat → Value → World → Prop) (bx : Nat → Bool) (dp : Nat → List Nat) (m io : Nat)
    (ht : topoM md ops = true) (hs : listed.size = ops.size) (hcl : closedB md ops listed = true) (hu : unl listed ≤ fuel)
    (D : ds.Nodup) (E : ix.Nodup) (hlen : ix.length = ds.length) (M : ∀ i ∈ ix, i < m) (Mo : m ≤ ops.size) (T : ix.all (fun i => i == io || tailM md ops m i) = true) (hdp : depB md ops ix dp = true)
    (hS : S w) (hB : Below w0.heap.size w0 w)
    (hfl : ∀ i ∈ ix, listed.getD i false = false) (ho : ∀ j, j < m → j ∉ ix → listed.getD j false = true) (hz : ∀ j, m ≤ j → listed.getD j false = false)
    (hLs : Lend.size = ops.size) (hLm : ∀ j, j < ops.size → Lend.getD j false = decide (j < m))
    (hval : ∀ p v w w', Val p v w → Below w.heap.size w w' → Val p v w')
    (hbx : ∀ p v w, bx p = true → Val p v w → ∃ b, v = .pointer (some ⟨b, 0, none⟩) ∧ b < w.heap.size)
    (H : ∀ p, p < ds.length → ∀ vs w', vs.length = ds.length → S w' → Below w0.heap.size w0 w' → (∀ q ∈ dp p, Val q (vs.getD q undef) w') → ∀ o, ops[ix.getD p 0]? = some o → ∀ A : Act, Hid (A = putL a0 ds vs) → ∀ K' : Act → World → Prop,
      Shut (∀ v w'', Below w'.heap.size w' w'' → S w'' → Val p v w'' → (bx p = true → ∃ b, v = .pointer (some ⟨b, 0, none⟩) ∧ w'.heap.size ≤ b) → K' (A.put (some (ds.getD p 0)) v) w'') →
      if Region.wanted o (yielded ops A.tmps) = true then Oper.wp P o A w' K' Q else K' (A.put o.dst undef) w')
    (hend : ∀ vs w', vs.length = ds.length → S w' → Below w0.heap.size w0 w' → (∀ p, p < ds.length → Val p (vs.getD p undef) w') → (∀ p q, p < q → q < ds.length → bx p = true → bx q = true → vs.getD p undef ≠ vs.getD q undef) →
      ∀ A : Act, Hid (A = putL a0 ds vs) → ∀ f, unl Lend ≤ f → wpAnyG P md ops Q S n f Lend A w')
    (po : Nat) (hpo : io < m → po < ds.length ∧ ix.getD po 0 = io ∧ bx po = false)
    (hopt : io < m → ∃ oi, ops[io]? = some oi ∧ oi.dst = some (ds.getD po 0) ∧ Region.noSelect ops = true ∧ Region.free md ops (Lend.setIfInBounds io false) io = true ∧ (Region.ready md ops (Lend.setIfInBounds io false)).contains io = true ∧ tailB md ops n io = true ∧ closedB md ops (Lend.setIfInBounds io false) = true ∧ io < n ∧
      (∀ v, ∀ c a w, Q (.panic c) (a.put oi.dst v) w → Q (.panic c) a w) ∧ (∀ vs w', vs.length = ds.length → (∀ q ∈ dp po, Val q (vs.getD q undef) w') → ∀ A, Hid (A = putL a0 ds vs) → ∃ v, Val po v w' ∧ Region.wanted oi (yielded ops A.tmps) = true ∧ ∀ w, S w → (execOp A.eval oi).run P w = .ok (.value v) w)) :
    wpAnyG P md ops Q S n fuel listed a0 w := by
  refine wpAnyG_inv' ht (fun L a w => ∃ vs, FlI a0 w0 S ds ix Val bx m vs L a w) (fun L => ∀ j, j < m → j ≠ io → L.getD j false = true) ?hIS ?hstop ?hstep ?hend fuel listed a0 w hs (closedB_spec hcl) hu ?hinit
  case hIS => rintro L a w ⟨vs, h⟩; exact h.s
  case hstop => intro L h e j hj _; exact getD_bool (h j) (by omega)
  case hinit =>
    have gi : ∀ p, p < ds.length → listed.getD (ix.getD p 0) false = false := fun p hp => hfl _ (by
      rw [List.getD, List.getElem?_eq_getElem (by omega)]; exact List.getElem_mem _)
    exact ⟨_, ⟨by simp, (putL_own a0 ds).symm, hS, hB, fun p hp h => (by rw [gi p hp] at h; cases h), fun p q pq hq _ _ h => (by rw [gi p (by omega)] at h; cases h), ho, hz⟩⟩
  case hend =>
    rintro f L a' w' hL hc ⟨vs, I⟩ hst hu'
    have gm : ∀ p, p < ds.length → ix.getD p 0 < m := fun p hp => M _ (by
      rw [List.getD, List.getElem?_eq_getElem (by omega)]; exact List.getElem_mem _)
    rw [I.act]
    by_cases hio : io < m → L.getD io false = true
    · have hLL : L = Lend := by
        refine Array.ext (by omega) fun j x1 x2 => ?_
        have e : L.getD j false = L[j] := by simp [Array.getD, x1]
        have e' : Lend.getD j false = Lend[j] := by simp [Array.getD, x2]
        rw [← e, ← e', hLm j (by omega)]
        by_cases c : j < m
        · by_cases c2 : j = io
          · subst c2; rw [hio c]; simp [c]
          · rw [hst j c c2]; simp [c]
        · rw [I.high j (by omega)]; simp [c]
      have all : ∀ j, j < m → L.getD j false = true := fun j hj => by
        by_cases c2 : j = io
        · subst c2; exact hio hj
        · exact hst j hj c2
      subst hLL
      exact hend vs w' I.len I.s I.bel (fun p hp => I.val p hp (all _ (gm p hp))) (fun p q pq hq b1 b2 => I.dis p q pq hq b1 b2 (all _ (gm p (by omega))) (all _ (gm q hq))) _ (Lib.hid rfl) f hu'
    · have hm : io < m := by
        apply Classical.byContradiction; intro c; exact hio (fun h => absurd h c)
      have hf : L.getD io false = false := by
        cases hb : L.getD io false with
        | false => rfl
        | true => exact absurd (fun _ => hb) hio
      have hLL : L = Lend.setIfInBounds io false := by
        refine Array.ext (by simp; omega) fun j x1 x2 => ?_
        have e : L.getD j false = L[j] := by simp [Array.getD, x1]
        rw [← e]
        by_cases c2 : j = io
        · subst c2; rw [hf]; simp
        · have x3 : j < Lend.size := by simpa using x2
          rw [Array.getElem_setIfInBounds_ne x3 (Ne.symm c2)]
          have e' : Lend.getD j false = Lend[j] := by simp [Array.getD, x3]
          rw [← e', hLm j (by omega)]
          by_cases c : j < m
          · rw [hst j c c2]; simp [c]
          · rw [I.high j (by omega)]; simp [c]
      obtain ⟨oi, q1, q2, q3, q4, q5, q6, q7, q8, q9, q10⟩ := hopt hm
      obtain ⟨k1, k2, k3⟩ := hpo hm
      have dl : ∀ q ∈ dp po, Val q (vs.getD q undef) w' := fun q hq => by
        obtain ⟨hq', e, he, hb, hon⟩ := depB_spec hdp (p := po) (by omega) (by rw [k2]; exact q1) q hq
        have qm := gm q (by omega)
        refine I.val q (by omega) (hst _ qm (fun e2 => ?_))
        have := topoM_spec ht q1 e he hb
        omega
      obtain ⟨v, g1, g2, g3⟩ := q10 vs w' I.len dl _ (Lib.hid rfl)
      rw [hLL] at hu' ⊢
      have io_lt : io < Lend.size := by omega
      have LE : (Lend.setIfInBounds io false).setIfInBounds io true = Lend := by
        refine Array.ext (by simp) fun j x1 x2 => ?_
        by_cases c2 : io = j
        · subst c2
          have e' : Lend.getD io false = Lend[io] := by simp [Array.getD, x2]
          rw [← e', hLm io (by omega)]; simp [hm]
        · rw [Array.getElem_setIfInBounds_ne (by simpa using x1) c2, Array.getElem_setIfInBounds_ne (by simpa using x1) c2]
      have UN : unl Lend + 1 = unl (Lend.setIfInBounds io false) := by
        have := unl_set (l := Lend.setIfInBounds io false) (i := io) (by simpa using io_lt) (by simp [Array.getD, io_lt])
        rwa [LE] at this
      obtain ⟨f, rfl⟩ : ∃ g, f = g + 1 := ⟨f - 1, by omega⟩
      refine wpAnyG_take q1 q3 q4 q5 q6 q7 q8 (q9 v) g2 g3 I.s ?_
      rw [LE, q2, putL_set ds vs a0 po D I.len k1]
      have own : ∀ p, p < ds.length → p ≠ po → ix.getD p 0 ≠ io := fun p hp hne e => hne (inj_of E (by omega) (by omega) (e.trans k2.symm))
      refine hend (vs.set po v) w' (by simp [I.len]) I.s I.bel (fun p hp => ?_) (fun p q pq hq b1 b2 => ?_) _ (Lib.hid rfl) f (by omega)
      · by_cases e : po = p
        · subst e; rw [getD_set_p (by rw [I.len]; exact k1)]; exact g1
        · rw [getD_set_q e]; exact I.val p hp (hst _ (gm p hp) (own p hp (Ne.symm e)))
      · have n1 : po ≠ p := fun e => by rw [← e, k3] at b1; cases b1
        have n2 : po ≠ q := fun e => by rw [← e, k3] at b2; cases b2
        rw [getD_set_q n1, getD_set_q n2]
        exact I.dis p q pq hq b1 b2 (hst _ (gm p (by omega)) (own p (by omega) (Ne.symm n1))) (hst _ (gm q hq) (own q hq (Ne.symm n2)))
  case hstep =>
    rintro L a' w' hL hc ⟨vs, I⟩ hst i o hoo hun hall K' hK
    have hi : i < ops.size := (Array.getElem?_eq_some_iff.1 hoo).1
    have hif : L.getD i false = false := by rw [← show L.getD i true = L.getD i false by simp [Array.getD, hL, hi]]; exact hun
    by_cases hm : i ∈ ix
    · obtain ⟨p, hp, rfl⟩ := pos_of hm
      have hp' : p < ds.length := by omega
      rw [I.act]
      refine H p hp' vs w' I.len I.s I.bel (fun q hq => ?_) o hoo _ (Lib.hid rfl) K' (Lib.hid fun v w'' st s' hv hb => ?_)
      · obtain ⟨hq', e, he, hb, hon⟩ := depB_spec hdp hp hoo q hq
        exact I.val q (by omega) (by rw [← hon]; exact hall e he hb)
      · rw [putL_set ds vs a0 p D I.len hp']
        have back : ∀ q, q < ds.length → q ≠ p → (L.setIfInBounds (ix.getD p 0) true).getD (ix.getD q 0) false = true → L.getD (ix.getD q 0) false = true := fun q hq hne h => by
          rwa [setb_other (fun e => hne (inj_of E (by omega) hp e.symm))] at h
        refine hK.out _ _ ⟨vs.set p v, ⟨by simp [I.len], rfl, s', I.bel.trans (st.mono I.bel.size), fun q hq hl => ?_, fun q r qr hr b1 b2 l1 l2 => ?_, fun j hj hn => ?_, fun j hj => ?_⟩⟩
        · by_cases e : p = q
          · subst e; rw [getD_set_p (by rw [I.len]; exact hp')]; exact hv
          · rw [getD_set_q e]; exact hval q _ _ _ (I.val q hq (back q hq (Ne.symm e) hl)) st
        · have new : ∀ q, q < ds.length → q ≠ p → bx p = true → bx q = true → L.getD (ix.getD q 0) false = true → vs.getD q undef ≠ v := fun q hq hne bp bq lq e => by
            obtain ⟨b, e1, z1⟩ := hb bp
            obtain ⟨c, e2, z2⟩ := hbx q _ _ bq (I.val q hq lq)
            rw [e1, e2] at e
            have : c = b := by cases e; rfl
            omega
          by_cases e1 : p = q
          · subst e1
            rw [getD_set_p (by rw [I.len]; exact hp'), getD_set_q (by omega)]
            exact fun e => new r hr (by omega) b1 b2 (back r hr (by omega) l2) e.symm
          · by_cases e2 : p = r
            · subst e2
              rw [getD_set_p (by rw [I.len]; exact hp'), getD_set_q e1]
              exact new q (by omega) (by omega) b2 b1 (back q (by omega) (by omega) l1)
            · rw [getD_set_q e1, getD_set_q e2]
              exact I.dis q r qr hr b1 b2 (back q (by omega) (Ne.symm e1) l1) (back r hr (Ne.symm e2) l2)
        · rw [setb_other (fun e => hn (by rw [← e]; exact hm))]; exact I.low j hj hn
        · rw [setb_other (by have := M _ hm; omega)]; exact I.high j hj
    · exfalso
      by_cases c : i < m
      · rw [I.low i c hm] at hif; cases hif
      · have hr : i ∈ Region.ready md ops L := mem_ready.2 ⟨hun, o, hoo, hall⟩
        apply hst
        intro j hj hne
        by_cases hjx : j ∈ ix
        · have tj := List.all_eq_true.1 T j hjx
          rw [Bool.or_eq_true] at tj
          rcases tj with tj | tj
          · exact absurd (by simpa using tj) hne
          cases hb : L.getD j false with
          | true => rfl
          | false => exact absurd (tailM_not hc tj hb i hr) c
        · exact I.low j hj hjx
theorem wpAnyG_take3 {i d : Nat} {oi : Oper} {v : Value} {fuel : Nat} {listed : Array Bool} {T : Array Value} {df : List Deferred} {w : World} (hi : ops[i]? = some oi) (hd : oi.dst = some d)
    (hs : Region.noSelect ops = true) (hf : Region.free md ops listed i = true) (hr : (Region.ready md ops listed).contains i = true) (hT : tailB md ops n i = true) (hcl : closedB md ops listed = true) (hin : i < n)
    (hQ : ∀ c a w, Q (.panic c) (a.put oi.dst v) w → Q (.panic c) a w) (hw : Region.wanted oi (yielded ops T) = true) (hy : ∀ w, S w → (execOp (Act.mk T df).eval oi).run P w = .ok (.value v) w) (hS : S w)
    (h : wpAnyG P md ops Q S n fuel (listed.setIfInBounds i true) ⟨T.setIfInBounds d v, df⟩ w) : wpAnyG P md ops Q S n (fuel + 1) listed ⟨T, df⟩ w := by
  refine wpAnyG_take hi hs hf hr hT hcl hin hQ hw hy hS ?_
  rw [hd]; exact h
end
theorem wp_of_call {P : Program} {o : Oper} {A : Act} {w : World} {K : Act → World → Prop} {Q : Exit → Act → World → Prop} {F : FuncId} {args : Array Value} {post : Ending → World → Prop} {ops : Array Oper}
    (hg : o.guard = none) (hr : (execOp A.eval o).run P w = .ok (.enter F args) w) (hc : Calls P F args w post) (hp : ∀ e w', post e w' → ∃ v, e = .returned v ∧ K (A.put o.dst v) w') :
    if Region.wanted o (yielded ops A.tmps) = true then Oper.wp P o A w K Q else K (A.put o.dst undef) w := by
  rw [if_pos (by unfold Region.wanted; rw [hg])]
  unfold Oper.wp
  rw [hr, Oper.upon_enter]
  refine hc.mono fun e w' h => ?_
  obtain ⟨v, rfl, k⟩ := hp e w' h
  exact k
theorem wp_of_value {P : Program} {o : Oper} {A : Act} {w w' : World} {K : Act → World → Prop} {Q : Exit → Act → World → Prop} {v : Value} {ops : Array Oper}
    (hg : o.guard = none) (hr : (execOp A.eval o).run P w = .ok (.value v) w') (hp : K (A.put o.dst v) w') :
    if Region.wanted o (yielded ops A.tmps) = true then Oper.wp P o A w K Q else K (A.put o.dst undef) w := by
  rw [if_pos (by unfold Region.wanted; rw [hg])]
  unfold Oper.wp
  rw [hr, Oper.upon_value]
  exact hp
theorem wp_of_callw {P : Program} {o : Oper} {A : Act} {w : World} {K : Act → World → Prop} {Q : Exit → Act → World → Prop} {F : FuncId} {args : Array Value} {post : Ending → World → Prop} {ops : Array Oper}
    (hg : Region.wanted o (yielded ops A.tmps) = true) (hr : (execOp A.eval o).run P w = .ok (.enter F args) w) (hc : Calls P F args w post) (hp : ∀ e w', post e w' → ∃ v, e = .returned v ∧ K (A.put o.dst v) w') :
    if Region.wanted o (yielded ops A.tmps) = true then Oper.wp P o A w K Q else K (A.put o.dst undef) w := by
  rw [if_pos hg]
  unfold Oper.wp
  rw [hr, Oper.upon_enter]
  refine hc.mono fun e w' h => ?_
  obtain ⟨v, rfl, k⟩ := hp e w' h
  exact k
theorem wp_of_valuew {P : Program} {o : Oper} {A : Act} {w w' : World} {K : Act → World → Prop} {Q : Exit → Act → World → Prop} {v : Value} {ops : Array Oper}
    (hg : Region.wanted o (yielded ops A.tmps) = true) (hr : (execOp A.eval o).run P w = .ok (.value v) w') (hp : K (A.put o.dst v) w') :
    if Region.wanted o (yielded ops A.tmps) = true then Oper.wp P o A w K Q else K (A.put o.dst undef) w := by
  rw [if_pos hg]
  unfold Oper.wp
  rw [hr, Oper.upon_value]
  exact hp
theorem wp_of_skipw {P : Program} {o : Oper} {A : Act} {w : World} {K : Act → World → Prop} {Q : Exit → Act → World → Prop} {ops : Array Oper}
    (hg : Region.wanted o (yielded ops A.tmps) = false) (hp : K (A.put o.dst undef) w) :
    if Region.wanted o (yielded ops A.tmps) = true then Oper.wp P o A w K Q else K (A.put o.dst undef) w := by
  rw [if_neg (by rw [hg]; decide)]
  exact hp
theorem eq_grow {x : Value} {v : Value} {w w' : World} (h : v = x) (st : Below w.heap.size w w') : v = x := h
/-- A slot holds a number whose sign is none. -/
def NumV (n : Nat) (x : Int) (v : Value) (w : World) : Prop := ∃ p l c, v = .agg #[.bool false, .slice p (List.length l) c] ∧ BigR n w p l x
theorem NumV.grow {n : Nat} {x : Int} {v : Value} {w w' : World} (h : NumV n x v w) (st : Below w.heap.size w w') : NumV n x v w' := by
  obtain ⟨p, l, c, e, b⟩ := h; exact ⟨p, l, c, e, b.below st⟩
def NumV2 (n m : Nat) (x y : Int) (v : Value) (w : World) : Prop := ∃ p l c q k d, v = .tuple #[.agg #[.bool false, .slice p (List.length l) c], .agg #[.bool false, .slice q (List.length k) d]] ∧ BigR n w p l x ∧ BigR m w q k y
theorem NumV2.grow {n m : Nat} {x y : Int} {v : Value} {w w' : World} (h : NumV2 n m x y v w) (st : Below w.heap.size w w') : NumV2 n m x y v w' := by
  obtain ⟨p, l, c, q, k, d, e, b, b'⟩ := h; exact ⟨p, l, c, q, k, d, e, b.below st, b'.below st⟩
/-- A slot points to a number's box, made since. -/
def BoxV (z : Nat) (v : Value) (w : World) : Prop := ∃ B, v = .pointer (some ⟨B, 0, none⟩) ∧ z ≤ B ∧ B < w.heap.size ∧ w.cell? ⟨B, 0, none⟩ = some (.bool false) ∧ w.cell? ⟨B, 1, none⟩ = some (.slice none 0 0) ∧ w.frozen? ⟨B, 0, none⟩ = false ∧ w.frozen? ⟨B, 1, none⟩ = false
theorem BoxV.grow {z : Nat} {v : Value} {w w' : World} (h : BoxV z v w) (st : Below w.heap.size w w') : BoxV z v w' := by
  obtain ⟨B, e, b, l, c0, c1, f0, f1⟩ := h
  exact ⟨B, e, b, Nat.lt_of_lt_of_le l st.size, (st.cell (p := ⟨B, 0, none⟩) l).trans c0, (st.cell (p := ⟨B, 1, none⟩) l).trans c1, (st.frozen (p := ⟨B, 0, none⟩) l).trans f0, (st.frozen (p := ⟨B, 1, none⟩) l).trans f1⟩
theorem BoxV.new {z : Nat} {w : World} (t : TypeId) (h : z ≤ w.heap.size) : BoxV z (.pointer (some ⟨w.heap.size, 0, none⟩)) (w.alloc (.cells #[.bool false, .slice none 0 0] t)) := ⟨_, rfl, h, by simp, by simp [go_sem], by simp [go_sem], by simp [go_sem], by simp [go_sem]⟩
theorem BoxV.at {z : Nat} {v : Value} {w : World} (h : BoxV z v w) : ∃ b, v = .pointer (some ⟨b, 0, none⟩) ∧ b < w.heap.size := by obtain ⟨B, e, _, l, _⟩ := h; exact ⟨B, e, l⟩
end Go.Proofs.YtlahdfmciaibdaaDoor

/- The reference's Apportion: the memory while it works. -/
namespace Go.Proofs.YtlahdfmciaibdaaDoor
open Go.RowKit Go.Proofs.YtlahdfmciaibdaaDoor.Prs Go.Proofs.YtlahdfmciaibdaaDoor.Stb
set_option linter.unusedVariables false
set_option linter.unusedSimpArgs false

/-- Two rows of numbers: parts at p, remainders at r. -/
structure RW (p r N : Nat) (w wr : World) (fP fR : Nat → Int) : Prop where
  P : wr.ownsRow w.heap.size 3 1 (.slice (some ⟨p, 0, none⟩) N N) N ((List.range N).map fun k => .int .i64 (fP k))
  R : wr.ownsRow w.heap.size 3 1 (.slice (some ⟨r, 0, none⟩) N N) N ((List.range N).map fun k => .int .i64 (fR k))
  B : Below w.heap.size w wr
  pw : w.heap.size ≤ p
  pr : p < r
section
variable {p r N : Nat} {w wr wz : World} {fP fR : Nat → Int}
theorem RW.setP (s : RW p r N w wr fP fR) (k : Nat) (v : Int) : RW p r N w (wr.setCell ⟨p, k, none⟩ (.int .i64 v)) (upd fP k v) fR := by
  have h1 := s.pw; have h2 := s.pr
  refine ⟨?_, own_kept s.R (Below.heap_setCell _ _ _ _ (by dsimp only; omega)), s.B.setCell h1 _, h1, h2⟩
  have := (s.P.stored k (.int .i64 v)).1
  rwa [map_upd (Value.int .i64)] at this
theorem RW.setR (s : RW p r N w wr fP fR) (k : Nat) (v : Int) : RW p r N w (wr.setCell ⟨r, k, none⟩ (.int .i64 v)) fP (upd fR k v) := by
  have h1 := s.pw; have h2 := s.pr
  refine ⟨own_kept s.P (Below.heap_setCell _ _ _ _ (by dsimp only; omega)), ?_, s.B.setCell (by dsimp only; omega) _, h1, h2⟩
  have := (s.R.stored k (.int .i64 v)).1
  rwa [map_upd (Value.int .i64)] at this
theorem RW.ext (s : RW p r N w wr fP fR) {gP gR : Nat → Int} (h : ∀ k, k < N → fP k = gP k ∧ fR k = gR k) : RW p r N w wr gP gR := by
  have e1 : ((List.range N).map fun k => Value.int .i64 (fP k)) = (List.range N).map fun k => Value.int .i64 (gP k) := List.map_congr_left fun k hk => by rw [(h k (List.mem_range.1 hk)).1]
  have e2 : ((List.range N).map fun k => Value.int .i64 (fR k)) = (List.range N).map fun k => Value.int .i64 (gR k) := List.map_congr_left fun k hk => by rw [(h k (List.mem_range.1 hk)).2]
  exact ⟨e1 ▸ s.P, e2 ▸ s.R, s.B, s.pw, s.pr⟩
theorem RW.cP (s : RW p r N w wr fP fR) {k : Nat} (h : k < N) : wr.cell? ⟨p, k, none⟩ = some (.int .i64 (fP k)) := by rw [s.P.cellAt k (by omega)]; simp [h]
theorem RW.cR (s : RW p r N w wr fP fR) {k : Nat} (h : k < N) : wr.cell? ⟨r, k, none⟩ = some (.int .i64 (fR k)) := by rw [s.R.cellAt k (by omega)]; simp [h]
theorem RW.lt (s : RW p r N w wr fP fR) : r < wr.heap.size := (s.R.lt _ rfl).2
theorem RW.grow (s : RW p r N w wr fP fR) (st : Below wr.heap.size wr wz) : RW p r N w wz fP fR := by
  have h1 := s.pw; have h2 := s.pr; have h3 := s.lt
  exact ⟨own_kept s.P (st.block p (by omega)), own_kept s.R (st.block r (by omega)), s.B.trans (st.mono s.B.size), h1, h2⟩
theorem RW.drewN (s : RW p r N w wr fP fR) (n : Nat) : RW p r N w (wr.drewN n) fP fR := ⟨s.P, s.R, below_drewN s.B n, s.pw, s.pr⟩
theorem RW.made (s : RW p r N w wr fP fR) : MadeI w wr p N ((List.range N).map fP) := by
  refine ⟨by simp, s.pw, ?_, s.B⟩
  rw [List.map_map]
  exact s.P
end
theorem RW.new {w w0 w1 : World} {N : Nat}
    (h0 : w0.ownsRow w.heap.size 3 1 (.slice (some ⟨w.heap.size, 0, none⟩) N N) N (madeCells (Value.int .i64 0).cells (N * 1)).toList) (g0 : w.grownBy w0 none)
    (h1 : w1.ownsRow w.heap.size 3 1 (.slice (some ⟨w0.heap.size, 0, none⟩) N N) N (madeCells (Value.int .i64 0).cells (N * 1)).toList) (g1 : w0.grownBy w1 none) :
    RW w.heap.size w0.heap.size N w w1 (fun _ => 0) (fun _ => 0) := by
  have z0 := (h0.lt _ rfl).2
  dsimp only at z0
  have b1 : ∀ k, k < w0.heap.size → w1.heap[k]? = w0.heap[k]? := fun k hk => g1.block k hk (fun e => by cases e)
  rw [made_i] at h0 h1
  exact ⟨own_kept h0 (b1 _ z0), h1, ((Below.refl w.heap.size w).grown g0 (Nat.le_refl _) (fun k e => by cases e)).grown g1 g0.size (fun k e => by cases e), Nat.le_refl _, z0⟩
end Go.Proofs.YtlahdfmciaibdaaDoor
