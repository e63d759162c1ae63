/- A run of closed code: loops over functions, in memory. -/
import Derived.Test.YtmdhmpfagekonaaEV13
import Derived.RangeFuncIn
import Derived.RangeFuncRecord
namespace Go.Proofs.Ytmdhmpfagekonaa.Ev
open Go.RowKit Go.MapKept
set_option linter.unusedVariables false
set_option linter.unusedSimpArgs false

inductive AEx where
  | normal
  | exit (id : Nat)
  | ret
noncomputable def AEx.to : AEx → Exit
  | .normal => .normal
  | .exit id => .exit id
  | .ret => .ret
/-- A state of code: with the names of the blocks for deferred calls that the activation has marked, and of the loop whose round this is. -/
structure CSt where
  st : St
  marks : List Nat
  round : Option Nat
abbrev Outs := List (AEx × CSt)
abbrev CodeT := Nat → Code → CSt → Option Outs

/-- A block of its own kind, new. -/
theorem Rel.allocOwn {w0 : World} {m : Names} {H : Tr Blk} {w : World} (r : Rel w0 m H w) {id : Nat} (hf : H.at id = none) (hi : id < 2 ^ deep) {B0 : Blk} (h0 : B0.live = false) (ho0 : B0.own = true) {o : Obj} (hfit : Fits (named m id w.heap.size 0 0) B0 o) :
    Sub m (named m id w.heap.size 0 0) ∧ Rel w0 (named m id w.heap.size 0 0) (H.put id B0) (w.alloc o) := by
  have hs := named_sub (C := w.heap.size) (k := 0) (R := 0) (r.fresh hf)
  refine ⟨hs, r.bel.alloc r.bel.size _, Tr.put_fine _ _ r.fine, ?_, ?_, ?_, ?_⟩
  · intro b x hx
    by_cases hb : b = id
    · subst hb; exact ⟨hi, _, Tr.at_put _ _ _⟩
    · rw [named_ne hb] at hx
      obtain ⟨hlt, B, hB⟩ := r.dom b x hx
      exact ⟨hlt, B, by rw [Tr.at_put_ne r.fine (Ne.symm hb) hi hlt]; exact hB⟩
  · intro b B hB hl
    rcases Tr.at_put_some r.fine hB with ⟨rfl, rfl⟩ | ⟨hne, hB⟩
    · rw [h0] at hl; cases hl
    · obtain ⟨C, k, R, c', a1, a2, a3, a4, a5, a6⟩ := r.blk b B hB hl
      have hlt := r.old hB hl a1
      refine ⟨C, k, R, c', hs _ _ a1, a2, by rw [Below.heap_alloc _ _ _ hlt]; exact a3, a4, a5, fun i v hv => ?_⟩
      obtain ⟨v', x, y, z⟩ := a6 i v hv
      exact ⟨v', x, y.mono hs, z⟩
  · intro b b' B B' C k R C' k' R' hB hB' hl hl' hne hm hm'
    rcases Tr.at_put_some r.fine hB with ⟨rfl, rfl⟩ | ⟨n1, hB⟩
    · rw [h0] at hl; cases hl
    · rcases Tr.at_put_some r.fine hB' with ⟨rfl, rfl⟩ | ⟨n2, hB'⟩
      · rw [h0] at hl'; cases hl'
      · rw [named_ne (Ne.symm n1)] at hm
        rw [named_ne (Ne.symm n2)] at hm'
        exact r.inj b b' B B' C k R C' k' R' hB hB' hl hl' hne hm hm'
  · refine r.oth.upd hs (b := id) (B := B0) (C := w.heap.size) (x := o) (named_id _ _ _ _ _) r.bel.size (show (w.heap.push _)[w.heap.size]? = some o by simp) hfit
      (fun B' hB' => ?_) (fun b' B' hne hB' ho => ?_) (fun C' x hne hx _ => ?_) (fun b' B' C' k' R' hne hB' ho hm => ?_)
    · rcases Tr.at_put_some r.fine hB' with ⟨_, h⟩ | ⟨h, _⟩
      · exact h
      · exact absurd rfl h
    · rcases Tr.at_put_some r.fine hB' with ⟨e, _⟩ | ⟨_, h⟩
      · exact absurd e.symm hne
      · exact h
    · rw [Below.heap_alloc _ _ _ (Array.getElem?_eq_some_iff.1 hx).1]; exact hx
    · have := r.oldo hB' ho hm; omega

def deadB : Blk := { elem := 0, cells := .nil, n := 0, live := false, mp := false }
/-- A block of its own kind is forgotten. -/
theorem Rel.drop {w0 : World} {m : Names} {H : Tr Blk} {w : World} (r : Rel w0 m H w) {b : Nat} {B : Blk} (hB : H.at b = some B) (ho : B.own = true) {C k R : Nat} (hm : m b = some (C, k, R)) (o' : Obj) :
    Rel w0 m (H.put b deadB) (w.putObj C o') := by
  obtain ⟨C', R', o, a1, a2, a3, a4⟩ := r.oth.own b B hB ho
  rw [hm] at a1; cases a1
  have hbd := (r.dom b _ hm).1
  obtain ⟨s1, s2⟩ := heap_set (o' := o') a3
  refine ⟨below_set r.bel a2 _, Tr.put_fine _ _ r.fine, ?_, ?_, ?_, ?_, ?_⟩
  · intro b' x hx
    obtain ⟨hlt, B', hB'⟩ := r.dom b' x hx
    refine ⟨hlt, ?_⟩
    by_cases e : b = b'
    · subst e; exact ⟨_, Tr.at_put _ _ _⟩
    · exact ⟨B', by rw [Tr.at_put_ne r.fine e hbd hlt]; exact hB'⟩
  · intro b' B' hB' hl'
    rcases Tr.at_put_some r.fine hB' with ⟨rfl, rfl⟩ | ⟨hne, hB'⟩
    · cases hl'
    · obtain ⟨C2, k2, R2, c2, b1, b2, b3, b4, b5, b6⟩ := r.blk b' B' hB' hl'
      have : C2 ≠ C := by rintro rfl; rw [a3] at b3; cases b3; exact a4.noCells _ _ _ rfl
      exact ⟨C2, k2, R2, c2, b1, b2, (s2 _ this).trans b3, b4, b5, b6⟩
  · intro x y B1 B2 C1 k1 R1 C2 k2 R2 h1 h2 l1 l2 hne m1 m2
    rcases Tr.at_put_some r.fine h1 with ⟨rfl, rfl⟩ | ⟨n1, h1⟩
    · cases l1
    · rcases Tr.at_put_some r.fine h2 with ⟨rfl, rfl⟩ | ⟨n2, h2⟩
      · cases l2
      · exact r.inj x y B1 B2 C1 k1 R1 C2 k2 R2 h1 h2 l1 l2 hne m1 m2
  · intro b' B' hB' ho'
    rcases Tr.at_put_some r.fine hB' with ⟨rfl, rfl⟩ | ⟨hne, hB'⟩
    · cases ho'
    · obtain ⟨C2, R2, x, b1, b2, b3, b4⟩ := r.oth.own b' B' hB' ho'
      exact ⟨C2, R2, x, b1, b2, (s2 _ (Ne.symm (r.oth.apart b b' B B' _ _ _ _ _ _ hB hB' ho ho' hne hm b1))).trans b3, b4⟩
  · intro b1 b2 B1 B2 C1 k1 R1 C2 k2 R2 h1 h2 o1 o2 hne m1 m2
    rcases Tr.at_put_some r.fine h1 with ⟨rfl, rfl⟩ | ⟨n1, h1⟩
    · cases o1
    · rcases Tr.at_put_some r.fine h2 with ⟨rfl, rfl⟩ | ⟨n2, h2⟩
      · cases o2
      · exact r.oth.apart b1 b2 B1 B2 _ _ _ _ _ _ h1 h2 o1 o2 hne m1 m2

theorem VL.mono {m m' : Names} (s : Sub m m') {a b : List Value} (h : VL m a b) : VL m' a b := by
  induction h with
  | nil => exact .nil
  | cons h _ ih => exact .cons (h.mono s) ih
/-- The marks of an activation. -/
inductive Marks (m : Names) : List Nat → List Deferred → Prop
  | nil : Marks m [] []
  | cons {b C R : Nat} {bs : List Nat} {ds : List Deferred} (h : m b = some (C, 0, R)) (t : Marks m bs ds) : Marks m (b :: bs) ({ target := .collected C, args := #[] } :: ds)
theorem Marks.mono {m m' : Names} (s : Sub m m') {bs : List Nat} {ds : List Deferred} (h : Marks m bs ds) : Marks m' bs ds := by
  induction h with
  | nil => exact .nil
  | cons h _ ih => exact .cons (s _ _ h) ih
/-- The loop whose round this is. -/
def RoundAt (m : Names) : Option Nat → Option Nat → Prop
  | none, none => True
  | some b, some l => ∃ R, m b = some (l, 0, R)
  | _, _ => False
theorem RoundAt.mono {m m' : Names} (s : Sub m m') {b l : Option Nat} (h : RoundAt m b l) : RoundAt m' b l := by
  cases b <;> cases l <;> first | exact h | exact (let ⟨R, e⟩ := h; ⟨R, s _ _ e⟩)
/-- What a state of code stands for. -/
noncomputable def GoodC (ro : Option Nat) (w0 : World) (m0 : Names) (N : Nat) (cs : CSt) (a : Act) (w : World) : Prop :=
  ∃ m, Sub m0 m ∧ Rel w0 m cs.st.H w ∧ RelT m cs.st.T a.tmps ∧ N ≤ a.tmps.size ∧ Marks m cs.marks a.defers ∧ RoundAt m cs.round ro

/-! The statement. -/
noncomputable def newOwn (H : Tr Blk) (id : Nat) (B : Blk) : Option (Tr Blk) := match H.at id with
  | none => bif Nat.blt id (2 ^ deep) then some (H.put id B) else none
  | some _ => none
theorem newOwn_ok {w0 : World} {m : Names} {H H' : Tr Blk} {w : World} (r : Rel w0 m H w) {id : Nat} {B0 : Blk} (h : newOwn H id B0 = some H') (h0 : B0.live = false) (ho0 : B0.own = true) {o : Obj} (hfit : Fits m B0 o) :
    Sub m (named m id w.heap.size 0 0) ∧ Rel w0 (named m id w.heap.size 0 0) H' (w.alloc o) := by
  unfold newOwn at h
  split at h
  · rename_i hn
    cases hi : Nat.blt id (2 ^ deep) with
    | false => rw [hi] at h; cases h
    | true =>
      rw [hi] at h
      simp only [cond_true, Option.some.injEq] at h
      subst h
      exact r.allocOwn hn (by simpa [Nat.blt_eq] using hi) h0 ho0 (hfit.mono (named_sub (r.fresh hn)))
  · cases h
/-- A loop's record is given up: its state. -/
noncomputable def dropL (H : Tr Blk) (b : Nat) : Option (Tr Blk × Nat) := match H.at b with
  | some B => match B.lp with
    | some _ => bif B.mp then none else some (H.put b deadB, B.n)
    | none => none
  | none => none
noncomputable def exitOf : Nat → Option AEx
  | 0 => some .normal
  | 1 => none
  | 2 => some .ret
  | k + 3 => some (.exit k)
noncomputable def afterR (T : Tr Value) (nm : Nat) (mk : List Nat) (ro : Option Nat) : List Out → Option Outs
  | [] => some []
  | (v, H, n) :: r => match dropL H nm with
    | some (H', k) => match exitOf k, afterR T nm mk ro r with
      | some e, some o => some ((e, ⟨⟨T, H', n⟩, mk, ro⟩) :: o)
      | _, _ => none
    | none => none
theorem afterR_mem {T : Tr Value} {nm : Nat} {mk : List Nat} {ro : Option Nat} : ∀ {l : List Out} {outs : Outs}, afterR T nm mk ro l = some outs → ∀ x ∈ l, ∃ H' k e, dropL x.2.1 nm = some (H', k) ∧ exitOf k = some e ∧ (e, (⟨⟨T, H', x.2.2⟩, mk, ro⟩ : CSt)) ∈ outs
  | [], outs, h, x, hx => by simp at hx
  | (v, H, n) :: r, outs, h, x, hx => by
    simp only [afterR] at h
    split at h
    · rename_i H' k h1
      split at h
      · rename_i e o h2 h3
        cases h
        rcases List.mem_cons.1 hx with rfl | hx
        · exact ⟨H', k, e, h1, h2, by simp⟩
        · obtain ⟨H2, k2, e2, a, b, c⟩ := afterR_mem h3 x hx
          exact ⟨H2, k2, e2, a, b, List.mem_cons_of_mem _ c⟩
      · cases h
    · cases h
noncomputable def entersB (P : Program) (g : Nat) : Bool := match P.funcs[g]? with
  | some fn => match fn.body with
    | some _ => !(fn.name == "runtime.NumGoroutine")
    | none => false
  | none => false
theorem entersB_ok {P : Program} {g : Nat} (h : entersB P g = true) : Enters P g := by
  unfold entersB at h
  split at h
  · rename_i fn hf
    split at h
    · rename_i c hc
      refine ⟨fn, c, hf, ?_, hc⟩
      cases e : (fn.name == "runtime.NumGoroutine") with
      | true => rw [e] at h; cases h
      | false => rfl
    · cases h
  · cases h
noncomputable def rangeGo (call : CallT) (T : Tr Value) (f : Nat) (first captured : List Value) (H : Tr Blk) (nm next : Nat) (mk : List Nat) (ro : Option Nat) : Option Outs :=
  match call f (first ++ .func (.yield nm) #[] #[] :: captured) H next with
  | some l => afterR T nm mk ro l
  | none => none
def dfB : Blk := { elem := 0, cells := .nil, n := 0, live := false, mp := false, df := true }
def lpB (L : LoopT) : Blk := { elem := 0, cells := .nil, n := 0, live := false, mp := false, lp := some L }
noncomputable def evRange (call : CallT) (P : Program) (N : Nat) (g : Operand) (ps : List Nat) (assign body : Code) (cs : CSt) : Option Outs :=
  match evA cs.st.T g with
  | some (.func (.func f) first captured) => bif Nat.blt f yieldBase && entersB P f then
      match cs.round with
      | none => match newOwn cs.st.H cs.st.next dfB with
        | some H1 => match newOwn H1 (cs.st.next + 1) (lpB ⟨cs.st.T, N, ps, assign, body⟩) with
          | some H2 => rangeGo call cs.st.T f first.toList captured.toList H2 (cs.st.next + 1) (cs.st.next + 2) (cs.st.next :: cs.marks) none
          | none => none
        | none => none
      | some rb => match newOwn cs.st.H cs.st.next (lpB ⟨cs.st.T, N, ps, assign, body⟩) with
        | some H2 => match cs.st.H.at rb with
          | some B => match B.lp with
            | some _ => bif B.mp then none else rangeGo call cs.st.T f first.toList captured.toList H2 cs.st.next (cs.st.next + 1) cs.marks (some rb)
            | none => none
          | none => none
        | none => none
      else none
  | _ => none

theorem run_enterLoop_inner {P : Program} {w : World} {l : Nat} {r : Loop} (h : w.heap[l]? = some (.loop r)) (fn : FuncId) (tmps : Array Value) (ps : Array Tmp) (assign body : Code) :
    (Instr.enterLoop fn tmps ps assign body (some l)).run P w = .ok (w.heap.size, []) (w.alloc (.loop { state := .ready, pending := none, fn, tmps, params := ps, assign, body, defers := r.defers })) := by
  unfold Instr.enterLoop
  simp only [Sem.run_bind, run_getLoop h, run_newObj_alloc, Result.andThen, Sem.run_pure, World.size_alloc]

/-- The call of the function, and what comes behind it. -/
theorem rangeGo_ok {P : Program} {call : CallT} (hcall : CallOk P call) {T : Tr Value} {f : Nat} {first captured : List Value} {H : Tr Blk} {nm next : Nat} {mk : List Nat} {rb ro : Option Nat} {outs : Outs} (h : rangeGo call T f first captured H nm next mk rb = some outs) (hlt : f < yieldBase) (hent : Enters P f)
    {w0 : World} {m0 m : Names} {N : Nat} {w : World} {a : Act} {Q : Exit → Act → World → Prop} {ys us : List Value} {l R : Nat} (s0 : Sub m0 m) (r : Rel w0 m H w) (rT : RelT m T a.tmps) (hN : N ≤ a.tmps.size) (hMk : Marks m mk a.defers) (hRo : RoundAt m rb ro)
    (hm : m nm = some (l, 0, R)) (h1 : VL m first ys) (h2 : VL m captured us) (hQ : ∀ out ∈ outs, ∀ a' w', GoodC ro w0 m0 N out.2 a' w' → Q out.1.to a' w') :
    CallsIn (FR ro) (0 - 1) P f (ys ++ .func (.yield l) #[] #[] :: us).toArray w (rangePost (FR ro) 0 P l Q a) := by
  unfold rangeGo at h
  split at h
  · rename_i L hL
    have hv : VL m (first ++ .func (.yield nm) #[] #[] :: captured) (ys ++ .func (.yield l) #[] #[] :: us) := h1.append (.cons (.yld nm l hm) h2)
    rcases hcall f _ _ _ _ hL with ⟨_, _, hc⟩ | ⟨_, hext⟩ | ⟨b, hb, _⟩
    · refine callsIn_FR.2 ((hc w0 m w _ r hv).mono ?_)
      rintro e w' ⟨v', rfl, out, hout, m', hs, r', hvr⟩
      obtain ⟨H', k, e, d1, d2, d3⟩ := afterR_mem h out hout
      have hm' := hs _ _ hm
      unfold dropL at d1
      split at d1
      · rename_i B hB
        split at d1
        · rename_i LL hLL
          cases hp : B.mp with
          | true => rw [hp] at d1; cases d1
          | false =>
          rw [hp] at d1
          simp only [cond_false, Option.some.injEq, Prod.mk.injEq] at d1
          obtain ⟨rfl, rfl⟩ := d1
          have ho : B.own = true := by simp [Blk.own, hLL]
          obtain ⟨C', R', o, a1, a2, a3, a4⟩ := r'.oth.own nm B hB ho
          rw [hm'] at a1; cases a1
          cases a4 with
          | map es cl x1 x2 x3 x4 x5 => rw [hp] at x1; cases x1
          | defd x0 x1 x2 x3 => rw [hLL] at x1; cases x1
          | loop L' rec x0 x1 x2 x3 =>
            have r2 := r'.drop hB ho hm' (.loop { rec with state := .exhausted })
            have good : ∀ w2, w2 = w'.putObj l (.loop { rec with state := .exhausted }) → GoodC ro w0 m0 N ⟨⟨T, out.2.1.put nm deadB, out.2.2⟩, mk, rb⟩ a w2 := by
              rintro _ rfl
              exact ⟨m', s0.trans hs, r2, rT.mono hs, hN, hMk.mono hs, hRo.mono hs⟩
            have q := hQ _ d3 a _ (good _ rfl)
            have hst := x3.state
            have nb : rec.state ≠ .busy := by
              intro hbusy
              rw [hbusy] at hst
              rcases hst with ⟨_, q, _⟩ | ⟨q, _⟩ | ⟨_, q, _⟩ | ⟨_, q, _⟩
              · cases q
              · rw [q] at d2; cases d2
              · cases q
              · cases q
            have hend := run_endLoop (P := P) a3 nb
            refine ⟨rec.pending, _, hend, ?_⟩
            rcases hst with ⟨e1, e2, e3⟩ | ⟨e1, e2⟩ | ⟨e1, e2, e3⟩ | ⟨e1, e2, e3⟩
            · rw [e1] at d2; cases d2
              rw [e3] at q ⊢; exact q
            · rw [e1] at d2; cases d2
            · rw [e1] at d2; cases d2
              rw [e3] at q ⊢; exact wpIn_ret q
            · obtain ⟨j, hj⟩ : ∃ j, B.n = j + 3 := ⟨B.n - 3, by omega⟩
              rw [hj] at d2 e3
              rw [Nat.add_sub_cancel] at e3
              cases d2
              rw [e3] at q ⊢
              exact wpIn_exit q
        · cases d1
      · cases d1
    · exfalso
      obtain ⟨v', hrun, _⟩ := hext w0 m w _ r hv
      obtain ⟨fn, cc, e1, e2, e3⟩ := hent
      have e2' : fn.name ≠ "runtime.NumGoroutine" := by simpa using e2
      simp [callFunc, e1, e2', e3] at hrun
    · omega
  · cases h

theorem evRange_ok {P : Program} {call : CallT} (hcall : CallOk P call) {N : Nat} {g : Operand} {ps : Array Tmp} {assign body : Code} {cs : CSt} {outs : Outs} (h : evRange call P N g ps.toList assign body cs = some outs) {ro : Option Nat} {w0 : World} {m0 : Names} {w : World} {a : Act} {Q : Exit → Act → World → Prop}
    (gd : GoodC ro w0 m0 N cs a w) (hQ : ∀ out ∈ outs, ∀ a' w', GoodC ro w0 m0 N out.2 a' w' → Q out.1.to a' w') : (Code.rangeFunc g ps assign body).wpIn (FR ro) 0 P Q a w := by
  obtain ⟨m, s0, r, rT, hN, hMk, hRo⟩ := gd
  unfold evRange at h
  split at h
  · rename_i f first captured hg
    cases hb : (Nat.blt f yieldBase && entersB P f) with
    | false => rw [hb] at h; cases h
    | true =>
    rw [hb] at h
    simp only [cond_true] at h
    simp only [Bool.and_eq_true, Nat.blt_eq] at hb
    obtain ⟨hlt, hent⟩ := hb
    have hent := entersB_ok hent
    have hvf := evA_ok rT g _ hg
    generalize hrf : a.eval g = rf at hvf
    cases hvf with
    | func fn hf xs ys us vs hs hh hs' hh' =>
    have v1 : VL m first.toList ys.toList := VRs.toVL ⟨hs, hh⟩
    have v3 : VL m captured.toList vs.toList := VRs.toVL ⟨hs', hh'⟩
    have earr : ∀ l, (ys.toList ++ .func (.yield l) #[] #[] :: vs.toList).toArray = ys ++ #[.func (.yield l) #[] #[]] ++ vs := by
      intro l
      apply Array.ext'
      simp
    have hinv : ∀ (l : Nat) (w2 : World), (invoke (Target.fn (.func f) vs) (ys ++ #[.func (.yield l) #[] #[]])).run P w2 = .ok (.enter f (ys ++ #[.func (.yield l) #[] #[]] ++ vs)) w2 := by
      intro l w2
      obtain ⟨fn, cc, e1, e2, e3⟩ := hent
      have e2' : fn.name ≠ "runtime.NumGoroutine" := by simpa using e2
      simp [invoke, callFunc, e1, e2', e3]
    have hres : ∀ (l : Nat) (w2 : World), (resolve a.eval (rangeCall g l) 0).run P w2 = .ok { target := .fn (.func f) vs, args := ys ++ #[.func (.yield l) #[] #[]] } w2 := by
      intro l w2
      simp [resolve, hrf, Deferred.ofValue]
      rfl
    refine wpIn_rangeFunc fun fn _ => ?_
    cases hrb : cs.round with
    | none =>
      rw [hrb] at h hRo
      cases ro with
      | some l => exact hRo.elim
      | none =>
      simp only at h
      split at h
      · rename_i H1 n1
        split at h
        · rename_i H2 n2
          have e1 := run_enterLoop_outer (P := P) (w := w) fn a.tmps ps assign body
          obtain ⟨s1, r1⟩ := newOwn_ok r n1 rfl rfl (o := .deferred (some [])) (.defd rfl rfl rfl rfl)
          have r2 := newOwn_ok r1 n2 rfl rfl (o := .loop { state := .ready, pending := none, fn, tmps := a.tmps, params := ps, assign, body, defers := w.heap.size }) (.loop _ _ rfl rfl rfl ⟨rT.1, (rT.mono s1).2, hN, rfl, rfl, rfl, .inl ⟨rfl, rfl, rfl⟩⟩)
          rw [World.size_alloc] at r2
          obtain ⟨s2, r2⟩ := r2
          have s12 := s1.trans s2
          have := rangeGo_ok hcall h hlt hent (a := { a with defers := [{ target := .collected w.heap.size, args := #[] }] ++ a.defers }) (Q := Q) (N := N) (ro := none) (s0.trans s12) r2 (rT.mono s12) hN (.cons (s2 _ _ (named_id _ _ _ _ _)) (hMk.mono s12)) trivial (named_id _ _ _ _ _) (VL.mono s12 v1) (VL.mono s12 v3) hQ
          rw [earr] at this
          exact ⟨_, _, _, _, _, f, _, _, e1, hres _ _, fun f' _ => trivial, hinv _ _, fun e => (by cases e), this⟩
        · cases h
      · cases h
    | some rb =>
      rw [hrb] at h hRo
      cases ro with
      | none => exact hRo.elim
      | some l =>
      simp only at h
      split at h
      · rename_i H2 n2
        split at h
        · rename_i B hB
          split at h
          · rename_i LL hLL
            cases hp : B.mp with
            | true => rw [hp] at h; cases h
            | false =>
            rw [hp] at h
            simp only [cond_false] at h
            obtain ⟨R, hm⟩ := hRo
            have ho : B.own = true := by simp [Blk.own, hLL]
            obtain ⟨C', R', o, a1, a2, a3, a4⟩ := r.oth.own rb B hB ho
            rw [hm] at a1; cases a1
            cases a4 with
            | map es cl x1 x2 x3 x4 x5 => rw [hp] at x1; cases x1
            | defd x0 x1 x2 x3 => rw [hLL] at x1; cases x1
            | loop L' rec x0 x1 x2 x3 =>
              have e1 := run_enterLoop_inner (P := P) a3 fn a.tmps ps assign body
              obtain ⟨s2, r2⟩ := newOwn_ok r n2 rfl rfl (o := .loop { state := .ready, pending := none, fn, tmps := a.tmps, params := ps, assign, body, defers := rec.defers }) (.loop _ _ rfl rfl rfl ⟨rT.1, rT.2, hN, rfl, rfl, rfl, .inl ⟨rfl, rfl, rfl⟩⟩)
              have := rangeGo_ok hcall h hlt hent (a := { a with defers := [] ++ a.defers }) (Q := Q) (N := N) (ro := some l) (s0.trans s2) r2 (rT.mono s2) hN (hMk.mono s2) ⟨R, s2 _ _ hm⟩ (named_id _ _ _ _ _) (VL.mono s2 v1) (VL.mono s2 v3) hQ
              rw [earr] at this
              exact ⟨_, _, _, _, _, f, _, _, e1, hres _ _, fun f' _ => trivial, hinv _ _, fun e => (by cases e), this⟩
          · cases h
        · cases h
      · cases h
  · cases h

end Go.Proofs.Ytmdhmpfagekonaa.Ev
