/- A run of closed code: one operation, and what stands of it. -/
import Derived.Test.YtmdhmpfagekonaaEVM
import Derived.Test.YtmdhmpfagekonaaProg
import Derived.OrdersIn
import Derived.LoopNIn
import Derived.RangeFuncIn
import Derived.Scope
namespace Go.Proofs.Ytmdhmpfagekonaa.Ev
open Go.RowKit
set_option linter.unusedVariables false
set_option linter.unusedSimpArgs false

structure St where
  T : Tr Value
  H : Tr Blk
  next : Nat
abbrev Out := Value × Tr Blk × Nat
abbrev CallT := Nat → List Value → Tr Blk → Nat → Option (List Out)

noncomputable def evA (T : Tr Value) : Operand → Option Value
  | .tmp t => T.at t
  | .const v => bif plain2 v then some v else none
  | .global _ => none
  | .func f => some (.func (.func f) #[] #[])

/-- Is it a map's type? (A guess for the plan alone: nothing hangs on it.) -/
noncomputable def mapTs (ts : Array TypeId) : Bool := match ts.toList with
  | [t] => match (Try.prog).underlying t with
    | some (.map _ _) => true
    | _ => false
  | _ => false
noncomputable def lenKind (ts : Array TypeId) : Nat := bif mapTs ts then 3 else 0
theorem lenKind_or (ts : Array TypeId) : lenKind ts = 0 ∨ lenKind ts = 3 := by unfold lenKind; cases mapTs ts <;> simp
theorem lenKind_le (ts : Array TypeId) : lenKind ts ≤ 3 := by rcases lenKind_or ts with h | h <;> rw [h] <;> omega
/-- How an operation stands to memory: 0 not at all, 1 it looks, 2 it makes a block, 3 all else. -/
noncomputable def kindOf : Op → Nat
  | .move _ | .assign _ | .pick .. | .nilCheck _ | .extract .. | .field .. | .fieldAddr .. | .indexAddr .. | .index .. | .makeInterface .. | .makeFunc .. | .slice .. | .build .. | .binOp .. | .unOp .. | .convert .. => 0
  | .load .. => 1
  | .alloc _ | .box .. | .buildSlice .. | .makeSlice .. => 2
  | .call { callee := .builtin .len, argTypes := ts, .. } => lenKind ts
  | .call { callee := .builtin .cap, .. } | .call { callee := .builtin .min, .. } | .call { callee := .builtin .max, .. } => 0
  | _ => 3

theorem kindOf_le (o : Op) : kindOf o ≤ 3 := by
  unfold kindOf; split <;> first | omega | exact lenKind_le _

noncomputable def appOf (P : Program) (ev : Operand → Option Value) (c : Call) (H : Tr Blk) (id : Nat) : Option (Value × Tr Blk) :=
  match c.callee, c.args.toList, c.argTypes.toList with
  | .builtin .append, [s, x], [t, t'] => bif Nat.beq t t' then match ev s, ev x with
      | some sv, some xv => appA P H id t sv xv
      | _, _ => none
    else none
  | _, _, _ => none

noncomputable def copyOf (P : Program) (ev : Operand → Option Value) (c : Call) (H : Tr Blk) : Option (Value × Tr Blk) :=
  match c.callee, c.args.toList, c.argTypes.toList with
  | .builtin .copy, [d, s], [t, _] => match ev d, ev s with
    | some dv, some sv => copyA P H t dv sv
    | _, _ => none
  | _, _, _ => none
noncomputable def newOf (n : New) (H : Tr Blk) (id : Nat) : Option (Value × Tr Blk) :=
  bif okNew n && isNone (H.at id) && Nat.blt id 4096 then some (n.val id, H.put id (newBlk n.elem n.cells)) else none

noncomputable def mapOf (P : Program) (ev : Operand → Option Value) (o : Oper) (H : Tr Blk) (id : Nat) : Option (Value × Tr Blk) :=
  match o.op with
  | .makeMap _ none => bif isNone (H.at id) && Nat.blt id 4096 then some (.map (some id), H.put id { elem := 0, cells := .nil, n := 0, live := false, mp := true }) else none
  | .lookup t m k ok => match ev m, ev k with
    | some mv, some kv => match lookA P H t ok mv kv with
      | some v => some (v, H)
      | none => none
    | _, _ => none
  | .mapUpdate t m k x | .insert t m k x => match ev m, ev k, ev x with
    | some mv, some kv, some xv => match updA P H t mv kv xv with
      | some H' => some (undef, H')
      | none => none
    | _, _, _ => none
  | .call c => match c.callee, c.args.toList, c.argTypes.toList with
    | .builtin .len, [x], [t] => match ev x with
      | some u => match mlenA P H t u with
        | some v => some (v, H)
        | none => match pureVal P ev o with
          | some v => some (v, H)
          | none => none
      | none => none
    | _, _, _ => none
  | _ => none
noncomputable def memStep (P : Program) (ev : Operand → Option Value) (o : Oper) (H : Tr Blk) (id : Nat) : Option (Value × Tr Blk) :=
  match kindOf o.op with
  | 0 => match pureVal P ev o with | some v => some (v, H) | none => none
  | 1 => match o.op with
    | .load t x => match loadA P ev H t x with | some v => some (v, H) | none => none
    | _ => none
  | 2 => match newA P ev o with | some n => newOf n H id | none => none
  | _ => match o.op with
    | .store t a x => match storeA P ev H t a x with | some H' => some (undef, H') | none => none
    | .call c => match appOf P ev c H id with | some r => some r | none => match copyOf P ev c H with | some r => some r | none => mapOf P ev o H id
    | _ => mapOf P ev o H id

theorem sub_alloc {w0 : World} {m : Names} {H : Tr Blk} {w : World} {n : New} {id : Nat} {v : Value} {H' : Tr Blk} (r : Rel w0 m H w) {vs' : List Value} (hv : VL m n.cells vs') (h : newOf n H id = some (v, H')) :
    ∃ m' , Sub m m' ∧ Rel w0 m' H' (w.alloc (.cells vs'.toArray n.elem)) ∧ VR m' v (match n.len with | none => .pointer (some ⟨w.heap.size, 0, none⟩) | some (l, c) => .slice (some ⟨w.heap.size, 0, none⟩) l c) ∧ okNew n = true := by
  unfold newOf at h
  cases hc : (okNew n && isNone (H.at id) && Nat.blt id 4096) with
  | false => rw [hc] at h; cases h
  | true =>
    rw [hc] at h
    simp only [cond_true, Option.some.injEq, Prod.mk.injEq] at h
    obtain ⟨rfl, rfl⟩ := h
    simp only [Bool.and_eq_true, Nat.blt_eq] at hc
    obtain ⟨⟨c1, c2⟩, c3⟩ := hc
    have hf : H.at id = none := by cases e : H.at id with | none => rfl | some x => rw [e] at c2; cases c2
    have hok := c1
    unfold okNew at c1
    simp only [Bool.and_eq_true] at c1
    obtain ⟨hs, r'⟩ := r.alloc hf n.elem (vs := n.cells) vs'.toArray (by simp; rw [hv.length]; exact Nat.le_refl _) (fun i u hi => by obtain ⟨y, q1, q2⟩ := hv.get hi; exact ⟨y, by simpa using q1, q2⟩) (by simpa [deep] using c3) c1.1
    refine ⟨_, hs, r', ?_, hok⟩
    unfold New.val
    cases hl : n.len with
    | none => exact VR.ptr id 0 w.heap.size 0 (named_id _ _ _ _ _)
    | some lc =>
      obtain ⟨l, c⟩ := lc
      have h2 := c1.2
      rw [hl] at h2
      exact VR.slice id 0 w.heap.size 0 l c _ (named_id _ _ _ _ _) (by simpa [Nat.ble_eq] using h2) (.inl rfl)

theorem arr2 {α : Type} {a : Array α} {x y : α} (h : a.toList = [x, y]) : a = #[x, y] := by apply Array.ext'; simpa using h

theorem mapOf_ok {P : Program} {w0 : World} {m : Names} {ev : Operand → Option Value} {ρ : Operand → Value} {H H' : Tr Blk} {w : World} {o : Oper} {id : Nat} {v : Value} (he : Evs m ev ρ) (r : Rel w0 m H w)
    (h : mapOf P ev o H id = some (v, H')) : Does P w0 m (execOp ρ o) w v H' := by
  unfold mapOf at h
  split at h
  · rename_i t ho
    cases hc : (isNone (H.at id) && Nat.blt id 4096) with
    | false => rw [hc] at h; cases h
    | true =>
      rw [hc] at h
      simp only [cond_true, Option.some.injEq, Prod.mk.injEq] at h
      obtain ⟨rfl, rfl⟩ := h
      simp only [Bool.and_eq_true, Nat.blt_eq] at hc
      have hf : H.at id = none := by cases e : H.at id with | none => rfl | some x => rw [e] at hc; cases hc.1
      obtain ⟨hs, r'⟩ := r.allocMap hf (by simpa [deep] using hc.2)
      exact ⟨_, _, _, hs, r', .mapr id w.heap.size (named_id _ _ _ _ _), .inl (by simp [execOp, ho, run_makeMap])⟩
  · rename_i t mm k ok ho
    split at h
    · rename_i mv kv hm hk
      split at h
      · rename_i u hu
        cases h
        obtain ⟨v', h1, h2⟩ := lookA_ok r (he mm mv hm) (he k kv hk) hu
        exact ⟨m, w, v', .refl m, r, h2, .inl (by simp [execOp, ho, h1])⟩
      · cases h
    · cases h
  · rename_i t mm k x ho
    split at h
    · rename_i mv kv xv hm hk hx
      split at h
      · rename_i H2 hu
        cases h
        obtain ⟨w', h1, h2⟩ := updA_ok r (he mm mv hm) (he k kv hk) (he x xv hx) hu
        exact ⟨m, w', undef, .refl m, h2, .tuple _ _ rfl (fun i x y hx => by simp at hx), .inr ⟨by simp [execOp, ho, h1], rfl⟩⟩
      · cases h
    · cases h
  · rename_i t mm k x ho
    split at h
    · rename_i mv kv xv hm hk hx
      split at h
      · rename_i H2 hu
        cases h
        obtain ⟨w', h1, h2⟩ := updA_ok r (he mm mv hm) (he k kv hk) (he x xv hx) hu
        exact ⟨m, w', undef, .refl m, h2, .tuple _ _ rfl (fun i x y hx => by simp at hx), .inr ⟨by simp [execOp, ho, h1], rfl⟩⟩
      · cases h
    · cases h
  · rename_i c ho
    split at h
    · rename_i x t hc hx ht
      cases hv : ev x with
      | none => simp [hv] at h
      | some u =>
        simp only [hv] at h
        split at h
        · rename_i v2 hl
          cases h
          have := mlenA_ok (P := P) (ty := o.type) r (he x u hv) hl
          exact ⟨m, w, _, .refl m, r, this.2, .inl (by simp [execOp, ho, resolve, hc, invoke, Go.builtin, arr1 hx, arr1 ht, this.1])⟩
        · split at h
          · rename_i v2 hl
            cases h
            obtain ⟨v', h1, h2⟩ := pureVal_ok he hl w
            exact ⟨m, w, v', .refl m, r, h2, .inl h1⟩
          · cases h
    · cases h
  · cases h

theorem memStep_ok {P : Program} {w0 : World} {m : Names} {ev : Operand → Option Value} {ρ : Operand → Value} {H H' : Tr Blk} {w : World} {o : Oper} {id : Nat} {v : Value} (he : Evs m ev ρ) (r : Rel w0 m H w)
    (h : memStep P ev o H id = some (v, H')) : Does P w0 m (execOp ρ o) w v H' := by
  unfold memStep at h
  split at h
  · split at h
    · rename_i u hu
      cases h
      obtain ⟨v', h1, h2⟩ := pureVal_ok he hu w
      exact ⟨m, w, v', .refl m, r, h2, .inl h1⟩
    · cases h
  · split at h
    · rename_i t x ho
      split at h
      · rename_i u hu
        cases h
        obtain ⟨v', h1, h2⟩ := loadA_ok ho he r hu
        exact ⟨m, w, v', .refl m, r, h2, .inl h1⟩
      · cases h
    · cases h
  · split at h
    · rename_i n hn
      have hok : okNew n = true := by
        unfold newOf at h
        cases hk : okNew n with
        | true => rfl
        | false => simp [hk] at h
      obtain ⟨vs', hv, hrun⟩ := newA_ok (w := w) he hn hok
      obtain ⟨m', hs, r', hvr, _⟩ := sub_alloc r hv h
      exact ⟨m', _, _, hs, r', hvr, .inl hrun⟩
    · cases h
  · split at h
    · rename_i t a x ho
      split at h
      · rename_i H2 hu
        cases h
        obtain ⟨w', h1, h2⟩ := storeA_ok ho he r hu
        exact ⟨m, w', undef, .refl m, h2, .tuple _ _ rfl (fun i x y hx => by simp at hx), .inr ⟨h1, rfl⟩⟩
      · cases h
    · rename_i c ho
      split at h
      · rename_i rr happ
        cases h
        unfold appOf at happ
        rename_i hh
        revert happ
        intro h
        split at h
        · rename_i s x t t' hc ha ht
          cases hb : Nat.beq t t' with
          | false => rw [hb] at h; cases h
          | true =>
            rw [hb] at h
            simp only [cond_true] at h
            have := Nat.eq_of_beq_eq_true hb
            subst this
            split at h
            · rename_i sv xv hsv hxv
              obtain ⟨m', w', v', a1, a2, a3, a4⟩ := appA_ok (ty := o.type) r (he s sv hsv) (he x xv hxv) h
              refine ⟨m', w', v', a1, a2, a3, .inl ?_⟩
              simp [execOp, ho, resolve, hc, invoke, Go.builtin, arr2 ha, arr2 ht, a4]
            · cases h
        · cases h
      split at h
      · rename_i rr hcp
        cases h
        unfold copyOf at hcp
        split at hcp
        · rename_i d s t t' hc ha ht
          split at hcp
          · rename_i dv sv hdv hsv
            obtain ⟨w', a1, a2, a3⟩ := copyA_ok (ty := o.type) (t' := t') r (he d dv hdv) (he s sv hsv) hcp
            refine ⟨m, w', v, .refl m, a1, a2, .inl ?_⟩
            simp [execOp, ho, resolve, hc, invoke, Go.builtin, arr2 ha, arr2 ht, a3]
          · cases hcp
        · cases hcp
      · exact mapOf_ok he r h
    · exact mapOf_ok he r h

/-! Calls. -/
/-- Numbers from here on stand for the yield of a loop's name. -/
def yieldBase : Nat := 1000000000
noncomputable def calleeA (ev : Operand → Option Value) (o : Oper) : Option (Nat × List Value) :=
  match o.op with
  | .call c => match c.callee with
    | .value f => match ev f, evAll ev c.args.toList with
      | some (.func (.func g) first captured), some args => bif Nat.blt g yieldBase then some (g, first.toList ++ args ++ captured.toList) else none
      | some (.func (.yield b) _ _), some args => some (yieldBase + b, args)
      | _, _ => none
    | _ => none
  | _ => none

noncomputable def Enters (P : Program) (g : Nat) : Prop := ∃ fn c, P.funcs[g]? = some fn ∧ (fn.name == "runtime.NumGoroutine") = false ∧ fn.body = some c
/-- What comes of a call: one of the outcomes. -/
def Comes (w0 : World) (m : Names) (outs : List Out) (e : Ending) (w' : World) : Prop := ∃ v', e = Ending.returned v' ∧ ∃ out ∈ outs, ∃ m', Sub m m' ∧ Rel w0 m' out.2.1 w' ∧ VR m' out.1 v'
/-- What is known of one call: of a function with a body, of one that the library gives, of a loop's yield. -/
def Said (P : Program) (g : Nat) (args : List Value) (H : Tr Blk) (outs : List Out) : Prop :=
  (g < yieldBase ∧ Enters P g ∧ ∀ w0 m w args', Rel w0 m H w → VL m args args' → Calls P g args'.toArray w (Comes w0 m outs)) ∨
  (g < yieldBase ∧ ∀ w0 m w args', Rel w0 m H w → VL m args args' → ∃ v', (callFunc g args'.toArray).run P w = .ok (.value v') w ∧ ∃ out ∈ outs, ∃ m', Sub m m' ∧ Rel w0 m' out.2.1 w ∧ VR m' out.1 v') ∨
  (∃ b, g = yieldBase + b ∧ ∀ w0 m w args' l R, Rel w0 m H w → VL m args args' → m b = some (l, 0, R) →
    ∃ f tmps assign body, (Instr.yield l args'.toArray).run P w = .ok (.round l f tmps assign body) w ∧ RoundIn Fence.wide 0 P l f tmps assign body w (Comes w0 m outs))
/-- What is known of calls. -/
noncomputable def CallOk (P : Program) (call : CallT) : Prop := ∀ g args H n outs, call g args H n = some outs → Said P g args H outs

theorem calleeA_ok {P : Program} {m : Names} {ev : Operand → Option Value} {ρ : Operand → Value} {o : Oper} {g : Nat} {args : List Value} (he : Evs m ev ρ) (h : calleeA ev o = some (g, args)) (w : World) :
    ∃ args' : List Value, VL m args args' ∧ ((g < yieldBase ∧ (execOp ρ o).run P w = (callFunc g args'.toArray).run P w) ∨
      (∃ b l R, g = yieldBase + b ∧ m b = some (l, 0, R) ∧ (execOp ρ o).run P w = (Instr.yield l args'.toArray).run P w)) := by
  unfold calleeA at h
  split at h
  · rename_i c ho
    split at h
    · rename_i f hc
      split at h
      · rename_i g' first captured aas hf ha
        cases hlt : Nat.blt g' yieldBase with
        | false => rw [hlt] at h; cases h
        | true =>
        rw [hlt] at h
        cases h
        have hv := he f _ hf
        generalize hr : ρ f = rf at hv
        cases hv with
        | func fn hf xs ys us vs hs hh hs' hh' =>
          have v1 : VL m first.toList ys.toList := VRs.toVL ⟨hs, hh⟩
          have v3 : VL m captured.toList vs.toList := VRs.toVL ⟨hs', hh'⟩
          have v2 := evAll_ok he ha
          refine ⟨_, (v1.append v2).append v3, .inl ⟨by simpa [Nat.blt_eq] using hlt, ?_⟩⟩
          have earr : (ys.toList ++ List.map ρ c.args.toList ++ vs.toList).toArray = ys ++ c.args.map ρ ++ vs := by
            apply Array.ext'
            simp [Array.toList_map]
          rw [earr]
          simp [execOp, ho, resolve, hc, hr, Deferred.ofValue, invoke]
      · rename_i b x y aas hf ha
        cases h
        have hv := he f _ hf
        generalize hr : ρ f = rf at hv
        cases hv with
        | func fn hf' xs ys us vs hs hh hs' hh' => cases hf'
        | yld b C hm =>
          refine ⟨_, evAll_ok he ha, .inr ⟨b, C, _, rfl, hm, ?_⟩⟩
          have earr : (List.map ρ c.args.toList).toArray = c.args.map ρ := by
            apply Array.ext'
            simp [Array.toList_map]
          rw [earr]
          simp [execOp, ho, resolve, hc, hr, Deferred.ofValue, invoke]
      · cases h
    · cases h
  · cases h

noncomputable def opRes (call : CallT) (P : Program) (ev : Operand → Option Value) (o : Oper) (H : Tr Blk) (next id : Nat) : Option (List Out) :=
  match calleeA ev o with
  | some (g, args) => call g args H next
  | none => match memStep P ev o H id with
    | some (v, H') => some [(v, H', next)]
    | none => none

noncomputable def putT (N : Nat) (st : St) (d : Option Nat) (v : Value) : Option St :=
  match d with
  | none => some st
  | some d => bif Nat.blt d N && Nat.blt d 512 then some { st with T := st.T.putS d v } else none
noncomputable def putAll (N : Nat) (T : Tr Value) (d : Option Nat) : List Out → Option (List St)
  | [] => some []
  | (v, H, n) :: r => match putT N ⟨T, H, n⟩ d v, putAll N T d r with
    | some s, some l => some (s :: l)
    | _, _ => none

/-- Is the operation wanted? -/
noncomputable def wantedA (ops : Array Oper) (o : Oper) (T : Tr Value) : Option Bool :=
  match o.guard with
  | none => some true
  | some (j, want) => match (ops[j]?).bind (·.dst) with
    | none => some false
    | some d => match T.at d with
      | some (.bool b) => some (b == want)
      | some (.complex ..) => none
      | some _ => some false
      | none => none

noncomputable def resAll (call : CallT) (P : Program) (ops : Array Oper) (o : Oper) (T : Tr Value) (H : Tr Blk) (next id : Nat) : Option (List Out) :=
  match wantedA ops o T with
  | none => none
  | some false => some [(undef, H, next)]
  | some true => opRes call P (evA T) o H next id
noncomputable def opStep (call : CallT) (P : Program) (N : Nat) (ops : Array Oper) (base i : Nat) (st : St) : Option (List St) :=
  match ops[i]? with
  | none => none
  | some o => match resAll call P ops o st.T st.H st.next (base + i) with
    | some outs => putAll N st.T o.dst outs
    | none => none

/-- How the abstract stands to the true. -/
noncomputable def Good (ds : List Deferred) (w0 : World) (m0 : Names) (N : Nat) (st : St) (a : Act) (w : World) : Prop := ∃ m, Sub m0 m ∧ Rel w0 m st.H w ∧ RelT m st.T a.tmps ∧ N ≤ a.tmps.size ∧ a.defers = ds

theorem evA_ok {m : Names} {T : Tr Value} {a : Act} (h : RelT m T a.tmps) : Evs m (evA T) a.eval := by
  intro x v hx
  cases x with
  | tmp t =>
    obtain ⟨v', h1, h2⟩ := h.2 t v hx
    have : a.eval (.tmp t) = v' := by simp [Act.eval, h1]
    rw [this]; exact h2
  | const u =>
    simp only [evA] at hx
    cases hp : plain2 u with
    | false => rw [hp] at hx; cases hx
    | true => rw [hp] at hx; cases hx; exact VR.of2 hp
  | global g => cases hx
  | func f => cases hx; exact .func _ rfl _ _ _ _ rfl (fun i x y hx => by simp at hx) rfl (fun i x y hx => by simp at hx)


theorem wantedA_ok {m : Names} {ops : Array Oper} {o : Oper} {T : Tr Value} {tm : Array Value} {b : Bool} (r : RelT m T tm) (h : wantedA ops o T = some b) : Region.wanted o (yielded ops tm) = b := by
  unfold wantedA at h
  unfold Region.wanted
  cases hg : o.guard with
  | none => simp [hg] at h; subst h; rfl
  | some jw =>
    obtain ⟨j, want⟩ := jw
    simp only [hg] at h
    show (yielded ops tm j == some want) = b
    unfold yielded
    cases hd : (ops[j]?).bind (·.dst) with
    | none => simp only [hd, Option.some.injEq] at h; subst h; rfl
    | some d =>
      simp only [hd] at h
      cases hv : T.at d with
      | none => simp [hv] at h
      | some v =>
        obtain ⟨v', h1, h2⟩ := r.2 d v hv
        simp only [hv] at h
        simp only [Option.bind_some, h1]
        cases h2 <;> simp at h <;> subst h <;> first | rfl | (simp; done) | (cases ‹Bool› <;> cases want <;> rfl)

theorem putAll_mem {N : Nat} {T : Tr Value} {d : Option Nat} : ∀ {l : List Out} {outs : List St}, putAll N T d l = some outs → ∀ x ∈ l, ∃ st' ∈ outs, putT N ⟨T, x.2.1, x.2.2⟩ d x.1 = some st'
  | [], outs, h, x, hx => by simp at hx
  | (v, H, n) :: r, outs, h, x, hx => by
    simp only [putAll] at h
    split at h
    · rename_i s l hs hl
      cases h
      rcases List.mem_cons.1 hx with rfl | hx
      · exact ⟨s, by simp, hs⟩
      · obtain ⟨st', a, b⟩ := putAll_mem hl x hx
        exact ⟨st', by simp [a], b⟩
    · cases h

theorem Good.put {ds : List Deferred} {w0 : World} {m0 m m' : Names} {N : Nat} {T : Tr Value} {H' : Tr Blk} {n : Nat} {a : Act} {w' : World} {d : Option Nat} {v v' : Value} {st' : St} (s0 : Sub m0 m) (rT : RelT m T a.tmps) (hN : N ≤ a.tmps.size) (hD : a.defers = ds)
    (hs : Sub m m') (r : Rel w0 m' H' w') (hv : VR m' v v') (h : putT N ⟨T, H', n⟩ d v = some st') : Good ds w0 m0 N st' (a.put d v') w' := by
  cases d with
  | none => simp [putT] at h; subst h; exact ⟨m', s0.trans hs, r, rT.mono hs, hN, hD⟩
  | some d =>
    simp only [putT] at h
    cases hc : (Nat.blt d N && Nat.blt d 512) with
    | false => rw [hc] at h; cases h
    | true =>
      rw [hc] at h
      cases h
      simp only [Bool.and_eq_true, Nat.blt_eq] at hc
      exact ⟨m', s0.trans hs, r, (rT.mono hs).put (by omega) hv, by simpa [Act.put] using hN, hD⟩

/-! In a fence that lets all in, in a round of a loop over a function or not. -/
def FR (r : Option Nat) : Fence := { Fence.wide with round := r }
theorem callsIn_FR {r : Option Nat} {n : Nat} {P : Program} {f : FuncId} {args : Array Value} {w : World} {R : Ending → World → Prop} : CallsIn (FR r) n P f args w R ↔ Calls P f args w R :=
  callsIn_wide (n := n)
theorem wpIn_none {n : Nat} {P : Program} {c : Code} {Q : Exit → Act → World → Prop} {a : Act} {w : World} : c.wpIn (FR none) n P Q a w ↔ c.wp P Q a w := wpIn_wide (n := n)
theorem nodefer {call : CallT} {P : Program} {ev : Operand → Option Value} {o : Oper} {H : Tr Blk} {n id : Nat} {res : List Out} (h : opRes call P ev o H n id = some res) : ∀ c, o.op ≠ .defer c := by
  intro c hc
  unfold opRes calleeA memStep mapOf kindOf at h
  simp [hc] at h
theorem opStep_ok {ds : List Deferred} {call : CallT} {P : Program} {N : Nat} {ops : Array Oper} {base i : Nat} {st : St} {outs : List St} {w0 : World} {m0 : Names} {a : Act} {w : World} {Q : Exit → Act → World → Prop} {K : Act → World → Prop} {ro : Option Nat} (hcall : CallOk P call)
    (g : Good ds w0 m0 N st a w) (h : opStep call P N ops base i st = some outs) (hK : ∀ st' ∈ outs, ∀ a' w', Good ds w0 m0 N st' a' w' → K a' w') : wpOpIn (FR ro) 0 P ops Q i K a w := by
  obtain ⟨m, s0, r, rT, hN, hD⟩ := g
  unfold opStep at h
  unfold wpOpIn
  cases ho : ops[i]? with
  | none => simp [ho] at h
  | some o =>
    simp only [ho] at h ⊢
    unfold resAll at h
    cases hw : wantedA ops o st.T with
    | none => simp [hw] at h
    | some b =>
      have hw' := wantedA_ok rT hw
      simp only [hw] at h
      cases b with
      | false =>
        simp only at h
        rw [hw']
        simp only [Bool.false_eq_true, if_false]
        obtain ⟨st', h1, h2⟩ := putAll_mem h (undef, st.H, st.next) (by simp)
        exact ⟨fun _ _ => trivial, hK st' h1 _ _ (Good.put s0 rT hN hD (.refl m) r (.tuple _ _ rfl (fun i x y hx => by simp at hx)) h2)⟩
      | true =>
        simp only at h
        rw [hw']
        simp only [if_true]
        have he := evA_ok rT
        split at h
        · rename_i res hres
          have hnd := nodefer hres
          unfold opRes at hres
          unfold Oper.wpIn
          refine ⟨fun _ _ => trivial, ?_⟩
          rw [Oper.semAt_eq _ _ _ hnd]
          split at hres
          · rename_i gg args hc
            obtain ⟨args', hv, hrun⟩ := calleeA_ok (P := P) he hc w
            rcases hcall gg args _ _ _ hres with ⟨hlt, hent, hcalls⟩ | ⟨hlt, hext⟩ | ⟨b, hb, hyld⟩
            · rcases hrun with ⟨_, hrun⟩ | ⟨b, l, R, hb, _, _⟩
              · obtain ⟨fn, cc, e1, e2, e3⟩ := hent
                have e2' : fn.name ≠ "runtime.NumGoroutine" := by simpa using e2
                have hrun2 : (callFunc gg args'.toArray).run P w = .ok (.enter gg args'.toArray) w := by simp [callFunc, e1, e2', e3]
                rw [hrun, hrun2, Oper.uponIn_enter]
                refine ⟨fun e => (by cases e), callsIn_FR.2 ((hcalls w0 m w args' r hv).mono ?_)⟩
                rintro e w' ⟨v', rfl, out, hout, m', hs, r', hvr⟩
                obtain ⟨st', h1, h2⟩ := putAll_mem h out hout
                exact hK st' h1 _ _ (Good.put s0 rT hN hD hs r' hvr h2)
              · omega
            · rcases hrun with ⟨_, hrun⟩ | ⟨b, l, R, hb, _, _⟩
              · obtain ⟨v', hrun2, out, hout, m', hs, r', hvr⟩ := hext w0 m w args' r hv
                rw [hrun, hrun2, Oper.uponIn_value]
                obtain ⟨st', h1, h2⟩ := putAll_mem h out hout
                exact hK st' h1 _ _ (Good.put s0 rT hN hD hs r' hvr h2)
              · omega
            · rcases hrun with ⟨hlt, _⟩ | ⟨b', l, R, hb', hm, hrun⟩
              · omega
              · have : b = b' := by omega
                subst this
                obtain ⟨f, tmps, assign, body, hy, hround⟩ := hyld w0 m w args' l R r hv hm
                rw [hrun, hy, Oper.uponIn_round]
                refine ⟨fun e => (by cases e), RoundIn.mono hround ?_⟩
                rintro e w' ⟨v', rfl, out, hout, m', hs, r', hvr⟩
                obtain ⟨st', h1, h2⟩ := putAll_mem h out hout
                exact hK st' h1 _ _ (Good.put s0 rT hN hD hs r' hvr h2)
          · split at hres
            · rename_i v H' hm
              cases hres
              obtain ⟨m', w', v', hs, r', hvr, hrun⟩ := memStep_ok he r hm
              obtain ⟨st', h1, h2⟩ := putAll_mem h (v, H', st.next) (by simp)
              have hk := hK st' h1 _ _ (Good.put s0 rT hN hD hs r' hvr h2)
              rcases hrun with hrun | ⟨hrun, rfl⟩
              · rw [hrun, Oper.uponIn_value]; exact hk
              · rw [hrun, Oper.uponIn_skip]; exact hk
            · cases hres
        · cases h

end Go.Proofs.Ytmdhmpfagekonaa.Ev
