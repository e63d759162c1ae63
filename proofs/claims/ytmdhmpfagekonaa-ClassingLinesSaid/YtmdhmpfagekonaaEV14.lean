/- A run of closed code: code and calls. -/
import Derived.Test.YtmdhmpfagekonaaEVL
namespace Go.Proofs.Ytmdhmpfagekonaa.Ev
open Go.RowKit
set_option linter.unusedVariables false
set_option linter.unusedSimpArgs false

/-- What goes on goes on. -/
noncomputable def bindN (f : CSt → Option Outs) : Outs → Option Outs
  | [] => some []
  | (.normal, s) :: r => match f s, bindN f r with
    | some a, some b => some (a ++ b)
    | _, _ => none
  | (e, s) :: r => match bindN f r with
    | some b => some ((e, s) :: b)
    | none => none
theorem bindN_mem {f : CSt → Option Outs} : ∀ {os out : Outs}, bindN f os = some out → ∀ x ∈ os, (x.1 = .normal ∧ ∃ a, f x.2 = some a ∧ ∀ y ∈ a, y ∈ out) ∨ (x.1 ≠ .normal ∧ x ∈ out)
  | [], out, h, x, hx => by simp at hx
  | (.normal, s) :: r, out, h, x, hx => by
    simp only [bindN] at h
    split at h
    · rename_i a b ha hb
      cases h
      rcases List.mem_cons.1 hx with rfl | hx
      · exact .inl ⟨rfl, a, ha, fun y hy => by simp [hy]⟩
      · rcases bindN_mem hb x hx with ⟨h1, a', h2, h3⟩ | ⟨h1, h2⟩
        · exact .inl ⟨h1, a', h2, fun y hy => by simp [h3 y hy]⟩
        · exact .inr ⟨h1, by simp [h2]⟩
    · cases h
  | (.exit id, s) :: r, out, h, x, hx => by
    simp only [bindN] at h
    split at h
    · rename_i b hb
      cases h
      rcases List.mem_cons.1 hx with rfl | hx
      · exact .inr ⟨by simp, by simp⟩
      · rcases bindN_mem hb x hx with ⟨h1, a', h2, h3⟩ | ⟨h1, h2⟩
        · exact .inl ⟨h1, a', h2, fun y hy => by simp [h3 y hy]⟩
        · exact .inr ⟨h1, by simp [h2]⟩
    · cases h
  | (.ret, s) :: r, out, h, x, hx => by
    simp only [bindN] at h
    split at h
    · rename_i b hb
      cases h
      rcases List.mem_cons.1 hx with rfl | hx
      · exact .inr ⟨by simp, by simp⟩
      · rcases bindN_mem hb x hx with ⟨h1, a', h2, h3⟩ | ⟨h1, h2⟩
        · exact .inl ⟨h1, a', h2, fun y hy => by simp [h3 y hy]⟩
        · exact .inr ⟨h1, by simp [h2]⟩
    · cases h

noncomputable def leave (id : Nat) : AEx → AEx
  | .exit i => bif Nat.beq i id then .normal else .exit i
  | e => e
noncomputable def blockOf (id : Nat) : Outs → Outs
  | [] => []
  | (e, s) :: r => (leave id e, s) :: blockOf id r
theorem blockOf_mem {id : Nat} : ∀ {os : Outs}, ∀ x ∈ os, (leave id x.1, x.2) ∈ blockOf id os
  | [], x, hx => by simp at hx
  | (e, s) :: r, x, hx => by
    rcases List.mem_cons.1 hx with rfl | hx
    · simp [blockOf]
    · simp [blockOf, blockOf_mem x hx]
noncomputable def normals (mk : List Nat) (ro : Option Nat) : List St → Outs
  | [] => []
  | s :: r => (.normal, ⟨s, mk, ro⟩) :: normals mk ro r
theorem normals_mem {mk : List Nat} {ro : Option Nat} : ∀ {l : List St}, ∀ s ∈ l, (AEx.normal, (⟨s, mk, ro⟩ : CSt)) ∈ normals mk ro l
  | [], s, h => by simp at h
  | t :: r, s, h => by
    rcases List.mem_cons.1 h with rfl | h
    · simp [normals]
    · simp [normals, normals_mem s h]

noncomputable def seqOps (call : CallT) (P : Program) (N : Nat) (ops : Array Oper) (base : Nat) : List Nat → St → Option (List St)
  | [], st => some [st]
  | i :: r, st => match opStep call P N ops base i st with
    | some outs => concatAll (seqOps call P N ops base r) outs
    | none => none

/-- How many new names a region may want. -/
noncomputable def makes (ops : Array Oper) : Bool := ops.toList.any fun o => match o.op with
  | .alloc _ | .box .. | .buildSlice .. | .makeSlice .. => true
  | .call { callee := .builtin .append, .. } => true
  | _ => false
noncomputable def bump (ops : Array Oper) (n : Nat) : Nat := bif makes ops then n + ops.size else n
/-- The operations of a region in their order. -/
noncomputable def inOrder (ops : Array Oper) : List Oper → Nat → List Step
  | [], _ => []
  | o :: r, i => ⟨i, o, true, []⟩ :: inOrder ops r (i + 1)
noncomputable def regPlan (q : Nat → Bool) (ops : Array Oper) (draw : Bool) : Option (List Step) :=
  bif draw then plan q ops ops.size (Array.replicate ops.size false) else some (inOrder ops ops.toList 0)
/-! States that are one. -/
def eqA1 (a b : Option Addr) : Bool := match a, b with
  | none, none => true
  | some ⟨b, o, none⟩, some ⟨b', o', none⟩ => Nat.beq b b' && Nat.beq o o'
  | _, _ => false
def kindN : IntKind → Nat | .i8 => 0 | .i16 => 1 | .i32 => 2 | .i64 => 3 | .u8 => 4 | .u16 => 5 | .u32 => 6 | .u64 => 7
def eqB : Bool → Bool → Bool | true, true => true | false, false => true | _, _ => false
def eqV1 (x y : Value) : Bool := match x, y with
  | .bool a, .bool b => eqB a b
  | .int k a, .int k' b => Nat.beq (kindN k) (kindN k') && eqI a b
  | .pointer a, .pointer b => eqA1 a b
  | .slice a l c, .slice b l' c' => eqA1 a b && Nat.beq l l' && Nat.beq c c'
  | .nilFunc, .nilFunc => true
  | .nilIface, .nilIface => true
  | .string a, .string b => eqBy a.data.toList b.data.toList
  | .map (some a), .map (some b) => Nat.beq a b
  | .complex .f64 a c, .complex .f64 b d => Nat.beq a b && Nat.beq c d
  | _, _ => false
def eqL (e : Value → Value → Bool) : List Value → List Value → Bool
  | [], [] => true
  | x :: xs, y :: ys => e x y && eqL e xs ys
  | _, _ => false
def eqUp (e : Value → Value → Bool) (x y : Value) : Bool := match x, y with
  | .agg a, .agg b => eqL e a.toList b.toList
  | .tuple a, .tuple b => eqL e a.toList b.toList
  | .func (.func f) c d, .func (.func f') c' d' => Nat.beq f f' && eqL e c.toList c'.toList && eqL e d.toList d'.toList
  | x, y => eqV1 x y
def eqV (x y : Value) : Bool := eqUp (eqUp eqV1) x y
theorem eqA1_ok {a b : Option Addr} (h : eqA1 a b = true) : a = b := by
  unfold eqA1 at h
  split at h
  · rfl
  · simp only [Bool.and_eq_true] at h
    rw [Nat.eq_of_beq_eq_true h.1, Nat.eq_of_beq_eq_true h.2]
  · cases h
theorem kindN_ok {a b : IntKind} (h : kindN a = kindN b) : a = b := by cases a <;> cases b <;> first | rfl | (simp [kindN] at h)
theorem eqI_ok {a b : Int} (h : eqI a b = true) : a = b := by rw [eqI_eq] at h; simpa using h
theorem eqV1_ok {x y : Value} (h : eqV1 x y = true) : x = y := by
  unfold eqV1 at h
  split at h
  · rename_i a b; cases a <;> cases b <;> first | rfl | cases h
  · simp only [Bool.and_eq_true] at h; rw [kindN_ok (Nat.eq_of_beq_eq_true h.1), eqI_ok h.2]
  · rw [eqA1_ok h]
  · simp only [Bool.and_eq_true] at h; rw [eqA1_ok h.1.1, Nat.eq_of_beq_eq_true h.1.2, Nat.eq_of_beq_eq_true h.2]
  · rfl
  · rfl
  · rename_i a b
    obtain ⟨a⟩ := a
    obtain ⟨b⟩ := b
    have := Array.ext' (eqBy_ok h)
    subst this; rfl
  · rw [Nat.eq_of_beq_eq_true h]
  · simp only [Bool.and_eq_true] at h; rw [Nat.eq_of_beq_eq_true h.1, Nat.eq_of_beq_eq_true h.2]
  · cases h
theorem eqL_ok {e : Value → Value → Bool} (he : ∀ {x y}, e x y = true → x = y) : ∀ {xs ys : List Value}, eqL e xs ys = true → xs = ys
  | [], [], _ => rfl
  | x :: xs, y :: ys, h => by simp only [eqL, Bool.and_eq_true] at h; rw [he h.1, eqL_ok he h.2]
  | [], _ :: _, h => by cases h
  | _ :: _, [], h => by cases h
theorem eqUp_ok {e : Value → Value → Bool} (he : ∀ {x y}, e x y = true → x = y) {x y : Value} (h : eqUp e x y = true) : x = y := by
  unfold eqUp at h
  split at h
  · rw [Array.ext' (eqL_ok he h)]
  · rw [Array.ext' (eqL_ok he h)]
  · simp only [Bool.and_eq_true] at h
    rw [Nat.eq_of_beq_eq_true h.1.1, Array.ext' (eqL_ok he h.1.2), Array.ext' (eqL_ok he h.2)]
  · exact eqV1_ok h
theorem eqV_ok {x y : Value} (h : eqV x y = true) : x = y := eqUp_ok (fun h => eqUp_ok (fun h => eqV1_ok h) h) h
def eqT {α : Type} (e : α → α → Bool) : Tr α → Tr α → Bool
  | .nil, .nil => true
  | .leaf k a, .leaf k' b => Nat.beq k k' && e a b
  | .node l r, .node l' r' => eqT e l l' && eqT e r r'
  | _, _ => false
theorem eqT_ok {α : Type} {e : α → α → Bool} (he : ∀ a b, e a b = true → a = b) : ∀ {s t : Tr α}, eqT e s t = true → s = t
  | .nil, .nil, _ => rfl
  | .leaf k a, .leaf k' b, h => by simp only [eqT, Bool.and_eq_true] at h; rw [Nat.eq_of_beq_eq_true h.1, he _ _ h.2]
  | .node l r, .node l' r', h => by simp only [eqT, Bool.and_eq_true] at h; rw [eqT_ok he h.1, eqT_ok he h.2]
  | .nil, .leaf _ _, h | .nil, .node _ _, h | .leaf _ _, .nil, h | .leaf _ _, .node _ _, h | .node _ _, .nil, h | .node _ _, .leaf _ _, h => by cases h
def noLp : Option LoopT → Bool | none => true | some _ => false
def eqBlk (a b : Blk) : Bool := Nat.beq a.elem b.elem && Nat.beq a.n b.n && eqB a.live b.live && eqB a.mp b.mp && (noLp a.lp && noLp b.lp) && eqB a.df b.df && eqT eqV a.cells b.cells
theorem eqBlk_ok (a b : Blk) (h : eqBlk a b = true) : a = b := by
  obtain ⟨e, c, n, l, p, q, d⟩ := a
  obtain ⟨e', c', n', l', p', q', d'⟩ := b
  simp only [eqBlk, Bool.and_eq_true] at h
  obtain ⟨⟨⟨⟨⟨⟨h1, h2⟩, h3⟩, h5⟩, h6, h7⟩, h8⟩, h4⟩ := h
  cases q with
  | some x => cases h6
  | none =>
  cases q' with
  | some x => cases h7
  | none =>
  have := Nat.eq_of_beq_eq_true h1; subst this
  have := Nat.eq_of_beq_eq_true h2; subst this
  have := eqT_ok (fun a b h => eqV_ok h) h4; subst this
  cases l <;> cases l' <;> first | (cases h3; done) | skip
  all_goals cases p <;> cases p' <;> first | (cases h5; done) | skip
  all_goals cases d <;> cases d' <;> first | rfl | cases h8
def eqSt (a b : St) : Bool := Nat.beq a.next b.next && eqT eqV a.T b.T && eqT eqBlk a.H b.H
theorem eqSt_ok (a b : St) (h : eqSt a b = true) : a = b := by
  obtain ⟨T, H, n⟩ := a
  obtain ⟨T', H', n'⟩ := b
  simp only [eqSt, Bool.and_eq_true] at h
  have := Nat.eq_of_beq_eq_true h.1.1; subst this
  have := eqT_ok (fun a b h => eqV_ok h) h.1.2; subst this
  have := eqT_ok eqBlk_ok h.2; subst this
  rfl
/-- One of each. -/
def nub : List St → List St
  | [] => []
  | s :: r => bif (nub r).any (eqSt s) then nub r else s :: nub r
theorem nub_mem : ∀ {l : List St}, ∀ s ∈ l, s ∈ nub l
  | [], s, h => by simp at h
  | t :: r, s, h => by
    simp only [nub]
    cases e : (nub r).any (eqSt t) with
    | true =>
      simp only [cond_true]
      rcases List.mem_cons.1 h with rfl | h
      · rw [List.any_eq_true] at e
        obtain ⟨u, hu, he⟩ := e
        rw [eqSt_ok _ _ he]; exact hu
      · exact nub_mem s h
    | false =>
      simp only [cond_false]
      rcases List.mem_cons.1 h with rfl | h
      · simp
      · simp [nub_mem s h]
theorem nub_sub : ∀ {l : List St}, ∀ s ∈ nub l, s ∈ l
  | [], s, h => by simp [nub] at h
  | t :: r, s, h => by
    simp only [nub] at h
    cases e : (nub r).any (eqSt t) with
    | true => rw [e] at h; exact List.mem_cons_of_mem _ (nub_sub s h)
    | false =>
      rw [e] at h
      simp only [cond_false] at h
      rcases List.mem_cons.1 h with rfl | h
      · simp
      · exact List.mem_cons_of_mem _ (nub_sub s h)
def oneOf : List St → List St
  | [s] => [s]
  | l => nub l
theorem oneOf_mem {l : List St} : ∀ s ∈ l, s ∈ oneOf l := by
  intro s h
  unfold oneOf
  split
  · exact h
  · exact nub_mem s h
theorem oneOf_sub {l : List St} : ∀ s ∈ oneOf l, s ∈ l := by
  intro s h
  unfold oneOf at h
  split at h
  · exact h
  · exact nub_sub s h

theorem concatAll_inv {α β : Type} {f : α → Option (List β)} : ∀ {xs : List α} {out : List β}, concatAll f xs = some out → ∀ y ∈ out, ∃ x ∈ xs, ∃ a, f x = some a ∧ y ∈ a
  | [], out, h, y, hy => by simp [concatAll] at h; subst h; simp at hy
  | z :: zs, out, h, y, hy => by
    simp only [concatAll] at h
    split at h
    · rename_i a b ha hb
      cases h
      rcases List.mem_append.1 hy with hy | hy
      · exact ⟨z, by simp, a, ha, hy⟩
      · obtain ⟨x, h1, a', h2, h3⟩ := concatAll_inv hb y hy
        exact ⟨x, by simp [h1], a', h2, h3⟩
    · cases h

/-! Every order, breadth first: states that are equal behind the same operations are brought together. -/
def eqBs : List Bool → List Bool → Bool
  | [], [] => true
  | x :: xs, y :: ys => eqB x y && eqBs xs ys
  | _, _ => false
theorem eqBs_ok : ∀ {xs ys : List Bool}, eqBs xs ys = true → xs = ys
  | [], [], _ => rfl
  | x :: xs, y :: ys, h => by
    simp only [eqBs, Bool.and_eq_true] at h
    rw [eqBs_ok h.2]
    have := h.1
    cases x <;> cases y <;> first | rfl | cases this
  | [], _ :: _, h => by cases h
  | _ :: _, [], h => by cases h
def eqP (a b : Array Bool × St) : Bool := eqBs a.1.toList b.1.toList && eqSt a.2 b.2
theorem eqP_ok (a b : Array Bool × St) (h : eqP a b = true) : a = b := by
  obtain ⟨l, s⟩ := a
  obtain ⟨l', s'⟩ := b
  simp only [eqP, Bool.and_eq_true] at h
  have := Array.ext' (eqBs_ok h.1); subst this
  rw [eqSt_ok _ _ h.2]
def nub2 : List (Array Bool × St) → List (Array Bool × St)
  | [] => []
  | s :: r => bif (nub2 r).any (eqP s) then nub2 r else s :: nub2 r
theorem nub2_mem : ∀ {l : List (Array Bool × St)}, ∀ s ∈ l, s ∈ nub2 l
  | [], s, h => by simp at h
  | t :: r, s, h => by
    simp only [nub2]
    cases e : (nub2 r).any (eqP t) with
    | true =>
      simp only [cond_true]
      rcases List.mem_cons.1 h with rfl | h
      · rw [List.any_eq_true] at e
        obtain ⟨u, hu, he⟩ := e
        rw [eqP_ok _ _ he]; exact hu
      · exact nub2_mem s h
    | false =>
      simp only [cond_false]
      rcases List.mem_cons.1 h with rfl | h
      · simp
      · simp [nub2_mem s h]
theorem nub2_sub : ∀ {l : List (Array Bool × St)}, ∀ s ∈ nub2 l, s ∈ l
  | [], s, h => by simp [nub2] at h
  | t :: r, s, h => by
    simp only [nub2] at h
    cases e : (nub2 r).any (eqP t) with
    | true => rw [e] at h; exact List.mem_cons_of_mem _ (nub2_sub s h)
    | false =>
      rw [e] at h
      simp only [cond_false] at h
      rcases List.mem_cons.1 h with rfl | h
      · simp
      · exact List.mem_cons_of_mem _ (nub2_sub s h)
def pairs (l : Array Bool) : List St → List (Array Bool × St)
  | [] => []
  | o :: r => (l, o) :: pairs l r
theorem pairs_mem {l : Array Bool} : ∀ {os : List St} {o : St}, o ∈ os → (l, o) ∈ pairs l os
  | x :: r, o, h => by
    rcases List.mem_cons.1 h with rfl | h
    · simp [pairs]
    · simp [pairs, pairs_mem h]
theorem pairs_inv {l : Array Bool} : ∀ {os : List St} {p : Array Bool × St}, p ∈ pairs l os → p.1 = l ∧ p.2 ∈ os
  | [], p, h => by simp [pairs] at h
  | x :: r, p, h => by
    simp only [pairs, List.mem_cons] at h
    rcases h with rfl | h
    · simp
    · have := pairs_inv h
      exact ⟨this.1, by simp [this.2]⟩
noncomputable def waveOne (call : CallT) (q : Nat → Bool) (P : Program) (N : Nat) (ops : Array Oper) (base : Nat) (p : Array Bool × St) : Option (List (Array Bool × St)) :=
  match readyB ops p.1 with
  | [] => some [p]
  | i0 :: rs => match (match (i0 :: rs).find? (freeB q ops p.1) with | some i => some i | none => (i0 :: rs).find? (freeD q ops p.1 p.2.T)) with
    | some i => match opStep call P N ops base i p.2 with
      | some [st1] => some [(p.1.setIfInBounds i true, st1)]
      | _ => none
    | none => concatAll (fun i => match opStep call P N ops base i p.2 with
      | some outs => some (pairs (p.1.setIfInBounds i true) outs)
      | none => none) (i0 :: rs)
noncomputable def waveEnd (ops : Array Oper) (p : Array Bool × St) : Option (List St) := match readyB ops p.1 with | [] => some [p.2] | _ => none
noncomputable def wave (call : CallT) (q : Nat → Bool) (P : Program) (N : Nat) (ops : Array Oper) (base : Nat) : Nat → List (Array Bool × St) → Option (List St)
  | 0, L => concatAll (waveEnd ops) L
  | n + 1, L => match concatAll (waveOne call q P N ops base) L with
    | some L' => wave call q P N ops base n (nub2 L')
    | none => none
theorem wave_ok {call : CallT} {q : Nat → Bool} (hq : QuietOk call q) {P : Program} {N : Nat} {ops : Array Oper} {base : Nat} : ∀ (n : Nat) (L : List (Array Bool × St)) (outs : List St), (∀ p ∈ L, DC ops p.1) → wave call q P N ops base n L = some outs →
    ∀ p ∈ L, AO call P N ops base (fun s => s ∈ outs) n p.1 p.2
  | 0, L, outs, hdc, h, p, hp => by
    simp only [wave] at h
    obtain ⟨a, h1, h2⟩ := concatAll_mem h p hp
    simp only [waveEnd, readyB_eq] at h1
    split at h1
    · rename_i hr; cases h1; exact fun _ => ⟨hr, h2 _ (by simp)⟩
    · cases h1
  | n + 1, L, outs, hdc, h, p, hp => by
    simp only [wave] at h
    split at h
    · rename_i L' hL
      have hstep : ∀ p' ∈ L', ∃ x ∈ L, ∃ a, waveOne call q P N ops base x = some a ∧ p' ∈ a := fun p' hp' => concatAll_inv hL p' hp'
      have hdc' : ∀ p' ∈ nub2 L', DC ops p'.1 := by
        intro p' hp'
        obtain ⟨x, hx, a, h1, h2⟩ := hstep p' (nub2_sub _ hp')
        simp only [waveOne, readyB_eq] at h1
        split at h1
        · cases h1; simp at h2; subst h2; exact hdc _ hx
        · rename_i i0 rs hr
          split at h1
          · rename_i i hi
            have hmem : i ∈ Region.ready .any ops x.1 := by
              rw [hr]
              split at hi
              · rename_i i' hi'
                cases hi
                exact List.mem_of_find?_eq_some hi'
              · exact List.mem_of_find?_eq_some hi
            split at h1
            · cases h1; simp at h2; subst h2; exact (hdc _ hx).set hmem
            · cases h1
          · obtain ⟨i, hi, b, h3, h4⟩ := concatAll_inv h1 p' h2
            split at h3
            · cases h3
              rw [(pairs_inv h4).1]
              exact (hdc _ hx).set (by rw [hr]; exact hi)
            · cases h3
      have ih := wave_ok hq n (nub2 L') outs hdc' h
      obtain ⟨a, h1, h2⟩ := concatAll_mem hL p hp
      have go : ∀ p' ∈ a, AO call P N ops base (fun s => s ∈ outs) n p'.1 p'.2 := fun p' hp' => ih p' (nub2_mem _ (h2 p' hp'))
      simp only [waveOne, readyB_eq] at h1
      split at h1
      · rename_i hr
        cases h1
        have g := go p (by simp)
        intro f
        refine ⟨fun _ => ?_, fun i hi => by rw [hr] at hi; cases hi⟩
        cases n with
        | zero => exact (g f).2
        | succ n => exact (g f).1 hr
      · rename_i i0 rs hr
        split at h1
        · rename_i i hi
          have hor : (i ∈ Region.ready .any ops p.1 ∧ freeB q ops p.1 i = true) ∨ (i ∈ Region.ready .any ops p.1 ∧ freeD q ops p.1 p.2.T i = true) := by
            split at hi
            · rename_i i' hi'
              cases hi
              exact .inl ⟨by rw [hr]; exact List.mem_of_find?_eq_some hi', List.find?_some hi'⟩
            · exact .inr ⟨by rw [hr]; exact List.mem_of_find?_eq_some hi, List.find?_some hi⟩
          split at h1
          · rename_i st1 hs
            cases h1
            have g := go _ (List.mem_singleton.2 rfl)
            rcases hor with ⟨hmem, hfree⟩ | ⟨hmem, hfree⟩
            · exact AO.byB hq (hdc p hp) hmem hfree hs g
            · exact AO.byD hq (hdc p hp) hmem hfree hs g
          · cases h1
        · rename_i hnone
          intro f
          refine ⟨fun e => (by rw [hr] at e; cases e), fun i hi => ?_⟩
          rw [hr] at hi
          obtain ⟨b, h3, h4⟩ := concatAll_mem h1 i hi
          split at h3
          · rename_i os hos
            cases h3
            exact ⟨os, hos, fun o ho => go _ (h4 _ (pairs_mem ho))⟩
          · cases h3
    · cases h

noncomputable def evRegion (call : CallT) (q : Nat → Bool) (P : Program) (N : Nat) (ops : Array Oper) (draw : Bool) (st : St) : Option (List St) :=
  match (match regPlan q ops draw with
    | some l => runPlan call P N ops st.next l { st with next := bump ops st.next }
    | none => none) with
  | some outs => some outs
  | none => bif draw then wave call q P N ops st.next ops.size [(Array.replicate ops.size false, { st with next := bump ops st.next })] else none

noncomputable def evRounds (ih : CodeT) (N : Nat) (b : Code) : Nat → CSt → Option Outs
  | 0, _ => none
  | k + 1, st => match ih N b st with
    | some os => bindN (evRounds ih N b k) os
    | none => none

noncomputable def evStep (call : CallT) (q : Nat → Bool) (ih : CodeT) (P : Program) : CodeT := fun N c st =>
  match c with
  | .skip => some [(.normal, st)]
  | .label _ => some [(.normal, st)]
  | .seq x y => match ih N x st with
    | some os => bindN (ih N y) os
    | none => none
  | .cond c x y => match evA st.st.T c with
    | some (.bool true) => ih N x st
    | some (.bool false) => ih N y st
    | _ => none
  | .block id b => match ih N b st with
    | some os => some (blockOf id os)
    | none => none
  | .loop b => evRounds ih N b 5000 st
  | .scope b => ih N b st
  | .exit id => some [(.exit id, st)]
  | .ret => some [(.ret, st)]
  | .region _ ops draw =>
    match evRegion call q P N ops draw st.st with
    | some l => some (normals st.marks st.round (oneOf l))
    | none => none
  | .rangeFunc g ps assign body => evRange call P N g ps.toList assign body st
  | _ => none

theorem stepR_scope {P : Program} {b : Frame} {a : Act} {k : List Item} {cs : List Frame} {w : World} {c : Code} : step P (lone (b.atR a (.code (.scope c) :: k)) cs w) = .next (lone (b.atR a (.code c :: .inScope c :: k)) cs w) :=
  step_lone_go (by simp [stepG, stepG.exec, Frame.atR])
theorem stepR_inScope {P : Program} {b : Frame} {a : Act} {k : List Item} {cs : List Frame} {w : World} {c : Code} : step P (lone (b.atR a (.inScope c :: k)) cs w) = .next (lone (b.atR a k) cs w) :=
  step_lone_go (by simp [stepG, stepG.exec, Frame.atR])
theorem wpIn_scope_straight {F : Fence} {n : Nat} {P : Program} {Q : Exit → Act → World → Prop} {a : Act} {w : World} {c : Code} (h : c.wpIn F n P (Exit.noGoto Q) a w) : (Code.scope c).wpIn F n P Q a w := by
  intro b k cs hro hb hr
  have h0 : (lone (b.atR a (.code (.scope c) :: k)) cs w).fenced P F := fenced_calm hb hr rfl
  obtain ⟨e, a₁, w₁, hq, harr⟩ := h b (.inScope c :: k) cs hro hb hr
  cases e with
  | normal => exact ⟨.normal, a₁, w₁, hq, .head h0 stepR_scope (StepsIn.trans harr (.one (fenced_calm hb hr rfl) stepR_inScope))⟩
  | exit id => exact ⟨.exit id, a₁, w₁, hq, fun k' hk => .head h0 stepR_scope (harr.1 k' (by simp [exitTo, hk])), fun hr' hk => let ⟨k₁, h1, h2⟩ := harr.2 hr' (by simpa [exitTo] using hk); ⟨k₁, h1, .head h0 stepR_scope h2⟩⟩
  | goto l => exact hq.elim
  | ret => exact ⟨_, a₁, w₁, hq, .of_steps (.one h0 stepR_scope) harr⟩
  | panic ch => exact ⟨_, a₁, w₁, hq, .of_steps (.one h0 stepR_scope) harr⟩
  | outgrown => exact ⟨_, a₁, w₁, hq, .of_steps (.one h0 stepR_scope) harr⟩

/-- What is known of code. -/
noncomputable def CodeOk (P : Program) (ih : CodeT) : Prop := ∀ N c st outs, ih N c st = some outs → ∀ ro w0 m0 a w Q, GoodC ro w0 m0 N st a w → (∀ out ∈ outs, ∀ a' w', GoodC ro w0 m0 N out.2 a' w' → Q out.1.to a' w') → c.wpIn (FR ro) 0 P Q a w

theorem Good.drew {ds : List Deferred} {w0 : World} {m0 : Names} {N : Nat} {st : St} {a : Act} {w : World} {n : Nat} (g : Good ds w0 m0 N st a w) : Good ds w0 m0 N { st with next := n } a { w with drawn := w.drawn + 1 } := by
  obtain ⟨m, s0, r, rT, hN, hD⟩ := g
  exact ⟨m, s0, r.drew, rT, hN, hD⟩
theorem Good.next {ds : List Deferred} {w0 : World} {m0 : Names} {N : Nat} {st : St} {a : Act} {w : World} {n : Nat} (g : Good ds w0 m0 N st a w) : Good ds w0 m0 N { st with next := n } a w := g

theorem seqOps_ok {ds : List Deferred} {call : CallT} {P : Program} {N : Nat} {ops : Array Oper} {base : Nat} {w0 : World} {m0 : Names} {Q : Exit → Act → World → Prop} {ro : Option Nat} (hcall : CallOk P call) : ∀ (l : List Nat) (st : St) (outs : List St) (a : Act) (w : World),
    seqOps call P N ops base l st = some outs → Good ds w0 m0 N st a w → (∀ s ∈ outs, ∀ a' w', Good ds w0 m0 N s a' w' → Q .normal a' w') → wpOpsIn (FR ro) 0 P ops Q l a w
  | [], st, outs, a, w, h, g, hQ => by simp [seqOps] at h; subst h; exact hQ st (by simp) a w g
  | i :: r, st, outs, a, w, h, g, hQ => by
    simp only [seqOps] at h
    split at h
    · rename_i os hos
      rw [wpOpsIn_cons]
      refine opStep_ok hcall g hos fun st' hst' a' w' g' => ?_
      obtain ⟨b, h1, h2⟩ := concatAll_mem h st' hst'
      exact seqOps_ok hcall r st' b a' w' h1 g' fun s hs => hQ s (h2 s hs)
    · cases h

theorem inOrder_ok {ds : List Deferred} {call : CallT} {P : Program} {N : Nat} {ops : Array Oper} {base : Nat} {w0 : World} {m0 : Names} {Q : Exit → Act → World → Prop} {ro : Option Nat} (hcall : CallOk P call) : ∀ (l : List Oper) (i : Nat) (st : St) (outs : List St) (a : Act) (w : World),
    (∀ k o, l[k]? = some o → ops[i + k]? = some o) → runPlan call P N ops base (inOrder ops l i) st = some outs → Good ds w0 m0 N st a w → (∀ s ∈ outs, ∀ a' w', Good ds w0 m0 N s a' w' → Q .normal a' w') → wpOpsIn (FR ro) 0 P ops Q (List.range' i l.length) a w
  | [], i, st, outs, a, w, hl, h, g, hQ => by simp [inOrder, runPlan] at h; subst h; exact hQ st (by simp) a w g
  | o :: r, i, st, outs, a, w, hl, h, g, hQ => by
    simp only [inOrder, runPlan, List.all_nil, cond_true] at h
    have ho : ops[i]? = some o := hl 0 o rfl
    have hl' : ∀ k o, r[k]? = some o → ops[i + 1 + k]? = some o := fun k o hk => by have := hl (k + 1) o (by simpa using hk); rwa [show i + (k + 1) = i + 1 + k by omega] at this
    simp only [List.length_cons, List.range'_succ]
    rw [wpOpsIn_cons]
    split at h
    · rename_i s1 hs
      rw [← opStep_O ho] at hs
      refine opStep_ok hcall g hs fun st' hst' a' w' g' => ?_
      simp only [List.mem_singleton] at hst'
      subst hst'
      exact inOrder_ok hcall r (i + 1) _ outs a' w' hl' h g' hQ
    · rename_i os _ hs
      rw [← opStep_O ho] at hs
      refine opStep_ok hcall g hs fun st' hst' a' w' g' => ?_
      obtain ⟨b, h1, h2⟩ := concatAll_mem h st' hst'
      exact inOrder_ok hcall r (i + 1) st' b a' w' hl' h1 g' fun s hs => hQ s (h2 s hs)
    · cases h

theorem DC.none (ops : Array Oper) : DC ops (Array.replicate ops.size false) := by
  intro k o hk
  exfalso
  by_cases e : k < ops.size
  · simp [e] at hk
  · simp [Array.getElem?_eq_none (show (Array.replicate ops.size false).size ≤ k by simp; omega)] at hk

theorem evRegion_ok {ds : List Deferred} {P : Program} (hm : P.follows .mixedOrders = true) {call : CallT} {q : Nat → Bool} (hq : QuietOk call q) {N : Nat} {ops : Array Oper} {draw : Bool} {id : Nat} {st : St} {outs : List St} {w0 : World} {m0 : Names} {a : Act} {w : World} {Q : Exit → Act → World → Prop} {ro : Option Nat} (hcall : CallOk P call)
    (h : evRegion call q P N ops draw st = some outs) (g : Good ds w0 m0 N st a w) (hQ : ∀ s ∈ outs, ∀ a' w', Good ds w0 m0 N s a' w' → Q .normal a' w') : (Code.region id ops draw).wpIn (FR ro) 0 P Q a w := by
  unfold evRegion at h
  split at h
  · rename_i outs' ho
    cases h
    split at ho
    · rename_i l hl
      unfold regPlan at hl
      cases draw with
      | false =>
        simp only [cond_false, Option.some.injEq] at hl
        subst hl
        refine wpIn_region ?_
        have := inOrder_ok (Q := Q) (ro := ro) hcall ops.toList 0 _ outs a w (fun k o hk => by simpa using hk) ho g.next hQ
        rwa [Array.length_toList, ← List.range_eq_range'] at this
      | true =>
        simp only [cond_true] at hl
        refine wpIn_region_any hm ?_
        exact AO_any hcall (F := fun s => s ∈ outs) hQ _ _ _ _ _ (plan_ok hq _ _ _ _ _ (DC.none ops) hl ho) g.drew
    · cases ho
  · cases draw with
    | false => simp at h
    | true =>
      simp only [cond_true] at h
      refine wpIn_region_any hm ?_
      exact AO_any hcall (F := fun s => s ∈ outs) hQ _ _ _ _ _ (wave_ok hq _ _ _ (fun p hp => by simp at hp; subst hp; exact DC.none ops) h _ (List.mem_singleton.2 rfl)) g.drew

theorem evStep_ok {P : Program} (hm : P.follows .mixedOrders = true) {call : CallT} {q : Nat → Bool} (hq : QuietOk call q) {ih : CodeT} (hcall : CallOk P call) (hih : CodeOk P ih) : CodeOk P (evStep call q ih P) := by
  intro N c st outs h ro w0 m0 a w Q g hQ
  unfold evStep at h
  split at h
  · cases h; exact wpIn_skip (hQ (.normal, st) (by simp) a w g)
  · cases h; exact wpIn_label (hQ (.normal, st) (by simp) a w g)
  · rename_i x y
    split at h
    · rename_i os hos
      refine wpIn_seq (hih N x st os hos ro w0 m0 a w _ g fun out hout a' w' g' => ?_)
      rcases bindN_mem h out hout with ⟨e, b, h1, h2⟩ | ⟨e, h1⟩
      · rw [e]
        exact hih N y out.2 b h1 ro w0 m0 a' w' Q g' fun o ho => hQ o (h2 o ho)
      · have := hQ out h1 a' w' g'
        cases h3 : out.1 with
        | normal => exact absurd h3 e
        | exit id => rw [h3] at this; exact this
        | ret => rw [h3] at this; exact this
    · cases h
  · rename_i cc x y
    have he : Evs _ (evA st.st.T) a.eval := evA_ok g.choose_spec.2.2.1
    split at h
    · rename_i hc
      have := he cc _ hc
      generalize hr : a.eval cc = r at this
      cases this
      exact wpIn_cond_true hr (hih N x st outs h ro w0 m0 a w Q g hQ)
    · rename_i hc
      have := he cc _ hc
      generalize hr : a.eval cc = r at this
      cases this
      exact wpIn_cond_false hr (hih N y st outs h ro w0 m0 a w Q g hQ)
    · cases h
  · rename_i id b
    split at h
    · rename_i os hos
      cases h
      refine wpIn_block (hih N b st os hos ro w0 m0 a w _ g fun out hout a' w' g' => ?_)
      have key := hQ _ (blockOf_mem out hout) a' w' g'
      cases h3 : out.1 with
      | normal => rw [h3] at key; exact key
      | ret => rw [h3] at key; exact key
      | exit i =>
        rw [h3] at key
        simp only [leave] at key
        show Exit.inBlock id Q (.exit i) a' w'
        simp only [Exit.inBlock]
        by_cases e : i = id
        · rw [beq_of_eq e] at key; rw [if_pos e]; exact key
        · rw [beq_of_ne e] at key; rw [if_neg e]; exact key
    · cases h
  · rename_i b
    refine wpIn_loop_rounds 5000 ?_
    generalize 5000 = k at *
    induction k generalizing st outs a w with
    | zero => simp [evRounds] at h
    | succ k ihk =>
      simp only [evRounds] at h
      split at h
      · rename_i os hos
        rw [roundsIn_succ]
        refine hih N b st os hos ro w0 m0 a w _ g fun out hout a' w' g' => ?_
        rcases bindN_mem h out hout with ⟨e, b, h1, h2⟩ | ⟨e, h1⟩
        · rw [e]
          exact ihk out.2 b a' w' g' (fun o ho => hQ o (h2 o ho)) h1
        · have := hQ out h1 a' w' g'
          cases h3 : out.1 with
          | normal => exact absurd h3 e
          | exit id => rw [h3] at this; exact this
          | ret => rw [h3] at this; exact this
      · cases h
  · rename_i b
    refine wpIn_scope_straight (hih N b st outs h ro w0 m0 a w _ g fun out hout a' w' g' => ?_)
    have := hQ out hout a' w' g'
    cases h3 : out.1 <;> (rw [h3] at this; exact this)
  · rename_i id; cases h; exact wpIn_exit (hQ (.exit id, st) (by simp) a w g)
  · cases h; exact wpIn_ret (hQ (.ret, st) (by simp) a w g)
  · rename_i id ops draw
    split at h
    · rename_i l hl
      cases h
      obtain ⟨m, s0, r, rT, hN, hMk, hRo⟩ := g
      refine evRegion_ok (ds := a.defers) (m0 := m) hm hq hcall hl ⟨m, .refl m, r, rT, hN, rfl⟩ fun s hs a' w' g' => ?_
      obtain ⟨m', s', r', rT', hN', hD'⟩ := g'
      exact hQ _ (normals_mem s (oneOf_mem s hs)) a' w' ⟨m', s0.trans s', r', rT', hN', hD' ▸ hMk.mono s', hRo.mono s'⟩
    · cases h
  · exact evRange_ok hcall h g hQ
  · cases h

/-! Quiet code: nothing is written. -/
noncomputable def quietOp (q : Nat → Bool) (o : Oper) : Bool := Nat.beq (kindOf o.op) 0 || Nat.beq (kindOf o.op) 1 || quietCall q o
noncomputable def quietCode (q : Nat → Bool) : Code → Bool
  | .seq a b => quietCode q a && quietCode q b
  | .cond _ a b => quietCode q a && quietCode q b
  | .block _ a => quietCode q a
  | .loop a => quietCode q a
  | .scope a => quietCode q a
  | .region _ ops _ => ops.toList.all (quietOp q)
  | .rangeFunc .. => false
  | _ => true
theorem putAll_H {N : Nat} {T : Tr Value} {d : Option Nat} {l : List Out} {outs : List St} {H : Tr Blk} (h : putAll N T d l = some outs) (hl : ∀ x ∈ l, x.2.1 = H) : ∀ s ∈ outs, s.H = H := by
  intro s hs
  obtain ⟨x, hx, hp⟩ := putAll_inv h s hs
  rw [putT_eq hp]
  exact hl x hx
theorem resAll_H {call : CallT} {P : Program} {q : Nat → Bool} (hq : QuietOk call q) {ops : Array Oper} {o : Oper} {T : Tr Value} {H : Tr Blk} {n id : Nat} {res : List Out} (h : quietOp q o = true) (hr : resAll call P ops o T H n id = some res) : ∀ x ∈ res, x.2.1 = H := by
  unfold quietOp at h
  rw [Bool.or_eq_true, Bool.or_eq_true] at h
  rcases h with (h | h) | h
  · have k : kindOf o.op = 0 := Nat.eq_of_beq_eq_true h
    rw [resAll_eff (by omega)] at hr
    split at hr
    · rename_i v H' he; cases hr; intro x hx; simp at hx; subst hx; exact (eff0 (H2 := H) k he).1
    · cases hr
  · have k : kindOf o.op = 1 := Nat.eq_of_beq_eq_true h
    rw [resAll_eff (by omega)] at hr
    split at hr
    · rename_i v H' he; cases hr; intro x hx; simp at hx; subst hx; exact eff1 k he
    · cases hr
  · exact quietCall_res hq h hr
theorem opStep_H {call : CallT} {P : Program} {q : Nat → Bool} (hq : QuietOk call q) {N base i : Nat} {ops : Array Oper} (ha : ops.toList.all (quietOp q) = true) {st : St} {outs : List St} (h : opStep call P N ops base i st = some outs) : ∀ s ∈ outs, s.H = st.H := by
  unfold opStep at h
  cases ho : ops[i]? with
  | none => simp [ho] at h
  | some o =>
    simp only [ho] at h
    rw [List.all_eq_true] at ha
    have hqo := ha o (by rw [Array.mem_toList_iff]; exact Array.mem_of_getElem? ho)
    split at h
    · rename_i res hr
      exact putAll_H h (resAll_H hq hqo hr)
    · cases h
theorem wave_H {call : CallT} {P : Program} {q : Nat → Bool} (hq : QuietOk call q) {N base : Nat} {ops : Array Oper} (ha : ops.toList.all (quietOp q) = true) {H : Tr Blk} : ∀ (n : Nat) (L : List (Array Bool × St)) (outs : List St), (∀ p ∈ L, p.2.H = H) → wave call q P N ops base n L = some outs → ∀ s ∈ outs, s.H = H
  | 0, L, outs, hL, h, s, hs => by
    simp only [wave] at h
    obtain ⟨p, hp, a, h1, h2⟩ := concatAll_inv h s hs
    simp only [waveEnd] at h1
    split at h1
    · cases h1; simp at h2; subst h2; exact hL p hp
    · cases h1
  | n + 1, L, outs, hL, h, s, hs => by
    simp only [wave] at h
    split at h
    · rename_i L' hL'
      refine wave_H hq ha n (nub2 L') outs (fun p hp => ?_) h s hs
      obtain ⟨x, hx, a, h1, h2⟩ := concatAll_inv hL' p (nub2_sub _ hp)
      rw [← hL x hx]
      simp only [waveOne] at h1
      split at h1
      · cases h1; simp at h2; subst h2; rfl
      · split at h1
        · split at h1
          · rename_i st1 hs1
            cases h1; simp at h2; subst h2
            exact opStep_H hq ha hs1 _ (by simp)
          · cases h1
        · obtain ⟨i, _, b, h3, h4⟩ := concatAll_inv h1 p h2
          split at h3
          · rename_i os hos
            cases h3
            exact opStep_H hq ha hos _ (pairs_inv h4).2
          · cases h3
    · cases h
theorem runPlan_H {call : CallT} {P : Program} {q : Nat → Bool} (hq : QuietOk call q) {N base : Nat} {ops : Array Oper} : ∀ (l : List Step) (st : St) (outs : List St), (∀ x ∈ l, quietOp q x.o = true) → runPlan call P N ops base l st = some outs → ∀ s ∈ outs, s.H = st.H
  | [], st, outs, _, h, s, hs => by simp [runPlan] at h; subst h; simp at hs; subst hs; rfl
  | x :: r, st, outs, hl, h, s, hs => by
    have step : ∀ {os : List St}, opStepO call P N ops (base + x.i) x.o st = some os → ∀ o ∈ os, o.H = st.H := by
      intro os h o ho
      unfold opStepO at h
      rw [compA_ok] at h
      split at h
      · rename_i res hr; exact putAll_H h (resAll_H hq (hl x (by simp)) hr) o ho
      · cases h
    simp only [runPlan] at h
    cases hask : x.asks.all (dynT st.T x.o) with
    | false => rw [hask] at h; cases h
    | true =>
      rw [hask] at h
      simp only [cond_true] at h
      split at h
      · rename_i s1 h1
        rw [runPlan_H hq r s1 outs (fun y hy => hl y (by simp [hy])) h s hs]
        exact step h1 s1 (by simp)
      · rename_i os _ h1
        cases hlone : x.lone with
        | false => rw [hlone] at h; cases h
        | true =>
          rw [hlone] at h
          simp only [cond_true] at h
          obtain ⟨o, ho, a, h2, h3⟩ := concatAll_inv h s hs
          rw [runPlan_H hq r o a (fun y hy => hl y (by simp [hy])) h2 s h3]
          exact step h1 o ho
      · cases h
theorem plan_ops {q : Nat → Bool} {ops : Array Oper} : ∀ (n : Nat) (listed : Array Bool) (l : List Step), plan q ops n listed = some l → ∀ x ∈ l, ∃ i : Nat, ops[i]? = some x.o
  | 0, listed, l, h, x, hx => by
    simp only [plan] at h
    split at h
    · cases h; simp at hx
    · cases h
  | n + 1, listed, l, h, x, hx => by
    simp only [plan] at h
    split at h
    · cases h; simp at hx
    · split at h
      · rename_i o l' ho hl
        cases h
        rcases List.mem_cons.1 hx with rfl | hx
        · exact ⟨_, ho⟩
        · exact plan_ops n _ l' hl x hx
      · cases h
    · split at h
      · split at h
        · rename_i o l' ho hl
          cases h
          rcases List.mem_cons.1 hx with rfl | hx
          · exact ⟨_, ho⟩
          · exact plan_ops n _ l' hl x hx
        · cases h
      · split at h
        · split at h
          · rename_i o l' ho hl
            cases h
            rcases List.mem_cons.1 hx with rfl | hx
            · exact ⟨_, ho⟩
            · exact plan_ops n _ l' hl x hx
          · cases h
        · cases h
theorem inOrder_ops {ops : Array Oper} : ∀ (l : List Oper) (i : Nat), ∀ x ∈ inOrder ops l i, x.o ∈ l
  | [], i, x, hx => by simp [inOrder] at hx
  | o :: r, i, x, hx => by
    simp only [inOrder] at hx
    rcases List.mem_cons.1 hx with rfl | hx
    · simp
    · exact List.mem_cons_of_mem _ (inOrder_ops r (i + 1) x hx)
theorem evRegion_H {call : CallT} {P : Program} {q : Nat → Bool} (hq : QuietOk call q) {N : Nat} {ops : Array Oper} {draw : Bool} (ha : ops.toList.all (quietOp q) = true) {st : St} {outs : List St} (h : evRegion call q P N ops draw st = some outs) : ∀ s ∈ outs, s.H = st.H := by
  have ha' := ha
  rw [List.all_eq_true] at ha'
  unfold evRegion at h
  split at h
  · rename_i outs' ho
    cases h
    split at ho
    · rename_i l hl
      refine fun s hs => runPlan_H hq l _ outs ?_ ho s hs
      intro x hx
      unfold regPlan at hl
      cases draw with
      | false =>
        simp only [cond_false, Option.some.injEq] at hl
        subst hl
        exact ha' _ (inOrder_ops _ _ x hx)
      | true =>
        simp only [cond_true] at hl
        obtain ⟨i, hi⟩ := plan_ops _ _ _ hl x hx
        exact ha' _ (by rw [Array.mem_toList_iff]; exact Array.mem_of_getElem? hi)
    · cases ho
  · cases draw with
    | false => simp at h
    | true => simp only [cond_true] at h; exact wave_H hq ha _ _ _ (fun p hp => by simp at hp; subst hp; rfl) h

noncomputable def QuietIh (q : Nat → Bool) (ih : CodeT) : Prop := ∀ N c st outs, quietCode q c = true → ih N c st = some outs → ∀ x ∈ outs, x.2.st.H = st.st.H ∧ x.2.marks = st.marks
theorem bindN_inv {f : CSt → Option Outs} : ∀ {os out : Outs}, bindN f os = some out → ∀ y ∈ out, y ∈ os ∨ ∃ x ∈ os, ∃ a, f x.2 = some a ∧ y ∈ a
  | [], out, h, y, hy => by simp [bindN] at h; subst h; simp at hy
  | (.normal, s) :: r, out, h, y, hy => by
    simp only [bindN] at h
    split at h
    · rename_i a b ha hb
      cases h
      rcases List.mem_append.1 hy with hy | hy
      · exact .inr ⟨(.normal, s), by simp, a, ha, hy⟩
      · rcases bindN_inv hb y hy with h1 | ⟨x, h1, a', h2, h3⟩
        · exact .inl (by simp [h1])
        · exact .inr ⟨x, by simp [h1], a', h2, h3⟩
    · cases h
  | (.exit id, s) :: r, out, h, y, hy => by
    simp only [bindN] at h
    split at h
    · rename_i b hb
      cases h
      rcases List.mem_cons.1 hy with rfl | hy
      · exact .inl (by simp)
      · rcases bindN_inv hb y hy with h1 | ⟨x, h1, a', h2, h3⟩
        · exact .inl (by simp [h1])
        · exact .inr ⟨x, by simp [h1], a', h2, h3⟩
    · cases h
  | (.ret, s) :: r, out, h, y, hy => by
    simp only [bindN] at h
    split at h
    · rename_i b hb
      cases h
      rcases List.mem_cons.1 hy with rfl | hy
      · exact .inl (by simp)
      · rcases bindN_inv hb y hy with h1 | ⟨x, h1, a', h2, h3⟩
        · exact .inl (by simp [h1])
        · exact .inr ⟨x, by simp [h1], a', h2, h3⟩
    · cases h
theorem blockOf_inv {id : Nat} : ∀ {os : Outs}, ∀ y ∈ blockOf id os, ∃ x ∈ os, x.2 = y.2
  | [], y, hy => by simp [blockOf] at hy
  | (e, s) :: r, y, hy => by
    simp only [blockOf] at hy
    rcases List.mem_cons.1 hy with rfl | hy
    · exact ⟨(e, s), by simp, rfl⟩
    · obtain ⟨x, h1, h2⟩ := blockOf_inv y hy
      exact ⟨x, by simp [h1], h2⟩
theorem normals_inv {mk : List Nat} {ro : Option Nat} : ∀ {l : List St}, ∀ y ∈ normals mk ro l, y.2.st ∈ l ∧ y.2.marks = mk
  | [], y, hy => by simp [normals] at hy
  | s :: r, y, hy => by
    simp only [normals] at hy
    rcases List.mem_cons.1 hy with rfl | hy
    · simp
    · have := normals_inv y hy
      exact ⟨List.mem_cons_of_mem _ this.1, this.2⟩
theorem evStep_H {P : Program} {call : CallT} {q : Nat → Bool} (hq : QuietOk call q) {ih : CodeT} (hih : QuietIh q ih) : QuietIh q (evStep call q ih P) := by
  intro N c st outs hc h x hx
  unfold evStep at h
  split at h
  · cases h; simp at hx; subst hx; exact ⟨rfl, rfl⟩
  · cases h; simp at hx; subst hx; exact ⟨rfl, rfl⟩
  · rename_i a b
    simp only [quietCode, Bool.and_eq_true] at hc
    split at h
    · rename_i os hos
      rcases bindN_inv h x hx with h1 | ⟨y, h1, l, h2, h3⟩
      · exact hih _ _ _ _ hc.1 hos x h1
      · have p := hih _ _ _ _ hc.2 h2 x h3
        have p' := hih _ _ _ _ hc.1 hos y h1
        exact ⟨p.1.trans p'.1, p.2.trans p'.2⟩
    · cases h
  · rename_i cc a b
    simp only [quietCode, Bool.and_eq_true] at hc
    split at h
    · exact hih _ _ _ _ hc.1 h x hx
    · exact hih _ _ _ _ hc.2 h x hx
    · cases h
  · rename_i id b
    split at h
    · rename_i os hos
      cases h
      obtain ⟨y, h1, h2⟩ := blockOf_inv x hx
      rw [← h2]; exact hih _ b _ _ hc hos y h1
    · cases h
  · rename_i b
    have hb : quietCode q b = true := hc
    generalize 5000 = k at h
    induction k generalizing st outs with
    | zero => simp [evRounds] at h
    | succ k ihk =>
      simp only [evRounds] at h
      split at h
      · rename_i os hos
        rcases bindN_inv h x hx with h1 | ⟨y, h1, l, h2, h3⟩
        · exact hih _ _ _ _ hb hos x h1
        · have p := ihk y.2 l h3 h2
          have p' := hih _ _ _ _ hb hos y h1
          exact ⟨p.1.trans p'.1, p.2.trans p'.2⟩
      · cases h
  · rename_i b
    exact hih _ b _ _ hc h x hx
  · cases h; simp at hx; subst hx; exact ⟨rfl, rfl⟩
  · cases h; simp at hx; subst hx; exact ⟨rfl, rfl⟩
  · rename_i id ops draw
    split at h
    · rename_i l hl
      cases h
      have p := normals_inv x hx
      exact ⟨evRegion_H hq hc hl _ (oneOf_sub _ p.1), p.2⟩
    · cases h
  · cases hc
  · cases h

end Go.Proofs.Ytmdhmpfagekonaa.Ev
