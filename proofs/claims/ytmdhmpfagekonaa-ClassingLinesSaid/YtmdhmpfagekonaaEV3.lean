/- A run of closed code: operations on addresses that touch no memory. -/
import Derived.Test.YtmdhmpfagekonaaEV2
namespace Go.Proofs.Ytmdhmpfagekonaa.Ev
open Go.RowKit
set_option linter.unusedVariables false
set_option linter.unusedSimpArgs false

abbrev Names := Nat → Option (Nat × Nat × Nat)

theorem add_off (C k o n : Nat) : (⟨C, k + o, none⟩ : Addr).add n = ⟨C, k + (o + n), none⟩ := by
  unfold Addr.add
  split
  · rename_i h; subst h; rfl
  · simp [Nat.add_assoc]

/-- What an operation gives, as the frame of each lemma below. -/
def Gives (P : Program) (m : Names) (s : Sem Next) (v : Value) : Prop := ∀ w, ∃ v', s.run P w = .ok (.value v') w ∧ VR m v v'

def nilA : Option Value → Option Value
  | some (.pointer (some a)) => some (.pointer (some a))
  | some (.func (.func f) xs ys) => some (.func (.func f) xs ys)
  | _ => none
theorem nilA_ok {P : Program} {m : Names} {ρ : Operand → Value} {o : Oper} {x : Operand} {u v : Value} (ho : o.op = .nilCheck x) (hx : VR m u (ρ x)) (h : nilA (some u) = some v) : Gives P m (execOp ρ o) v := by
  intro w
  unfold nilA at h
  split at h
  · rename_i a e
    cases e; cases h
    generalize hr : ρ x = r at hx
    cases hx with
    | ptr b o C k hm => exact ⟨_, by simp [execOp, ho, hr], .ptr b o C k hm⟩
  · rename_i f xs ys e
    cases e; cases h
    generalize hr : ρ x = r at hx
    cases hx with
    | func fn hf xs ys us vs hs hh hs' hh' => exact ⟨_, by simp [execOp, ho, hr], .func _ hf _ _ _ _ hs hh hs' hh'⟩
  · cases h

def extractA (u : Value) (i : Nat) : Option Value :=
  match u with
  | .tuple vs => vs[i]?
  | _ => none
theorem extractA_ok {P : Program} {m : Names} {ρ : Operand → Value} {o : Oper} {x : Operand} {i : Nat} {u v : Value} (ho : o.op = .extract x i) (hx : VR m u (ρ x)) (h : extractA u i = some v) : Gives P m (execOp ρ o) v := by
  intro w
  unfold extractA at h
  split at h
  · rename_i vs
    generalize hr : ρ x = r at hx
    cases hx with
    | tuple xs ys hs hh =>
      obtain ⟨y, hy, hv⟩ := VRs.get ⟨hs, hh⟩ h
      exact ⟨y, by simp [execOp, ho, hr, Instr.extract, hy], hv⟩
  · cases h

def fieldA (P : Program) (t : TypeId) (u : Value) (f : Nat) : Option Value :=
  match u, P.underlying t with
  | .agg cs, some (.struct fs) => match fs[f]? with
    | some fd => partA P fd.type cs fd.offset
    | none => none
  | _, _ => none
theorem fieldA_ok {P : Program} {m : Names} {ρ : Operand → Value} {o : Oper} {x : Operand} {t f : Nat} {u v : Value} (ho : o.op = .field t x f) (hx : VR m u (ρ x)) (h : fieldA P t u f = some v) : Gives P m (execOp ρ o) v := by
  intro w
  unfold fieldA at h
  split at h
  · rename_i cs fs hu
    cases hf : fs[f]? with
    | none => simp [hf] at h
    | some fd =>
      simp only [hf] at h
      generalize hr : ρ x = r at hx
      cases hx with
      | agg xs ys hs hh =>
        obtain ⟨v', h1, h2⟩ := partA_ok ⟨hs, hh⟩ h w
        exact ⟨v', by simp [execOp, ho, hr, Instr.field, run_underlying hu, hf, asAgg, h1], h2⟩
  · cases h

def fieldAddrA (P : Program) (t : TypeId) (u : Value) (f : Nat) : Option Value :=
  match u, P.underlying t with
  | .pointer (some ⟨b, o, none⟩), some (.struct fs) => match fs[f]? with
    | some fd => match sizeT P fd.type with
      | some (_ + 1) => some (.pointer (some ⟨b, o + fd.offset, none⟩))
      | _ => none
    | none => none
  | _, _ => none
theorem fieldAddrA_ok {P : Program} {m : Names} {ρ : Operand → Value} {o : Oper} {x : Operand} {t f : Nat} {u v : Value} (ho : o.op = .fieldAddr t x f) (hx : VR m u (ρ x)) (h : fieldAddrA P t u f = some v) : Gives P m (execOp ρ o) v := by
  intro w
  unfold fieldAddrA at h
  split at h
  · rename_i b off fs hu
    cases hf : fs[f]? with
    | none => simp [hf] at h
    | some fd =>
      simp only [hf] at h
      split at h
      · rename_i n hs
        cases h
        generalize hr : ρ x = r at hx
        cases hx with
        | ptr b o C k hm =>
          exact ⟨_, by simp [execOp, ho, hr, Instr.fieldAt, run_underlying hu, hf, Instr.sureAddr, fieldPlace, sizeT_ok hs, add_off], .ptr b (off + fd.offset) C k hm⟩
      · cases h
  · cases h

def natA (i : Value) : Option Nat :=
  match i with
  | .int _ (.ofNat n) => some n
  | _ => none
theorem natA_ok {m : Names} {i i' : Value} {n : Nat} (h : natA i = some n) (hv : VR m i i') : ∃ k, i' = .int k n := by
  unfold natA at h
  split at h
  · cases h; cases hv; exact ⟨_, rfl⟩
  · cases h

def indexAddrA (P : Program) (t : TypeId) (u i : Value) : Option Value :=
  match natA i with
  | none => none
  | some n => match u, P.underlying t with
    | .slice (some ⟨b, o, none⟩) len _, some (.slice e) => match sizeT P e with
      | some s => bif Nat.blt n len then some (.pointer (some ⟨b, o + n * s, none⟩)) else none
      | none => none
    | .pointer (some ⟨b, o, none⟩), some (.array len e) => match sizeT P e with
      | some s => bif Nat.blt n len then some (.pointer (some ⟨b, o + n * s, none⟩)) else none
      | none => none
    | _, _ => none
theorem indexAddrA_ok {P : Program} {m : Names} {ρ : Operand → Value} {o : Oper} {x y : Operand} {t : Nat} {u i v : Value} (ho : o.op = .indexAddr t x y) (hx : VR m u (ρ x)) (hy : VR m i (ρ y)) (h : indexAddrA P t u i = some v) :
    Gives P m (execOp ρ o) v := by
  intro w
  unfold indexAddrA at h
  cases hn : natA i with
  | none => simp [hn] at h
  | some n =>
    simp only [hn] at h
    obtain ⟨k, hk⟩ := natA_ok hn hy
    split at h
    · rename_i b off len cc e hu
      cases hs : sizeT P e with
      | none => simp [hs] at h
      | some s =>
        simp only [hs] at h
        cases hl : Nat.blt n len with
        | false => simp [hl] at h
        | true =>
          simp only [hl, cond_true, Option.some.injEq] at h
          subst h
          have hlt : n < len := by simpa [Nat.blt_eq] using hl
          generalize hr : ρ x = r at hx
          cases hx with
          | slice b o C k' len cap cc hm h1 h2 =>
            exact ⟨_, by simp [execOp, ho, hr, hk, Instr.indexAt, asIntOf, run_underlying hu, hlt, sizeT_ok hs, add_off], .ptr b (off + n * s) C k' hm⟩
    · rename_i b off len e hu
      cases hs : sizeT P e with
      | none => simp [hs] at h
      | some s =>
        simp only [hs] at h
        cases hl : Nat.blt n len with
        | false => simp [hl] at h
        | true =>
          simp only [hl, cond_true, Option.some.injEq] at h
          subst h
          have hlt : n < len := by simpa [Nat.blt_eq] using hl
          generalize hr : ρ x = r at hx
          cases hx with
          | ptr b o C k' hm =>
            exact ⟨_, by simp [execOp, ho, hr, hk, Instr.indexAt, asIntOf, run_underlying hu, hlt, sizeT_ok hs, add_off, Instr.sureAddr], .ptr b (off + n * s) C k' hm⟩
    · cases h

def indexA (P : Program) (t : TypeId) (u i : Value) : Option Value :=
  match natA i, u, P.underlying t with
  | some n, .agg cs, some (.array len e) => match sizeT P e with
    | some s => bif Nat.blt n len then partA P e cs (n * s) else none
    | none => none
  | _, _, _ => none
theorem indexA_ok {P : Program} {m : Names} {ρ : Operand → Value} {o : Oper} {x y : Operand} {t : Nat} {u i v : Value} (ho : o.op = .index t x y) (hx : VR m u (ρ x)) (hy : VR m i (ρ y)) (h : indexA P t u i = some v) :
    Gives P m (execOp ρ o) v := by
  intro w
  unfold indexA at h
  split at h
  · rename_i n cs len e hn hu
    obtain ⟨k, hk⟩ := natA_ok hn hy
    cases hs : sizeT P e with
    | none => simp [hs] at h
    | some s =>
      simp only [hs] at h
      cases hl : Nat.blt n len with
      | false => simp [hl] at h
      | true =>
        simp only [hl, cond_true] at h
        have hlt : n < len := by simpa [Nat.blt_eq] using hl
        generalize hr : ρ x = r at hx
        cases hx with
        | agg xs ys hss hh =>
          obtain ⟨v', h1, h2⟩ := partA_ok ⟨hss, hh⟩ h w
          exact ⟨v', by simp [execOp, ho, hr, hk, Instr.index, asIntOf, run_underlying hu, hlt, sizeT_ok hs, h1], h2⟩
  · cases h

def makeIfaceA (P : Program) (t : TypeId) (u : Value) : Option Value :=
  match P.underlying t with
  | some (.interface _) => none
  | some _ => some (.iface t u)
  | none => none
theorem makeIfaceA_ok {P : Program} {m : Names} {ρ : Operand → Value} {o : Oper} {x : Operand} {t : Nat} {u v : Value} (ho : o.op = .makeInterface t x) (hx : VR m u (ρ x)) (h : makeIfaceA P t u = some v) :
    Gives P m (execOp ρ o) v := by
  intro w
  unfold makeIfaceA at h
  cases hu : P.underlying t with
  | none => simp [hu] at h
  | some d =>
    refine ⟨.iface t (ρ x), ?_, ?_⟩
    · cases d <;> simp [hu] at h <;> simp [execOp, ho, Instr.makeInterface, run_underlying hu]
    · have hv : v = .iface t u := by cases d <;> simp [hu] at h <;> exact h.symm
      subst hv; exact .iface _ _ _ hx

/-- Several operands. -/
def evAll (ev : Operand → Option Value) : List Operand → Option (List Value)
  | [] => some []
  | x :: xs => match ev x, evAll ev xs with
    | some v, some vs => some (v :: vs)
    | _, _ => none
theorem evAll_ok {m : Names} {ev : Operand → Option Value} {ρ : Operand → Value} (he : Evs m ev ρ) : ∀ {xs : List Operand} {vs : List Value}, evAll ev xs = some vs → VL m vs (xs.map ρ)
  | [], vs, h => by simp [evAll] at h; subst h; exact .nil
  | x :: xs, vs, h => by
    simp only [evAll] at h
    split at h
    · rename_i v us hv hus
      cases h
      exact .cons (he x v hv) (evAll_ok he hus)
    · cases h

def makeFuncA (ev : Operand → Option Value) (fn : Fn) (first captured : Array Operand) : Option Value :=
  match isYield fn, evAll ev first.toList, evAll ev captured.toList with
  | false, some xs, some ys => some (.func fn xs.toArray ys.toArray)
  | _, _, _ => none
theorem makeFuncA_ok {P : Program} {m : Names} {ev : Operand → Option Value} {ρ : Operand → Value} {o : Oper} {fn : Fn} {first captured : Array Operand} {v : Value} (ho : o.op = .makeFunc fn first captured) (he : Evs m ev ρ)
    (h : makeFuncA ev fn first captured = some v) : Gives P m (execOp ρ o) v := by
  intro w
  unfold makeFuncA at h
  split at h
  · rename_i xs ys h0 h1 h2
    cases h
    have a := (evAll_ok he h1).to
    have b := (evAll_ok he h2).to
    have ea : (first.toList.map ρ).toArray = first.map ρ := by apply Array.ext'; rw [Array.toList_map]
    have eb : (captured.toList.map ρ).toArray = captured.map ρ := by apply Array.ext'; rw [Array.toList_map]
    rw [ea] at a; rw [eb] at b
    exact ⟨_, by simp [execOp, ho, Instr.makeFunc], .func fn h0 _ _ _ _ a.1 a.2 b.1 b.2⟩
  · cases h

def lenA (P : Program) (t : TypeId) (u : Value) : Option Value :=
  match u, P.underlying t with
  | .slice _ n _, some (.slice _) => some (.int .i64 n)
  | _, _ => none
theorem lenA_ok {P : Program} {m : Names} {t ty : Nat} {u u' v : Value} (hx : VR m u u') (h : lenA P t u = some v) (w : World) : (Builtin.len_ #[t] ty #[u']).run P w = .ok v w ∧ VR m v v := by
  unfold lenA at h
  split at h
  · rename_i a n c e hu
    cases h
    refine ⟨?_, .int _ _⟩
    cases hx <;> simp [Builtin.len_, run_underlying hu, goInt]
  · cases h
def capA (P : Program) (t : TypeId) (u : Value) : Option Value :=
  match u, P.underlying t with
  | .slice (some _) _ cc, some (.slice _) => bif Nat.beq (cc % 2) 1 then some (.int .i64 ((cc / 2 : Nat) : Int)) else none
  | _, _ => none
theorem capA_ok {P : Program} {m : Names} {t ty : Nat} {u u' v : Value} (hx : VR m u u') (h : capA P t u = some v) (w : World) : (Builtin.cap_ #[t] ty #[u']).run P w = .ok v w ∧ VR m v v := by
  unfold capA at h
  split at h
  · rename_i a n cc e hu
    cases hk : Nat.beq (cc % 2) 1 with
    | false => simp [hk] at h
    | true =>
      simp only [hk, cond_true, Option.some.injEq] at h
      subst h
      have hk' := Nat.eq_of_beq_eq_true hk
      refine ⟨?_, .int _ _⟩
      cases hx with
      | slice b o C k len cap cc hm h1 h2 =>
        have : cc / 2 = cap := by
          rcases h2 with h2 | ⟨s, h2, _⟩
          · omega
          · omega
        rw [this]
        simp [Builtin.cap_, run_underlying hu, goInt]
  · cases h

end Go.Proofs.Ytmdhmpfagekonaa.Ev
