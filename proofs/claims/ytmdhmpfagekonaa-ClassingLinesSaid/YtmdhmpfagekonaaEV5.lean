/- A run of closed code: all operations that touch no memory, under one name. -/
import Derived.Test.YtmdhmpfagekonaaEV4
namespace Go.Proofs.Ytmdhmpfagekonaa.Ev
open Go.RowKit
set_option linter.unusedVariables false
set_option linter.unusedSimpArgs false

/-- A value held against nil. -/
def nilEq (d : Option TypeDesc) (a b : Value) : Option Bool :=
  match d, a, b with
  | some (.pointer _), .pointer (some _), .pointer none => some false
  | some (.pointer _), .pointer none, .pointer (some _) => some false
  | some (.slice _), .slice (some _) _ _, .slice none 0 0 => some false
  | some (.func _ _ _), .func _ _ _, .nilFunc => some false
  | some (.map _ _), .map (some _), .map none => some false
  | some (.interface _), .iface _ _, .nilIface => some false
  | some (.interface _), .nilIface, .iface _ _ => some false
  | some .string, .string a, .string b => some (eqBy a.data.toList b.data.toList)
  | _, _, _ => none
set_option maxHeartbeats 1000000 in
theorem nilEq_ok {P : Program} {m : Names} {t : TypeId} {a b a' b' : Value} {r : Bool} (h : nilEq (P.underlying t) a b = some r) (ha : VR m a a') (hb : VR m b b') (x y : Operand) (w : World) :
    (eqGuard .eql t x y a' b').run P w = .ok () w ∧ (eqGuard .neq t x y a' b').run P w = .ok () w ∧ (Go.binOp .eql t a' b').run P w = .ok (.bool r) w ∧ (Go.binOp .neq t a' b').run P w = .ok (.bool !r) w := by
  have hm : Op.maxDepth = (Op.maxDepth - 1) + 1 := by decide
  generalize hu : P.underlying t = d at h
  unfold nilEq at h
  split at h <;> first | (cases h; done) | skip
  all_goals
    cases h
    cases ha <;> cases hb <;> refine ⟨?_, ?_, ?_, ?_⟩ <;> first
      | (simp [eqGuard]; done)
      | (unfold Go.binOp Op.equal
         rw [hm]
         simp [Op.equalIn, Op.stringOp, run_underlying hu, eqBy_list]
         done)

/-- A number from 0 to 65535 held against one that is known. -/
def rangeEq (op : BinOp) (c : Int) : Option Bool := match op with
  | .lss => bif decide (c ≤ 0) then some false else bif decide (65535 < c) then some true else none
  | .gtr => bif decide (65535 ≤ c) then some false else bif decide (c < 0) then some true else none
  | _ => none
theorem rangeEq_ok {P : Program} {op : BinOp} {t : TypeId} {z c : Int} {b : Bool} (h0 : 0 ≤ z) (h1 : z ≤ 65535) (h : rangeEq op c = some b) (x y : Operand) (w : World) :
    (eqGuard op t x y (.int .i64 z) (.int .i64 c)).run P w = .ok () w ∧ (Go.binOp op t (.int .i64 z) (.int .i64 c)).run P w = .ok (.bool b) w := by
  unfold rangeEq at h
  split at h
  · cases e : decide (c ≤ 0) with
    | true =>
      rw [e] at h; cases h
      have := of_decide_eq_true e
      exact ⟨by simp [eqGuard], by simp [Go.binOp, Op.intCmp]; omega⟩
    | false =>
      rw [e] at h
      simp only [cond_false] at h
      cases e2 : decide (65535 < c) with
      | true =>
        rw [e2] at h; cases h
        have := of_decide_eq_true e2
        exact ⟨by simp [eqGuard], by simp [Go.binOp, Op.intCmp]; omega⟩
      | false => rw [e2] at h; cases h
  · cases e : decide (65535 ≤ c) with
    | true =>
      rw [e] at h; cases h
      have := of_decide_eq_true e
      exact ⟨by simp [eqGuard], by simp [Go.binOp, Op.intCmp]; omega⟩
    | false =>
      rw [e] at h
      simp only [cond_false] at h
      cases e2 : decide (c < 0) with
      | true =>
        rw [e2] at h; cases h
        have := of_decide_eq_true e2
        exact ⟨by simp [eqGuard], by simp [Go.binOp, Op.intCmp]; omega⟩
      | false => rw [e2] at h; cases h
  · cases h
def binA (P : Program) (ev : Operand → Option Value) (o : Oper) (op : BinOp) (t : TypeId) (x y : Operand) : Option Value :=
  match ev x, ev y with
  | some (.int k a), some (.int k' b) => match semRun P (Go.binOp op t (.int k a) (.int k' b)) with
    | some v => bif plain2 v then some v else none
    | none => none
  | some (.complex .f64 0 2), some (.int .i64 c) => match rangeEq op c with
    | some b => some (.bool b)
    | none => none
  | some a, some b => match nilEq (P.underlying t) a b with
    | some r => match op with
      | .eql => some (.bool r)
      | .neq => some (.bool !r)
      | _ => genVal P ev o
    | none => genVal P ev o
  | _, _ => none
theorem binA_ok {P : Program} {m : Names} {ev : Operand → Option Value} {ρ : Operand → Value} {o : Oper} {op : BinOp} {t u : TypeId} {x y : Operand} {v : Value} (ho : o.op = .binOp op t x y u) (he : Evs m ev ρ)
    (h : binA P ev o op t x y = some v) : Gives P m (execOp ρ o) v := by
  intro w
  unfold binA at h
  split at h
  · rename_i k a k' b hx hy
    have h1 := he x _ hx
    have h2 := he y _ hy
    generalize hr1 : ρ x = r1 at h1
    generalize hr2 : ρ y = r2 at h2
    cases h1; cases h2
    split at h
    · rename_i v' hs
      cases hp : plain2 v' with
      | false => simp [hp] at h
      | true =>
        simp only [hp, cond_true, Option.some.injEq] at h
        subst h
        refine ⟨v', ?_, VR.of2 hp⟩
        have hg : ∀ w, (eqGuard op t x y (.int k a) (.int k' b)).run P w = .ok () w := by
          intro w; unfold eqGuard; cases op <;> simp
        simp [execOp, ho, hr1, hr2, hg, semRun_ok hs]
    · cases h
  · rename_i c hx hy
    have h1 := he x _ hx
    have h2 := he y _ hy
    generalize hr1 : ρ x = r1 at h1
    generalize hr2 : ρ y = r2 at h2
    cases h1 with
    | holeI z z0 z1 =>
    cases h2
    split at h
    · rename_i b hb
      cases h
      have key := rangeEq_ok (P := P) (t := t) z0 z1 hb x y w
      exact ⟨.bool b, by simp [execOp, ho, hr1, hr2, key.1, key.2], .bool b⟩
    · cases h
  · rename_i a b hnot hnot2 hx hy
    split at h
    · rename_i r hr
      have key := nilEq_ok (P := P) hr (he x a hx) (he y b hy) x y w
      split at h
      · cases h
        exact ⟨.bool r, by simp [execOp, ho, key], .bool r⟩
      · cases h
        exact ⟨.bool !r, by simp [execOp, ho, key], .bool _⟩
      · exact ⟨v, (genVal_ok he h w).1, (genVal_ok he h w).2⟩
    · exact ⟨v, (genVal_ok he h w).1, (genVal_ok he h w).2⟩
  · cases h

def callA (P : Program) (ev : Operand → Option Value) (o : Oper) (c : Call) : Option Value :=
  match c.callee, c.args.toList, c.argTypes.toList with
  | .builtin .len, [x], [t] => match ev x with
    | some u => match lenA P t u with
      | some v => some v
      | none => genVal P ev o
    | none => none
  | .builtin .cap, [x], [t] => match ev x with
    | some u => capA P t u
    | none => none
  | .builtin .min, _, _ => genVal P ev o
  | .builtin .max, _, _ => genVal P ev o
  | _, _, _ => none
theorem arr1 {α : Type} {a : Array α} {x : α} (h : a.toList = [x]) : a = #[x] := by apply Array.ext'; simpa using h
theorem callA_ok {P : Program} {m : Names} {ev : Operand → Option Value} {ρ : Operand → Value} {o : Oper} {c : Call} {v : Value} (ho : o.op = .call c) (he : Evs m ev ρ) (h : callA P ev o c = some v) : Gives P m (execOp ρ o) v := by
  intro w
  unfold callA at h
  split at h
  · rename_i x t hc hx ht
    cases hv : ev x with
    | none => simp [hv] at h
    | some u =>
      simp only [hv] at h
      split at h
      · rename_i v' hl
        cases h
        have := lenA_ok (P := P) (ty := o.type) (he x u hv) hl w
        refine ⟨v, ?_, this.2⟩
        simp [execOp, ho, resolve, hc, invoke, Go.builtin, arr1 hx, arr1 ht, this.1]
      · exact ⟨v, genVal_ok he h w⟩
  · rename_i x t hc hx ht
    cases hv : ev x with
    | none => simp [hv] at h
    | some u =>
      simp only [hv] at h
      have := capA_ok (P := P) (ty := o.type) (he x u hv) h w
      refine ⟨v, ?_, this.2⟩
      simp [execOp, ho, resolve, hc, invoke, Go.builtin, arr1 hx, arr1 ht, this.1]
  · exact ⟨v, genVal_ok he h w⟩
  · exact ⟨v, genVal_ok he h w⟩
  · cases h

/-- A number of 16 bits as one of 64. -/
def convU (P : Program) (s d : TypeId) (u : Option Value) : Option Value := match u, P.underlying s, P.underlying d with
  | some (.complex .f64 0 1), some (.int .u16), some (.int .i64) => some (.complex .f64 0 2)
  | _, _, _ => none
theorem convU_ok {P : Program} {m : Names} {ev : Operand → Option Value} {ρ : Operand → Value} {o : Oper} {s d : TypeId} {x : Operand} {v : Value} (ho : o.op = .convert s d x) (he : Evs m ev ρ)
    (h : convU P s d (ev x) = some v) : Gives P m (execOp ρ o) v := by
  intro w
  unfold convU at h
  split at h
  · rename_i hx hs hd
    cases h
    have h1 := he x _ hx
    generalize hr1 : ρ x = r1 at h1
    cases h1 with
    | holeU z z0 z1 =>
      refine ⟨.int .i64 z, ?_, .holeI z z0 z1⟩
      have hw : IntKind.i64.wrap z = z := by rw [IntKind.wrap_i64]; omega
      simp [execOp, ho, hr1, Go.convert, run_underlying hs, run_underlying hd, Conv.intToInt, hw]
  · cases h
/-- The operations that touch no memory. -/
def pureVal (P : Program) (ev : Operand → Option Value) (o : Oper) : Option Value :=
  match o.op with
  | .move x => ev x
  | .assign x => ev x
  | .pick c a b => match ev c, ev a, ev b with
    | some (.bool t), some x, some y => some (bif t then x else y)
    | _, _, _ => none
  | .nilCheck x => nilA (ev x)
  | .extract x i => match ev x with | some u => extractA u i | none => none
  | .field t x f => match ev x with | some u => fieldA P t u f | none => none
  | .fieldAddr t x f => match ev x with | some u => fieldAddrA P t u f | none => none
  | .indexAddr t x y => match ev x, ev y with | some u, some i => indexAddrA P t u i | _, _ => none
  | .index t x y => match ev x, ev y with
    | some (.agg cs), some i => indexA P t (.agg cs) i
    | _, _ => genVal P ev o
  | .makeInterface t x => match ev x with | some u => makeIfaceA P t u | none => none
  | .makeFunc fn first captured => makeFuncA ev fn first captured
  | .slice t x lo hi mx => match cutA P ev t x lo hi mx with | some v => some v | none => genVal P ev o
  | .build t parts => buildA P ev t parts
  | .binOp op t x y _ => binA P ev o op t x y
  | .call c => callA P ev o c
  | .unOp .. => genVal P ev o
  | .convert s d x => match convU P s d (ev x) with | some v => some v | none => genVal P ev o
  | _ => none
theorem pureVal_ok {P : Program} {m : Names} {ev : Operand → Option Value} {ρ : Operand → Value} {o : Oper} {v : Value} (he : Evs m ev ρ) (h : pureVal P ev o = some v) : Gives P m (execOp ρ o) v := by
  unfold pureVal at h
  split at h
  · rename_i x ho
    exact fun w => ⟨ρ x, by simp [execOp, ho], he x v h⟩
  · rename_i x ho
    exact fun w => ⟨ρ x, by simp [execOp, ho], he x v h⟩
  · rename_i c a b ho
    split at h
    · rename_i t x y hc ha hb
      cases h
      intro w
      have h1 := he c _ hc
      generalize hr : ρ c = r at h1
      cases h1
      cases t
      · exact ⟨ρ b, by simp [execOp, ho, hr, asBool], he b y hb⟩
      · exact ⟨ρ a, by simp [execOp, ho, hr, asBool], he a x ha⟩
    · cases h
  · rename_i x ho
    cases hx : ev x with
    | none => simp [hx, nilA] at h
    | some u => rw [hx] at h; exact nilA_ok ho (he x u hx) h
  · rename_i x i ho
    cases hx : ev x with
    | none => simp [hx] at h
    | some u => simp only [hx] at h; exact extractA_ok ho (he x u hx) h
  · rename_i t x f ho
    cases hx : ev x with
    | none => simp [hx] at h
    | some u => simp only [hx] at h; exact fieldA_ok ho (he x u hx) h
  · rename_i t x f ho
    cases hx : ev x with
    | none => simp [hx] at h
    | some u => simp only [hx] at h; exact fieldAddrA_ok ho (he x u hx) h
  · rename_i t x y ho
    split at h
    · rename_i u i hx hy; exact indexAddrA_ok ho (he x u hx) (he y i hy) h
    · cases h
  · rename_i t x y ho
    split at h
    · rename_i cs i hx hy; exact indexA_ok ho (he x _ hx) (he y i hy) h
    · exact fun w => ⟨v, genVal_ok he h w⟩
  · rename_i t x ho
    cases hx : ev x with
    | none => simp [hx] at h
    | some u => simp only [hx] at h; exact makeIfaceA_ok ho (he x u hx) h
  · rename_i fn first captured ho
    exact makeFuncA_ok ho he h
  · rename_i t x lo hi mx ho
    split at h
    · rename_i v' hc; cases h; exact cutA_ok ho he hc
    · exact fun w => ⟨v, genVal_ok he h w⟩
  · rename_i t parts ho
    exact buildA_ok ho he h
  · rename_i op t x y u ho
    exact binA_ok ho he h
  · rename_i c ho
    exact callA_ok ho he h
  · exact fun w => ⟨v, genVal_ok he h w⟩
  · rename_i s d x ho
    split at h
    · rename_i v' hc; cases h; exact convU_ok ho he hc
    · exact fun w => ⟨v, genVal_ok he h w⟩
  · cases h

end Go.Proofs.Ytmdhmpfagekonaa.Ev
