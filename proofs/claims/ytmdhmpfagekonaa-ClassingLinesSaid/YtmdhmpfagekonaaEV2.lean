/- A run of closed code: operations whose value hangs on their operands alone. -/
import Derived.Test.YtmdhmpfagekonaaEV1
namespace Go.Proofs.Ytmdhmpfagekonaa.Ev
open Go.RowKit
set_option linter.unusedVariables false
set_option linter.unusedSimpArgs false

theorem VR.eq1 {m : Nat → Option (Nat × Nat × Nat)} {v v' : Value} (h : plain1 v = true) (r : VR m v v') : v' = v := by
  cases r <;> first | rfl | (simp [plain1] at h)
theorem arr_ext {xs ys : Array Value} (hs : xs.size = ys.size) (h : ∀ (i : Nat) (x y : Value), xs[i]? = some x → ys[i]? = some y → y = x) : ys = xs := by
  apply Array.ext hs.symm
  intro i h1 h2
  exact h i _ _ (by simp [h2]) (by simp [h1])
theorem VR.eq2 {m : Nat → Option (Nat × Nat × Nat)} {v v' : Value} (h : plain2 v = true) (r : VR m v v') : v' = v := by
  have r0 := r
  cases r with
  | agg xs ys hs hh => rw [arr_ext hs fun i x y hx hy => VR.eq1 (all_get h hx) (hh i x y hx hy)]
  | tuple xs ys hs hh => rw [arr_ext hs fun i x y hx hy => VR.eq1 (all_get h hx) (hh i x y hx hy)]
  | _ => exact VR.eq1 h r0

/-- A text that asks nothing of the world. -/
def semRun {α : Type} (P : Program) : Sem α → Option α
  | .pure a => some a
  | .program k => semRun P (k P)
  | _ => none
theorem semRun_ok {α : Type} {P : Program} : ∀ {s : Sem α} {a : α}, semRun P s = some a → ∀ w, s.run P w = .ok a w
  | .pure b, a, h, w => by simp [semRun] at h; subst h; rfl
  | .program k, a, h, w => by simp only [Sem.run]; exact semRun_ok (by simpa [semRun] using h) w
  | .load .., _, h, _ | .store .., _, h, _ | .new .., _, h, _ | .shape .., _, h, _ | .freeze .., _, h, _ | .frozen .., _, h, _ | .getObj .., _, h, _ | .setObj .., _, h, _ | .choose .., _, h, _ | .sys .., _, h, _
  | .mark .., _, h, _ | .halt .., _, h, _ => by simp [semRun] at h

def isSelect : Op → Bool | .select .. => true | _ => false
def plainO : Option Value → Bool | some v => plain2 v | none => false
def valO : Option Next → Option Value | some (.value v) => bif plain2 v then some v else none | _ => none
/-- An operation at values without addresses: the model's own text. -/
def genVal (P : Program) (ev : Operand → Option Value) (o : Oper) : Option Value :=
  bif isSelect o.op then none else
  bif o.op.operands.toList.all (fun x => plainO (ev x)) then valO (semRun P (execOp (fun x => (ev x).getD undef) o)) else none

/-- What the slots' values are. -/
def Evs (m : Nat → Option (Nat × Nat × Nat)) (ev : Operand → Option Value) (ρ : Operand → Value) : Prop := ∀ x v, ev x = some v → VR m v (ρ x)

theorem genVal_ok {P : Program} {ev : Operand → Option Value} {o : Oper} {v : Value} {m : Nat → Option (Nat × Nat × Nat)} {ρ : Operand → Value} (he : Evs m ev ρ) (h : genVal P ev o = some v) (w : World) :
    (execOp ρ o).run P w = .ok (.value v) w ∧ VR m v v := by
  unfold genVal at h
  cases hs : isSelect o.op with
  | true => simp [hs] at h
  | false =>
    simp only [hs, cond_false] at h
    cases ha : o.op.operands.toList.all (fun x => plainO (ev x)) with
    | false => simp [ha] at h
    | true =>
      simp only [ha, cond_true] at h
      have hc : execOp ρ o = execOp (fun x => (ev x).getD undef) o := by
        refine execOp_congr o (fun cs b e => by rw [e] at hs; simp [isSelect] at hs) fun x hx => ?_
        rw [List.all_eq_true] at ha
        have h1 := ha x (by simpa using hx)
        cases hv : ev x with
        | none => simp [hv, plainO] at h1
        | some u =>
          simp only [hv, plainO] at h1
          simp only [Option.getD_some]
          exact VR.eq2 h1 (he x u hv)
      rw [hc]
      cases hr : semRun P (execOp (fun x => (ev x).getD undef) o) with
      | none => simp [hr, valO] at h
      | some n =>
        rw [hr] at h
        cases n with
        | value u =>
          simp only [valO] at h
          cases hp : plain2 u with
          | false => simp [hp] at h
          | true =>
            simp only [hp, cond_true, Option.some.injEq] at h
            subst h
            exact ⟨semRun_ok hr w, VR.of2 hp⟩
        | _ => simp [valO] at h

/-! Parts and cells. -/
theorem cells_of_one {v : Value} (h : v.oneCell' = true) : v.cells = #[v] := by cases v <;> first | rfl | (simp [Value.oneCell'] at h)
theorem VRs.refl_of {m : Nat → Option (Nat × Nat × Nat)} {xs : Array Value} (h : xs.toList.all plain1 = true) : VRs m xs xs :=
  ⟨rfl, fun i x y hx hy => by rw [hx] at hy; cases hy; exact VR.of1 (all_get h hx)⟩
theorem VR.cells {m : Nat → Option (Nat × Nat × Nat)} {v v' : Value} (h : VR m v v') : VRs m v.cells v'.cells := by
  have one : ∀ {v v' : Value}, VR m v v' → VRs m #[v] #[v'] := fun {v v'} h => ⟨rfl, fun i x y hx hy => by
    cases i with
    | zero => simp at hx hy; subst hx; subst hy; exact h
    | succ n => simp at hx⟩
  cases h with
  | agg xs ys hs hh => exact ⟨hs, hh⟩
  | hole n v h => rw [cells_of_one h]; exact one (.hole n _ h)
  | yld b C h => exact one (.yld b C h)
  | _ => exact one (by constructor <;> assumption)
theorem VRs.set {m : Nat → Option (Nat × Nat × Nat)} {xs ys : Array Value} (h : VRs m xs ys) {v v' : Value} (hv : VR m v v') (i : Nat) : VRs m (xs.setIfInBounds i v) (ys.setIfInBounds i v') := by
  refine ⟨by simp [h.1], fun j x y hx hy => ?_⟩
  by_cases e : i = j
  · subst e
    rw [Array.getElem?_setIfInBounds_self] at hx hy
    split at hx
    · split at hy
      · cases hx; cases hy; exact hv
      · cases hy
    · cases hx
  · rw [Array.getElem?_setIfInBounds_ne e] at hx hy
    exact h.2 j x y hx hy
theorem VRs.get {m : Nat → Option (Nat × Nat × Nat)} {xs ys : Array Value} (h : VRs m xs ys) {i : Nat} {x : Value} (hx : xs[i]? = some x) : ∃ y, ys[i]? = some y ∧ VR m x y := by
  have hi : i < ys.size := by rw [← h.1]; exact (Array.getElem?_eq_some_iff.1 hx).1
  exact ⟨ys[i], by simp [hi], h.2 i x _ hx (by simp [hi])⟩
theorem VRs.extract {m : Nat → Option (Nat × Nat × Nat)} {xs ys : Array Value} (h : VRs m xs ys) (a b : Nat) : VRs m (xs.extract a b) (ys.extract a b) := by
  refine ⟨by simp [h.1], fun i x y hx hy => ?_⟩
  rw [Array.getElem?_extract] at hx hy
  split at hx
  · split at hy
    · exact h.2 _ x y hx hy
    · cases hy
  · cases hx
theorem VRs.list {m : Nat → Option (Nat × Nat × Nat)} {xs ys : Array Value} (h : VRs m xs ys) : xs.toList.length = ys.toList.length ∧ ∀ (i : Nat) (x y : Value), xs.toList[i]? = some x → ys.toList[i]? = some y → VR m x y :=
  ⟨by simpa using h.1, fun i x y hx hy => h.2 i x y (by simpa using hx) (by simpa using hy)⟩

/-- Rows of values, as lists. -/
inductive VL (m : Nat → Option (Nat × Nat × Nat)) : List Value → List Value → Prop
  | nil : VL m [] []
  | cons {x y xs ys} : VR m x y → VL m xs ys → VL m (x :: xs) (y :: ys)
theorem VL.of {m : Nat → Option (Nat × Nat × Nat)} : ∀ {xs ys : List Value}, xs.length = ys.length → (∀ (i : Nat) (x y : Value), xs[i]? = some x → ys[i]? = some y → VR m x y) → VL m xs ys
  | [], [], _, _ => .nil
  | x :: xs, y :: ys, h, hh => .cons (hh 0 x y rfl rfl) (VL.of (by simpa using h) fun i a b ha hb => hh (i + 1) a b (by simpa using ha) (by simpa using hb))
theorem VL.to {m : Nat → Option (Nat × Nat × Nat)} {xs ys : List Value} (h : VL m xs ys) : VRs m xs.toArray ys.toArray := by
  have key : xs.length = ys.length ∧ ∀ (i : Nat) (x y : Value), xs[i]? = some x → ys[i]? = some y → VR m x y := by
    induction h with
    | nil => exact ⟨rfl, fun i x y hx => by simp at hx⟩
    | cons h _ ih =>
      refine ⟨by simp [ih.1], fun i x y hx hy => ?_⟩
      cases i with
      | zero => simp at hx hy; subst hx; subst hy; exact h
      | succ n => exact ih.2 n x y (by simpa using hx) (by simpa using hy)
  exact ⟨by simpa using key.1, fun i x y hx hy => key.2 i x y (by simpa using hx) (by simpa using hy)⟩
theorem VRs.toVL {m : Nat → Option (Nat × Nat × Nat)} {xs ys : Array Value} (h : VRs m xs ys) : VL m xs.toList ys.toList := VL.of h.list.1 h.list.2
theorem VL.append {m : Nat → Option (Nat × Nat × Nat)} {a b c d : List Value} (h : VL m a b) (k : VL m c d) : VL m (a ++ c) (b ++ d) := by
  induction h with
  | nil => exact k
  | cons hx _ ih => exact .cons hx ih
theorem VL.length {m : Nat → Option (Nat × Nat × Nat)} {a b : List Value} (h : VL m a b) : a.length = b.length := by
  induction h with
  | nil => rfl
  | cons _ _ ih => simp [ih]
theorem VL.map_mono {m m' : Nat → Option (Nat × Nat × Nat)} (s : Sub m m') {a b : List Value} (h : VL m a b) : VL m' a b := by
  induction h with
  | nil => exact .nil
  | cons hx _ ih => exact .cons (hx.mono s) ih

/-- A part of a value's cells. -/
def aggT (P : Program) (t : TypeId) : Option Bool :=
  match P.underlying t with
  | some (.struct _) | some (.array _ _) => some true
  | some _ => some false
  | none => none
theorem aggT_ok {P : Program} {t : TypeId} {b : Bool} (h : aggT P t = some b) (w : World) : (isAgg t).run P w = .ok b w := by
  unfold aggT at h
  cases hu : P.underlying t with
  | none => simp [hu] at h
  | some d => cases d <;> simp [hu] at h <;> subst h <;> simp [isAgg, run_underlying hu]
def sizeT (P : Program) (t : TypeId) : Option Nat := (P.info? t).map (·.size)
theorem sizeT_ok {P : Program} {t : TypeId} {n : Nat} (h : sizeT P t = some n) (w : World) : (sizeOf t).run P w = .ok n w := by
  unfold sizeT at h
  cases hi : P.info? t with
  | none => simp [hi] at h
  | some i => simp [hi] at h; subst h; simp [sizeOf, typeInfo, hi]
def partA (P : Program) (t : TypeId) (cs : Array Value) (off : Nat) : Option Value :=
  match aggT P t, sizeT P t with
  | some true, some n => some (.agg (cs.extract off (off + n)))
  | some false, _ => cs[off]?
  | _, _ => none
theorem partA_ok {P : Program} {m : Nat → Option (Nat × Nat × Nat)} {t : TypeId} {cs cs' : Array Value} {off : Nat} {v : Value} (hv : VRs m cs cs') (h : partA P t cs off = some v) (w : World) :
    ∃ v', (part t cs' off).run P w = .ok v' w ∧ VR m v v' := by
  unfold partA at h
  split at h
  · rename_i n ha hs
    cases h
    exact ⟨_, by simp [part, aggT_ok ha, sizeT_ok hs], (let q := hv.extract off (off + n); VR.agg _ _ q.1 q.2)⟩
  · rename_i ha
    obtain ⟨y, hy, hr⟩ := hv.get h
    exact ⟨y, by simp [part, aggT_ok ha, hy], hr⟩
  · cases h

end Go.Proofs.Ytmdhmpfagekonaa.Ev
