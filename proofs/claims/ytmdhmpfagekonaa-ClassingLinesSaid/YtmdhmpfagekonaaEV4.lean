/- A run of closed code: cuts of slices, aggregates, and all that touches no memory under one name. -/
import Derived.Test.YtmdhmpfagekonaaEV3
namespace Go.Proofs.Ytmdhmpfagekonaa.Ev
open Go.RowKit
set_option linter.unusedVariables false
set_option linter.unusedSimpArgs false

/-- A bound that need not be there. -/
def bndA (ev : Operand → Option Value) : Option Operand → Option (Option Nat)
  | none => some none
  | some x => match ev x with
    | some v => match natA v with
      | some n => some (some n)
      | none => none
    | none => none
def IsB (n : Option Nat) (v : Option Value) : Prop := match n, v with
  | none, none => True
  | some n, some v => ∃ k, v = .int k n
  | _, _ => False
theorem bndA_ok {m : Names} {ev : Operand → Option Value} {ρ : Operand → Value} (he : Evs m ev ρ) {x : Option Operand} {n : Option Nat} (h : bndA ev x = some n) : IsB n (x.map ρ) := by
  cases x with
  | none => simp [bndA] at h; subst h; trivial
  | some x =>
    simp only [bndA] at h
    cases hv : ev x with
    | none => simp [hv] at h
    | some v =>
      simp only [hv] at h
      cases hn : natA v with
      | none => simp [hn] at h
      | some k =>
        simp only [hn, Option.some.injEq] at h
        subst h
        exact natA_ok hn (he x v hv)

theorem bounds_ok {P : Program} (isS : Bool) (len cap : Nat) {lo hi mx : Option Nat} {lo' hi' mx' : Option Value} (hl : IsB lo lo') (hh : IsB hi hi') (hm : IsB mx mx') (l h m : Nat)
    (e1 : l = lo.getD 0) (e2 : h = hi.getD len) (e3 : m = mx.getD cap) (e4 : mx.isSome = true → hi.isSome = true) (b1 : m ≤ cap) (b2 : h ≤ m ∨ hi = none ∧ mx = none) (b3 : l ≤ h) (w : World) :
    (Instr.sliceBounds isS len cap lo' hi' mx').run P w = .ok (l, h, m) w := by
  subst e1; subst e2; subst e3
  cases lo <;> cases lo' <;> simp only [IsB] at hl <;> cases hi <;> cases hi' <;> simp only [IsB] at hh <;> cases mx <;> cases mx' <;> simp only [IsB] at hm <;>
    (try obtain ⟨k1, rfl⟩ := hl) <;> (try obtain ⟨k2, rfl⟩ := hh) <;> (try obtain ⟨k3, rfl⟩ := hm) <;> simp at e4 b1 b2 b3 ⊢ <;> simp [Instr.sliceBounds, Instr.sliceBound, asIntOf, *]

/-- The cut of a slice at b, o. -/
def sliceA (size len cc b o : Nat) (lo hi mx : Option Nat) : Option Value :=
  let l := lo.getD 0
  match mx with
  | none =>
    let h := hi.getD len
    bif Nat.beq (cc % 2) 1 then
      bif Nat.ble h (cc / 2) && Nat.ble l h then some (.slice (some ⟨b, bif Nat.beq (cc / 2) l then o else o + l * size, none⟩) (h - l) (2 * (cc / 2 - l) + 1)) else none
    else
      bif Nat.ble h len && Nat.ble l h && (Nat.beq l 0 || (Nat.blt l len && Nat.beq (cc / 2) size)) then some (.slice (some ⟨b, o + l * size, none⟩) (h - l) cc) else none
  | some mm => match hi with
    | none => none
    | some h =>
      bif Nat.ble mm (bif Nat.beq (cc % 2) 1 then cc / 2 else len) && Nat.ble h mm && Nat.ble l h then some (.slice (some ⟨b, bif Nat.beq mm l then o else o + l * size, none⟩) (h - l) (2 * (mm - l) + 1)) else none

theorem sliceA_ok {m : Names} {size len cap cc b o C k R : Nat} {lo hi mx : Option Nat} {v : Value} (hb : m b = some (C, k, R)) (hlc : len ≤ cap) (hcc : Room cc cap o R) (h : sliceA size len cc b o lo hi mx = some v) :
    ∃ l hh mm, l = lo.getD 0 ∧ hh = hi.getD len ∧ mm = mx.getD cap ∧ (mx.isSome = true → hi.isSome = true) ∧ mm ≤ cap ∧ (hh ≤ mm ∨ hi = none ∧ mx = none) ∧ l ≤ hh ∧
      VR m v (.slice (some (if mm = l then ⟨C, k + o, none⟩ else (⟨C, k + o, none⟩ : Addr).add (l * size))) (hh - l) (mm - l)) := by
  have odd : Nat.beq (cc % 2) 1 = true → cc / 2 = cap := by
    intro e
    have := Nat.eq_of_beq_eq_true e
    rcases hcc with h | ⟨s, h, _⟩ <;> omega
  cases mx with
  | none =>
    simp only [sliceA] at h
    cases hk : Nat.beq (cc % 2) 1 with
    | false =>
      rw [hk] at h
      simp only [cond_false] at h
      cases e : (Nat.ble (hi.getD len) len && Nat.ble (lo.getD 0) (hi.getD len) && (Nat.beq (lo.getD 0) 0 || (Nat.blt (lo.getD 0) len && Nat.beq (cc / 2) size))) with
      | false => rw [e] at h; cases h
      | true =>
        rw [e] at h
        simp only [cond_true, Option.some.injEq] at h
        subst h
        simp only [Bool.and_eq_true, Bool.or_eq_true, Nat.ble_eq, Nat.blt_eq, Nat.beq_eq] at e
        obtain ⟨⟨e1, e2⟩, e3⟩ := e
        refine ⟨_, _, _, rfl, rfl, rfl, by simp, by simp, .inl (by simp; omega), e2, ?_⟩
        generalize lo.getD 0 = l at *
        generalize hi.getD len = hh at *
        show VR m _ (Value.slice (some (if cap = l then _ else _)) _ (cap - l))
        have ea : (if cap = l then (⟨C, k + o, none⟩ : Addr) else (⟨C, k + o, none⟩ : Addr).add (l * size)) = ⟨C, k + (o + l * size), none⟩ := by
          split
          · rename_i h'
            rcases e3 with e3 | ⟨e3, _⟩
            · subst e3; simp only [Nat.zero_mul, Nat.add_zero]
            · omega
          · exact add_off _ _ _ _
        rw [ea]
        refine .slice b _ C k _ _ cc hb (by omega) ?_
        have hne := Nat.ne_of_beq_eq_false hk
        rcases hcc with hcc | ⟨s, hs, hR⟩
        · omega
        · refine .inr ⟨s, hs, ?_⟩
          rcases e3 with e3 | ⟨e3, e4⟩
          · subst e3; simpa using hR
          · have : s = size := by omega
            subst this
            have h5 : cap * s = l * s + (cap - l) * s := by rw [← Nat.add_mul]; congr 1; omega
            omega
    | true =>
      have ho := odd hk
      rw [hk] at h
      simp only [cond_true] at h
      rw [ho] at h
      cases e : (Nat.ble (hi.getD len) cap && Nat.ble (lo.getD 0) (hi.getD len)) with
      | false => rw [e] at h; cases h
      | true =>
        rw [e] at h
        simp only [cond_true, Option.some.injEq] at h
        subst h
        simp only [Bool.and_eq_true, Nat.ble_eq] at e
        obtain ⟨e1, e2⟩ := e
        refine ⟨_, _, _, rfl, rfl, rfl, by simp, by simp, .inl (by simpa using e1), e2, ?_⟩
        generalize lo.getD 0 = l at *
        generalize hi.getD len = hh at *
        show VR m _ (Value.slice (some (if cap = l then _ else _)) _ (cap - l))
        have ea : (if cap = l then (⟨C, k + o, none⟩ : Addr) else (⟨C, k + o, none⟩ : Addr).add (l * size)) = ⟨C, k + (bif Nat.beq cap l then o else o + l * size), none⟩ := by
          split
          · rename_i h'; rw [beq_of_eq h']; rfl
          · rename_i h'; rw [beq_of_ne h']; exact add_off _ _ _ _
        rw [ea]
        exact .slice b _ C k _ _ _ hb (by omega) (.inl rfl)
  | some mm =>
    cases hi with
    | none => simp [sliceA] at h
    | some hh =>
      simp only [sliceA] at h
      cases e : (Nat.ble mm (bif Nat.beq (cc % 2) 1 then cc / 2 else len) && Nat.ble hh mm && Nat.ble (lo.getD 0) hh) with
      | false => rw [e] at h; cases h
      | true =>
        rw [e] at h
        simp only [cond_true, Option.some.injEq] at h
        subst h
        simp only [Bool.and_eq_true, Nat.ble_eq] at e
        obtain ⟨⟨e1, e2⟩, e3⟩ := e
        have e1' : mm ≤ cap := by
          cases hk : Nat.beq (cc % 2) 1 with
          | true => rw [hk, odd hk] at e1; exact e1
          | false => rw [hk] at e1; exact Nat.le_trans e1 hlc
        refine ⟨_, _, _, rfl, rfl, rfl, by simp, by simpa using e1', .inl (by simpa using e2), by simpa using e3, ?_⟩
        generalize lo.getD 0 = l at *
        show VR m _ (Value.slice (some (if mm = l then _ else _)) (hh - l) (mm - l))
        have ea : (if mm = l then (⟨C, k + o, none⟩ : Addr) else (⟨C, k + o, none⟩ : Addr).add (l * size)) = ⟨C, k + (bif Nat.beq mm l then o else o + l * size), none⟩ := by
          split
          · rename_i h'; rw [beq_of_eq h']; rfl
          · rename_i h'; rw [beq_of_ne h']; exact add_off _ _ _ _
        rw [ea]
        exact .slice b _ C k _ _ _ hb (by omega) (.inl rfl)

def cutA (P : Program) (ev : Operand → Option Value) (t : TypeId) (x : Operand) (lo hi mx : Option Operand) : Option Value :=
  match ev x, P.underlying t, bndA ev lo, bndA ev hi, bndA ev mx with
  | some (.slice (some ⟨b, o, none⟩) len cc), some (.slice e), some l, some h, some m => match sizeT P e with
    | some s => sliceA s len cc b o l h m
    | none => none
  | some (.pointer (some ⟨b, o, none⟩)), some (.array n e), some l, some h, some m => match sizeT P e with
    | some s => sliceA s n (2 * n + 1) b o l h m
    | none => none
  | _, _, _, _, _ => none
theorem cutA_ok {P : Program} {m : Names} {ev : Operand → Option Value} {ρ : Operand → Value} {o : Oper} {t : TypeId} {x : Operand} {lo hi mx : Option Operand} {v : Value} (ho : o.op = .slice t x lo hi mx) (he : Evs m ev ρ)
    (h : cutA P ev t x lo hi mx = some v) : Gives P m (execOp ρ o) v := by
  intro w
  unfold cutA at h
  split at h
  · rename_i b off len cc e l hh mm hx hu hl hhi hmx
    cases hs : sizeT P e with
    | none => simp [hs] at h
    | some s =>
      simp only [hs] at h
      have hv := he x _ hx
      generalize hr : ρ x = r at hv
      cases hv with
      | slice b o C k len cap cc hm h1 h2 =>
        obtain ⟨l', h', m', e1, e2, e3, e4, b1, b2, b3, q⟩ := sliceA_ok hm h1 h2 h
        have hb := fun w => bounds_ok (P := P) true len cap (bndA_ok he hl) (bndA_ok he hhi) (bndA_ok he hmx) l' h' m' e1 e2 e3 e4 b1 b2 b3 w
        refine ⟨_, ?_, q⟩
        simp [execOp, ho, hr, Instr.sliceAt, Instr.slice, run_underlying hu, hb, sizeT_ok hs]
        split <;> rfl
  · rename_i b off n e l hh mm hx hu hl hhi hmx
    cases hs : sizeT P e with
    | none => simp [hs] at h
    | some s =>
      simp only [hs] at h
      have hv := he x _ hx
      generalize hr : ρ x = r at hv
      cases hv with
      | ptr b o C k hm =>
        obtain ⟨l', h', m', e1, e2, e3, e4, b1, b2, b3, q⟩ := sliceA_ok hm (Nat.le_refl n) (.inl rfl) h
        have hb := fun w => bounds_ok (P := P) false n n (bndA_ok he hl) (bndA_ok he hhi) (bndA_ok he hmx) l' h' m' e1 e2 e3 e4 b1 b2 b3 w
        refine ⟨_, ?_, q⟩
        simp [execOp, ho, hr, Instr.sliceAt, run_underlying hu, hb, sizeT_ok hs, Instr.sureAddr]
  · cases h

/-! Aggregates. -/
def evParts (ev : Operand → Option Value) : List (Nat × Operand) → Option (List (Nat × Value))
  | [] => some []
  | (i, x) :: xs => match ev x, evParts ev xs with
    | some v, some vs => some ((i, v) :: vs)
    | _, _ => none
inductive VP (m : Names) : List (Nat × Value) → List (Nat × Value) → Prop
  | nil : VP m [] []
  | cons {i x y xs ys} : VR m x y → VP m xs ys → VP m ((i, x) :: xs) ((i, y) :: ys)
theorem evParts_ok {m : Names} {ev : Operand → Option Value} {ρ : Operand → Value} (he : Evs m ev ρ) : ∀ {xs : List (Nat × Operand)} {vs : List (Nat × Value)}, evParts ev xs = some vs → VP m vs (xs.map fun (i, x) => (i, ρ x))
  | [], vs, h => by simp [evParts] at h; subst h; exact .nil
  | (i, x) :: xs, vs, h => by
    simp only [evParts] at h
    split at h
    · rename_i v us hv hus
      cases h
      exact .cons (he x v hv) (evParts_ok he hus)
    · cases h
theorem foldl_set {m : Names} (off : Nat) : ∀ (l l' : List Value) (s : Nat) (cs cs' : Array Value), VL m l l' → VRs m cs cs' →
    VRs m ((l.zipIdx s).foldl (fun cs (x : Value × Nat) => cs.setIfInBounds (off + x.2) x.1) cs) ((l'.zipIdx s).foldl (fun cs (x : Value × Nat) => cs.setIfInBounds (off + x.2) x.1) cs')
  | _, _, s, cs, cs', .nil, h => by simpa using h
  | _, _, s, cs, cs', .cons hv ht, h => by
    simp only [List.zipIdx_cons, List.foldl_cons]
    exact foldl_set off _ _ (s + 1) _ _ ht (h.set hv _)
theorem fill_ok {m : Names} {place : Nat → Option (Nat × Nat)} : ∀ {ps ps' : List (Nat × Value)} {cs cs' out : Array Value}, VP m ps ps' → VRs m cs cs' → Instr.fill place cs ps = some out →
    ∃ out', Instr.fill place cs' ps' = some out' ∧ VRs m out out'
  | _, _, cs, cs', out, .nil, hc, h => by simp [Instr.fill] at h ⊢; subst h; exact hc
  | _, _, cs, cs', out, .cons (i := i) (x := x) (y := y) hv ht, hc, h => by
    simp only [Instr.fill] at h ⊢
    cases hp : place i with
    | none => simp [hp] at h
    | some q =>
      obtain ⟨off, size⟩ := q
      simp only [hp] at h ⊢
      have hs := hv.cells.1
      rw [← hs, ← hc.1]
      split at h
      · cases h
      · rename_i hn
        rw [if_neg hn]
        refine fill_ok ht ?_ h
        have key := foldl_set (m := m) off x.cells.toList y.cells.toList 0 cs cs' hv.cells.toVL hc
        rw [← Array.foldl_toList, ← Array.foldl_toList, Array.toList_zipIdx, Array.toList_zipIdx]
        exact key

def placesA (P : Program) : List Field → Option (List (Nat × Nat))
  | [] => some []
  | f :: fs => match sizeT P f.type, placesA P fs with
    | some n, some l => some ((f.offset, n) :: l)
    | _, _ => none
theorem placesA_ok {P : Program} : ∀ {fs : List Field} {l : List (Nat × Nat)}, placesA P fs = some l → ∀ w, (fs.mapM fun f => (do pure (f.offset, ← sizeOf f.type) : Sem (Nat × Nat))).run P w = .ok l w
  | [], l, h, w => by simp [placesA] at h; subst h; simp
  | f :: fs, l, h, w => by
    simp only [placesA] at h
    split at h
    · rename_i n q hn hq
      cases h
      have ih := placesA_ok hq
      simp at ih
      simp [List.mapM_cons, sizeT_ok hn, ih]
    · cases h

def zeroT (P : Program) (t : TypeId) : Option (Array Value) :=
  match P.info? t with
  | some i => match i.zero with
    | some z => bif z.cells.toList.all plain1 then some z.cells else none
    | none => none
  | none => none
theorem zeroT_ok {P : Program} {t : TypeId} {cs : Array Value} (h : zeroT P t = some cs) : cs.toList.all plain1 = true ∧ ∃ z, z.cells = cs ∧ ∀ w, (zeroValue t).run P w = .ok z w := by
  unfold zeroT at h
  cases hi : P.info? t with
  | none => simp [hi] at h
  | some i =>
    simp only [hi] at h
    cases hz : i.zero with
    | none => simp [hz] at h
    | some z =>
      simp only [hz] at h
      cases ha : z.cells.toList.all plain1 with
      | false => simp [ha] at h
      | true =>
        simp only [ha, cond_true, Option.some.injEq] at h
        subst h
        exact ⟨ha, z, rfl, fun w => by simp [zeroValue, typeInfo, hi, hz]⟩

def buildA (P : Program) (ev : Operand → Option Value) (t : TypeId) (parts : Array (Nat × Operand)) : Option Value :=
  match zeroT P t, evParts ev parts.toList, P.underlying t with
  | some zero, some ps, some (.struct fs) => match placesA P fs.toList with
    | some l => match Instr.fill (l.toArray[·]?) zero ps with
      | some cs => some (.agg cs)
      | none => none
    | none => none
  | some zero, some ps, some (.array _ e) => match sizeT P e with
    | some s => match Instr.fill (fun i => some (i * s, s)) zero ps with
      | some cs => some (.agg cs)
      | none => none
    | none => none
  | _, _, _ => none
theorem parts_list {ρ : Operand → Value} (parts : Array (Nat × Operand)) : (parts.map fun (i, x) => (i, ρ x)).toList = parts.toList.map fun (i, x) => (i, ρ x) := by rw [Array.toList_map]
theorem buildA_ok {P : Program} {m : Names} {ev : Operand → Option Value} {ρ : Operand → Value} {o : Oper} {t : TypeId} {parts : Array (Nat × Operand)} {v : Value} (ho : o.op = .build t parts) (he : Evs m ev ρ)
    (h : buildA P ev t parts = some v) : Gives P m (execOp ρ o) v := by
  intro w
  unfold buildA at h
  split at h
  · rename_i zero ps fs hz hps hu
    obtain ⟨hp, z, hzc, hzr⟩ := zeroT_ok hz
    cases hl : placesA P fs.toList with
    | none => simp [hl] at h
    | some l =>
      simp only [hl] at h
      split at h
      · rename_i cs hf
        cases h
        obtain ⟨out', hf', hv⟩ := fill_ok (evParts_ok he hps) (VRs.refl_of hp) hf
        refine ⟨.agg out', ?_, .agg _ _ hv.1 hv.2⟩
        have hm : ∀ w, (fs.mapM fun f => (do pure (f.offset, ← sizeOf f.type) : Sem (Nat × Nat))).run P w = .ok l.toArray w := by
          intro w
          rw [Array.mapM_eq_mapM_toList]
          have := placesA_ok hl w
          simp only [Sem.run_map, this, Result.andThen_ok]
        simp only [execOp, ho, Instr.build, Sem.run_bind, hzr, Result.andThen_ok, run_underlying hu, hm, hzc, parts_list, hf']
        rfl
      · cases h
  · rename_i zero ps n e hz hps hu
    obtain ⟨hp, z, hzc, hzr⟩ := zeroT_ok hz
    cases hs : sizeT P e with
    | none => simp [hs] at h
    | some s =>
      simp only [hs] at h
      split at h
      · rename_i cs hf
        cases h
        obtain ⟨out', hf', hv⟩ := fill_ok (evParts_ok he hps) (VRs.refl_of hp) hf
        refine ⟨.agg out', ?_, .agg _ _ hv.1 hv.2⟩
        simp only [execOp, ho, Instr.build, Sem.run_bind, hzr, Result.andThen_ok, run_underlying hu, sizeT_ok hs, hzc, parts_list, hf']
        rfl
      · cases h
  · cases h

end Go.Proofs.Ytmdhmpfagekonaa.Ev
