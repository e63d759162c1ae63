/- A run of closed code: operations side by side: which may be taken first. -/
import Derived.Test.YtmdhmpfagekonaaEV10
namespace Go.Proofs.Ytmdhmpfagekonaa.Ev
open Go.RowKit
set_option linter.unusedVariables false
set_option linter.unusedSimpArgs false

/-! An operation hangs on its operands alone. -/
theorem evAll_congr {ev ev' : Operand → Option Value} : ∀ {xs : List Operand}, (∀ x ∈ xs, ev x = ev' x) → evAll ev xs = evAll ev' xs
  | [], _ => rfl
  | x :: xs, h => by simp only [evAll]; rw [h x (by simp), evAll_congr fun y hy => h y (by simp [hy])]
theorem evParts_congr {ev ev' : Operand → Option Value} : ∀ {xs : List (Nat × Operand)}, (∀ x ∈ xs.map (·.2), ev x = ev' x) → evParts ev xs = evParts ev' xs
  | [], _ => rfl
  | (i, x) :: xs, h => by simp only [evParts]; rw [h x (by simp), evParts_congr fun y hy => h y (by simp at hy ⊢; exact .inr hy)]
theorem bndA_congr {ev ev' : Operand → Option Value} {x : Option Operand} (h : ∀ y, x = some y → ev y = ev' y) : bndA ev x = bndA ev' x := by
  cases x with
  | none => rfl
  | some y => simp only [bndA]; rw [h y rfl]
theorem genVal_congr {P : Program} {ev ev' : Operand → Option Value} {o : Oper} (h : ∀ x ∈ o.op.operands, ev x = ev' x) : genVal P ev o = genVal P ev' o := by
  unfold genVal
  cases hs : isSelect o.op with
  | true => rfl
  | false =>
    have h1 : (o.op.operands.toList.all fun x => plainO (ev x)) = (o.op.operands.toList.all fun x => plainO (ev' x)) := by
      rw [Bool.eq_iff_iff]
      simp only [List.all_eq_true]
      constructor
      · intro k x hx; rw [← h x (by simpa using hx)]; exact k x hx
      · intro k x hx; rw [h x (by simpa using hx)]; exact k x hx
    have h2 : execOp (fun x => (ev x).getD undef) o = execOp (fun x => (ev' x).getD undef) o :=
      execOp_congr o (fun cs b e => by rw [e] at hs; simp [isSelect] at hs) fun x hx => by rw [h x hx]
    rw [h1, h2]
theorem pureVal_congr {P : Program} {ev ev' : Operand → Option Value} {o : Oper} (h : ∀ x ∈ o.op.operands, ev x = ev' x) : pureVal P ev o = pureVal P ev' o := by
  have hg := genVal_congr (P := P) h
  unfold pureVal
  split <;> first | (rename_i ho; rw [ho] at h; simp only [Op.operands] at h) | rfl
  · exact h _ (by simp)
  · exact h _ (by simp)
  · rename_i c a b; rw [h c (by simp), h a (by simp), h b (by simp)]
  · rename_i x; rw [h x (by simp)]
  · rename_i x i; rw [h x (by simp)]
  · rename_i t x f; rw [h x (by simp)]
  · rename_i t x f; rw [h x (by simp)]
  · rename_i t x y; rw [h x (by simp), h y (by simp)]
  · rename_i t x y; rw [h x (by simp), h y (by simp), hg]
  · rename_i t x; rw [h x (by simp)]
  · rename_i fn xs ys
    unfold makeFuncA
    rw [evAll_congr (xs := xs.toList) fun x hx => h x (by simp at hx; simp [hx]), evAll_congr (xs := ys.toList) fun x hx => h x (by simp at hx; simp [hx])]
  · rename_i t x lo hi mx
    have hc : cutA P ev t x lo hi mx = cutA P ev' t x lo hi mx := by
      unfold cutA
      rw [h x (by simp), bndA_congr (x := lo) fun y e => h y (by subst e; simp), bndA_congr (x := hi) fun y e => h y (by subst e; simp), bndA_congr (x := mx) fun y e => h y (by subst e; simp)]
    rw [hc, hg]
  · rename_i t parts
    unfold buildA
    rw [evParts_congr fun x hx => h x (by simpa using hx)]
  · rename_i op t x y u
    unfold binA
    rw [h x (by simp), h y (by simp), hg]
  · rename_i c
    unfold callA
    split
    · rename_i x t hc hx ht; rw [h x (by simp [Call.operands, hc, arr1 hx]), hg]
    · rename_i x t hc hx ht; rw [h x (by simp [Call.operands, hc, arr1 hx])]
    · exact hg
    · exact hg
    · rfl
  · exact hg
  · rename_i s d x; rw [h x (by simp), hg]
theorem mapOf_congr {P : Program} {ev ev' : Operand → Option Value} {o : Oper} {H : Tr Blk} {id : Nat} (h : ∀ x ∈ o.op.operands, ev x = ev' x) : mapOf P ev o H id = mapOf P ev' o H id := by
  have hp := pureVal_congr (P := P) h
  unfold mapOf
  rw [hp]
  split <;> first | (rename_i ho; rw [ho] at h; simp only [Op.operands] at h) | rfl
  · rename_i t m k ok; rw [h m (by simp), h k (by simp)]
  · rename_i t m k x; rw [h m (by simp), h k (by simp), h x (by simp)]
  · rename_i t m k x; rw [h m (by simp), h k (by simp), h x (by simp)]
  · rename_i c
    split
    · rename_i x t hc hx ht; rw [h x (by simp [Call.operands, hc, arr1 hx])]
    · rfl
theorem memStep_congr {P : Program} {ev ev' : Operand → Option Value} {o : Oper} {H : Tr Blk} {id : Nat} (h : ∀ x ∈ o.op.operands, ev x = ev' x) : memStep P ev o H id = memStep P ev' o H id := by
  unfold memStep
  rw [pureVal_congr h]
  split
  · rfl
  · split
    · rename_i t x ho
      rw [ho] at h
      unfold loadA; rw [h x (by simp [Op.operands])]
    · rfl
  · have hn : newA P ev o = newA P ev' o := by
      unfold newA
      split <;> first | (rename_i ho; rw [ho] at h; simp only [Op.operands] at h) | rfl
      · rename_i e x; rw [h x (by simp)]
      · rename_i t len parts; rw [evParts_congr fun x hx => h x (by simpa using hx)]
      · rename_i t l c; rw [h l (by simp), h c (by simp)]
    rw [hn]
  · have hmap := mapOf_congr (P := P) (H := H) (id := id) h
    split
    · rename_i t a x ho
      rw [ho] at h
      unfold storeA; rw [h a (by simp [Op.operands]), h x (by simp [Op.operands])]
    · rename_i c ho
      rw [ho] at h
      have h1 : appOf P ev c H id = appOf P ev' c H id := by
        unfold appOf
        split
        · rename_i s x t t' hc hx ht
          rw [h s (by simp [Op.operands, Call.operands, hc, arr2 hx]), h x (by simp [Op.operands, Call.operands, hc, arr2 hx])]
        · rfl
      have h2 : copyOf P ev c H = copyOf P ev' c H := by
        unfold copyOf
        split
        · rename_i d s t t' hc hx ht
          rw [h d (by simp [Op.operands, Call.operands, hc, arr2 hx]), h s (by simp [Op.operands, Call.operands, hc, arr2 hx])]
        · rfl
      rw [h1, h2, hmap]
    · exact hmap
theorem calleeA_congr {ev ev' : Operand → Option Value} {o : Oper} (h : ∀ x ∈ o.op.operands, ev x = ev' x) : calleeA ev o = calleeA ev' o := by
  unfold calleeA
  split
  · rename_i c ho
    rw [ho] at h
    split
    · rename_i f hc
      rw [h f (by simp [Op.operands, Call.operands, hc]), evAll_congr fun x hx => h x (by simp at hx; simp [Op.operands, Call.operands, hx])]
    · rfl
  · rfl
theorem opRes_congr {call : CallT} {P : Program} {ev ev' : Operand → Option Value} {o : Oper} {H : Tr Blk} {n id : Nat} (h : ∀ x ∈ o.op.operands, ev x = ev' x) : opRes call P ev o H n id = opRes call P ev' o H n id := by
  unfold opRes; rw [calleeA_congr h, memStep_congr h]

/-- All that an operation looks at is among the first slots. -/
noncomputable def lookOk (ops : Array Oper) (o : Oper) : Bool := (o.looksAt ops).all fun t => Nat.blt t 512
theorem evA_put {T : Tr Value} {d : Nat} {v : Value} {ops : Array Oper} {o : Oper} (f : Tr.fine 9 T) (hd : d < 512) (hn : d ∉ o.looksAt ops) (hl : lookOk ops o = true) : ∀ x ∈ o.op.operands, evA (T.putS d v) x = evA T x := by
  intro x hx
  cases x with
  | tmp t =>
    have hm : t ∈ o.looksAt ops := List.mem_append_left _ (List.mem_filterMap.2 ⟨.tmp t, by simpa using hx, rfl⟩)
    unfold lookOk at hl
    rw [List.all_eq_true] at hl
    have ht : t < 512 := by simpa [Nat.blt_eq] using hl t hm
    have hne : d ≠ t := fun e => hn (e ▸ hm)
    exact Tr.at_putS_ne f hne hd ht
  | const u => rfl
  | global g => rfl
  | func g => rfl
theorem wantedA_put {T : Tr Value} {d : Nat} {v : Value} {ops : Array Oper} {o : Oper} (f : Tr.fine 9 T) (hd : d < 512) (hn : d ∉ o.looksAt ops) (hl : lookOk ops o = true) : wantedA ops o (T.putS d v) = wantedA ops o T := by
  unfold wantedA
  cases hg : o.guard with
  | none => rfl
  | some jw =>
    obtain ⟨j, want⟩ := jw
    cases hj : (ops[j]?).bind (·.dst) with
    | none => simp only [hj]
    | some t =>
      simp only [hj]
      have hm : t ∈ o.looksAt ops := by simp [Oper.looksAt, hg, hj]
      unfold lookOk at hl
      rw [List.all_eq_true] at hl
      have ht : t < 512 := by simpa [Nat.blt_eq] using hl t hm
      have hne : d ≠ t := fun e => hn (e ▸ hm)
      rw [Tr.at_putS_ne f hne hd ht]
theorem resAll_put {call : CallT} {P : Program} {T : Tr Value} {H : Tr Blk} {n id d : Nat} {v : Value} {ops : Array Oper} {o : Oper} (f : Tr.fine 9 T) (hd : d < 512) (hn : d ∉ o.looksAt ops) (hl : lookOk ops o = true) :
    resAll call P ops o (T.putS d v) H n id = resAll call P ops o T H n id := by
  unfold resAll
  rw [wantedA_put f hd hn hl]
  split
  · rfl
  · rfl
  · exact opRes_congr (evA_put f hd hn hl)

end Go.Proofs.Ytmdhmpfagekonaa.Ev
