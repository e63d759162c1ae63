/- A run of closed code: what becomes of the memory: a new block, a look, a store, an append. -/
import Derived.Test.YtmdhmpfagekonaaEV5
import Derived.Laws.CopyOwn
namespace Go.Proofs.Ytmdhmpfagekonaa.Ev
open Go.RowKit
set_option linter.unusedVariables false
set_option linter.unusedSimpArgs false

theorem VR.one {m : Names} {v v' : Value} (h : VR m v v') : v'.oneCell' = v.oneCell' := by cases h <;> first | rfl | assumption

/-- Cells from a list. -/
noncomputable def ofL : List Value → Nat → Tr Value → Tr Value
  | [], _, t => t
  | v :: vs, i, t => ofL vs (i + 1) (t.putS i v)
theorem ofL_fine : ∀ (vs : List Value) (i : Nat) (t : Tr Value), Tr.fine 9 t → Tr.fine 9 (ofL vs i t)
  | [], _, _, h => h
  | v :: vs, i, t, h => ofL_fine vs (i + 1) _ (Tr.putS_fine _ _ h)
theorem ofL_at : ∀ (vs : List Value) (i : Nat) (t : Tr Value), Tr.fine 9 t → ∀ j v, (ofL vs i t).at j = some v → (i ≤ j ∧ vs[j - i]? = some v) ∨ ((j < i ∨ i + vs.length ≤ j) ∧ t.at j = some v)
  | [], i, t, f, j, v, h => .inr ⟨by simp; omega, h⟩
  | u :: vs, i, t, f, j, v, h => by
    rcases ofL_at vs (i + 1) _ (Tr.putS_fine _ _ f) j v h with ⟨h1, h2⟩ | ⟨h1, h2⟩
    · refine .inl ⟨by omega, ?_⟩
      rw [show j - i = (j - (i + 1)) + 1 by omega]
      simpa using h2
    · rcases Tr.at_putS_some f h2 with ⟨e, rfl⟩ | ⟨e, h3⟩
      · subst e; exact .inl ⟨Nat.le_refl _, by simp⟩
      · exact .inr ⟨by simp at h1 ⊢; omega, h3⟩

noncomputable def oneA (v : Value) : Bool := v.oneCell'
noncomputable def newBlk (e : TypeId) (vs : List Value) : Blk := { elem := e, cells := ofL vs 0 .nil, n := vs.length, live := true, mp := false }

/-- The names with one more. -/
noncomputable def named (m : Names) (id C k R : Nat) : Names := fun b => if b = id then some (C, k, R) else m b
theorem named_sub {m : Names} {id C k R : Nat} (h : m id = none) : Sub m (named m id C k R) := fun b x e => by
  unfold named
  split
  · rename_i hb; subst hb; rw [h] at e; cases e
  · exact e
theorem named_id (m : Names) (id C k R : Nat) : named m id C k R id = some (C, k, R) := by simp [named]
theorem named_ne {m : Names} {id C k R b : Nat} (h : b ≠ id) : named m id C k R b = m b := by simp [named, h]

theorem Rel.fresh {w0 : World} {m : Names} {H : Tr Blk} {w : World} (r : Rel w0 m H w) {id : Nat} (h : H.at id = none) : m id = none := by
  cases e : m id with
  | none => rfl
  | some x => obtain ⟨_, B, hB⟩ := r.dom id x e; rw [h] at hB; cases hB

theorem Rel.drew {w0 : World} {m : Names} {H : Tr Blk} {w : World} (r : Rel w0 m H w) : Rel w0 m H w.drew :=
  ⟨r.bel.drew, r.fine, r.dom, r.blk, r.inj, r.oth.keep (.refl m) (fun _ _ h _ => h) (fun _ _ h _ => h)⟩

theorem Rel.old {w0 : World} {m : Names} {H : Tr Blk} {w : World} (r : Rel w0 m H w) {b : Nat} {B : Blk} (h : H.at b = some B) (hl : B.live = true) {C k R : Nat} (hm : m b = some (C, k, R)) : C < w.heap.size := by
  obtain ⟨C', k', R', c, h1, h2, h3, _⟩ := r.blk b B h hl
  rw [hm] at h1; cases h1
  by_cases e : C < w.heap.size
  · exact e
  · rw [Array.getElem?_eq_none (by omega)] at h3; cases h3

theorem Rel.oldo {w0 : World} {m : Names} {H : Tr Blk} {w : World} (r : Rel w0 m H w) {b : Nat} {B : Blk} (h : H.at b = some B) (ho : B.own = true) {C k R : Nat} (hm : m b = some (C, k, R)) : C < w.heap.size := by
  obtain ⟨C', R', o, h1, h2, h3, _⟩ := r.oth.own b B h ho
  rw [hm] at h1; cases h1
  exact (Array.getElem?_eq_some_iff.1 h3).1
/-- A new block. -/
theorem Rel.alloc {w0 : World} {m : Names} {H : Tr Blk} {w : World} (r : Rel w0 m H w) {id : Nat} (hf : H.at id = none) (e : TypeId) {vs : List Value} (c : Array Value) (hn : vs.length ≤ c.size)
    (hc : ∀ (i : Nat) (v : Value), vs[i]? = some v → ∃ v' : Value, c[i]? = some v' ∧ VR m v v') (hi : id < 2 ^ deep) (h1 : vs.all oneA = true) :
    Sub m (named m id w.heap.size 0 c.size) ∧ Rel w0 (named m id w.heap.size 0 c.size) (H.put id (newBlk e vs)) (w.alloc (.cells c e)) := by
  have hs := named_sub (C := w.heap.size) (k := 0) (R := c.size) (r.fresh hf)
  refine ⟨hs, r.bel.alloc r.bel.size _, Tr.put_fine _ _ r.fine, ?_, ?_, ?_, ?_⟩
  · intro b x hx
    by_cases hb : b = id
    · subst hb; exact ⟨hi, _, Tr.at_put _ _ _⟩
    · rw [named_ne hb] at hx
      obtain ⟨hlt, B, hB⟩ := r.dom b x hx
      exact ⟨hlt, B, by rw [Tr.at_put_ne r.fine (Ne.symm hb) hi hlt]; exact hB⟩
  · intro b B hB hl
    rcases Tr.at_put_some r.fine hB with ⟨rfl, rfl⟩ | ⟨hne, hB⟩
    · refine ⟨w.heap.size, 0, c.size, c, named_id _ _ _ _ _, r.bel.size, by show (w.heap.push _)[w.heap.size]? = _; simp [newBlk], ofL_fine _ _ _ (Tr.fine_nil _), ⟨by simpa [newBlk] using hn, by simp⟩, fun i v hv => ?_⟩
      rcases ofL_at _ _ _ (Tr.fine_nil _) i v hv with ⟨_, h2⟩ | ⟨_, h2⟩
      · obtain ⟨v', a, b⟩ := hc i v (by simpa using h2)
        refine ⟨v', by simpa using a, b.mono hs, ?_⟩
        rw [List.all_eq_true] at h1
        exact h1 v (List.mem_of_getElem? (by simpa using h2))
      · unfold Tr.at at h2; simp [Tr.get_nil] at h2
    · obtain ⟨C, k, R, c', a1, a2, a3, a4, a5, a6⟩ := r.blk b B hB hl
      have hlt := r.old hB hl a1
      refine ⟨C, k, R, c', hs _ _ a1, a2, by rw [Below.heap_alloc _ _ _ hlt]; exact a3, a4, a5, fun i v hv => ?_⟩
      obtain ⟨v', x, y, z⟩ := a6 i v hv
      exact ⟨v', x, y.mono hs, z⟩
  · intro b b' B B' C k R C' k' R' hB hB' hl hl' hne hm hm'
    rcases Tr.at_put_some r.fine hB with ⟨rfl, rfl⟩ | ⟨n1, hB⟩
    · rcases Tr.at_put_some r.fine hB' with ⟨e, _⟩ | ⟨n2, hB'⟩
      · exact absurd e hne
      · rw [named_id] at hm; cases hm
        rw [named_ne (Ne.symm n2)] at hm'
        have := r.old hB' hl' hm'
        omega
    · rw [named_ne (Ne.symm n1)] at hm
      have h3 := r.old hB hl hm
      rcases Tr.at_put_some r.fine hB' with ⟨rfl, _⟩ | ⟨n2, hB'⟩
      · rw [named_id] at hm'; cases hm'; omega
      · rw [named_ne (Ne.symm n2)] at hm'
        exact r.inj b b' B B' C k R C' k' R' hB hB' hl hl' hne hm hm'
  · refine r.oth.keep hs (fun b B hB ho => ?_) (fun C x hx _ => ?_)
    · rcases Tr.at_put_some r.fine hB with ⟨rfl, rfl⟩ | ⟨hne, hB⟩
      · cases ho
      · exact hB
    · rw [Below.heap_alloc _ _ _ (Array.getElem?_eq_some_iff.1 hx).1]; exact hx

/-- A look at cells that are known. -/
noncomputable def readL (t : Tr Value) : Nat → Nat → Option (List Value)
  | 0, _ => some []
  | n + 1, i => match t.at i, readL t n (i + 1) with
    | some v, some vs => some (v :: vs)
    | _, _ => none
theorem readL_ok {m : Names} {t : Tr Value} {c : Array Value} {k : Nat} (h : ∀ i v, t.at i = some v → ∃ v' : Value, c[k + i]? = some v' ∧ VR m v v' ∧ v.oneCell' = true) : ∀ {n i : Nat} {vs : List Value}, readL t n i = some vs →
    vs.all oneA = true ∧ ∃ vs' : List Value, vs'.length = n ∧ VL m vs vs' ∧ ∀ j v, vs'[j]? = some v → c[k + i + j]? = some v
  | 0, i, vs, e => by simp [readL] at e; subst e; exact ⟨rfl, [], rfl, .nil, fun j v hj => by simp at hj⟩
  | n + 1, i, vs, e => by
    simp only [readL] at e
    split at e
    · rename_i v us hv hus
      cases e
      obtain ⟨o1, vs', l1, l2, l3⟩ := readL_ok h hus
      obtain ⟨v', a, b, d⟩ := h i v hv
      refine ⟨by simp [o1, oneA, d], v' :: vs', by simp [l1], .cons b l2, fun j u hj => ?_⟩
      cases j with
      | zero => simp at hj; subst hj; exact a
      | succ j => simp at hj; have := l3 j u hj; rwa [show k + i + (j + 1) = k + (i + 1) + j by omega]
    · cases e

theorem cell_of {w : World} {C : Nat} {c : Array Value} {e : TypeId} (h : w.heap[C]? = some (.cells c e (0, 0))) (i : Nat) : w.cell? ⟨C, i, none⟩ = c[i]? := by simp [World.cell?, h]
theorem add_at (C k n : Nat) : (⟨C, k, none⟩ : Addr).add n = ⟨C, k + n, none⟩ := by
  unfold Addr.add
  split
  · rename_i h; subst h; rfl
  · rfl

theorem three_get (A : List Value) (vs : List Value) (p : Nat) (hp : p + vs.length ≤ A.length) (i : Nat) :
    (A.take p ++ vs ++ A.drop (p + vs.length))[i]? = if i < p then A[i]? else if i < p + vs.length then vs[i - p]? else A[i]? := by
  rw [List.append_assoc]
  by_cases h1 : i < p
  · rw [if_pos h1, List.getElem?_append_left (by simp; omega), List.getElem?_take_of_lt h1]
  · rw [if_neg h1, List.getElem?_append_right (by simp; omega)]
    have hl : (A.take p).length = p := by simp; omega
    rw [hl]
    by_cases h2 : i < p + vs.length
    · rw [if_pos h2, List.getElem?_append_left (by omega)]
    · rw [if_neg h2, List.getElem?_append_right (by omega), List.getElem?_drop]
      congr 1; omega

/-- A store into a block. -/
theorem Rel.store {w0 : World} {m : Names} {H : Tr Blk} {w : World} (r : Rel w0 m H w) {b : Nat} {B : Blk} (hB : H.at b = some B) (hl : B.live = true) {C k R : Nat} (hm : m b = some (C, k, R)) {c : Array Value}
    (hc : w.heap[C]? = some (.cells c B.elem (0, 0))) {o : Nat} {vs vs' : List Value} (hv : VL m vs vs') (hn : o + vs.length ≤ B.n) (h1 : vs.all oneA = true) :
    Rel w0 m (H.put b { elem := B.elem, cells := ofL vs o B.cells, n := B.n, live := true, mp := false }) (w.setRow C (c.toList.take (k + o) ++ vs' ++ c.toList.drop (k + o + vs'.length)).toArray) ∧ k + o + vs'.length ≤ c.size := by
  obtain ⟨C', k', R', c', a1, a2, a3, a4, a5, a6⟩ := r.blk b B hB hl
  rw [hm] at a1; cases a1
  rw [hc] at a3; cases a3
  have hlen := hv.length
  obtain ⟨a5, a5'⟩ := a5
  have hfit : k + o + vs'.length ≤ c.size := by omega
  have hbd := (r.dom b _ hm).1
  refine ⟨⟨?_, Tr.put_fine _ _ r.fine, ?_, ?_, ?_, ?_⟩, hfit⟩
  · exact below_setRow r.bel a2 _
  · intro b' x hx
    obtain ⟨hlt, B', hB'⟩ := r.dom b' x hx
    refine ⟨hlt, ?_⟩
    by_cases e : b = b'
    · subst e; exact ⟨_, Tr.at_put _ _ _⟩
    · exact ⟨B', by rw [Tr.at_put_ne r.fine e hbd hlt]; exact hB'⟩
  · intro b' B' hB' hl'
    rcases Tr.at_put_some r.fine hB' with ⟨rfl, rfl⟩ | ⟨hne, hB'⟩
    · refine ⟨C, k, R, _, hm, a2, setRow_heap w C c _ _ _ hc, ofL_fine _ _ _ a4, ⟨a5, by simp; omega⟩, fun i v hi => ?_⟩
      have key := three_get c.toList vs' (k + o) (by simpa using hfit) (k + i)
      rcases ofL_at _ _ _ a4 i v hi with ⟨g1, g2⟩ | ⟨g1, g2⟩
      · have hi2 : i - o < vs.length := by
          have := List.getElem?_eq_some_iff.1 g2
          exact this.1
        obtain ⟨v', q1, q2⟩ := hv.to.get (i := i - o) (x := v) (by simpa using g2)
        refine ⟨v', ?_, q2, ?_⟩
        · rw [List.getElem?_toArray, key, if_neg (by omega), if_pos (by omega), show k + i - (k + o) = i - o by omega]
          simpa using q1
        · rw [List.all_eq_true] at h1
          exact h1 v (List.mem_of_getElem? g2)
      · obtain ⟨v', q1, q2, q3⟩ := a6 i v g2
        refine ⟨v', ?_, q2, q3⟩
        rw [List.getElem?_toArray, key]
        rcases g1 with g1 | g1
        · rw [if_pos (by omega)]; simpa using q1
        · rw [if_neg (by omega), if_neg (by omega)]; simpa using q1
    · obtain ⟨C2, k2, R2, c2, b1, b2, b3, b4, b5, b6⟩ := r.blk b' B' hB' hl'
      have : C ≠ C2 := r.inj b b' B B' C k R C2 k2 R2 hB hB' hl hl' hne hm b1
      exact ⟨C2, k2, R2, c2, b1, b2, by rw [setRow_other _ _ _ _ (Ne.symm this)]; exact b3, b4, b5, b6⟩
  · intro x y B1 B2 C1 k1 R1 C2 k2 R2 h1 h2 l1 l2 hne m1 m2
    rcases Tr.at_put_some r.fine h1 with ⟨rfl, rfl⟩ | ⟨n1, h1⟩
    · rcases Tr.at_put_some r.fine h2 with ⟨e, _⟩ | ⟨n2, h2⟩
      · exact absurd e hne
      · exact r.inj _ _ B B2 C1 k1 R1 C2 k2 R2 hB h2 hl l2 hne m1 m2
    · rcases Tr.at_put_some r.fine h2 with ⟨rfl, rfl⟩ | ⟨n2, h2⟩
      · exact r.inj _ _ B1 B C1 k1 R1 C2 k2 R2 h1 hB l1 hl hne m1 m2
      · exact r.inj x y B1 B2 C1 k1 R1 C2 k2 R2 h1 h2 l1 l2 hne m1 m2
  · refine r.oth.keep (.refl m) (fun b' B' hB' ho => ?_) (fun C' x hx hn => ?_)
    · rcases Tr.at_put_some r.fine hB' with ⟨rfl, rfl⟩ | ⟨hne, hB'⟩
      · cases ho
      · exact hB'
    · have : C' ≠ C := by rintro rfl; rw [hc] at hx; cases hx; exact hn _ _ _ rfl
      rw [setRow_other _ _ _ _ this]; exact hx

/-- A block that is no longer used. -/
theorem Rel.kill {w0 : World} {m : Names} {H : Tr Blk} {w : World} (r : Rel w0 m H w) {b : Nat} {B : Blk} (hB : H.at b = some B) (hl : B.live = true) : Rel w0 m (H.put b { elem := B.elem, cells := .nil, n := 0, live := false, mp := false }) w := by
  obtain ⟨C, k, R, c, hm, _⟩ := r.blk b B hB hl
  have hbd := (r.dom b _ hm).1
  refine ⟨r.bel, Tr.put_fine _ _ r.fine, ?_, ?_, ?_, ?_⟩
  · intro b' x hx
    obtain ⟨hlt, B', hB'⟩ := r.dom b' x hx
    refine ⟨hlt, ?_⟩
    by_cases e : b = b'
    · subst e; exact ⟨_, Tr.at_put _ _ _⟩
    · exact ⟨B', by rw [Tr.at_put_ne r.fine e hbd hlt]; exact hB'⟩
  · intro b' B' hB' hl'
    rcases Tr.at_put_some r.fine hB' with ⟨rfl, rfl⟩ | ⟨hne, hB'⟩
    · simp at hl'
    · exact r.blk b' B' hB' hl'
  · intro x y B1 B2 C1 k1 R1 C2 k2 R2 h1 h2 l1 l2 hne m1 m2
    rcases Tr.at_put_some r.fine h1 with ⟨rfl, rfl⟩ | ⟨n1, h1⟩
    · simp at l1
    · rcases Tr.at_put_some r.fine h2 with ⟨rfl, rfl⟩ | ⟨n2, h2⟩
      · simp at l2
      · exact r.inj x y B1 B2 C1 k1 R1 C2 k2 R2 h1 h2 l1 l2 hne m1 m2
  · refine r.oth.keep (.refl m) (fun b' B' hB' ho => ?_) (fun _ _ hx _ => hx)
    rcases Tr.at_put_some r.fine hB' with ⟨rfl, rfl⟩ | ⟨hne, hB'⟩
    · cases ho
    · exact hB'

/-- A new name for a part of a block that is no longer used. -/
theorem Rel.rename {w0 : World} {m : Names} {H : Tr Blk} {w : World} (r : Rel w0 m H w) {b : Nat} {B : Blk} (hB : H.at b = some B) (hl : B.live = false) {C k R : Nat} (hm : m b = some (C, k, R)) {id : Nat} (hf : H.at id = none) (hi : id < 2 ^ deep)
    (hC : w0.heap.size ≤ C) (hother : ∀ b' B' C' k' R', H.at b' = some B' → B'.live = true → m b' = some (C', k', R') → C ≠ C') {c : Array Value} {e : TypeId} (hc : w.heap[C]? = some (.cells c e (0, 0))) (p R2 : Nat) {vs : List Value} (hp : vs.length ≤ R2) (hp2 : p + R2 ≤ c.size)
    (hv : ∀ (i : Nat) (v : Value), vs[i]? = some v → ∃ v' : Value, c[p + i]? = some v' ∧ VR m v v') (h1 : vs.all oneA = true) :
    Sub m (named m id C p R2) ∧ Rel w0 (named m id C p R2) (H.put id (newBlk e vs)) w := by
  have hs := named_sub (C := C) (k := p) (R := R2) (r.fresh hf)
  refine ⟨hs, r.bel, Tr.put_fine _ _ r.fine, ?_, ?_, ?_, ?_⟩
  · intro b x hx
    by_cases hb : b = id
    · subst hb; exact ⟨hi, _, Tr.at_put _ _ _⟩
    · rw [named_ne hb] at hx
      obtain ⟨hlt, B, hB⟩ := r.dom b x hx
      exact ⟨hlt, B, by rw [Tr.at_put_ne r.fine (Ne.symm hb) hi hlt]; exact hB⟩
  · intro b B hB hl
    rcases Tr.at_put_some r.fine hB with ⟨rfl, rfl⟩ | ⟨hne, hB⟩
    · refine ⟨C, p, R2, c, named_id _ _ _ _ _, hC, hc, ofL_fine _ _ _ (Tr.fine_nil _), ⟨by simpa [newBlk] using hp, hp2⟩, fun i v hv' => ?_⟩
      rcases ofL_at _ _ _ (Tr.fine_nil _) i v hv' with ⟨_, h2⟩ | ⟨_, h2⟩
      · obtain ⟨v', a, b⟩ := hv i v (by simpa using h2)
        refine ⟨v', a, b.mono hs, ?_⟩
        rw [List.all_eq_true] at h1
        exact h1 v (List.mem_of_getElem? (by simpa using h2))
      · unfold Tr.at at h2; simp [Tr.get_nil] at h2
    · obtain ⟨C', k', R', c', a1, a2, a3, a4, a5, a6⟩ := r.blk b B hB hl
      refine ⟨C', k', R', c', hs _ _ a1, a2, a3, a4, a5, fun i v hv => ?_⟩
      obtain ⟨v', x, y, z⟩ := a6 i v hv
      exact ⟨v', x, y.mono hs, z⟩
  · intro x y B1 B2 C1 k1 R1 C2 k2 R2 g1 g2 l1 l2 hne m1 m2
    rcases Tr.at_put_some r.fine g1 with ⟨rfl, rfl⟩ | ⟨n1, g1⟩
    · rcases Tr.at_put_some r.fine g2 with ⟨e, _⟩ | ⟨n2, g2⟩
      · exact absurd e hne
      · rw [named_id] at m1; cases m1
        rw [named_ne (Ne.symm n2)] at m2
        exact hother y B2 C2 k2 _ g2 l2 m2
    · rw [named_ne (Ne.symm n1)] at m1
      rcases Tr.at_put_some r.fine g2 with ⟨rfl, _⟩ | ⟨n2, g2⟩
      · rw [named_id] at m2; cases m2
        exact Ne.symm (hother x B1 C1 k1 _ g1 l1 m1)
      · rw [named_ne (Ne.symm n2)] at m2
        exact r.inj x y B1 B2 C1 k1 R1 C2 k2 R2 g1 g2 l1 l2 hne m1 m2
  · refine r.oth.keep hs (fun b B hB ho => ?_) (fun C x hx _ => hx)
    rcases Tr.at_put_some r.fine hB with ⟨rfl, rfl⟩ | ⟨hne, hB⟩
    · cases ho
    · exact hB

end Go.Proofs.Ytmdhmpfagekonaa.Ev
