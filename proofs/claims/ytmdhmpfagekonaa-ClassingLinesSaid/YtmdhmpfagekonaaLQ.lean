/- Classing's lines, plain: the least costs of k lines; what is easier. -/
import Derived.Test.YtmdhmpfagekonaaLP
/- Classing's lines, plain: the least costs of k lines, the best number of lines, the cuts. -/
namespace Go.Proofs.Ytmdhmpfagekonaa
open Go.RowKit Go.Proofs.Ytmdhmpfagekonaa.Ct
set_option linter.unusedVariables false
set_option linter.unusedSimpArgs false

namespace Ce
/-- The least cost of the fleeces from i on in exactly k lines, or -1. -/
def rowK (C : Nat → Nat → Int) (n : Nat) : Nat → Nat → Int
  | 0, i => if i = n then 0 else -1
  | k + 1, i => lfm (C i) (rowK C n k) i (n - i)
theorem rowK_bd {C : Nat → Nat → Int} {n : Nat} {M : Int} (m0 : 0 ≤ M) (hC : ∀ i j, i < j → j ≤ n → -1 ≤ C i j ∧ C i j ≤ M) : ∀ k i, -1 ≤ rowK C n k i ∧ rowK C n k i ≤ M * k
  | 0, i => by unfold rowK; split <;> simp
  | k + 1, i => by
    have ih := rowK_bd m0 hC k
    have e : M * ((k + 1 : Nat) : Int) = M + M * k := by rw [Int.natCast_add, Int.mul_add]; simp; omega
    have z : 0 ≤ M * (k : Int) := Int.mul_nonneg m0 (by omega)
    rw [e]
    exact lfm_bd i m0 z (n - i) (fun a h1 h2 => hC i a h1 (by omega)) (fun a _ _ => ih a)
/-- The best number among the first k: the smallest of those that cost least. -/
def bst (f : Nat → Int) : Nat → Nat
  | 0 => 0
  | k + 1 => if lss (f (k + 1)) (f (bst f k)) then k + 1 else bst f k
theorem bst_le (f : Nat → Int) : ∀ k, bst f k ≤ k
  | 0 => Nat.le_refl _
  | k + 1 => by unfold bst; split; exact Nat.le_refl _; have := bst_le f k; omega
/-- The least is attained, where there is one. -/
theorem lfm_hit {c r : Nat → Int} {i : Nat} : ∀ {m}, lfm c r i m ≠ -1 → ∃ j, i < j ∧ j ≤ i + m ∧ both (c j) (r j) = lfm c r i m
  | 0, h => absurd rfl h
  | m + 1, h => by
    unfold lfm at h ⊢
    split
    · exact ⟨i + m + 1, by omega, by omega, rfl⟩
    · next g =>
      rw [if_neg g] at h
      obtain ⟨j, a, b, e⟩ := lfm_hit (m := m) h
      exact ⟨j, a, by omega, e⟩
/-- The first position from j on at which p holds, of so many. -/
def fndF (p : Nat → Bool) : Nat → Nat → Nat
  | 0, j => j
  | f + 1, j => if p j then j else fndF p f (j + 1)
theorem fndF_hit {p : Nat → Bool} : ∀ {f j k}, j ≤ k → k < j + f → p k = true → j ≤ fndF p f j ∧ fndF p f j ≤ k ∧ p (fndF p f j) = true
  | 0, j, k, a, b, _ => by omega
  | f + 1, j, k, a, b, e => by
    unfold fndF
    split
    · next g => exact ⟨Nat.le_refl _, a, g⟩
    · next g =>
      have : j ≠ k := fun h => g (by rw [h]; exact e)
      have := fndF_hit (p := p) (f := f) (j := j + 1) (k := k) (by omega) (by omega) e
      exact ⟨by omega, this.2⟩
theorem fndF_min {p : Nat → Bool} : ∀ {f j k}, j ≤ k → k < fndF p f j → p k = false
  | 0, j, k, a, b => by unfold fndF at b; omega
  | f + 1, j, k, a, b => by
    unfold fndF at b
    split at b
    · omega
    · next g =>
      by_cases e : k = j
      · rw [e]; simpa using g
      · exact fndF_min (f := f) (j := j + 1) (by omega) b
theorem fndF_step (p : Nat → Bool) {f j : Nat} (h : 0 < f) : fndF p f j = if p j then j else fndF p (f - 1) (j + 1) := by
  obtain ⟨g, rfl⟩ : ∃ g, f = g + 1 := ⟨f - 1, by omega⟩
  rfl
/-- Where the line that begins at i ends, if k more come behind it. -/
def nxt (C : Nat → Nat → Int) (n k i : Nat) : Nat := fndF (fun j => decide (both (C i j) (rowK C n k j) = rowK C n (k + 1) i)) n (i + 1)
theorem nxt_ok {C : Nat → Nat → Int} {n k i : Nat} (h : rowK C n (k + 1) i ≠ -1) : i < nxt C n k i ∧ nxt C n k i ≤ n ∧ both (C i (nxt C n k i)) (rowK C n k (nxt C n k i)) = rowK C n (k + 1) i := by
  obtain ⟨j, a, b, e⟩ := lfm_hit (c := C i) (r := rowK C n k) (i := i) (m := n - i) h
  have jn : j ≤ n := by
    by_cases q : i ≤ n
    · omega
    · exfalso; apply h
      show lfm (C i) (rowK C n k) i (n - i) = -1
      rw [show n - i = 0 by omega]; rfl
  have := fndF_hit (p := fun j => decide (both (C i j) (rowK C n k j) = rowK C n (k + 1) i)) (f := n) (j := i + 1) (k := j) (by omega) (by omega) (decide_eq_true e)
  exact ⟨by unfold nxt; omega, by unfold nxt; omega, of_decide_eq_true this.2.2⟩
theorem nxt_min {C : Nat → Nat → Int} {n k i j : Nat} (h1 : i < j) (h2 : j < nxt C n k i) : both (C i j) (rowK C n k j) ≠ rowK C n (k + 1) i :=
  of_decide_eq_false (fndF_min (p := fun j => decide (both (C i j) (rowK C n k j) = rowK C n (k + 1) i)) (f := n) (j := i + 1) (k := j) (by omega) h2)
theorem both_ne {a b : Int} (h : both a b ≠ -1) : a ≠ -1 ∧ b ≠ -1 := by
  unfold both at h
  split at h
  · exact absurd rfl h
  · next g => exact ⟨fun e => g (.inl e), fun e => g (.inr e)⟩
/-- Where the lines of a plan of m lines begin and end. -/
def pos (C : Nat → Nat → Int) (n m : Nat) : Nat → Nat
  | 0 => 0
  | t + 1 => nxt C n (m - 1 - t) (pos C n m t)
theorem pos_ok {C : Nat → Nat → Int} {n m : Nat} (h : rowK C n m 0 ≠ -1) : ∀ {t}, t ≤ m → rowK C n (m - t) (pos C n m t) ≠ -1 ∧ pos C n m t ≤ n
  | 0, _ => ⟨h, Nat.zero_le _⟩
  | t + 1, ht => by
    have ih := pos_ok h (t := t) (by omega)
    have e : m - t = (m - 1 - t) + 1 := by omega
    rw [e] at ih
    obtain ⟨a, b, c⟩ := nxt_ok ih.1
    have d := both_ne (show both (C (pos C n m t) (nxt C n (m - 1 - t) (pos C n m t))) (rowK C n (m - 1 - t) (nxt C n (m - 1 - t) (pos C n m t))) ≠ -1 from by rw [c]; exact ih.1)
    refine ⟨?_, b⟩
    rw [show m - (t + 1) = m - 1 - t by omega]
    exact d.2
/-- The lines follow each other, each is a line, and the last one ends with the fleeces. -/
theorem pos_line {C : Nat → Nat → Int} {n m : Nat} (h : rowK C n m 0 ≠ -1) {t : Nat} (ht : t < m) : pos C n m t < pos C n m (t + 1) ∧ pos C n m (t + 1) ≤ n ∧ C (pos C n m t) (pos C n m (t + 1)) ≠ -1 := by
  have ih := pos_ok h (t := t) (by omega)
  have e : m - t = (m - 1 - t) + 1 := by omega
  rw [e] at ih
  obtain ⟨a, b, c⟩ := nxt_ok ih.1
  have d := both_ne (show both (C (pos C n m t) (nxt C n (m - 1 - t) (pos C n m t))) (rowK C n (m - 1 - t) (nxt C n (m - 1 - t) (pos C n m t))) ≠ -1 from by rw [c]; exact ih.1)
  exact ⟨a, b, d.1⟩
theorem pos_end {C : Nat → Nat → Int} {n m : Nat} (h : rowK C n m 0 ≠ -1) : pos C n m m = n := by
  have := (pos_ok h (Nat.le_refl m)).1
  rw [Nat.sub_self] at this
  unfold rowK at this
  split at this
  · assumption
  · exact absurd rfl this
open Classical in
/-- What Lines answers besides the plan. -/
noncomputable def liV (K : Nat) (ls le sp : Int) (F : Nat → Fl) (n : Nat) : Int × Int :=
  if flE ls le sp F n ≠ 0 then (0, flE ls le sp F n) else if n = 0 then (0, 0) else if bst (fun k => rowK (cMat (inO F n) le sp) n k 0) K = 0 then (0, 13) else (rowK (cMat (inO F n) le sp) n (bst (fun k => rowK (cMat (inO F n) le sp) n k 0) K) 0, 0)
section
variable {K : Nat} {ls le sp : Int} {F : Nat → Fl} {n : Nat}
theorem liV_1 (h : flE ls le sp F n ≠ 0) : liV K ls le sp F n = (0, flE ls le sp F n) := if_pos h
theorem liV_2 (h : flE ls le sp F n = 0) (h2 : n = 0) : liV K ls le sp F n = (0, 0) := by unfold liV; rw [if_neg (fun g => g h), if_pos h2]
theorem liV_3 (h : flE ls le sp F n = 0) (h2 : n ≠ 0) (h3 : bst (fun k => rowK (cMat (inO F n) le sp) n k 0) K = 0) : liV K ls le sp F n = (0, 13) := by unfold liV; rw [if_neg (fun g => g h), if_neg h2, if_pos h3]
theorem liV_4 (h : flE ls le sp F n = 0) (h2 : n ≠ 0) (h3 : bst (fun k => rowK (cMat (inO F n) le sp) n k 0) K ≠ 0) : liV K ls le sp F n = (rowK (cMat (inO F n) le sp) n (bst (fun k => rowK (cMat (inO F n) le sp) n k 0) K) 0, 0) := by unfold liV; rw [if_neg (fun g => g h), if_neg h2, if_neg h3]
end
/-- The best is a number that there is: its cost is none only at 0. -/
theorem bst_hit {f : Nat → Int} : ∀ {k}, bst f k ≠ 0 → f (bst f k) ≠ -1
  | 0, h => absurd rfl h
  | k + 1, h => by
    unfold bst at h ⊢
    split
    · next g => exact g.1
    · next g =>
      rw [if_neg g] at h
      exact bst_hit h
end Ce
end Go.Proofs.Ytmdhmpfagekonaa

/- Classing's lines, plain: what is easier costs no more. -/
namespace Go.Proofs.Ytmdhmpfagekonaa
open Go.RowKit Go.Proofs.Ytmdhmpfagekonaa.Ct
set_option linter.unusedVariables false
set_option linter.unusedSimpArgs false

namespace Ce
/-- a is to be had where b is, and for no more. -/
def esr (a b : Int) : Prop := b = -1 ∨ (a ≠ -1 ∧ a ≤ b)
theorem lfm_le {c r : Nat → Int} {i : Nat} : ∀ {m j}, i < j → j ≤ i + m → both (c j) (r j) ≠ -1 → lfm c r i m ≠ -1 ∧ lfm c r i m ≤ both (c j) (r j)
  | 0, j, a, b, _ => by omega
  | m + 1, j, a, b, h => by
    unfold lfm
    by_cases e : j = i + m + 1
    · subst e
      split
      · exact ⟨h, Int.le_refl _⟩
      · next g =>
        unfold lss at g
        constructor
        · intro q; exact g ⟨h, .inl q⟩
        · apply Classical.byContradiction; intro q; exact g ⟨h, .inr (by omega)⟩
    · have ih := lfm_le (m := m) (j := j) a (by omega) h
      split
      · next g =>
        unfold lss at g
        refine ⟨g.1, ?_⟩
        rcases g.2 with q | q
        · exact absurd q ih.1
        · omega
      · exact ih
theorem both_esr {a b c d : Int} (h1 : esr a b) (h2 : esr c d) (ha : -1 ≤ a) (hc : -1 ≤ c) : esr (both a c) (both b d) := by
  unfold esr at *
  unfold both
  by_cases e : b = -1 ∨ d = -1
  · rw [if_pos e]; exact .inl rfl
  · rw [if_neg e]
    have b1 : b ≠ -1 := fun h => e (.inl h)
    have d1 : d ≠ -1 := fun h => e (.inr h)
    rcases h1 with h1 | h1
    · exact absurd h1 b1
    · rcases h2 with h2 | h2
      · exact absurd h2 d1
      · rw [if_neg (fun h => h.elim h1.1 h2.1)]
        exact .inr ⟨by omega, by omega⟩
theorem lfm_esr {c r c' r' : Nat → Int} {i m : Nat} (hc : ∀ j, i < j → j ≤ i + m → esr (c' j) (c j) ∧ -1 ≤ c' j) (hr : ∀ j, i < j → j ≤ i + m → esr (r' j) (r j) ∧ -1 ≤ r' j) : esr (lfm c' r' i m) (lfm c r i m) := by
  by_cases e : lfm c r i m = -1
  · exact .inl e
  · obtain ⟨j, a, b, h⟩ := lfm_hit e
    have q := both_esr (hc j a b).1 (hr j a b).1 (hc j a b).2 (hr j a b).2
    rw [h] at q
    rcases q with q | q
    · exact absurd q e
    · have := lfm_le (c := c') (r := r') a b q.1
      exact .inr ⟨this.1, by omega⟩
theorem rowK_esr {C C' : Nat → Nat → Int} {n : Nat} {M : Int} (m0 : 0 ≤ M) (hC : ∀ i j, i < j → j ≤ n → esr (C' i j) (C i j) ∧ -1 ≤ C' i j ∧ C' i j ≤ M) : ∀ k i, esr (rowK C' n k i) (rowK C n k i)
  | 0, i => by
    unfold rowK
    split
    · exact .inr ⟨by omega, by omega⟩
    · exact .inl rfl
  | k + 1, i => lfm_esr (fun j a b => ⟨(hC i j a (by omega)).1, (hC i j a (by omega)).2.1⟩) (fun j _ _ => ⟨rowK_esr m0 hC k j, (rowK_bd m0 (fun i j a b => (hC i j a b).2) k j).1⟩)
theorem bst_all {f : Nat → Int} : ∀ {K k}, k ≤ K → f k ≠ -1 → f (bst f K) ≠ -1 ∧ f (bst f K) ≤ f k
  | 0, k, h, e => by
    obtain rfl : k = 0 := by omega
    exact ⟨e, Int.le_refl _⟩
  | K + 1, k, h, e => by
    unfold bst
    by_cases q : k = K + 1
    · subst q
      split
      · exact ⟨e, Int.le_refl _⟩
      · next g =>
        unfold lss at g
        constructor
        · intro z; exact g ⟨e, .inl z⟩
        · apply Classical.byContradiction; intro z; exact g ⟨e, .inr (by omega)⟩
    · have ih := bst_all (f := f) (K := K) (k := k) (by omega) e
      split
      · next g =>
        unfold lss at g
        refine ⟨g.1, ?_⟩
        rcases g.2 with z | z
        · exact absurd z ih.1
        · omega
      · exact ih
theorem cMat_esr {A : Nat → Fl} {le le' sp sp' : Int} (hl : le' ≤ le) (hs : sp ≤ sp') {i j : Nat} (ij : i < j) : esr (cMat A le' sp' i j) (cMat A le sp i j) := by
  unfold cMat lnc
  rw [if_pos ij, if_pos ij]
  by_cases h : isLine A le sp i j
  · have h' : isLine A le' sp' i j := ⟨h.1, h.2.1, by have := h.2.2.1; omega, by have := h.2.2.2; omega⟩
    rw [if_pos h, if_pos h']
    by_cases z : offs A (cen A i j) i j = -1
    · exact .inl z
    · exact .inr ⟨z, Int.le_refl _⟩
  · rw [if_neg h]; exact .inl rfl
/-- More lines, less mass, a wider spread: no dearer, and to be had where it was. -/
theorem liV_ease {F : Nat → Fl} {n K K' : Nat} {ls le sp ls' le' sp' : Int} (hK : K ≤ K') (hl : le' ≤ le) (hs : sp ≤ sp') (ln : n ≤ 140) (h : flE ls le sp F n = 0) (h' : flE ls' le' sp' F n = 0) (ok : (liV K ls le sp F n).2 = 0) :
    (liV K' ls' le' sp' F n).2 = 0 ∧ (liV K' ls' le' sp' F n).1 ≤ (liV K ls le sp F n).1 := by
  obtain ⟨-, -, fok⟩ := flE_ok h
  by_cases n0 : n = 0
  · rw [liV_2 h n0, liV_2 h' n0]; exact ⟨rfl, Int.le_refl _⟩
  · by_cases b : bst (fun k => rowK (cMat (inO F n) le sp) n k 0) K = 0
    · rw [liV_3 h n0 b] at ok; exact absurd ok (by decide)
    · have hit := bst_hit (f := fun k => rowK (cMat (inO F n) le sp) n k 0) b
      have bl := bst_le (fun k => rowK (cMat (inO F n) le sp) n k 0) K
      have es := rowK_esr (C := cMat (inO F n) le sp) (C' := cMat (inO F n) le' sp') (n := n) (M := 1503238553600000) (by omega) (fun i j ij jn => ⟨cMat_esr hl hs ij, cMat_bd (inO_ok fok) ln jn⟩) (bst (fun k => rowK (cMat (inO F n) le sp) n k 0) K) 0
      rcases es with es | es
      · exact absurd es hit
      · have al := bst_all (f := fun k => rowK (cMat (inO F n) le' sp') n k 0) (K := K') (k := bst (fun k => rowK (cMat (inO F n) le sp) n k 0) K) (by omega) es.1
        have b' : bst (fun k => rowK (cMat (inO F n) le' sp') n k 0) K' ≠ 0 := fun q => by
          have := al.1
          rw [q] at this
          apply this
          show (if 0 = n then 0 else -1) = (-1 : Int)
          rw [if_neg (by omega)]
        rw [liV_4 h n0 b, liV_4 h' n0 b']
        exact ⟨rfl, by have := al.2; have := es.2; dsimp only at *; omega⟩
end Ce
end Go.Proofs.Ytmdhmpfagekonaa
