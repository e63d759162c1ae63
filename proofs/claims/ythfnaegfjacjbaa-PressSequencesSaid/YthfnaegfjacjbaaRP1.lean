/- Press: insertion by Johnson's rule, plain: it is the one order by the rule. -/
import Derived.Test.YthfnaegfjacjbaaRP0
import Derived.Test.YthfnaegfjacjbaaPC9
import Derived.Test.YthfnaegfjacjbaaPC3
namespace Go.Proofs.Ythfnaegfjacjbaa
open Go.RowKit Go.Proofs.Ythfnaegfjacjbaa.Prs Go.Proofs.Ythfnaegfjacjbaa.Stb
set_option linter.unusedVariables false
set_option linter.unusedSimpArgs false

theorem rj_irr {D : List (Int × Int)} {x : Int} (h : RJ D x x) : False := by
  obtain ⟨g, v, k⟩ := rj_key D
  rw [k] at h; omega
theorem rj_tr {D : List (Int × Int)} {x y z : Int} (h : RJ D x y) (h' : RJ D y z) : RJ D x z := by
  obtain ⟨g, v, k⟩ := rj_key D
  rw [k] at h h' ⊢; omega
theorem rj_tot3 {D : List (Int × Int)} {x y : Int} (h : x ≠ y) : RJ D x y ∨ RJ D y x := by
  obtain ⟨g, v, k⟩ := rj_key D
  rw [k, k]; omega
/-- Two orders by the rule are one. -/
theorem ord_uniq {D : List (Int × Int)} {n : Nat} {O U : List Int} (hO : IsOrd n O) (hU : IsOrd n U) (sO : ∀ i j, i < j → j < n → RJ D (gi O i) (gi O j)) (sU : ∀ i j, i < j → j < n → RJ D (gi U i) (gi U j)) : O = U := by
  have one : ∀ {O U : List Int}, IsOrd n O → IsOrd n U → (∀ i j, i < j → j < n → RJ D (gi O i) (gi O j)) → (∀ i j, i < j → j < n → RJ D (gi U i) (gi U j)) → ∀ k, k < n → (∀ j, j < k → gi O j = gi U j) → RJ D (gi O k) (gi U k) → False := by
    intro O U hO hU sO sU k kn e r
    -- O's number at k stands in U somewhere
    obtain ⟨j, j1, j2⟩ : ∃ j, j < n ∧ gi U j = gi O k := by
      have b := hO.2.1 k kn
      obtain ⟨j, j1, j2⟩ := hU.ord.onto (gi O k).toNat (by omega)
      refine ⟨j, j1, ?_⟩
      have c := hU.2.1 j j1
      unfold od at j2
      omega
    rcases Nat.lt_trichotomy j k with l | rfl | l
    · exact hO.2.2 j k l kn (by rw [e j l, j2])
    · rw [j2] at r; exact rj_irr r
    · have a := sU k j l j1
      rw [j2] at a
      exact rj_irr (rj_tr r a)
  have all : ∀ k, k ≤ n → ∀ j, j < k → gi O j = gi U j := by
    intro k
    induction k with
    | zero => intro _ j h; omega
    | succ k ih =>
      intro hk j hj
      have e := ih (by omega)
      by_cases c : j = k
      · subst c
        apply Classical.byContradiction
        intro ne
        rcases rj_tot3 (D := D) ne with r | r
        · exact one hO hU sO sU j (by omega) e r
        · exact one hU hO sU sO j (by omega) (fun i hi => (e i hi).symm) r
      · exact e j (by omega)
  apply List.ext_getElem (by rw [hO.1, hU.1])
  intro k h1 h2
  have := all n (Nat.le_refl _) k (by rw [← hO.1]; exact h1)
  simpa [gi, h1, h2] using this
/-- Does the first dump go ahead of the second, but for their numbers? -/
def firstB (pa sa pb sb : Int) : Bool := decide (jc pa sa pb sb < 0)
def insJ (D : List (Int × Int)) (x : Int) : List Int → List Int
  | [] => [x]
  | y :: l => if jcD D x y < 0 then x :: y :: l else y :: insJ D x l
def seqO (D : List (Int × Int)) : Nat → List Int
  | 0 => []
  | k + 1 => insJ D k (seqO D k)
theorem insJ_mem {D : List (Int × Int)} {x z : Int} : ∀ {l : List Int}, z ∈ insJ D x l ↔ z = x ∨ z ∈ l
  | [] => by simp [insJ]
  | y :: l => by
    unfold insJ
    split
    · simp
    · rw [List.mem_cons, insJ_mem, List.mem_cons]
      constructor
      · rintro (h | h | h) <;> simp [h]
      · rintro (h | h | h) <;> simp [h]
theorem insJ_len (D : List (Int × Int)) (x : Int) : ∀ l : List Int, (insJ D x l).length = l.length + 1
  | [] => rfl
  | y :: l => by
    unfold insJ
    split
    · rfl
    · simp [insJ_len D x l]
theorem seqO_len (D : List (Int × Int)) : ∀ k, (seqO D k).length = k
  | 0 => rfl
  | k + 1 => by rw [seqO, insJ_len, seqO_len D k]
theorem seqO_mem (D : List (Int × Int)) (z : Int) : ∀ k, z ∈ seqO D k ↔ 0 ≤ z ∧ z < k
  | 0 => by simp [seqO] <;> omega
  | k + 1 => by rw [seqO, insJ_mem, seqO_mem D z k]; omega
theorem insJ_srt {D : List (Int × Int)} {x : Int} : ∀ {l : List Int}, (∀ z ∈ l, z < x) → l.Pairwise (RJ D) → (insJ D x l).Pairwise (RJ D)
  | [], _, _ => by simp [insJ]
  | y :: l, hx, h => by
    have hy := hx y (by simp)
    rw [List.pairwise_cons] at h
    unfold insJ
    split
    · next c =>
      have r : RJ D x y := (jc_neg D 0 y x hy).1 c
      rw [List.pairwise_cons]
      refine ⟨fun z hz => ?_, List.pairwise_cons.2 h⟩
      rcases List.mem_cons.1 hz with rfl | hz
      · exact r
      · exact rj_tr r (h.1 z hz)
    · next c =>
      have r : RJ D y x := by
        rcases rj_tot3 (D := D) (show y ≠ x by omega) with r | r
        · exact r
        · exact absurd ((jc_neg D 0 y x hy).2 r) c
      rw [List.pairwise_cons]
      refine ⟨fun z hz => ?_, insJ_srt (fun z hz => hx z (List.mem_cons_of_mem _ hz)) h.2⟩
      rcases insJ_mem.1 hz with rfl | hz
      · exact r
      · exact h.1 z hz
theorem seqO_srt (D : List (Int × Int)) : ∀ k, (seqO D k).Pairwise (RJ D)
  | 0 => by simp [seqO]
  | k + 1 => insJ_srt (fun z hz => by have := (seqO_mem D z k).1 hz; omega) (seqO_srt D k)
theorem gi_get {l : List Int} {k : Nat} (h : k < l.length) : gi l k = l[k] := by simp [gi, h]
theorem seqO_rj (D : List (Int × Int)) (k : Nat) : ∀ i j, i < j → j < k → RJ D (gi (seqO D k) i) (gi (seqO D k) j) := fun i j ij jk => by
  have l := seqO_len D k
  rw [gi_get (by omega), gi_get (by omega)]
  exact (List.pairwise_iff_getElem.1 (seqO_srt D k)) i j (by omega) (by omega) ij
theorem seqO_ord (D : List (Int × Int)) (k : Nat) : IsOrd k (seqO D k) := by
  have l := seqO_len D k
  refine ⟨l, fun i hi => ?_, fun i j ij jk e => ?_⟩
  · rw [gi_get (by omega)]
    exact (seqO_mem D _ k).1 (List.getElem_mem (by omega))
  · have r := seqO_rj D k i j ij jk
    rw [e] at r
    exact rj_irr r
/-- A step of the insertion. -/
theorem insJ_cons (D : List (Int × Int)) (x y : Int) (l : List Int) : insJ D x (y :: l) = if jcD D x y < 0 then x :: y :: l else y :: insJ D x l := rfl
theorem drop_at {l : List Int} {i : Nat} (h : i < l.length) : l.drop i = gi l i :: l.drop (i + 1) := by
  rw [gi_get h]
  exact List.drop_eq_getElem_cons h
theorem CrQ.fn {D : List (Int × Int)} {O : List Int} {x y k l : Int} (h : CrQ D O x k) (g : CrQ D O y l) : x = y ∧ k = l := by
  obtain rfl := OErr.fn h.1 g.1
  refine ⟨rfl, ?_⟩
  by_cases x0 : x = 0
  · rcases h.2.2 x0 with ⟨a, b⟩ | ⟨j, j1, j2, j3, j4⟩ <;> rcases g.2.2 x0 with ⟨a', b'⟩ | ⟨j', j1', j2', j3', j4'⟩
    · omega
    · omega
    · omega
    · have a : ¬ j < j' := fun c => j4' j c j3
      have b : ¬ j' < j := fun c => j4 j' c j3'
      omega
  · rw [h.2.1 x0, g.2.1 x0]
theorem MkQ.fn {D : List (Int × Int)} {O : List Int} {x y k l : Int} (h : MkQ D O x k) (g : MkQ D O y l) : x = y ∧ k = l := by
  obtain rfl := OErr.fn h.1 g.1
  refine ⟨rfl, ?_⟩
  by_cases x0 : x = 0
  · rw [h.2.2 x0, g.2.2 x0]
  · rw [h.2.1 x0, g.2.1 x0]
end Go.Proofs.Ythfnaegfjacjbaa
