/- Press: lists of the own memory. -/
import Derived.Test.YthbgeikdamajlabPC9
import Derived.Test.YthbgeikdamajlabPC4
import Derived.Test.YthbgeikdamajlabPBA
import Derived.Deep.AppendLies
/- PressJohnson, walked. -/
namespace Go.Proofs.Ythbgeikdamajlab
open Go.RowKit Go.Proofs.Ythbgeikdamajlab.Prs Go.Proofs.Ythbgeikdamajlab.Stb
set_option linter.unusedVariables false
set_option linter.unusedSimpArgs false

theorem OErr.of {D : List (Int × Int)} {O : List Int} {x : Int} (h : OErr D O x) (n64 : D.length ≤ 64) (dk : DOk D D.length) (io : IsOrd D.length O) : x = 0 := h.fn (.inr (.inr (.inl ⟨n64, dk, io, rfl⟩)))
theorem OErr.bad {D : List (Int × Int)} {O : List Int} {x y : Int} (h : OErr D O x) (g : DErr D y) (hy : y ≠ 0) : x = y := h.fn (g.order hy)
/-- No order is shorter. -/
theorem john {D : List (Int × Int)} {O U : List Int} (dk : ∀ i, 0 ≤ pd D i ∧ pd D i ≤ 1073741824 ∧ 0 ≤ sd D i ∧ sd D i ≤ 1073741824) (hO : IsOrd D.length O) (hU : IsOrd D.length U) (r : ∀ i j, i < j → j < D.length → RJ D (gi O i) (gi O j)) :
    mks (pd D) (sd D) (od O) D.length ≤ mks (pd D) (sd D) (od U) D.length :=
  johnson (pd D) (sd D) (fun i => (dk i).1) (fun i => (dk i).2.2.1) hO.ord hU.ord (fun x y xy yn => rj_jo D _ _ (r x y xy yn))

end Go.Proofs.Ythbgeikdamajlab

/- Press: the mirror, plain; rows of dumps in memory of their own. -/
namespace Go.Proofs.Ythbgeikdamajlab
open Go.RowKit Go.Proofs.Ythbgeikdamajlab.Prs Go.Proofs.Ythbgeikdamajlab.Stb
set_option linter.unusedVariables false
set_option linter.unusedSimpArgs false

namespace Prs
theorem sm_rev (F : Nat → Int) (n : Nat) : ∀ k, k ≤ n → sm (fun j => F (n - 1 - j)) k = sm F n - sm F (n - k)
  | 0, _ => by simp [sm]
  | k + 1, h => by
    have ih := sm_rev F n k (by omega)
    have e : sm F (n - k) = sm F (n - (k + 1)) + F (n - 1 - k) := by
      rw [show n - k = (n - (k + 1)) + 1 by omega]
      simp only [sm]
      rw [show n - (k + 1) = n - 1 - k by omega]
    simp only [sm]; omega
/-- The sums of the mirror are the sums from the other end. -/
theorem vl_rev {P S P' S' : Nat → Int} {o o' : Nat → Nat} {n k : Nat} (hk : k < n) (h1 : ∀ j, j < n → P' (o' j) = S (o (n - 1 - j))) (h2 : ∀ j, j < n → S' (o' j) = P (o (n - 1 - j))) : vl P' S' o' n k = vl P S o n (n - 1 - k) := by
  unfold vl
  have a := sm_congr (F := fun j => P' (o' j)) (G := fun j => (fun i => S (o i)) (n - 1 - j)) (n := k + 1) (fun j hj => h1 j (by omega))
  have b := sm_congr (F := fun j => S' (o' j)) (G := fun j => (fun i => P (o i)) (n - 1 - j)) (n := n) (fun j hj => h2 j hj)
  have c := sm_congr (F := fun j => S' (o' j)) (G := fun j => (fun i => P (o i)) (n - 1 - j)) (n := k) (fun j hj => h2 j (by omega))
  have a' := sm_rev (fun i => S (o i)) n (k + 1) (by omega)
  have b' := sm_rev (fun i => P (o i)) n n (Nat.le_refl _)
  have c' := sm_rev (fun i => P (o i)) n k (by omega)
  rw [a, b, c, a', b', c']
  rw [show n - 1 - k + 1 = n - k by omega, show n - (k + 1) = n - 1 - k by omega, Nat.sub_self]
  simp only [sm]
  omega
theorem mks_rev_le {P S P' S' : Nat → Int} {o o' : Nat → Nat} {n : Nat} (hP : ∀ i, 0 ≤ P' i) (h1 : ∀ j, j < n → P' (o' j) = S (o (n - 1 - j))) (h2 : ∀ j, j < n → S' (o' j) = P (o (n - 1 - j))) : mks P' S' o' n ≤ mks P S o n := by
  by_cases n0 : n = 0
  · subst n0; exact Int.le_refl _
  · obtain ⟨k, hk, e⟩ := mks_at P' S' o' (fun _ => hP _) n (by omega)
    rw [← e, vl_rev hk h1 h2]
    exact mks_ge P S o n _ (by omega)
end Prs
/-- Both times of all dumps changed. -/
def swD (D : List (Int × Int)) : List (Int × Int) := D.map fun x => (x.2, x.1)
theorem swD_len (D : List (Int × Int)) : (swD D).length = D.length := by simp [swD]
theorem swD_p (D : List (Int × Int)) (i : Nat) : pd (swD D) i = sd D i := by
  unfold pd sd swD
  rw [List.getElem?_map]
  cases D[i]? <;> rfl
theorem swD_s (D : List (Int × Int)) (i : Nat) : sd (swD D) i = pd D i := by
  unfold pd sd swD
  rw [List.getElem?_map]
  cases D[i]? <;> rfl
theorem swD_ok {D : List (Int × Int)} {n : Nat} : DOk (swD D) n ↔ DOk D n :=
  ⟨fun h i hi => by have := h i hi; rw [swD_p, swD_s] at this; omega, fun h i hi => by have := h i hi; rw [swD_p, swD_s]; omega⟩
theorem gi_rev {O : List Int} {k : Nat} (h : k < O.length) : gi O.reverse k = gi O (O.length - 1 - k) := by
  unfold gi
  rw [List.getElem?_reverse h]
theorem ord_rev {n : Nat} {O : List Int} (h : IsOrd n O) : IsOrd n O.reverse := by
  obtain ⟨a, b, c⟩ := h
  refine ⟨by simpa using a, fun k hk => ?_, fun i j ij jn => ?_⟩
  · rw [gi_rev (by omega)]; exact b _ (by omega)
  · rw [gi_rev (by omega), gi_rev (by omega)]
    exact fun e => c (O.length - 1 - j) (O.length - 1 - i) (by omega) (by omega) e.symm
theorem od_rev {n : Nat} {O : List Int} (h : O.length = n) {k : Nat} (hk : k < n) : od O.reverse k = od O (n - 1 - k) := by unfold od; rw [gi_rev (by omega), h]
theorem DErr.sw {D : List (Int × Int)} {x : Int} (h : DErr D x) : DErr (swD D) x := by
  unfold DErr at *
  rw [swD_len, swD_ok]; exact h
theorem OErr.sw {D : List (Int × Int)} {O : List Int} {x : Int} (h : OErr D O x) : OErr (swD D) O.reverse x := by
  have e : IsOrd D.length O.reverse ↔ IsOrd D.length O := ⟨fun g => by have := ord_rev g; rwa [List.reverse_reverse] at this, ord_rev⟩
  unfold OErr at *
  rw [swD_len, swD_ok, e]; exact h
theorem DErr.fn {D : List (Int × Int)} {x y : Int} (h : DErr D x) (g : DErr D y) : x = y := by
  rcases h with ⟨a, b⟩ | ⟨a, b, c⟩ | ⟨a, b, c⟩ <;> rcases g with ⟨a', b'⟩ | ⟨a', b', c'⟩ | ⟨a', b', c'⟩ <;> first | omega | exact absurd b b' | exact absurd b' b
theorem mks_sw {D : List (Int × Int)} {O : List Int} (dk : ∀ i, 0 ≤ pd D i ∧ pd D i ≤ 1073741824 ∧ 0 ≤ sd D i ∧ sd D i ≤ 1073741824) (hO : O.length = D.length) :
    mks (pd (swD D)) (sd (swD D)) (od O.reverse) D.length = mks (pd D) (sd D) (od O) D.length := by
  apply Int.le_antisymm
  · exact mks_rev_le (fun i => by rw [swD_p]; exact (dk i).2.2.1) (fun j hj => by rw [swD_p, od_rev hO hj]) (fun j hj => by rw [swD_s, od_rev hO hj])
  · exact mks_rev_le (fun i => (dk i).1) (fun j hj => by rw [swD_s, od_rev hO (by omega), show D.length - 1 - (D.length - 1 - j) = j by omega]) (fun j hj => by rw [swD_p, od_rev hO (by omega), show D.length - 1 - (D.length - 1 - j) = j by omega])
/-- The least makespans are alike. -/
theorem least_sw {D : List (Int × Int)} {O U : List Int} (dk : ∀ i, 0 ≤ pd D i ∧ pd D i ≤ 1073741824 ∧ 0 ≤ sd D i ∧ sd D i ≤ 1073741824) (hO : IsOrd D.length O) (hU : IsOrd (swD D).length U)
    (rO : ∀ i j, i < j → j < D.length → RJ D (gi O i) (gi O j)) (rU : ∀ i j, i < j → j < (swD D).length → RJ (swD D) (gi U i) (gi U j)) :
    mks (pd D) (sd D) (od O) D.length = mks (pd (swD D)) (sd (swD D)) (od U) (swD D).length := by
  have dk' : ∀ i, 0 ≤ pd (swD D) i ∧ pd (swD D) i ≤ 1073741824 ∧ 0 ≤ sd (swD D) i ∧ sd (swD D) i ≤ 1073741824 := fun i => by rw [swD_p, swD_s]; have := dk i; omega
  have hU' : IsOrd D.length U := by rw [← swD_len D]; exact hU
  apply Int.le_antisymm
  · have a := john dk hO (ord_rev hU') rO
    have b := mks_sw (D := D) (O := U.reverse) dk (by simpa using hU'.1)
    rw [List.reverse_reverse] at b
    rw [swD_len]; omega
  · have a := john dk' hU (U := O.reverse) (by rw [swD_len]; exact ord_rev hO) rU
    have b := mks_sw (D := D) (O := O) dk hO.1
    rw [swD_len] at a ⊢; omega

def rowsV (L : List (Int × Int)) : List Value := L.flatMap fun x => [.int .i64 x.1, .int .i64 x.2]
theorem rowsV_snoc (L : List (Int × Int)) (x : Int × Int) : rowsV (L ++ [x]) = rowsV L ++ [.int .i64 x.1, .int .i64 x.2] := by simp [rowsV]
theorem rowsV_at : ∀ (M : List (Int × Int)) (i : Nat), i < M.length → (rowsV M)[i * 2]? = some (.int .i64 (pd M i)) ∧ (rowsV M)[i * 2 + 1]? = some (.int .i64 (sd M i))
  | [], i, h => by simp at h
  | x :: M, 0, h => by simp [rowsV, pd, sd]
  | x :: M, i + 1, h => by
    have ih := rowsV_at M i (by simpa using h)
    have e : rowsV (x :: M) = [.int .i64 x.1, .int .i64 x.2] ++ rowsV M := rfl
    rw [e, List.getElem?_append_right (by simp; omega), List.getElem?_append_right (by simp; omega)]
    simp only [List.length_cons, List.length_nil]
    rw [show (i + 1) * 2 - (0 + 1 + 1) = i * 2 by omega, show (i + 1) * 2 + 1 - (0 + 1 + 1) = i * 2 + 1 by omega]
    simpa [pd, sd] using ih
theorem add0 (g i : Nat) : (Addr.mk g 0 none).add i = ⟨g, i, none⟩ := by
  unfold Addr.add
  split
  · next h => subst h; rfl
  · simp
theorem ownDumps {W : World} {b : Nat} {t : TypeId} {v : Value} {M : List (Int × Int)} (h : W.ownsRow b t 2 v M.length (rowsV M)) : ∃ p c, v = .slice p M.length c ∧ DmpR W p M := by
  rcases h.2 with ⟨rfl, h0⟩ | ⟨g, cap, cur, rfl, hb, hg, hn, _, hs, ht⟩
  · exact ⟨none, 0, by rw [h0], fun i hi => by omega⟩
  · refine ⟨_, _, rfl, fun i hi => ⟨⟨g, 0, none⟩, rfl, (Array.getElem?_eq_some_iff.1 hg).1, ?_, ?_⟩⟩
    · rw [add0, cellAt hg, ← (rowsV_at M i hi).1, ← ht, List.getElem?_take_of_lt (by omega)]; simp
    · rw [add0]
      show W.cell? ⟨g, i * 2 + 1, none⟩ = _
      rw [cellAt hg, ← (rowsV_at M i hi).2, ← ht, List.getElem?_take_of_lt (by omega)]; simp
where cellAt {W : World} {b o : Nat} {c : Array Value} {t : TypeId} (h : W.heap[b]? = some (.cells c t (0, 0))) : W.cell? ⟨b, o, none⟩ = c[o]? := by simp [World.cell?, h]
theorem ownNums {W : World} {b : Nat} {t : TypeId} {v : Value} {M : List Int} (h : W.ownsRow b t 1 v M.length (M.map (Value.int .i64))) : ∃ p c, v = .slice p M.length c ∧ NumR W p M := by
  rcases h.2 with ⟨rfl, h0⟩ | ⟨g, cap, cur, rfl, hb, hg, hn, _, hs, ht⟩
  · exact ⟨none, 0, by rw [h0], fun i hi => by omega⟩
  · refine ⟨_, _, rfl, fun i hi => ⟨⟨g, 0, none⟩, rfl, (Array.getElem?_eq_some_iff.1 hg).1, ?_⟩⟩
    rw [add0, cellAt hg]
    have e : (M.map (Value.int .i64))[i]? = some (.int .i64 (gi M i)) := by simp [gi, hi]
    rw [← e, ← ht, List.getElem?_take_of_lt (by omega)]; simp
where cellAt {W : World} {b o : Nat} {c : Array Value} {t : TypeId} (h : W.heap[b]? = some (.cells c t (0, 0))) : W.cell? ⟨b, o, none⟩ = c[o]? := by simp [World.cell?, h]
theorem dumpInfo : (Try.prog.info? 46).map (fun i => (i.zero, i.size, i.bytes)) = some (some (.agg #[.int .i64 0, .int .i64 0]), 2, 16) := by kernel_rfl
theorem own_apart {W w1 : World} {n m : Nat} {t1 t2 : TypeId} {s1 s2 k1 k2 : Nat} {v1 v2 : Value} {xs ys : List Value} (hne : t1 ≠ t2) (h : W.ownsRow n t1 s1 v1 k1 xs) (g : W.ownsRow m t2 s2 v2 k2 ys) (hg : W.grownBy w1 v2.ownBlock) : w1.ownsRow n t1 s1 v1 k1 xs := by
  refine h.kept hg ?_
  rcases h.2 with ⟨rfl, _⟩ | ⟨b, cap, cur, rfl, _, hb, _⟩
  · exact .inl rfl
  · refine .inr ?_
    rcases g.2 with ⟨rfl, _⟩ | ⟨b', cap', cur', rfl, _, hb', _⟩
    · simp [Value.ownBlock]
    · simp only [Value.ownBlock]
      intro e
      have e : b' = b := by simpa using e.symm
      subst e
      rw [hb] at hb'
      simp at hb'
      exact hne hb'.2
theorem one_cell {w : World} (x : Int) : ∀ j u, ([Value.int .i64 x])[j]? = some u → (w.alloc (Obj.cells #[Value.int .i64 x] 3)).cell? ((⟨w.heap.size, 0, none⟩ : Addr).add j) = some u := by
  intro j u hj
  match j, hj with
  | 0, hj => simp at hj; subst hj; simp [Addr.add, go_sem]
theorem one_one {x : Int} : ∀ u ∈ [Value.int .i64 x], u.oneCell' = true := by intro u hu; simp at hu; subst hu; rfl
theorem take_swD {D : List (Int × Int)} {i : Nat} (h : i < D.length) : (swD D).take (i + 1) = (swD D).take i ++ [(sd D i, pd D i)] := by
  have h' : i < (swD D).length := by rw [swD_len]; exact h
  rw [List.take_succ_eq_append_getElem h']
  congr 1
  simp [swD, sd, pd, h]
end Go.Proofs.Ythbgeikdamajlab

/- PressMirror, walked. -/
namespace Go.Proofs.Ythbgeikdamajlab
open Go.RowKit Go.Proofs.Ythbgeikdamajlab.Prs Go.Proofs.Ythbgeikdamajlab.Stb
set_option linter.unusedVariables false
set_option linter.unusedSimpArgs false

theorem cellAl {W : World} {a : Addr} {x : Value} (o : Obj) (h : W.cell? a = some x) : (W.alloc o).cell? a = some x := cellGr ((Below.refl _ W).alloc (Nat.le_refl _) o) h

end Go.Proofs.Ythbgeikdamajlab

/- Press: the law's search of all orders. -/
namespace Go.Proofs.Ythbgeikdamajlab
open Go.RowKit Go.Proofs.Ythbgeikdamajlab.Prs Go.Proofs.Ythbgeikdamajlab.Stb
set_option linter.unusedVariables false
set_option linter.unusedSimpArgs false

theorem OrdTo.mono {O : List Int} {n i j : Nat} (h : OrdTo O n i) (hj : j ≤ i) : OrdTo O n j := ⟨fun k hk => h.rng k (by omega), fun a b ab bj => h.ne a b ab (by omega)⟩
theorem gi_snoc_lt {O : List Int} {x : Int} {k : Nat} (h : k < O.length) : gi (O ++ [x]) k = gi O k := by
  unfold gi; rw [List.getElem?_append_left h]
theorem gi_snoc {O : List Int} {x : Int} : gi (O ++ [x]) O.length = x := by simp [gi]
theorem OrdTo.snoc {O : List Int} {n i : Nat} (h : OrdTo O n O.length) (hi : i < n) (nin : ¬ ∃ j, j < O.length ∧ gi O j = (i : Int)) : OrdTo (O ++ [(i : Int)]) n (O ++ [(i : Int)]).length := by
  have l : (O ++ [(i : Int)]).length = O.length + 1 := by simp
  rw [l]
  refine ⟨fun k hk => ?_, fun a b ab bk => ?_⟩
  · by_cases e : k < O.length
    · rw [gi_snoc_lt e]; exact h.rng k e
    · rw [show k = O.length by omega, gi_snoc]; omega
  · by_cases e : b < O.length
    · rw [gi_snoc_lt e, gi_snoc_lt (by omega)]; exact h.ne a b ab e
    · rw [show b = O.length by omega, gi_snoc, gi_snoc_lt (by omega)]
      exact fun g => nin ⟨a, by omega, g⟩
theorem NumR.news {W : World} {y : Addr} {O : List Int} (r : NumR W (some y) O) : ∀ j u, (O.map (Value.int .i64))[j]? = some u → W.cell? (y.add j) = some u := fun j u hj => by
  have hl : j < O.length := by have := (List.getElem?_eq_some_iff.1 hj).1; simpa using this
  obtain ⟨x, e, _, c⟩ := r j hl
  cases e
  rw [c]
  simp [hl] at hj
  simp [gi, hl, hj]
theorem NumR.some {W : World} {q : Option Addr} {O : List Int} (r : NumR W q O) (h : 0 < O.length) : ∃ y, q = some y := by
  obtain ⟨x, e, _⟩ := r 0 h
  exact ⟨x, e⟩
/-- It is true. -/
def TrueB (w : World) (e : Ending) (w' : World) : Prop := e = .returned (.bool true) ∧ Below w.heap.size w w'

end Go.Proofs.Ythbgeikdamajlab
