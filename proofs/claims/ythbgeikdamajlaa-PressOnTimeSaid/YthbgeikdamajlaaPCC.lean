/- Press: the mirror, plain; rows of dumps in memory of their own. -/
import Derived.Test.YthbgeikdamajlaaPCA
import Derived.Deep.AppendLies
namespace Go.Proofs.Ythbgeikdamajlaa
open Go.RowKit Go.Proofs.Ythbgeikdamajlaa.Prs Go.Proofs.Ythbgeikdamajlaa.Stb
set_option linter.unusedVariables false
set_option linter.unusedSimpArgs false

namespace Prs
theorem sm_rev (F : Nat → Int) (n : Nat) : ∀ k, k ≤ n → sm (fun j => F (n - 1 - j)) k = sm F n - sm F (n - k)
  | 0, _ => by simp [sm]
  | k + 1, h => by
    have ih := sm_rev F n k (by omega)
    have e : sm F (n - k) = sm F (n - (k + 1)) + F (n - 1 - k) := by
      rw [show n - k = (n - (k + 1)) + 1 by omega]
      simp only [sm]
      rw [show n - (k + 1) = n - 1 - k by omega]
    simp only [sm]; omega
/-- The sums of the mirror are the sums from the other end. -/
theorem vl_rev {P S P' S' : Nat → Int} {o o' : Nat → Nat} {n k : Nat} (hk : k < n) (h1 : ∀ j, j < n → P' (o' j) = S (o (n - 1 - j))) (h2 : ∀ j, j < n → S' (o' j) = P (o (n - 1 - j))) : vl P' S' o' n k = vl P S o n (n - 1 - k) := by
  unfold vl
  have a := sm_congr (F := fun j => P' (o' j)) (G := fun j => (fun i => S (o i)) (n - 1 - j)) (n := k + 1) (fun j hj => h1 j (by omega))
  have b := sm_congr (F := fun j => S' (o' j)) (G := fun j => (fun i => P (o i)) (n - 1 - j)) (n := n) (fun j hj => h2 j hj)
  have c := sm_congr (F := fun j => S' (o' j)) (G := fun j => (fun i => P (o i)) (n - 1 - j)) (n := k) (fun j hj => h2 j (by omega))
  have a' := sm_rev (fun i => S (o i)) n (k + 1) (by omega)
  have b' := sm_rev (fun i => P (o i)) n n (Nat.le_refl _)
  have c' := sm_rev (fun i => P (o i)) n k (by omega)
  rw [a, b, c, a', b', c']
  rw [show n - 1 - k + 1 = n - k by omega, show n - (k + 1) = n - 1 - k by omega, Nat.sub_self]
  simp only [sm]
  omega
theorem mks_rev_le {P S P' S' : Nat → Int} {o o' : Nat → Nat} {n : Nat} (hP : ∀ i, 0 ≤ P' i) (h1 : ∀ j, j < n → P' (o' j) = S (o (n - 1 - j))) (h2 : ∀ j, j < n → S' (o' j) = P (o (n - 1 - j))) : mks P' S' o' n ≤ mks P S o n := by
  by_cases n0 : n = 0
  · subst n0; exact Int.le_refl _
  · obtain ⟨k, hk, e⟩ := mks_at P' S' o' (fun _ => hP _) n (by omega)
    rw [← e, vl_rev hk h1 h2]
    exact mks_ge P S o n _ (by omega)
end Prs
/-- Both times of all dumps changed. -/
def swD (D : List (Int × Int)) : List (Int × Int) := D.map fun x => (x.2, x.1)
theorem swD_len (D : List (Int × Int)) : (swD D).length = D.length := by simp [swD]
theorem swD_p (D : List (Int × Int)) (i : Nat) : pd (swD D) i = sd D i := by
  unfold pd sd swD
  rw [List.getElem?_map]
  cases D[i]? <;> rfl
theorem swD_s (D : List (Int × Int)) (i : Nat) : sd (swD D) i = pd D i := by
  unfold pd sd swD
  rw [List.getElem?_map]
  cases D[i]? <;> rfl
theorem swD_ok {D : List (Int × Int)} {n : Nat} : DOk (swD D) n ↔ DOk D n :=
  ⟨fun h i hi => by have := h i hi; rw [swD_p, swD_s] at this; omega, fun h i hi => by have := h i hi; rw [swD_p, swD_s]; omega⟩
theorem gi_rev {O : List Int} {k : Nat} (h : k < O.length) : gi O.reverse k = gi O (O.length - 1 - k) := by
  unfold gi
  rw [List.getElem?_reverse h]
theorem ord_rev {n : Nat} {O : List Int} (h : IsOrd n O) : IsOrd n O.reverse := by
  obtain ⟨a, b, c⟩ := h
  refine ⟨by simpa using a, fun k hk => ?_, fun i j ij jn => ?_⟩
  · rw [gi_rev (by omega)]; exact b _ (by omega)
  · rw [gi_rev (by omega), gi_rev (by omega)]
    exact fun e => c (O.length - 1 - j) (O.length - 1 - i) (by omega) (by omega) e.symm
theorem od_rev {n : Nat} {O : List Int} (h : O.length = n) {k : Nat} (hk : k < n) : od O.reverse k = od O (n - 1 - k) := by unfold od; rw [gi_rev (by omega), h]
theorem DErr.sw {D : List (Int × Int)} {x : Int} (h : DErr D x) : DErr (swD D) x := by
  unfold DErr at *
  rw [swD_len, swD_ok]; exact h
theorem OErr.sw {D : List (Int × Int)} {O : List Int} {x : Int} (h : OErr D O x) : OErr (swD D) O.reverse x := by
  have e : IsOrd D.length O.reverse ↔ IsOrd D.length O := ⟨fun g => by have := ord_rev g; rwa [List.reverse_reverse] at this, ord_rev⟩
  unfold OErr at *
  rw [swD_len, swD_ok, e]; exact h
theorem DErr.fn {D : List (Int × Int)} {x y : Int} (h : DErr D x) (g : DErr D y) : x = y := by
  rcases h with ⟨a, b⟩ | ⟨a, b, c⟩ | ⟨a, b, c⟩ <;> rcases g with ⟨a', b'⟩ | ⟨a', b', c'⟩ | ⟨a', b', c'⟩ <;> first | omega | exact absurd b b' | exact absurd b' b
theorem mks_sw {D : List (Int × Int)} {O : List Int} (dk : ∀ i, 0 ≤ pd D i ∧ pd D i ≤ 1073741824 ∧ 0 ≤ sd D i ∧ sd D i ≤ 1073741824) (hO : O.length = D.length) :
    mks (pd (swD D)) (sd (swD D)) (od O.reverse) D.length = mks (pd D) (sd D) (od O) D.length := by
  apply Int.le_antisymm
  · exact mks_rev_le (fun i => by rw [swD_p]; exact (dk i).2.2.1) (fun j hj => by rw [swD_p, od_rev hO hj]) (fun j hj => by rw [swD_s, od_rev hO hj])
  · exact mks_rev_le (fun i => (dk i).1) (fun j hj => by rw [swD_s, od_rev hO (by omega), show D.length - 1 - (D.length - 1 - j) = j by omega]) (fun j hj => by rw [swD_p, od_rev hO (by omega), show D.length - 1 - (D.length - 1 - j) = j by omega])
/-- The least makespans are alike. -/
theorem least_sw {D : List (Int × Int)} {O U : List Int} (dk : ∀ i, 0 ≤ pd D i ∧ pd D i ≤ 1073741824 ∧ 0 ≤ sd D i ∧ sd D i ≤ 1073741824) (hO : IsOrd D.length O) (hU : IsOrd (swD D).length U)
    (rO : ∀ i j, i < j → j < D.length → RJ D (gi O i) (gi O j)) (rU : ∀ i j, i < j → j < (swD D).length → RJ (swD D) (gi U i) (gi U j)) :
    mks (pd D) (sd D) (od O) D.length = mks (pd (swD D)) (sd (swD D)) (od U) (swD D).length := by
  have dk' : ∀ i, 0 ≤ pd (swD D) i ∧ pd (swD D) i ≤ 1073741824 ∧ 0 ≤ sd (swD D) i ∧ sd (swD D) i ≤ 1073741824 := fun i => by rw [swD_p, swD_s]; have := dk i; omega
  have hU' : IsOrd D.length U := by rw [← swD_len D]; exact hU
  apply Int.le_antisymm
  · have a := john dk hO (ord_rev hU') rO
    have b := mks_sw (D := D) (O := U.reverse) dk (by simpa using hU'.1)
    rw [List.reverse_reverse] at b
    rw [swD_len]; omega
  · have a := john dk' hU (U := O.reverse) (by rw [swD_len]; exact ord_rev hO) rU
    have b := mks_sw (D := D) (O := O) dk hO.1
    rw [swD_len] at a ⊢; omega

def rowsV (L : List (Int × Int)) : List Value := L.flatMap fun x => [.int .i64 x.1, .int .i64 x.2]
theorem rowsV_snoc (L : List (Int × Int)) (x : Int × Int) : rowsV (L ++ [x]) = rowsV L ++ [.int .i64 x.1, .int .i64 x.2] := by simp [rowsV]
theorem rowsV_at : ∀ (M : List (Int × Int)) (i : Nat), i < M.length → (rowsV M)[i * 2]? = some (.int .i64 (pd M i)) ∧ (rowsV M)[i * 2 + 1]? = some (.int .i64 (sd M i))
  | [], i, h => by simp at h
  | x :: M, 0, h => by simp [rowsV, pd, sd]
  | x :: M, i + 1, h => by
    have ih := rowsV_at M i (by simpa using h)
    have e : rowsV (x :: M) = [.int .i64 x.1, .int .i64 x.2] ++ rowsV M := rfl
    rw [e, List.getElem?_append_right (by simp; omega), List.getElem?_append_right (by simp; omega)]
    simp only [List.length_cons, List.length_nil]
    rw [show (i + 1) * 2 - (0 + 1 + 1) = i * 2 by omega, show (i + 1) * 2 + 1 - (0 + 1 + 1) = i * 2 + 1 by omega]
    simpa [pd, sd] using ih
theorem add0 (g i : Nat) : (Addr.mk g 0 none).add i = ⟨g, i, none⟩ := by
  unfold Addr.add
  split
  · next h => subst h; rfl
  · simp
theorem ownDumps {W : World} {b : Nat} {t : TypeId} {v : Value} {M : List (Int × Int)} (h : W.ownsRow b t 2 v M.length (rowsV M)) : ∃ p c, v = .slice p M.length c ∧ DmpR W p M := by
  rcases h.2 with ⟨rfl, h0⟩ | ⟨g, cap, cur, rfl, hb, hg, hn, _, hs, ht⟩
  · exact ⟨none, 0, by rw [h0], fun i hi => by omega⟩
  · refine ⟨_, _, rfl, fun i hi => ⟨⟨g, 0, none⟩, rfl, (Array.getElem?_eq_some_iff.1 hg).1, ?_, ?_⟩⟩
    · rw [add0, cellAt hg, ← (rowsV_at M i hi).1, ← ht, List.getElem?_take_of_lt (by omega)]; simp
    · rw [add0]
      show W.cell? ⟨g, i * 2 + 1, none⟩ = _
      rw [cellAt hg, ← (rowsV_at M i hi).2, ← ht, List.getElem?_take_of_lt (by omega)]; simp
where cellAt {W : World} {b o : Nat} {c : Array Value} {t : TypeId} (h : W.heap[b]? = some (.cells c t (0, 0))) : W.cell? ⟨b, o, none⟩ = c[o]? := by simp [World.cell?, h]
theorem ownNums {W : World} {b : Nat} {t : TypeId} {v : Value} {M : List Int} (h : W.ownsRow b t 1 v M.length (M.map (Value.int .i64))) : ∃ p c, v = .slice p M.length c ∧ NumR W p M := by
  rcases h.2 with ⟨rfl, h0⟩ | ⟨g, cap, cur, rfl, hb, hg, hn, _, hs, ht⟩
  · exact ⟨none, 0, by rw [h0], fun i hi => by omega⟩
  · refine ⟨_, _, rfl, fun i hi => ⟨⟨g, 0, none⟩, rfl, (Array.getElem?_eq_some_iff.1 hg).1, ?_⟩⟩
    rw [add0, cellAt hg]
    have e : (M.map (Value.int .i64))[i]? = some (.int .i64 (gi M i)) := by simp [gi, hi]
    rw [← e, ← ht, List.getElem?_take_of_lt (by omega)]; simp
where cellAt {W : World} {b o : Nat} {c : Array Value} {t : TypeId} (h : W.heap[b]? = some (.cells c t (0, 0))) : W.cell? ⟨b, o, none⟩ = c[o]? := by simp [World.cell?, h]
theorem dumpInfo : (Try.prog.info? 68).map (fun i => (i.zero, i.size, i.bytes)) = some (some (.agg #[.int .i64 0, .int .i64 0]), 2, 16) := by kernel_rfl
theorem own_apart {W w1 : World} {n m : Nat} {t1 t2 : TypeId} {s1 s2 k1 k2 : Nat} {v1 v2 : Value} {xs ys : List Value} (hne : t1 ≠ t2) (h : W.ownsRow n t1 s1 v1 k1 xs) (g : W.ownsRow m t2 s2 v2 k2 ys) (hg : W.grownBy w1 v2.ownBlock) : w1.ownsRow n t1 s1 v1 k1 xs := by
  refine h.kept hg ?_
  rcases h.2 with ⟨rfl, _⟩ | ⟨b, cap, cur, rfl, _, hb, _⟩
  · exact .inl rfl
  · refine .inr ?_
    rcases g.2 with ⟨rfl, _⟩ | ⟨b', cap', cur', rfl, _, hb', _⟩
    · simp [Value.ownBlock]
    · simp only [Value.ownBlock]
      intro e
      have e : b' = b := by simpa using e.symm
      subst e
      rw [hb] at hb'
      simp at hb'
      exact hne hb'.2
theorem one_cell {w : World} (x : Int) : ∀ j u, ([Value.int .i64 x])[j]? = some u → (w.alloc (Obj.cells #[Value.int .i64 x] 3)).cell? ((⟨w.heap.size, 0, none⟩ : Addr).add j) = some u := by
  intro j u hj
  match j, hj with
  | 0, hj => simp at hj; subst hj; simp [Addr.add, go_sem]
theorem one_one {x : Int} : ∀ u ∈ [Value.int .i64 x], u.oneCell' = true := by intro u hu; simp at hu; subst hu; rfl
theorem take_swD {D : List (Int × Int)} {i : Nat} (h : i < D.length) : (swD D).take (i + 1) = (swD D).take i ++ [(sd D i, pd D i)] := by
  have h' : i < (swD D).length := by rw [swD_len]; exact h
  rw [List.take_succ_eq_append_getElem h']
  congr 1
  simp [swD, sd, pd, h]
end Go.Proofs.Ythbgeikdamajlaa
