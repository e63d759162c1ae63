/- The law ClassingCheapest: the plan that is read, Curve, no division costs less, the walk. -/
import Derived.Test.YtmdhmpfagekonaaLN
import Derived.Test.YtmdhmpfagekonaaLF
/- Classing's totals, plain: the mass of the fleeces of a kind, before and behind the cut. -/
namespace Go.Proofs.Ytmdhmpfagekonaa
open Go.RowKit Go.Proofs.Ytmdhmpfagekonaa.Ct Go.Proofs.Ytmdhmpfagekonaa.Ce Go.Proofs.Ytmdhmpfagekonaa.Stb
set_option linter.unusedVariables false
set_option linter.unusedSimpArgs false

namespace Ce
/-- The mass of those of the first fleeces that P takes. -/
def smK (A : Nat → Fl) (P : Fl → Bool) : Nat → Int
  | 0 => 0
  | k + 1 => smK A P k + (if P (A k) = true then (A k).gr else 0)
theorem smK_sum (A : Nat → Fl) (P : Fl → Bool) : ∀ n, smK A P n = ((List.range n).map fun k => if P (A k) = true then (A k).gr else 0).sum
  | 0 => rfl
  | n + 1 => by
    rw [List.range_succ, List.map_append, List.sum_append, ← smK_sum A P n]
    simp [smK]
theorem insK_sum (q : Nat → Int) (x : Int) (h : Int → Int) : ∀ l : List Int, ((insK q x l).map h).sum = h x + (l.map h).sum
  | [] => by simp [insK]
  | y :: l => by
    unfold insK
    split
    · simp
    · simp only [List.map_cons, List.sum_cons, insK_sum q x h l]
      omega
theorem ordK_sum (q : Nat → Int) (h : Int → Int) : ∀ n, ((ordK q n).map h).sum = ((List.range n).map fun k : Nat => h (k : Int)).sum
  | 0 => rfl
  | n + 1 => by
    rw [ordK, insK_sum, ordK_sum q h n, List.range_succ, List.map_append, List.sum_append]
    simp
    omega
theorem gi_map (O : List Int) : (List.range O.length).map (fun k => gi O k) = O := by
  apply List.ext_getElem (by simp)
  intro k h1 h2
  simp [gi, h2]
/-- In order there is as much as there was. -/
theorem smK_inO (F : Nat → Fl) (P : Fl → Bool) (n : Nat) : smK (inO F n) P n = smK F P n := by
  have e := ordK_sum (fun k => (F k).key) (fun z => if P (F z.toNat) = true then (F z.toNat).gr else 0) n
  have g := gi_map (ordK (fun k => (F k).key) n)
  rw [ordK_len] at g
  rw [smK_sum, smK_sum]
  rw [← g, List.map_map] at e
  exact e
/-- A run on which P is the same. -/
theorem smK_run (A : Nat → Fl) (P : Fl → Bool) (i : Nat) : ∀ m, (∀ k, i ≤ k → k < i + m → P (A k) = P (A i)) → smK A P (i + m) = smK A P i + (if P (A i) = true then mas A i (i + m) else 0)
  | 0, _ => by rw [Nat.add_zero, mas_eq A i (Nat.le_refl _)]; split <;> omega
  | m + 1, h => by
    have ih := smK_run A P i m (fun k a b => h k a (by omega))
    have e := h (i + m) (by omega) (by omega)
    show smK A P (i + m) + (if P (A (i + m)) = true then (A (i + m)).gr else 0) = _
    rw [ih, e, show mas A i (i + (m + 1)) = mas A i (i + m) + (if i ≤ i + m then (A (i + m)).gr else 0) from rfl, if_pos (Nat.le_add_right _ _)]
    split <;> omega
theorem smK_bd {A : Nat → Fl} {P : Fl → Bool} {n : Nat} (ok : ∀ k, k < n → (A k).ok) : ∀ {k}, k ≤ n → 0 ≤ smK A P k ∧ smK A P k ≤ 1073741824 * k
  | 0, _ => by simp [smK]
  | k + 1, h => by
    have ih := smK_bd (P := P) ok (k := k) (by omega)
    have o := ok k (by omega)
    unfold Fl.ok at o
    show 0 ≤ smK A P k + _ ∧ smK A P k + _ ≤ _
    split <;> omega
/-- Is it of this kind? -/
def isK (a b c d : Int) (f : Fl) : Bool := decide (f.ka = a ∧ f.kb = b ∧ f.kc = c ∧ f.kd = d)
theorem isK_kk {a b c d : Int} {f g : Fl} (hf : f.kok) (hg : g.kok) (h : f.kk = g.kk) : isK a b c d f = isK a b c d g := by
  have := (kk_eq hf hg).1 h
  unfold isK
  rw [this.1, this.2.1, this.2.2.1, this.2.2.2]
/-- Past a line. -/
theorem smK_line {A : Nat → Fl} {n i j : Nat} {le sp : Int} (ok : ∀ k, k < n → (A k).ok) (kok : ∀ k, k < n → (A k).kok) (up : ∀ x y, x ≤ y → y < n → (A x).key ≤ (A y).key) (ij : i < j) (jn : j ≤ n) (h : cMat A le sp i j ≠ -1) (a b c d : Int) :
    smK A (isK a b c d) j = smK A (isK a b c d) i + (if isK a b c d (A i) = true then mas A i j else 0) ∧ smK A (fun _ => true) j = smK A (fun _ => true) i + mas A i j := by
  have hl : isLine A le sp i j := by
    apply Classical.byContradiction
    intro g
    apply h
    unfold cMat lnc
    rw [if_pos ij, if_neg g]
  have s : ∀ k, i ≤ k → k < i + (j - i) → (A k).kk = (A i).kk := fun k h1 h2 => kk_btw ok up h1 (show k ≤ j - 1 by omega) (by omega) hl.2.1
  have r1 := smK_run A (isK a b c d) i (j - i) (fun k h1 h2 => isK_kk (kok k (by omega)) (kok i (by omega)) (s k h1 h2))
  have r2 := smK_run A (fun _ => true) i (j - i) (fun k h1 h2 => rfl)
  rw [show i + (j - i) = j by omega] at r1 r2
  exact ⟨r1, by simpa using r2⟩
end Ce

/-- A line at x. -/
structure LnAt (w : World) (x : Addr) (s : Fl) (v : Value) (gr ce co : Int) : Prop where
  blk : x.block < w.heap.size
  c0 : w.cell? x = some (.int .u8 s.ka)
  c1 : w.cell? ⟨x.block, x.off + 1, none⟩ = some (.int .u8 s.kb)
  c2 : w.cell? ⟨x.block, x.off + 2, none⟩ = some (.int .u8 s.kc)
  c3 : w.cell? ⟨x.block, x.off + 3, none⟩ = some (.int .u8 s.kd)
  c4 : w.cell? ⟨x.block, x.off + 4, none⟩ = some v
  c5 : w.cell? ⟨x.block, x.off + 5, none⟩ = some (.int .i64 gr)
  c6 : w.cell? ⟨x.block, x.off + 6, none⟩ = some (.int .i64 ce)
  c7 : w.cell? ⟨x.block, x.off + 7, none⟩ = some (.int .i64 co)
theorem LnAt.below {w w' : World} {x : Addr} {s : Fl} {v : Value} {gr ce co : Int} (h : LnAt w x s v gr ce co) (b : Below w.heap.size w w') : LnAt w' x s v gr ce co := by
  have c : ∀ p : Addr, p.block = x.block → w'.cell? p = w.cell? p := fun p hp => by
    unfold World.cell?; rw [hp, b.block _ h.blk]
  exact ⟨Nat.lt_of_lt_of_le h.blk b.size, (c x rfl).trans h.c0, (c ⟨x.block, x.off + 1, none⟩ rfl).trans h.c1, (c ⟨x.block, x.off + 2, none⟩ rfl).trans h.c2, (c ⟨x.block, x.off + 3, none⟩ rfl).trans h.c3, (c ⟨x.block, x.off + 4, none⟩ rfl).trans h.c4, (c ⟨x.block, x.off + 5, none⟩ rfl).trans h.c5, (c ⟨x.block, x.off + 6, none⟩ rfl).trans h.c6, (c ⟨x.block, x.off + 7, none⟩ rfl).trans h.c7⟩
/-- A plan that is read: its lines, and the places in each. -/
def PlS (w : World) (p : Option Addr) (m : Nat) (A : Nat → Fl) (o : Nat → Int) (C : Nat → Nat → Int) (ps : Nat → Nat) : Prop :=
  ∀ t, t < m → ∃ (x : Addr) (q : Option Addr) (d : Nat), p = some x ∧ LnAt w (x.add (t * 8)) (A (ps t)) (.slice q (ps (t + 1) - ps t) d) (mas A (ps t) (ps (t + 1))) (cen A (ps t) (ps (t + 1))) (C (ps t) (ps (t + 1))) ∧ NmR w q (ps (t + 1) - ps t) (fun z => o (ps t + z))
theorem PlS.below {w w' : World} {p : Option Addr} {m : Nat} {A : Nat → Fl} {o : Nat → Int} {C : Nat → Nat → Int} {ps : Nat → Nat} (h : PlS w p m A o C ps) (b : Below w.heap.size w w') : PlS w' p m A o C ps := fun t ht => by
  obtain ⟨x, q, d, e, l, r⟩ := h t ht
  exact ⟨x, q, d, e, l.below b, r.below b⟩
theorem plL_at (A : Nat → Fl) (C : Nat → Nat → Int) (ps : Nat → Nat) (q d : Nat → Nat) : ∀ {t x k : Nat}, x < t → k < 8 → (plL A C ps q d t)[x * 8 + k]? = (lnL (A (ps x)) (.slice (some ⟨q x, 0, none⟩) (ps (x + 1) - ps x) (d x)) (mas A (ps x) (ps (x + 1))) (cen A (ps x) (ps (x + 1))) (C (ps x) (ps (x + 1))))[k]? := by
  have len : ∀ t, (plL A C ps q d t).length = t * 8 := fun t => by
    induction t with
    | zero => rfl
    | succ t ih =>
      have e : plL A C ps q d (t + 1) = plL A C ps q d t ++ lnL (A (ps t)) (.slice (some ⟨q t, 0, none⟩) (ps (t + 1) - ps t) (d t)) (mas A (ps t) (ps (t + 1))) (cen A (ps t) (ps (t + 1))) (C (ps t) (ps (t + 1))) := by
        unfold plL; rw [List.range_succ, List.flatMap_append]; simp
      rw [e, List.length_append, ih]
      simp [lnL]; omega
  intro t
  induction t with
  | zero => intro x k h; omega
  | succ t ih =>
    intro x k h hk
    have e : plL A C ps q d (t + 1) = plL A C ps q d t ++ lnL (A (ps t)) (.slice (some ⟨q t, 0, none⟩) (ps (t + 1) - ps t) (d t)) (mas A (ps t) (ps (t + 1))) (cen A (ps t) (ps (t + 1))) (C (ps t) (ps (t + 1))) := by
      unfold plL; rw [List.range_succ, List.flatMap_append]; simp
    rw [e]
    rcases Nat.lt_or_ge x t with g | g
    · rw [List.getElem?_append_left (by rw [len]; omega)]
      exact ih g hk
    · obtain rfl : x = t := by omega
      rw [List.getElem?_append_right (by rw [len]; omega), len, show x * 8 + k - x * 8 = k by omega]
theorem row_some {w : World} {base : Nat} {e : TypeId} {size : Nat} {v : Value} {n : Nat} {xs : List Value} (h : w.ownsRow base e size v n xs) (hn : 0 < n) : ∃ g c, v = .slice (some ⟨g, 0, none⟩) n c ∧ g < w.heap.size := by
  rcases h.2 with ⟨rfl, h0⟩ | ⟨q, cap, cur, rfl, hb, hq, r⟩
  · omega
  · exact ⟨q, cap, rfl, (Array.getElem?_eq_some_iff.1 hq).1⟩
theorem plS_of {base : Nat} {A : Nat → Fl} {o : Nat → Int} {C : Nat → Nat → Int} {ps : Nat → Nat} {t : Nat} {v : Value} {W : World} (h : PlR base A o C ps t v W) (h0 : 0 < t) (pos : ∀ x, x < t → ps x < ps (x + 1)) : ∃ (g c : Nat), v = .slice (some ⟨g, 0, none⟩) t c ∧ PlS W (some ⟨g, 0, none⟩) t A o C ps := by
  obtain ⟨q, d, a, r⟩ := h
  obtain ⟨g, c, rfl, gl⟩ := row_some a h0
  refine ⟨g, c, rfl, fun x hx => ⟨_, some ⟨q x, 0, none⟩, d x, rfl, ?_, ?_⟩⟩
  · have e : ∀ k, k < 8 → W.cell? ⟨g, x * 8 + k, none⟩ = (lnL (A (ps x)) (.slice (some ⟨q x, 0, none⟩) (ps (x + 1) - ps x) (d x)) (mas A (ps x) (ps (x + 1))) (cen A (ps x) (ps (x + 1))) (C (ps x) (ps (x + 1))))[k]? := fun k hk => by
      rw [a.cellAt (x * 8 + k) (by omega), plL_at A C ps q d hx hk]
    have ea : (⟨g, 0, none⟩ : Addr).add (x * 8) = ⟨g, x * 8, none⟩ := by
      unfold Addr.add; split
      · next z => rw [z]
      · simp
    rw [ea]
    exact ⟨gl, e 0 (by omega), e 1 (by omega), e 2 (by omega), e 3 (by omega), e 4 (by omega), e 5 (by omega), e 6 (by omega), e 7 (by omega)⟩
  · have rx := r x hx
    have := pos x hx
    obtain ⟨g', c', e', gl'⟩ := row_some rx (by omega)
    cases e'
    intro z hz
    have cz := rx.cellAt z (by omega)
    refine ⟨⟨q x, 0, none⟩, rfl, gl', ?_⟩
    rw [add0, cz]
    simp [hz]
end Go.Proofs.Ytmdhmpfagekonaa

/- Classing covers, plain: what a plan says of the places, the lines and the costs. -/
namespace Go.Proofs.Ytmdhmpfagekonaa
open Go.RowKit Go.Proofs.Ytmdhmpfagekonaa.Ct Go.Proofs.Ytmdhmpfagekonaa.Ce Go.Proofs.Ytmdhmpfagekonaa.Stb
set_option linter.unusedVariables false
set_option linter.unusedSimpArgs false

namespace Ce
/-- What the first lines cost together. -/
def smC (C : Nat → Nat → Int) (ps : Nat → Nat) : Nat → Int
  | 0 => 0
  | t + 1 => smC C ps t + C (ps t) (ps (t + 1))
theorem smC_rowK {C : Nat → Nat → Int} {n m : Nat} (h : rowK C n m 0 ≠ -1) : ∀ t, t ≤ m → smC C (pos C n m) t + rowK C n (m - t) (pos C n m t) = rowK C n m 0
  | 0, _ => by simp [smC, pos]
  | t + 1, ht => by
    have ih := smC_rowK h t (by omega)
    have r := (pos_ok h (t := t) (by omega)).1
    have e : m - t = (m - 1 - t) + 1 := by omega
    rw [e] at ih r
    obtain ⟨-, -, c⟩ := nxt_ok r
    have d := both_ne (a := C (pos C n m t) (nxt C n (m - 1 - t) (pos C n m t))) (b := rowK C n (m - 1 - t) (nxt C n (m - 1 - t) (pos C n m t))) (by rw [c]; exact r)
    show smC C (pos C n m) t + C (pos C n m t) (nxt C n (m - 1 - t) (pos C n m t)) + rowK C n (m - (t + 1)) (nxt C n (m - 1 - t) (pos C n m t)) = _
    rw [show m - (t + 1) = m - 1 - t by omega]
    unfold both at c
    rw [if_neg (fun h => h.elim d.1 d.2)] at c
    omega
theorem smC_bd {C : Nat → Nat → Int} {ps : Nat → Nat} {m : Nat} {M : Int} (h : ∀ t, t < m → 0 ≤ C (ps t) (ps (t + 1)) ∧ C (ps t) (ps (t + 1)) ≤ M) : ∀ t, t ≤ m → 0 ≤ smC C ps t ∧ smC C ps t ≤ M * t
  | 0, _ => by simp [smC]
  | t + 1, ht => by
    have ih := smC_bd h t (by omega)
    have c := h t (by omega)
    have e : M * ((t + 1 : Nat) : Int) = M * t + M := by rw [Int.natCast_add, Int.mul_add]; simp
    rw [e]
    show 0 ≤ smC C ps t + _ ∧ smC C ps t + _ ≤ _
    omega
/-- What holds of a line from i to below j. -/
structure LnF (A : Nat → Fl) (le sp : Int) (n i j : Nat) (co : Int) : Prop where
  ij : i < j
  jn : j ≤ n
  le : le ≤ mas A i j
  sp : (A (j - 1)).mic - (A i).mic ≤ sp
  up : ∀ x y, i ≤ x → x ≤ y → y < j → (A x).mic ≤ (A y).mic
  kin : ∀ k, i ≤ k → k < j → (A k).ka = (A i).ka ∧ (A k).kb = (A i).kb ∧ (A k).kc = (A i).kc ∧ (A k).kd = (A i).kd
  eq : co = offs A (Ce.cen A i j) i j
  ceb : 0 ≤ Ce.cen A i j ∧ Ce.cen A i j ≤ 20000
  bd : 0 ≤ co ∧ co ≤ 1503238553600000
theorem lnF_of {A : Nat → Fl} {n i j : Nat} {le sp : Int} (n1 : n ≤ 140) (ok : ∀ k, k < n → (A k).ok) (kok : ∀ k, k < n → (A k).kok) (up : ∀ x y, x ≤ y → y < n → (A x).key ≤ (A y).key) (ij : i < j) (jn : j ≤ n) (h : cMat A le sp i j ≠ -1) : LnF A le sp n i j (cMat A le sp i j) := by
  have bd := cMat_bd (A := A) (i := i) (le := le) (sp := sp) ok n1 jn
  have hl : isLine A le sp i j := by
    apply Classical.byContradiction
    intro g
    apply h
    unfold cMat lnc
    rw [if_pos ij, if_neg g]
  have s : ∀ k, i ≤ k → k < j → (A k).kk = (A i).kk := fun k h1 h2 => kk_btw ok up h1 (show k ≤ j - 1 by omega) (by omega) hl.2.1
  have ce := cenF_lt (A := A) (i := i) (k := j - i) (p := i) (j := j) (by omega) (by omega) (mas_bd ok jn).1
  refine ⟨ij, jn, hl.2.2.2, hl.2.2.1, fun x y ix xy yj => ?_, fun k h1 h2 => (kk_eq (kok k (by omega)) (kok i (by omega))).1 (s k h1 h2), ?_, ?_, ?_⟩
  · have a := s x ix (by omega)
    have b := s y (by omega) yj
    have c := up x y xy (by omega)
    unfold Fl.key at c
    omega
  · unfold cMat lnc
    rw [if_pos ij, if_pos hl]
  · have o := ok (cenP A i j) (by unfold cenP; omega)
    unfold Fl.ok at o
    unfold cen
    omega
  · omega
/-- Has place z come up in the first i? -/
def seenM (o : Nat → Int) (i z : Nat) : Bool := (List.range i).any fun t => decide (o t = (z : Int))
theorem seenM_add (o : Nat → Int) (i k z : Nat) : (seenM o i z || (List.range k).any fun t => decide (o (i + t) = (z : Int))) = seenM o (i + k) z := by
  unfold seenM
  rw [List.range_add, List.any_append, List.any_map]
  rfl
theorem seenM_no {o : Nat → Int} {n i : Nat} (inj : ∀ x y, x < y → y < n → o x ≠ o y) {x z : Nat} (ix : i ≤ x) (xn : x < n) (e : o x = (z : Int)) : seenM o i z = false := by
  unfold seenM
  rw [List.any_eq_false]
  intro t ht
  have := inj t x (by have := List.mem_range.1 ht; omega) xn
  rw [e] at this
  simpa using this
end Ce

/-- What an answer of Lines says of the places, the lines and the costs. -/
theorem cov_of {K n : Nat} {ls le sp : Int} {F : Nat → Fl} {w w' : World} {v : Value} (h : (v = .slice none 0 0 ∧ ((liV K ls le sp F n).2 ≠ 0 ∨ n = 0)) ∨ ((liV K ls le sp F n).2 = 0 ∧ n ≠ 0 ∧ flE ls le sp F n = 0 ∧ liK K le sp F n ≠ 0 ∧ PlR w.heap.size (inO F n) (gi (ordK (fun k => (F k).key) n)) (cMat (inO F n) le sp) (pos (cMat (inO F n) le sp) n (liK K le sp F n)) (liK K le sp F n) v w'))
    (e0 : (liV K ls le sp F n).2 = 0) (kok : ∀ k, k < n → (F k).kok) (n1 : n ≤ 140) :
    ∃ (pl : Option Addr) (cl m : Nat) (A : Nat → Fl) (o : Nat → Int) (C : Nat → Nat → Int) (ps : Nat → Nat), v = .slice pl m cl ∧ m ≤ 140 ∧ PlS w' pl m A o C ps ∧ ps 0 = 0 ∧ ps m = n ∧ smC C ps m = (liV K ls le sp F n).1 ∧ (∀ t, t < m → LnF A le sp n (ps t) (ps (t + 1)) (C (ps t) (ps (t + 1)))) ∧ (∀ k, k < n → 0 ≤ o k ∧ o k < n) ∧ (∀ k, A k = F (o k).toNat) ∧ (∀ x y, x < y → y < n → o x ≠ o y) ∧ (∀ k, k < n → (F k).ok) := by
  rcases h with ⟨rfl, h⟩ | ⟨-, n0, fe, k0, pr⟩
  · have z : n = 0 := by
      rcases h with h | h
      · exact absurd e0 h
      · exact h
    subst z
    refine ⟨none, 0, 0, fun _ => F 0, fun _ => 0, fun _ _ => 0, fun _ => 0, rfl, by omega, fun t ht => absurd ht (by omega), rfl, rfl, ?_, fun t ht => absurd ht (by omega), fun k hk => absurd hk (by omega), fun k => rfl, fun x y _ hk => absurd hk (by omega), fun k hk => absurd hk (by omega)⟩
    by_cases fz : flE ls le sp F 0 = 0
    · rw [liV_2 fz rfl]; rfl
    · rw [liV_1 fz]; rfl
  · obtain ⟨-, -, fok⟩ := flE_ok fe
    have ok := inO_ok fok
    have ko := inO_kok kok
    have h0 : rowK (cMat (inO F n) le sp) n (liK K le sp F n) 0 ≠ -1 := bst_hit (f := fun k => rowK (cMat (inO F n) le sp) n k 0) k0
    have ln := fun {t} (ht : t < liK K le sp F n) => pos_line (C := cMat (inO F n) le sp) (n := n) h0 ht
    have up := fun t (ht : t ≤ liK K le sp F n) => (pos_ok (C := cMat (inO F n) le sp) (n := n) h0 ht).2
    have grow : ∀ t, t ≤ liK K le sp F n → t ≤ pos (cMat (inO F n) le sp) n (liK K le sp F n) t := fun t => by
      induction t with
      | zero => intro _; exact Nat.zero_le _
      | succ t ih => intro ht; have := (ln (show t < _ by omega)).1; have := ih (by omega); omega
    obtain ⟨g, cl, rfl, ps⟩ := plS_of pr (by omega) (fun x hx => (ln hx).1)
    have O := ordK_ord (q := fun k => (F k).key) n
    refine ⟨_, cl, _, _, _, _, _, rfl, ?_, ps, rfl, pos_end h0, ?_, fun t ht => ?_, O.2.1, fun k => rfl, ?_, fok⟩
    · have := grow _ (Nat.le_refl _); have := up _ (Nat.le_refl _); omega
    · have := smC_rowK h0 _ (Nat.le_refl _)
      rw [Nat.sub_self, pos_end h0] at this
      rw [liV_4 fe n0 k0]
      unfold liK at this ⊢
      rw [← this]
      simp [rowK]
    · exact lnF_of n1 ok ko (fun x y xy yn => inO_le F n xy yn) (ln ht).1 (ln ht).2.1 (ln ht).2.2
    · exact O.2.2
end Go.Proofs.Ytmdhmpfagekonaa

/- Classing's lines: Curve. -/
namespace Go.Proofs.Ytmdhmpfagekonaa
open Go.RowKit Go.Proofs.Ytmdhmpfagekonaa.Ct Go.Proofs.Ytmdhmpfagekonaa.Ce Go.Proofs.Ytmdhmpfagekonaa.Stb
set_option linter.unusedVariables false
set_option linter.unusedSimpArgs false

/-- What Curve answers. -/
def CuQ (K : Nat) (ls le sp : Int) (F : Nat → Fl) (n : Nat) (w : World) (e : Ending) (w' : World) : Prop := ∃ v, e = .returned (.tuple #[v, .int .i64 (flE ls le sp F n)]) ∧ Below w.heap.size w w' ∧
  ((flE ls le sp F n ≠ 0 ∧ v = .slice none 0 0) ∨ (flE ls le sp F n = 0 ∧ ls = (K : Int) ∧ ∃ g, v = .slice (some ⟨g, 0, none⟩) K K ∧ w.heap.size ≤ g ∧ OB w' g 3 K (fun k => .int .i64 (rowK (cMat (inO F n) le sp) n (k + 1) 0))))

set_option maxRecDepth 100000 in
set_option maxHeartbeats 16000000 in
theorem Curve_any (p : Option Addr) (c n K : Nat) (F : Nat → Fl) (ls le sp : Int) (w : World) (r : FlR w p n F) (ln : n ≤ 140) (kok : ∀ k, k < n → (F k).kok) (hp : ∀ x, p = some x → x.block < w.heap.size) (hK : K = ls.toNat) :
    Calls Try.prog 17 #[.slice p n c, .agg #[.int .i64 ls, .int .i64 le, .int .i64 sp]] w (CuQ K ls le sp F n w) := by
  obtain ⟨i0, hi, hz0, hz1, hz2⟩ := info_parts intInfo
  have R := Lib.hid r
  have KOK := Lib.hid kok
  have HP := Lib.hid hp
  have HKK := Lib.hid hK
  have B1 := Lib.hid (show Below w.heap.size w (w.alloc (Obj.cells #[.int .i64 ls, .int .i64 le, .int .i64 sp] 24)) from (Below.refl _ _).alloc (Nat.le_refl _) _)
  have OS := Lib.hid (spBx w ls le sp)
  clear r kok hp hK
  go_enter Try.func17, Try.ntmps17
  go_upto_region 1 with fail
  generalize (w.alloc (Obj.cells #[.int .i64 ls, .int .i64 le, .int .i64 sp] 24)) = wa at *
  have s0 : wa.cell? ⟨w.heap.size, 0, none⟩ = some (.int .i64 ls) := OS.out.cell (k := 0) (by decide)
  have s1 : wa.cell? ⟨w.heap.size, 1, none⟩ = some (.int .i64 le) := OS.out.cell (k := 1) (by decide)
  have s2 : wa.cell? ⟨w.heap.size, 2, none⟩ = some (.int .i64 sp) := OS.out.cell (k := 2) (by decide)
  have C1 := Lib.hid (check_any p c n F ls le sp wa (R.out.below B1.out) (by omega))
  go_wp2_with fail
  refine C1.out.mono ?_
  rintro e w1 ⟨rfl, b1⟩
  have HB := Lib.hid (B1.out.trans (b1.mono B1.out.size))
  have OS1 := Lib.hid (OS.out.below b1)
  clear b1 C1 s0 s1 s2 OS B1
  by_cases z1 : flE ls le sp F n = 0
  case neg =>
    have d1 : (flE ls le sp F n == 0) = false := by simpa using z1
    have FN := Lib.hid (show CuQ K ls le sp F n w (.returned (.tuple #[.slice none 0 0, .int .i64 (flE ls le sp F n)])) w1 from ⟨_, rfl, HB.out, .inl ⟨z1, rfl⟩⟩)
    clear z1
    generalize flE ls le sp F n = x at *
    go_wp2_with fail
    go_ret2
    exact FN.out
  have Z1 := Lib.hid z1
  obtain ⟨n128, so, fok⟩ := flE_ok z1
  have FOK := Lib.hid fok
  have SO := Lib.hid so
  rw [z1]
  have eK : ls = (K : Int) := by have := HKK.out; have := so.1; omega
  have KB := Lib.hid (show 1 ≤ K ∧ K ≤ 16 from by have := so.1; omega)
  clear z1 fok so
  clear HKK SO
  subst eK
  have s0 : w1.cell? ⟨w.heap.size, 0, none⟩ = some (.int .i64 (K : Int)) := OS1.out.cell (k := 0) (by decide)
  have s1 : w1.cell? ⟨w.heap.size, 1, none⟩ = some (.int .i64 le) := OS1.out.cell (k := 1) (by decide)
  have s2 : w1.cell? ⟨w.heap.size, 2, none⟩ = some (.int .i64 sp) := OS1.out.cell (k := 2) (by decide)
  have C3 := Lib.hid (sorted_any p c n F (K : Int) le sp w1 (R.out.below HB.out) ln FOK.out KOK.out (fun x hx => Nat.lt_of_lt_of_le (HP.out x hx) HB.out.size))
  go_wp2_with fail
  refine C3.out.mono ?_
  rintro e w3 ⟨gp, gf, gc, rfl, qp, qf, qc, b1, -⟩
  replace HB := Lib.hid (HB.out.trans (b1.mono HB.out.size))
  replace OS1 := Lib.hid (OS1.out.below b1)
  clear b1 C3 s0 s1 s2
  have OC := Lib.hid (ob_cl w3 (K : Int) le sp (.slice (some ⟨gp, 0, none⟩) n n) (.slice (some ⟨gf, 0, none⟩) n n) (.slice (some ⟨gc, 0, none⟩) n n) 67)
  have B2 : Below w3.heap.size w3 (w3.alloc (Obj.cells #[.int .i64 (K : Int), .int .i64 le, .int .i64 sp, .slice (some ⟨gp, 0, none⟩) n n, .slice (some ⟨gf, 0, none⟩) n n, .slice (some ⟨gc, 0, none⟩) n n] 67)) := (Below.refl _ _).alloc (Nat.le_refl _) _
  have QP := Lib.hid (qp.below B2)
  have QF := Lib.hid (qf.below B2)
  have QC := Lib.hid (qc.below B2)
  replace OS1 := Lib.hid (OS1.out.below B2)
  replace HB := Lib.hid (HB.out.trans (B2.mono HB.out.size))
  clear qp qf qc B2
  unfold clV
  go_upto_region 5 with fail
  generalize (w3.alloc (Obj.cells #[.int .i64 (K : Int), .int .i64 le, .int .i64 sp, .slice (some ⟨gp, 0, none⟩) n n, .slice (some ⟨gf, 0, none⟩) n n, .slice (some ⟨gc, 0, none⟩) n n] 67)) = wb at *
  have s0 : wb.cell? ⟨w.heap.size, 0, none⟩ = some (.int .i64 (K : Int)) := OS1.out.cell (k := 0) (by decide)
  have kb := KB.out
  go_upto_region 6 with (first
    | (at_make; refine wpList_make_full _ rfl _ _ 36 rfl wb.heap.size 3 i0 (.int .i64 0) 1 Try.underlying36 hi hz0 hz1 .i64 .i64 _ _ K rfl rfl (by omega) (by omega) (by rw [hz2]; omega) (by unfold maxLen; omega) (Nat.le_refl _) ?_; intro wc hown hgrow))
  have OL := Lib.hid (show OB wc wb.heap.size 3 K (fun z => .int .i64 (if z < 0 then rowK (cMat (inO F n) le sp) n (z + 1) 0 else 0)) from by
    have h3 := hown
    have h2 : (madeCells (Value.int .i64 0).cells (K * 1)).toList = (List.range (K * 1)).map fun _ => Value.int .i64 0 := by rw [Nat.mul_one, madeInts]
    rw [h2] at h3
    have := OB.of (m := 1) (c := fun _ => Value.int .i64 0) h3
    rw [Nat.mul_one] at this
    exact this.ext fun k _ => by rw [if_neg (by omega)])
  have B3 := Lib.hid (show Below wb.heap.size wb wc from (Below.refl _ _).grown hgrow (Nat.le_refl _) (fun k e => by cases e))
  clear hown hgrow s0 hi hz0 hz1 hz2 i0 kb
  replace HB := Lib.hid (HB.out.trans (B3.out.mono HB.out.size))
  replace OC := Lib.hid (OC.out.below B3.out)
  replace QC := Lib.hid (QC.out.below B3.out)
  have GL := Lib.hid (show w.heap.size ≤ wb.heap.size from by have := OS1.out.lt; omega)
  obtain ⟨gC, hgC⟩ : ∃ g, g = wb.heap.size := ⟨_, rfl⟩
  rw [← hgC] at OL GL ⊢
  clear B3 OS1 QP QF hgC
  have k0 : wc.cell? ⟨w3.heap.size, 0, none⟩ = some (.int .i64 (K : Int)) := OC.out.cell (k := 0) (by decide)
  have k1 : wc.cell? ⟨w3.heap.size, 1, none⟩ = some (.int .i64 le) := OC.out.cell (k := 1) (by decide)
  have k2 : wc.cell? ⟨w3.heap.size, 2, none⟩ = some (.int .i64 sp) := OC.out.cell (k := 2) (by decide)
  have k3 : wc.cell? ⟨w3.heap.size, 3, none⟩ = some (.slice (some ⟨gp, 0, none⟩) n n) := OC.out.cell (k := 3) (by decide)
  have k4 : wc.cell? ⟨w3.heap.size, 4, none⟩ = some (.slice (some ⟨gf, 0, none⟩) n n) := OC.out.cell (k := 4) (by decide)
  have k5 : wc.cell? ⟨w3.heap.size, 5, none⟩ = some (.slice (some ⟨gc, 0, none⟩) n n) := OC.out.cell (k := 5) (by decide)
  generalize w3.heap.size = gb at *
  have BD := Lib.hid (fun (a j : Nat) (h : j ≤ n) => cMat_bd (A := inO F n) (n := n) (i := a) (j := j) (le := le) (sp := sp) (inO_ok FOK.out) ln h)
  have CLc := Lib.hid (leastCosts_any le sp (some ⟨gp, 0, none⟩) (some ⟨gf, 0, none⟩) (some ⟨gc, 0, none⟩) n n n n n K (cMat (inO F n) le sp) wc QC.out ln KB.out 1503238553600000 (by omega) BD.out)
  unfold clV at CLc
  go_upto_region 6 with fail
  go_wp2_with fail
  refine CLc.out.mono ?_
  rintro e w4 ⟨gR, rfl, qr, b1, nr, ng⟩
  have QR := Lib.hid qr
  replace HB := Lib.hid (HB.out.trans (b1.mono HB.out.size))
  have OL4 := Lib.hid (OL.out.below b1)
  have GC := Lib.hid (OL.out.lt)
  have NR := Lib.hid nr
  have NG := Lib.hid ng
  clear b1 CLc k0 k1 k2 k3 k4 k5 qr nr ng QC OC BD
  have kb := KB.out
  have i1 : decide ((1 : Int) < 0) = false := by decide
  go_wp2_with fail
  have RB := Lib.hid (rowK_bd (C := cMat (inO F n) le sp) (n := n) (M := 1503238553600000) (by omega) (fun i j _ h => cMat_bd (inO_ok FOK.out) ln h))
  go_loopw [9, 10, 27] (fun _ _ kv wr => ∃ k : Nat, k ≤ K ∧ kv = .int .i64 (k : Int) ∧ Hid (OB wr gC 3 K (fun z => .int .i64 (if z < k then rowK (cMat (inO F n) le sp) n (z + 1) 0 else 0))) ∧ Hid (Fm (fun y => y = gC) w4 wr)) (fun _ _ kv _ => K - (intOf kv).toNat)
  case atStart => exact ⟨0, Nat.zero_le _, rfl, OL4, Lib.hid (Fm.refl _ _)⟩
  case round =>
    obtain ⟨k, hk, rfl, OW, FW⟩ := hrel
    by_cases t1 : k < K
    case pos =>
      have k1 : (0 : Int) ≤ (k : Int) := by omega
      have k2 : (k : Int) < (K : Int) := by omega
      obtain ⟨gi, cg, lg⟩ := NG.out (k + 1) (by omega)
      obtain ⟨y1, d1, r1, v1⟩ := QR.out.at (i := k + 1) (j := 0) (by omega) (by omega) rfl
      rw [cg] at r1
      cases r1
      have gne : ¬ gi = gC := by have := GC.out; omega
      have gRe : ¬ gR = gC := by have := GC.out; have := NR.out; omega
      have fk : ∀ a : Addr, ¬ a.block = gC → a.block < w4.heap.size → wr.cell? a = w4.cell? a := fun a h1 h2 => by
        unfold World.cell?; rw [FW.out.block _ h2 h1]
      have hlt : ∀ {a : Addr} {v : Value}, w4.cell? a = some v → a.block < w4.heap.size := fun {a v} h => by
        unfold World.cell? at h
        by_cases q : a.block < w4.heap.size
        · exact q
        · rw [Array.getElem?_eq_none (by omega)] at h; simp at h
      have c1 : wr.cell? ⟨gR, k + 1, none⟩ = some (.slice (some ⟨gi, 0, none⟩) (n + 1) (n + 1)) := (fk _ gRe (hlt cg)).trans cg
      have v1 : w4.cell? ⟨gi, 0, none⟩ = some (.int .i64 (rowK (cMat (inO F n) le sp) n (k + 1) 0)) := v1
      have c2 : wr.cell? ⟨gi, 0, none⟩ = some (.int .i64 (rowK (cMat (inO F n) le sp) n (k + 1) 0)) := (fk _ gne (hlt v1)).trans v1
      have c1' : wr.cell? ⟨gR, 1 + k, none⟩ = some (.slice (some ⟨gi, 0, none⟩) (n + 1) (n + 1)) := by rw [Nat.add_comm]; exact c1
      have fz := OW.out.frozen k
      obtain ⟨vz, cz⟩ : ∃ v, wr.cell? ⟨gC, k, none⟩ = some v := ⟨_, OW.out.cell t1⟩
      have OW2 := Lib.hid (show OB (wr.setCell ⟨gC, k, none⟩ (.int .i64 (rowK (cMat (inO F n) le sp) n (k + 1) 0))) gC 3 K (fun z => .int .i64 (if z < k + 1 then rowK (cMat (inO F n) le sp) n (z + 1) 0 else 0)) from by
        refine (OW.out.set k _).ext fun z _ => ?_
        unfold updV
        by_cases e : z = k
        · rw [if_pos e, e, if_pos (by omega)]
        · rw [if_neg e]
          show Value.int .i64 (if z < k then _ else 0) = _
          by_cases g : z < k
          · rw [if_pos g, if_pos (by omega)]
          · rw [if_neg g, if_neg (by omega)])
      have FW2 := Lib.hid (FW.out.trans (Fm.set (M := fun y => y = gC) ⟨gC, k, none⟩ (.int .i64 (rowK (cMat (inO F n) le sp) n (k + 1) 0)) rfl))
      have i5 : (0 : Int) < (n : Int) + 1 := by omega
      have i5' : (0 : Int) < ((n + 1 : Nat) : Int) := by omega
      clear fk hlt cg
      generalize rowK (cMat (inO F n) le sp) n (k + 1) 0 = u at *
      go_wp2_with fail
      go_roundw
      case rel => exact ⟨k + 1, by omega, by go_num, OW2, FW2⟩
      case measure => simp [intOf]; omega
    obtain rfl : k = K := by omega
    have k3 : ¬ ((k : Int) < (k : Int)) := by omega
    have FN := Lib.hid (show CuQ k (k : Int) le sp F n w (.returned (.tuple #[.slice (some ⟨gC, 0, none⟩) k k, .int .i64 0])) wr from by
      refine ⟨_, by rw [Z1.out], HB.out.trans (FW.out.below (fun y hy e => by have := GL.out; omega) HB.out.size), .inr ⟨Z1.out, rfl, gC, rfl, GL.out, OW.out.ext fun z hz => by rw [if_pos hz]⟩⟩)
    go_wp2_with fail
    go_ret2
    exact FN.out
end Go.Proofs.Ytmdhmpfagekonaa

/- Classing's cheapest, plain: no division costs less than the plan's, nor less with a price than Price says. -/
namespace Go.Proofs.Ytmdhmpfagekonaa
open Go.RowKit Go.Proofs.Ytmdhmpfagekonaa.Ct Go.Proofs.Ytmdhmpfagekonaa.Ce Go.Proofs.Ytmdhmpfagekonaa.Stb
set_option linter.unusedVariables false
set_option linter.unusedSimpArgs false

namespace Ce
theorem cst_step {C : Nat → Nat → Int} {L : Nat → Int} {m t : Nat} (tm : t < m) (h : cst C L m ≠ -1) : cst C L (t + 1) = cst C L t + C (sm L t).toNat (sm L (t + 1)).toNat ∧ C (sm L t).toNat (sm L (t + 1)).toNat ≠ -1 := by
  have c1 : cst C L (t + 1) ≠ -1 := fun z => h (by
    obtain ⟨k, rfl⟩ : ∃ k, m = (t + 1) + k := ⟨m - (t + 1), by omega⟩
    exact cst_neg z k)
  have c3 := both_ne (a := cst C L t) (b := C (sm L t).toNat (sm L (t + 1)).toNat) c1
  exact ⟨both_pos c3.1 c3.2, c3.2⟩
/-- A division that there is costs no less than the least of so many lines. -/
theorem div_rowK {C : Nat → Nat → Int} {n m : Nat} {L : Nat → Int} {M : Int} (m0 : 0 ≤ M) (hC : ∀ i j, i < j → j ≤ n → -1 ≤ C i j ∧ C i j ≤ M) (hL : ∀ t, t < m → 1 ≤ L t ∧ L t ≤ n - sm L t) (e : sm L m = n) (h : cst C L m ≠ -1) : ∀ d t, t + d = m → rowK C n d (sm L t).toNat ≠ -1 ∧ cst C L t + rowK C n d (sm L t).toNat ≤ cst C L m
  | 0, t, ht => by
    obtain rfl : t = m := by omega
    rw [e]; simp [rowK]
  | d + 1, t, ht => by
    have ih := div_rowK m0 hC hL e h d (t + 1) (by omega)
    have s0 := sm_bd hL (t := t) (by omega)
    have s1 := sm_bd hL (t := t + 1) (by omega)
    have b := hL t (by omega)
    have st : sm L (t + 1) = sm L t + L t := rfl
    obtain ⟨c4, c5⟩ := cst_step (C := C) (L := L) (m := m) (t := t) (by omega) h
    have ab : (sm L t).toNat < (sm L (t + 1)).toNat := by omega
    have bn : (sm L (t + 1)).toNat ≤ n := by omega
    have hc := hC _ _ ab bn
    have hr := rowK_bd m0 hC d (sm L (t + 1)).toNat
    generalize (sm L t).toNat = a at *
    generalize (sm L (t + 1)).toNat = g at *
    have bp := both_pos c5 ih.1
    have l := lfm_le (c := C a) (r := rowK C n d) (i := a) (m := n - a) (j := g) ab (by omega) (by rw [bp]; have := ih.1; omega)
    rw [bp] at l
    show lfm (C a) (rowK C n d) a (n - a) ≠ -1 ∧ cst C L t + lfm (C a) (rowK C n d) a (n - a) ≤ _
    exact ⟨l.1, by have := ih.2; omega⟩
/-- The rests with a price, told by themselves. -/
theorem prc_at {C : Nat → Nat → Int} {p : Int} {n : Nat} : ∀ k, k ≤ n → ∀ j, n - k ≤ j → j < n → prc C p n k j = both (lfm (C j) (prc C p n k) j (n - j)) p
  | 0, _, j, a, b => by omega
  | k + 1, hk, j, a, b => by
    have ih := prc_at (C := C) (p := p) (n := n) k (by omega) j
    have up : ∀ x, x ≠ n - 1 - k → prc C p n (k + 1) x = prc C p n k x := fun x hx => by
      show upF _ _ _ x = _
      unfold upF; rw [if_neg hx]
    have cg := lfm_congr_r (c := C j) (r := prc C p n k) (r' := prc C p n (k + 1)) j (n - j) (fun x h1 h2 => (up x (by omega)).symm)
    rw [← cg]
    by_cases q : j = n - 1 - k
    · show upF _ _ _ j = _
      unfold upF
      rw [if_pos q, ← q, show k + 1 = n - j by omega]
    · rw [up j q]
      exact ih (by omega) b
theorem prc_end {C : Nat → Nat → Int} {p : Int} {n : Nat} : ∀ k, k ≤ n → prc C p n k n = 0
  | 0, _ => rfl
  | k + 1, h => by
    show upF _ _ _ n = 0
    unfold upF
    rw [if_neg (by omega)]
    exact prc_end k (by omega)
theorem div_prc {C : Nat → Nat → Int} {n m : Nat} {L : Nat → Int} {M p : Int} (m0 : 0 ≤ M) (p0 : 0 ≤ p) (hC : ∀ i j, i < j → j ≤ n → -1 ≤ C i j ∧ C i j ≤ M) (hL : ∀ t, t < m → 1 ≤ L t ∧ L t ≤ n - sm L t) (e : sm L m = n) (h : cst C L m ≠ -1) : ∀ d t, t + d = m → prc C p n n (sm L t).toNat ≠ -1 ∧ cst C L t + p * t + prc C p n n (sm L t).toNat ≤ cst C L m + p * m
  | 0, t, ht => by
    obtain rfl : t = m := by omega
    rw [e, Int.toNat_natCast, prc_end n (Nat.le_refl n)]; simp
  | d + 1, t, ht => by
    have ih := div_prc m0 p0 hC hL e h d (t + 1) (by omega)
    have s0 := sm_bd hL (t := t) (by omega)
    have s1 := sm_bd hL (t := t + 1) (by omega)
    have b := hL t (by omega)
    have st : sm L (t + 1) = sm L t + L t := rfl
    obtain ⟨c4, c5⟩ := cst_step (C := C) (L := L) (m := m) (t := t) (by omega) h
    have ab : (sm L t).toNat < (sm L (t + 1)).toNat := by omega
    have bn : (sm L (t + 1)).toNat ≤ n := by omega
    have hc := hC _ _ ab bn
    have hp := prc_bd (C := C) (p := p) (n := n) m0 p0 hC n (Nat.le_refl n)
    have hr := hp (sm L (t + 1)).toNat
    have pe : p * ((t + 1 : Nat) : Int) = p * t + p := by rw [Int.natCast_add, Int.mul_add]; simp
    rw [pe] at ih
    generalize (sm L t).toNat = a at *
    generalize (sm L (t + 1)).toNat = g at *
    have bp := both_pos c5 ih.1
    have l := lfm_le (c := C a) (r := prc C p n n) (i := a) (m := n - a) (j := g) ab (by omega) (by rw [bp]; have := ih.1; omega)
    rw [bp] at l
    have z : 0 ≤ (M + p) * (n : Int) := Int.mul_nonneg (by omega) (by omega)
    have lb := lfm_bd (c := C a) (r := prc C p n n) a m0 z (n - a) (fun k h1 h2 => hC a k h1 (by omega)) (fun k _ _ => hp k)
    have at' := prc_at (C := C) (p := p) n (Nat.le_refl n) a (by omega) (by omega)
    rw [both_pos l.1 (by omega)] at at'
    rw [at']
    refine ⟨by have := l.1; omega, by have := ih.2; omega⟩
/-- The plan's own lengths. -/
theorem own_cst {C : Nat → Nat → Int} {ps : Nat → Nat} {m : Nat} {M : Int} (p0 : ps 0 = 0) (up : ∀ t, t < m → ps t < ps (t + 1)) (ne : ∀ t, t < m → 0 ≤ C (ps t) (ps (t + 1)) ∧ C (ps t) (ps (t + 1)) ≤ M) : ∀ t, t ≤ m → sm (fun t => ((ps (t + 1) - ps t : Nat) : Int)) t = (ps t : Nat) ∧ cst C (fun t => ((ps (t + 1) - ps t : Nat) : Int)) t = smC C ps t
  | 0, _ => by simp [sm, cst, smC, p0]
  | t + 1, ht => by
    have ih := own_cst p0 up ne t (by omega)
    have u := up t (by omega)
    have b := smC_bd (C := C) (ps := ps) (m := m) ne t (by omega)
    have c := ne t (by omega)
    have s : sm (fun t => ((ps (t + 1) - ps t : Nat) : Int)) (t + 1) = (ps (t + 1) : Nat) := by
      show sm _ t + ((ps (t + 1) - ps t : Nat) : Int) = _
      rw [ih.1]; omega
    refine ⟨s, ?_⟩
    show both (cst C _ t) (C (sm _ t).toNat (sm _ (t + 1)).toNat) = smC C ps t + C (ps t) (ps (t + 1))
    rw [s, ih.1, ih.2, Int.toNat_natCast, Int.toNat_natCast]
    exact both_pos (by omega) (by omega)
theorem own_ln {ps : Nat → Nat} {m n : Nat} (m1 : ¬ 128 < m) (up : ∀ t, t < m → ps t < ps (t + 1) ∧ ps (t + 1) ≤ n) (s : ∀ t, t ≤ m → sm (fun t => ((ps (t + 1) - ps t : Nat) : Int)) t = (ps t : Nat)) (e : ps m = n) : lnE (fun t => ((ps (t + 1) - ps t : Nat) : Int)) m n = 0 :=
  lnE_0 m1 (fun t ht => by
    rw [s t (by omega)]
    have := up t ht
    show 1 ≤ ((ps (t + 1) - ps t : Nat) : Int) ∧ ((ps (t + 1) - ps t : Nat) : Int) ≤ _
    omega) (by rw [s m (Nat.le_refl m), e])
/-- The least of the first i that there are, or -1. -/
def lv (f : Nat → Int) : Nat → Int
  | 0 => -1
  | i + 1 => if lss (f (i + 1)) (lv f i) then f (i + 1) else lv f i
theorem lv_bst {f : Nat → Int} (f0 : f 0 = -1) : ∀ i, lv f i = f (bst f i)
  | 0 => f0.symm
  | i + 1 => by
    have ih := lv_bst f0 i
    unfold lv bst
    rw [ih]
    split <;> rfl
theorem coV_ok {ls le sp : Int} {F : Nat → Fl} {n : Nat} {L : Nat → Int} {m : Nat} (h : (coV ls le sp F n L m).2 = 0) : flE ls le sp F n = 0 ∧ lnE L m n = 0 ∧ (m : Int) ≤ ls ∧ cst (cMat (inO F n) le sp) L m ≠ -1 ∧ (coV ls le sp F n L m).1 = cst (cMat (inO F n) le sp) L m := by
  by_cases h1 : flE ls le sp F n = 0
  · by_cases h2 : lnE L m n = 0
    · by_cases h3 : ls < m
      · rw [coV_3 h1 h2 h3] at h; exact absurd h (by decide)
      · by_cases h4 : cst (cMat (inO F n) le sp) L m = -1
        · rw [coV_4 h1 h2 h3 h4] at h; exact absurd h (by decide)
        · exact ⟨h1, h2, by omega, h4, by rw [coV_5 h1 h2 h3 h4]⟩
    · rw [coV_2 h1 h2] at h; exact absurd h h2
  · rw [coV_1 h1] at h; exact absurd h h1
section
variable {ls le sp : Int} {F : Nat → Fl} {n K : Nat}
theorem cM_bd (h : flE ls le sp F n = 0) : ∀ i j, i < j → j ≤ n → -1 ≤ cMat (inO F n) le sp i j ∧ cMat (inO F n) le sp i j ≤ 1503238553600000 := fun i j _ hj => by
  obtain ⟨a, -, c⟩ := flE_ok h
  exact cMat_bd (inO_ok c) (by omega) hj
/-- Where Lines finds no plan there is no division. -/
theorem che_bad (hK : K = ls.toNat) (h : (liV K ls le sp F n).2 ≠ 0) : (liV K ls le sp F n).1 = 0 ∧ ∀ L m, (coV ls le sp F n L m).2 ≠ 0 := by
  by_cases fe : flE ls le sp F n = 0
  · by_cases n0 : n = 0
    · rw [liV_2 fe n0] at h; exact absurd rfl h
    · by_cases b : bst (fun k => rowK (cMat (inO F n) le sp) n k 0) K = 0
      · refine ⟨by rw [liV_3 fe n0 b], fun L m z => ?_⟩
        obtain ⟨-, h2, h3, h4, -⟩ := coV_ok z
        obtain ⟨-, hL, e⟩ := lnE_ok h2
        have d := div_rowK (C := cMat (inO F n) le sp) (M := 1503238553600000) (by omega) (cM_bd fe) hL e h4 m 0 (by omega)
        have a := bst_all (f := fun k => rowK (cMat (inO F n) le sp) n k 0) (K := K) (k := m) (by omega) d.1
        rw [b] at a
        apply a.1
        show (if 0 = n then 0 else -1) = (-1 : Int)
        rw [if_neg (by omega)]
      · rw [liV_4 fe n0 b] at h; exact absurd rfl h
  · rw [liV_1 fe]
    exact ⟨rfl, fun L m => by rw [coV_1 fe]; exact fe⟩
/-- No division costs less. -/
theorem che_good (hK : K = ls.toNat) (h : (liV K ls le sp F n).2 = 0) {L : Nat → Int} {m : Nat} (z : (coV ls le sp F n L m).2 = 0) : (liV K ls le sp F n).1 ≤ (coV ls le sp F n L m).1 ∧ 0 ≤ (coV ls le sp F n L m).1 ∧ (coV ls le sp F n L m).1 ≤ 1503238553600000 * 128 ∧ m ≤ 128 := by
  obtain ⟨fe, h2, h3, h4, h5⟩ := coV_ok z
  obtain ⟨m1, hL, e⟩ := lnE_ok h2
  have bd := cst_bd (C := cMat (inO F n) le sp) (L := L) (m := m) (n := n) (M := 1503238553600000) (by omega) hL (fun i j hj => by
    obtain ⟨a, -, c⟩ := flE_ok fe
    exact cMat_bd (inO_ok c) (by omega) hj) (Nat.le_refl m)
  rw [h5]
  refine ⟨?_, by omega, by omega, m1⟩
  by_cases n0 : n = 0
  · rw [liV_2 fe n0]; show 0 ≤ _; omega
  · by_cases b : bst (fun k => rowK (cMat (inO F n) le sp) n k 0) K = 0
    · rw [liV_3 fe n0 b] at h; exact absurd h (by decide)
    · have d := div_rowK (C := cMat (inO F n) le sp) (M := 1503238553600000) (by omega) (cM_bd fe) hL e h4 m 0 (by omega)
      have a := bst_all (f := fun k => rowK (cMat (inO F n) le sp) n k 0) (K := K) (k := m) (by omega) d.1
      rw [liV_4 fe n0 b]
      have d2 := d.2
      simp only [cst, sm, Int.toNat_zero] at d2
      have a2 := a.2
      dsimp only at a2 ⊢
      omega
/-- No division is cheaper with a price on each line than Price says. -/
theorem che_price {p : Int} (hp : 0 ≤ p ∧ p ≤ 1125899906842624) {L : Nat → Int} {m : Nat} (z : (coV ls le sp F n L m).2 = 0) : (prV ls le sp F n p).2 = 0 ∧ (prV ls le sp F n p).1 ≤ (coV ls le sp F n L m).1 + p * m := by
  obtain ⟨fe, h2, h3, h4, h5⟩ := coV_ok z
  obtain ⟨m1, hL, e⟩ := lnE_ok h2
  have d := div_prc (C := cMat (inO F n) le sp) (p := p) (M := 1503238553600000) (by omega) hp.1 (cM_bd fe) hL e h4 m 0 (by omega)
  simp only [cst, sm, Int.toNat_zero, Int.natCast_zero, Int.mul_zero] at d
  rw [h5, prV_4 fe hp d.1]
  exact ⟨rfl, by have := d.2; dsimp only; omega⟩
end
end Ce

/-- What an answer of Lines says of the costs. -/
theorem che_of {K n : Nat} {ls le sp : Int} {F : Nat → Fl} {w w' : World} {v : Value} (h : (v = .slice none 0 0 ∧ ((liV K ls le sp F n).2 ≠ 0 ∨ n = 0)) ∨ ((liV K ls le sp F n).2 = 0 ∧ n ≠ 0 ∧ flE ls le sp F n = 0 ∧ liK K le sp F n ≠ 0 ∧ PlR w.heap.size (inO F n) (gi (ordK (fun k => (F k).key) n)) (cMat (inO F n) le sp) (pos (cMat (inO F n) le sp) n (liK K le sp F n)) (liK K le sp F n) v w'))
    (e0 : (liV K ls le sp F n).2 = 0) (hK : K = ls.toNat) :
    ∃ (pl : Option Addr) (cl m : Nat) (ps : Nat → Nat) (C : Nat → Nat → Int) (A : Nat → Fl) (o : Nat → Int), v = .slice pl m cl ∧ m ≤ K ∧ K ≤ 16 ∧ ls = K ∧ (m = 0 ↔ n = 0) ∧ PlS w' pl m A o C ps ∧ (∀ t, t < m → ps t < ps (t + 1) ∧ ps (t + 1) ≤ n) ∧ coV ls le sp F n (fun t => ((ps (t + 1) - ps t : Nat) : Int)) m = ((liV K ls le sp F n).1, 0) ∧ (n ≠ 0 → m ≠ 0 ∧ rowK (cMat (inO F n) le sp) n m 0 = (liV K ls le sp F n).1 ∧ lv (fun k => rowK (cMat (inO F n) le sp) n k 0) K = (liV K ls le sp F n).1) := by
  have fe : flE ls le sp F n = 0 := by
    by_cases fz : flE ls le sp F n = 0
    · exact fz
    · rw [liV_1 fz] at e0; exact absurd e0 fz
  obtain ⟨n128, so, fok⟩ := flE_ok fe
  have so1 := so.1
  rcases h with ⟨rfl, h⟩ | ⟨-, n0, -, k0, pr⟩
  · have z : n = 0 := by
      rcases h with h | h
      · exact absurd e0 h
      · exact h
    subst z
    refine ⟨none, 0, 0, fun _ => 0, fun _ _ => 0, F, fun _ => 0, rfl, Nat.zero_le _, by omega, by omega, by simp, fun t ht => absurd ht (by omega), fun t ht => absurd ht (by omega), ?_, fun q => absurd rfl q⟩
    rw [liV_2 fe rfl, coV_5 fe (lnE_0 (by omega) (fun t ht => absurd ht (by omega)) (by rfl)) (by omega) (by simp [cst])]
    rfl
  · have h0 : rowK (cMat (inO F n) le sp) n (liK K le sp F n) 0 ≠ -1 := bst_hit (f := fun k => rowK (cMat (inO F n) le sp) n k 0) k0
    have ln := fun {t} (ht : t < liK K le sp F n) => pos_line (C := cMat (inO F n) le sp) (n := n) h0 ht
    obtain ⟨g, cl, rfl, ps⟩ := plS_of pr (by omega) (fun x hx => (ln hx).1)
    have le' : liK K le sp F n ≤ K := bst_le (fun k => rowK (cMat (inO F n) le sp) n k 0) K
    have ne : ∀ t, t < liK K le sp F n → 0 ≤ cMat (inO F n) le sp (pos (cMat (inO F n) le sp) n (liK K le sp F n) t) (pos (cMat (inO F n) le sp) n (liK K le sp F n) (t + 1)) ∧ cMat (inO F n) le sp (pos (cMat (inO F n) le sp) n (liK K le sp F n) t) (pos (cMat (inO F n) le sp) n (liK K le sp F n) (t + 1)) ≤ 1503238553600000 := fun t ht => by
      have a := ln ht
      have b := cM_bd fe _ _ a.1 a.2.1
      have := a.2.2
      omega
    have oc := own_cst (C := cMat (inO F n) le sp) (ps := pos (cMat (inO F n) le sp) n (liK K le sp F n)) (m := liK K le sp F n) rfl (fun t ht => (ln ht).1) ne
    have sr := smC_rowK h0 _ (Nat.le_refl _)
    rw [Nat.sub_self, pos_end h0] at sr
    have sr2 : smC (cMat (inO F n) le sp) (pos (cMat (inO F n) le sp) n (liK K le sp F n)) (liK K le sp F n) = rowK (cMat (inO F n) le sp) n (liK K le sp F n) 0 := by
      rw [← sr]; simp [rowK]
    have l1 : (liV K ls le sp F n).1 = rowK (cMat (inO F n) le sp) n (liK K le sp F n) 0 := by rw [liV_4 fe n0 k0]; rfl
    have sb := smC_bd (C := cMat (inO F n) le sp) (ps := pos (cMat (inO F n) le sp) n (liK K le sp F n)) ne _ (Nat.le_refl _)
    refine ⟨_, cl, _, _, _, _, _, rfl, le', by omega, by omega, by omega, ps, fun t ht => ⟨(ln ht).1, (ln ht).2.1⟩, ?_, fun _ => ⟨by omega, l1.symm, ?_⟩⟩
    · have q := oc _ (Nat.le_refl _)
      rw [coV_5 fe (own_ln (by omega) (fun t ht => ⟨(ln ht).1, (ln ht).2.1⟩) (fun t ht => (oc t ht).1) (pos_end h0)) (by omega) (by rw [q.2]; omega), q.2, sr2, l1]
    · rw [lv_bst (by show (if 0 = n then 0 else -1) = (-1 : Int); rw [if_neg (by omega)]), l1]; rfl
end Go.Proofs.Ytmdhmpfagekonaa

/- The law ClassingCheapest: its walk. -/
namespace Go.Proofs.Ytmdhmpfagekonaa
open Go.RowKit Go.Proofs.Ytmdhmpfagekonaa.Ct Go.Proofs.Ytmdhmpfagekonaa.Ce Go.Proofs.Ytmdhmpfagekonaa.Stb
set_option linter.unusedVariables false
set_option linter.unusedSimpArgs false

theorem lv_ge {f : Nat → Int} (h : ∀ k, -1 ≤ f k) : ∀ i, -1 ≤ lv f i
  | 0 => Int.le_refl _
  | i + 1 => by
    have := lv_ge h i
    unfold lv
    split
    · exact h _
    · exact this
theorem lv_up (f : Nat → Int) (i : Nat) : lv f (i + 1) = if lss (f (i + 1)) (lv f i) then f (i + 1) else lv f i := rfl
theorem gi_maps {n : Nat} {g : Nat → Int} {k : Nat} (h : k < n) : gi ((List.range n).map g) k = g k := by simp [gi, h]

def lnM (ps : Nat → Nat) (t : Nat) : List Int := (List.range t).map fun i => ((ps (i + 1) - ps i : Nat) : Int)
theorem lnM_len (ps : Nat → Nat) (t : Nat) : (lnM ps t).length = t := by unfold lnM; rw [List.length_map, List.length_range]

set_option maxRecDepth 100000 in
set_option maxHeartbeats 16000000 in
theorem classingCheapest_walk (p : Option Addr) (c n : Nat) (F : Nat → Fl) (w : World) (r : FlR w p n F) (z : n ≤ 9223372036854775807) (kok : ∀ k, k < n → (F k).kok) (hp : ∀ x, p = some x → x.block < w.heap.size) (ls le sp : Int) (q : Option Addr) (d m : Nat) (L : Nat → Int) (rl : NmR w q m L) (zm : m ≤ 9223372036854775807) (pr : Int) (bp : -9223372036854775808 ≤ pr ∧ pr ≤ 9223372036854775807) :
    Calls Try.prog 5 #[.slice p n c, .agg #[.int .i64 ls, .int .i64 le, .int .i64 sp], .slice q m d, .int .i64 pr] w fun e w' => e = .returned (.bool true) ∧ Below w.heap.size w w' := by
  obtain ⟨i0, hi, hz0, hz1, hz2⟩ := info_parts intInfo
  have AL := Lib.hid alive_any
  have R := Lib.hid r
  have RL := Lib.hid rl
  have KOK := Lib.hid kok
  have HP := Lib.hid hp
  have B1 := Lib.hid (show Below w.heap.size w (w.alloc (Obj.cells #[.int .i64 ls, .int .i64 le, .int .i64 sp] 24)) from (Below.refl _ _).alloc (Nat.le_refl _) _)
  have OS := Lib.hid (spBx w ls le sp)
  have FW := Lib.hid (fun W => few_any p c n W)
  clear r rl kok hp
  obtain ⟨K, hK⟩ : ∃ K, K = ls.toNat := ⟨_, rfl⟩
  have HK := Lib.hid hK
  clear hK
  go_enter Try.func5, Try.ntmps5
  go_upto_region 1 with fail
  generalize (w.alloc (Obj.cells #[.int .i64 ls, .int .i64 le, .int .i64 sp] 24)) = wa at *
  by_cases t0 : n ≤ 140
  case neg =>
    rw [decide_eq_false t0] at FW
    go_wp2_with fail
    refine (FW.out _).mono ?_
    rintro e w1 ⟨rfl, rfl⟩
    go_wp2_with fail
    refine (AL.out _).mono ?_
    rintro e w2 ⟨rfl, st⟩
    have BB := Lib.hid (B1.out.trans (st.mono B1.out.size))
    go_wp2_with fail
    go_ret
    exact ⟨rfl, BB.out⟩
  rw [decide_eq_true t0] at FW
  by_cases t1 : 300 < m
  case pos =>
    have d1 : decide ((300 : Int) < (m : Int)) = true := decide_eq_true (by omega)
    go_wp2_with fail
    refine (FW.out _).mono ?_
    rintro e w1 ⟨rfl, rfl⟩
    go_wp2_with fail
    refine (AL.out _).mono ?_
    rintro e w2 ⟨rfl, st⟩
    have BB := Lib.hid (B1.out.trans (st.mono B1.out.size))
    go_wp2_with fail
    go_ret
    exact ⟨rfl, BB.out⟩
  have d1 : decide ((300 : Int) < (m : Int)) = false := decide_eq_false (by omega)
  have s0 : wa.cell? ⟨w.heap.size, 0, none⟩ = some (.int .i64 ls) := OS.out.cell (k := 0) (by decide)
  have s1 : wa.cell? ⟨w.heap.size, 1, none⟩ = some (.int .i64 le) := OS.out.cell (k := 1) (by decide)
  have s2 : wa.cell? ⟨w.heap.size, 2, none⟩ = some (.int .i64 sp) := OS.out.cell (k := 2) (by decide)
  have C1 := Lib.hid (Lines_any p c n K F ls le sp wa (R.out.below B1.out) t0 KOK.out (fun x hx h0 => Nat.lt_of_lt_of_le (HP.out x hx) B1.out.size) HK.out)
  go_wp2_with fail
  refine (FW.out _).mono ?_
  rintro e w1 ⟨rfl, rfl⟩
  go_wp2_with fail
  refine C1.out.mono ?_
  rintro e w1 ⟨v, rfl, b1, hl⟩
  have HB := Lib.hid (B1.out.trans (b1.mono B1.out.size))
  have OS1 := Lib.hid (OS.out.below b1)
  have HLQ := Lib.hid hl
  clear b1 C1 s0 s1 s2 OS B1 FW hl d1
  obtain ⟨y1, hy1⟩ : ∃ y, y = (liV K ls le sp F n).1 := ⟨_, rfl⟩
  obtain ⟨y2, hy2⟩ : ∃ y, y = (liV K ls le sp F n).2 := ⟨_, rfl⟩
  obtain ⟨o1, ho1⟩ : ∃ y, y = (coV ls le sp F n L m).1 := ⟨_, rfl⟩
  obtain ⟨o2, ho2⟩ : ∃ y, y = (coV ls le sp F n L m).2 := ⟨_, rfl⟩
  have HY1 := Lib.hid hy1
  have HY2 := Lib.hid hy2
  have HO1 := Lib.hid ho1
  have HO2 := Lib.hid ho2
  rw [← hy1, ← hy2]
  have s0 : w1.cell? ⟨w.heap.size, 0, none⟩ = some (.int .i64 ls) := OS1.out.cell (k := 0) (by decide)
  have s1 : w1.cell? ⟨w.heap.size, 1, none⟩ = some (.int .i64 le) := OS1.out.cell (k := 1) (by decide)
  have s2 : w1.cell? ⟨w.heap.size, 2, none⟩ = some (.int .i64 sp) := OS1.out.cell (k := 2) (by decide)
  have C2 := Lib.hid (Cost_any p c n F ls le sp q d m L w1 (R.out.below HB.out) (RL.out.below HB.out) t0 (by omega) KOK.out (fun x hx => Nat.lt_of_lt_of_le (HP.out x hx) HB.out.size))
  rw [← ho1, ← ho2] at C2
  clear hy1 hy2 ho1 ho2
  go_wp2_with fail
  refine C2.out.mono ?_
  rintro e w2 ⟨rfl, b1⟩
  replace HB := Lib.hid (HB.out.trans (b1.mono HB.out.size))
  have OS2 := Lib.hid (OS1.out.below b1)
  have B12 := Lib.hid b1
  clear b1 C2 s0 s1 s2
  by_cases z1 : y2 = 0
  case neg =>
    have bad := che_bad (ls := ls) (le := le) (sp := sp) (F := F) (n := n) HK.out (by rw [← HY2.out]; exact z1)
    have v0 : v = .slice none 0 0 := by
      rcases HLQ.out with ⟨h, -⟩ | ⟨h, -⟩
      · exact h
      · exact absurd h (by rw [← HY2.out]; exact z1)
    have y0 : y1 = 0 := by rw [HY1.out]; exact bad.1
    have d1 : (y2 == 0) = false := by simpa using z1
    have d2 : (o2 == 0) = false := by have := bad.2 L m; rw [← HO2.out] at this; simpa using this
    have d2c : ¬ o2 = 0 := by simpa using d2
    have d2b : (o2 != 0) = true := by simp [d2c]
    clear bad z1
    subst v0 y0
    go_wp2_with fail
    refine (AL.out _).mono ?_
    rintro e w3 ⟨rfl, st⟩
    have BB := Lib.hid (HB.out.trans (st.mono HB.out.size))
    go_wp2_with fail
    go_ret
    exact ⟨rfl, BB.out⟩
  obtain ⟨pl, cl, mm, ps, C, A, o, rfl, mK, K16, lsK, iff0, hs, up, cov, big⟩ := che_of HLQ.out (by rw [← HY2.out]; exact z1) HK.out
  have HS := Lib.hid hs
  have UP := Lib.hid up
  have COV := Lib.hid cov
  have BIG := Lib.hid big
  have IFF := Lib.hid iff0
  have Z1 := Lib.hid (show (liV K ls le sp F n).2 = 0 from by rw [← HY2.out]; exact z1)
  have FE := Lib.hid (show flE ls le sp F n = 0 from (coV_ok (by rw [cov])).1)
  have GOOD := Lib.hid (fun (h : o2 = 0) => che_good (L := L) (m := m) HK.out Z1.out (by rw [← HO2.out]; exact h))
  have YB := Lib.hid (che_good (L := fun t => ((ps (t + 1) - ps t : Nat) : Int)) (m := mm) HK.out Z1.out (by rw [cov]))
  rw [cov] at YB
  rw [← HO1.out] at GOOD
  rw [← HY1.out] at GOOD YB COV BIG
  subst z1
  clear hs up cov big HLQ HY2 iff0
  subst lsK
  go_upto_region 7 with fail
  go_cut [69] from 63 to 70 (fun t wx => t = .bool false ∧ wx = w2)
  case first =>
    by_cases z2 : o2 = 0
    · have d2 : decide (o1 < y1) = false := decide_eq_false (by have := (GOOD.out z2).1; omega)
      clear GOOD YB
      subst z2
      go_wp2_with fail
      go_meet
      exact ⟨rfl, rfl⟩
    · have d2 : (o2 == 0) = false := by simpa using z2
      clear GOOD YB
      go_wp2_with fail
      go_meet
      exact ⟨rfl, rfl⟩
  case rest =>
  obtain ⟨rfl, rfl⟩ := hcut
  rename World => w2
  go_wp2_with fail
  go_loopw [14, 15] (fun mv kv wr => ∃ (t : Nat), t ≤ mm ∧ kv = .int .i64 t ∧ Hid (wr.ownsRow w2.heap.size 3 1 mv t ((lnM ps t).map (Value.int .i64))) ∧ Hid (Below w2.heap.size w2 wr)) (fun _ kv _ => mm - (intOf kv).toNat)
  case atStart => exact ⟨0, Nat.zero_le _, rfl, Lib.hid (World.ownsRow_nil _ _ _ _), Lib.hid (Below.refl _ _)⟩
  case round =>
  obtain ⟨t, ht, rfl, HO, BW⟩ := hrel
  by_cases t2 : t < mm
  case pos =>
    have k1 : (0 : Int) ≤ (t : Int) := by omega
    have k2 : (t : Int) < (mm : Int) := by omega
    obtain ⟨x, q', d', rfl, l, -⟩ := (HS.out.below (B12.out.trans (BW.out.mono B12.out.size))) t t2
    have c4 := l.c4
    have hbs : ∀ (W : World) o, Below w2.heap.size w2 W → w2.heap.size ≤ (W.alloc o).heap.size := fun W o B => by have := B.size; simp; omega
    have RS := Lib.hid (show lnM ps (t + 1) = (lnM ps t) ++ [((ps (t + 1) - ps t : Nat) : Int)] from by unfold lnM; rw [List.range_succ, List.map_append]; rfl)
    clear l
    generalize ps (t + 1) - ps t = k at *
    go_wp2_with (first
      | (at_builtin; refine wpList_append_own _ rfl _ _ 36 rfl w2.heap.size 3 i0 (.int .i64 0) 1 8 Try.underlying36 hi hz0 hz1 hz2 rfl (by decide) _ _ _ rfl (HO.out.alloc _) ⟨wr.heap.size, 0, none⟩ 1 1 [.int .i64 (k : Int)] rfl rfl (one_cell _) one_one (by unfold maxLen; omega) (by omega) (hbs _ _ BW.out) ?_))
    intro v' w3 hown' hgrow _
    obtain ⟨O1, B3⟩ := own_snocD _ BW.out HO.out hown' hgrow
    clear hown' hgrow hbs
    go_wp2_with fail
    go_roundw
    case rel => exact ⟨t + 1, by omega, by go_num, Lib.hid (by rw [RS.out]; exact O1), Lib.hid B3⟩
    case measure => simp [intOf]; omega
  obtain rfl : t = mm := by omega
  have k3 : ¬ ((t : Int) < (t : Int)) := by omega
  obtain ⟨q', d', rfl, nr⟩ := ownNums (M := lnM ps t) (by rw [lnM_len]; exact HO.out)
  rw [lnM_len] at nr ⊢
  have RM := Lib.hid (show NmR wr q' t (fun i => ((ps (i + 1) - ps i : Nat) : Int)) from fun i hi => by have := nr i hi; unfold lnM at this; rwa [gi_maps hi] at this)
  replace HB := Lib.hid (HB.out.trans (BW.out.mono HB.out.size))
  have OS3 := Lib.hid (OS2.out.below BW.out)
  clear nr HO OS2 OS1 BW B12 HS
  have s0 : wr.cell? ⟨w.heap.size, 0, none⟩ = some (.int .i64 (K : Int)) := OS3.out.cell (k := 0) (by decide)
  have s1 : wr.cell? ⟨w.heap.size, 1, none⟩ = some (.int .i64 le) := OS3.out.cell (k := 1) (by decide)
  have s2 : wr.cell? ⟨w.heap.size, 2, none⟩ = some (.int .i64 sp) := OS3.out.cell (k := 2) (by decide)
  have C3 := Lib.hid (Cost_any p c n F (K : Int) le sp q' d' t (fun i => ((ps (i + 1) - ps i : Nat) : Int)) wr (R.out.below HB.out) RM.out t0 (by omega) KOK.out (fun x hx => Nat.lt_of_lt_of_le (HP.out x hx) HB.out.size))
  rw [COV.out] at C3
  have PR1 := Lib.hid (show 0 ≤ pr ∧ pr ≤ 1125899906842624 → (prV (K : Int) le sp F n pr).2 = 0 ∧ (prV (K : Int) le sp F n pr).1 ≤ y1 + pr * t from fun h => by
    have := che_price (ls := (K : Int)) (le := le) (sp := sp) (F := F) (n := n) h (L := fun i => ((ps (i + 1) - ps i : Nat) : Int)) (m := t) (by rw [COV.out])
    rw [COV.out] at this
    exact this)
  have PR2 := Lib.hid (show 0 ≤ pr ∧ pr ≤ 1125899906842624 → o2 = 0 → (prV (K : Int) le sp F n pr).1 ≤ o1 + pr * m from fun h g => by
    have := che_price (ls := (K : Int)) (le := le) (sp := sp) (F := F) (n := n) h (L := L) (m := m) (by rw [← HO2.out]; exact g)
    rw [← HO1.out] at this
    exact this.2)
  clear RM COV
  go_wp2_with fail
  refine C3.out.mono ?_
  rintro e w4 ⟨rfl, b1⟩
  replace HB := Lib.hid (HB.out.trans (b1.mono HB.out.size))
  replace OS3 := Lib.hid (OS3.out.below b1)
  clear b1 C3 s0 s1 s2
  have s0 : w4.cell? ⟨w.heap.size, 0, none⟩ = some (.int .i64 (K : Int)) := OS3.out.cell (k := 0) (by decide)
  have s1 : w4.cell? ⟨w.heap.size, 1, none⟩ = some (.int .i64 le) := OS3.out.cell (k := 1) (by decide)
  have s2 : w4.cell? ⟨w.heap.size, 2, none⟩ = some (.int .i64 sp) := OS3.out.cell (k := 2) (by decide)
  have C4 := Lib.hid (Curve_any p c n K F (K : Int) le sp w4 (R.out.below HB.out) t0 KOK.out (fun x hx => Nat.lt_of_lt_of_le (HP.out x hx) HB.out.size) HK.out)
  go_wp2_with fail
  refine C4.out.mono ?_
  rintro e w5 ⟨v5, rfl, b1, h5⟩
  replace HB := Lib.hid (HB.out.trans (b1.mono HB.out.size))
  replace OS3 := Lib.hid (OS3.out.below b1)
  rw [FE.out]
  obtain ⟨g5, rfl, -, ob5⟩ : ∃ g, v5 = .slice (some ⟨g, 0, none⟩) K K ∧ w4.heap.size ≤ g ∧ OB w5 g 3 K (fun k => .int .i64 (rowK (cMat (inO F n) le sp) n (k + 1) 0)) := by
    rcases h5 with ⟨h, -⟩ | ⟨-, -, g, h⟩
    · exact absurd FE.out h
    · exact ⟨g, h⟩
  have OB5 := Lib.hid ob5
  have RB := Lib.hid (fun k => (rowK_bd (C := cMat (inO F n) le sp) (n := n) (M := 1503238553600000) (by omega) (cM_bd FE.out) k 0).1)
  clear b1 C4 s0 s1 s2 h5 ob5
  obtain ⟨f, hf⟩ : ∃ f : Nat → Int, f = fun k => rowK (cMat (inO F n) le sp) n k 0 := ⟨_, rfl⟩
  have hf2 : ∀ k, rowK (cMat (inO F n) le sp) n k 0 = f k := fun k => by rw [hf]
  simp only [hf2] at OB5 RB BIG
  have hf3 : (fun k => f k) = f := rfl
  clear hf hf2 hf3
  go_upto_region 16 with fail
  go_cut [131] from 98 to 132 (fun t' wx => t' = .bool false ∧ wx = w5)
  case first =>
    have s0 : w5.cell? ⟨w.heap.size, 0, none⟩ = some (.int .i64 (K : Int)) := OS3.out.cell (k := 0) (by decide)
    have d3 : decide ((K : Int) < (t : Int)) = false := decide_eq_false (by omega)
    have d4 : decide (K < t) = false := decide_eq_false (by omega)
    by_cases n0 : n = 0
    · have e1 : ((t : Int) == 0) = true := by have := IFF.out.2 n0; simp [this]
      have e2 : ((n : Int) == 0) = true := by simp [n0]
      clear n0
      go_wp2_with fail
      go_meet
      exact ⟨by first | rfl | exact congrArg Value.bool d4, rfl⟩
    · have e1 : ((t : Int) == 0) = false := by have : ¬ t = 0 := fun h => n0 (IFF.out.1 h); simp; omega
      have e2 : ((n : Int) == 0) = false := by simp; omega
      clear n0
      go_wp2_with fail
      go_meet
      exact ⟨by first | rfl | exact congrArg Value.bool d4, rfl⟩
  case rest =>
  obtain ⟨rfl, rfl⟩ := hcut
  rename World => w5
  go_wp2_with fail
  go_loopw [20, 21] (fun av kv wx => ∃ (k : Nat), k ≤ K ∧ kv = .int .i64 k ∧ av = .int .i64 (lv f k) ∧ wx = w5) (fun _ kv _ => K - (intOf kv).toNat)
  case atStart => exact ⟨0, Nat.zero_le _, rfl, rfl, rfl⟩
  case round =>
  obtain ⟨k, hk, rfl, rfl, rfl⟩ := hrel
  rename World => w5
  by_cases t3 : k < K
  case pos =>
    have k1 : (0 : Int) ≤ (k : Int) := by omega
    have k2 : (k : Int) < (K : Int) := by omega
    have cu : w5.cell? ⟨g5, k, none⟩ = some (.int .i64 (f (k + 1))) := OB5.out.cell t3
    have NX := Lib.hid (lv_up f k)
    have ub := RB.out (k + 1)
    have lb := lv_ge RB.out k
    generalize f (k + 1) = u at *
    generalize lv f k = l at *
    by_cases a1 : 0 ≤ u
    · have e1 : decide (0 ≤ u) = true := decide_eq_true a1
      by_cases a2 : l < 0
      · have e2 : decide (l < 0) = true := decide_eq_true a2
        have NY := Lib.hid (show lv f (k + 1) = u from by rw [NX.out]; exact if_pos (show u ≠ -1 ∧ (l = -1 ∨ u < l) by omega))
        clear a1 a2 ub lb
        go_wp2_with fail
        go_roundw
        case rel => exact ⟨k + 1, by omega, by go_num, by rw [NY.out], by first | rfl | trivial⟩
        case measure => simp [intOf]; omega
      · have e2 : decide (l < 0) = false := decide_eq_false a2
        by_cases a3 : u < l
        · have e3 : decide (u < l) = true := decide_eq_true a3
          have NY := Lib.hid (show lv f (k + 1) = u from by rw [NX.out]; exact if_pos (show u ≠ -1 ∧ (l = -1 ∨ u < l) by omega))
          clear a1 a2 a3 ub lb
          go_wp2_with fail
          go_roundw
          case rel => exact ⟨k + 1, by omega, by go_num, by rw [NY.out], by first | rfl | trivial⟩
          case measure => simp [intOf]; omega
        · have e3 : decide (u < l) = false := decide_eq_false a3
          have NY := Lib.hid (show lv f (k + 1) = l from by rw [NX.out]; exact if_neg (show ¬ (u ≠ -1 ∧ (l = -1 ∨ u < l)) by omega))
          clear a1 a2 a3 ub lb
          go_wp2_with fail
          go_roundw
          case rel => exact ⟨k + 1, by omega, by go_num, by rw [NY.out], by first | rfl | trivial⟩
          case measure => simp [intOf]; omega
    · have e1 : decide (0 ≤ u) = false := decide_eq_false a1
      have NY := Lib.hid (show lv f (k + 1) = l from by rw [NX.out]; exact if_neg (show ¬ (u ≠ -1 ∧ (l = -1 ∨ u < l)) by omega))
      clear a1 ub lb
      go_wp2_with fail
      go_roundw
      case rel => exact ⟨k + 1, by omega, by go_num, by rw [NY.out], by first | rfl | trivial⟩
      case measure => simp [intOf]; omega
  obtain rfl : k = K := by omega
  have k4 : ¬ ((k : Int) < (k : Int)) := by omega
  go_upto_region 24 with fail
  go_cut [176] from 159 to 177 (fun t' wx => t' = .bool false ∧ wx = w5)
  case first =>
    by_cases n0 : n = 0
    · subst n0
      go_wp2_with fail
      go_meet
      exact ⟨rfl, rfl⟩
    · have e1 : decide ((0 : Int) < (n : Int)) = true := decide_eq_true (by omega)
      have e0 : 0 < n := by omega
      obtain ⟨b0, b1, b2⟩ := BIG.out n0
      have e5 : (lv f k != y1) = false := by
        have b2' : lv f k = y1 := b2
        rw [b2']; simp
      have k5 : (0 : Int) ≤ (t : Int) - 1 := by omega
      have k6 : (t : Int) - 1 < (k : Int) := by omega
      have e3 : IntKind.i64.wrap ((t : Int) - 1) = (t : Int) - 1 := hwI (by omega) (by omega)
      have cu : w5.cell? ⟨g5, t - 1, none⟩ = some (.int .i64 y1) := by
        rw [OB5.out.cell (k := t - 1) (by omega), show t - 1 + 1 = t by omega, b1]
      clear b0 b1 b2 n0
      generalize lv f k = l at *
      go_wp2_with fail
      go_meet
      exact ⟨rfl, rfl⟩
  case rest =>
  obtain ⟨rfl, rfl⟩ := hcut
  rename World => w5
  by_cases hpr : 0 ≤ pr ∧ pr ≤ 1125899906842624
  case neg =>
    by_cases h1 : pr < 0
    · have e1 : decide (pr < 0) = true := decide_eq_true h1
      clear hpr h1
      go_wp2_with fail
      refine (AL.out _).mono ?_
      rintro e w6 ⟨rfl, st⟩
      have BB := Lib.hid (HB.out.trans (st.mono HB.out.size))
      go_wp2_with fail
      go_ret
      exact ⟨rfl, BB.out⟩
    · have e1 : decide (pr < 0) = false := decide_eq_false h1
      have e2 : decide (1125899906842624 < pr) = true := decide_eq_true (by omega)
      clear hpr h1
      go_wp2_with fail
      refine (AL.out _).mono ?_
      rintro e w6 ⟨rfl, st⟩
      have BB := Lib.hid (HB.out.trans (st.mono HB.out.size))
      go_wp2_with fail
      go_ret
      exact ⟨rfl, BB.out⟩
  have e1 : decide (pr < 0) = false := decide_eq_false (by omega)
  have e2 : decide (1125899906842624 < pr) = false := decide_eq_false (by omega)
  have P1 := PR1.out hpr
  have P2 := Lib.hid (PR2.out hpr)
  have s0 : w5.cell? ⟨w.heap.size, 0, none⟩ = some (.int .i64 (k : Int)) := OS3.out.cell (k := 0) (by decide)
  have s1 : w5.cell? ⟨w.heap.size, 1, none⟩ = some (.int .i64 le) := OS3.out.cell (k := 1) (by decide)
  have s2 : w5.cell? ⟨w.heap.size, 2, none⟩ = some (.int .i64 sp) := OS3.out.cell (k := 2) (by decide)
  have C5 := Lib.hid (Price_any p c n F (k : Int) le sp pr w5 (R.out.below HB.out) t0 KOK.out (fun x hx => Nat.lt_of_lt_of_le (HP.out x hx) HB.out.size))
  rw [P1.1] at C5
  have P1 := Lib.hid P1.2
  have HPR := Lib.hid hpr
  clear PR1 PR2 hpr
  generalize (prV (k : Int) le sp F n pr).1 = p1 at *
  go_wp2_with fail
  refine C5.out.mono ?_
  rintro e w6 ⟨rfl, b1⟩
  replace HB := Lib.hid (HB.out.trans (b1.mono HB.out.size))
  clear b1 C5 s0 s1 s2 e1 e2
  have hpr := HPR.out
  have yb := YB.out
  have m1 : 0 ≤ pr * (t : Int) := Int.mul_nonneg hpr.1 (by omega)
  have m2 : pr * (t : Int) ≤ 1125899906842624 * 16 := Int.mul_le_mul hpr.2 (by omega) (by omega) (by omega)
  have e1 : IntKind.i64.wrap (pr * (t : Int)) = pr * (t : Int) := hwI (by omega) (by omega)
  have e2 : IntKind.i64.wrap (y1 + pr * (t : Int)) = y1 + pr * (t : Int) := hwI (by omega) (by omega)
  have e3 : decide (p1 ≤ y1 + pr * (t : Int)) = true := decide_eq_true P1.out
  clear yb m1 m2
  by_cases z2 : o2 = 0
  · have gd := GOOD.out z2
    have m3 : 0 ≤ pr * (m : Int) := Int.mul_nonneg hpr.1 (by omega)
    have m4 : pr * (m : Int) ≤ 1125899906842624 * 128 := Int.mul_le_mul hpr.2 (by omega) (by omega) (by omega)
    have e4 : IntKind.i64.wrap (pr * (m : Int)) = pr * (m : Int) := hwI (by omega) (by omega)
    have e5 : IntKind.i64.wrap (o1 + pr * (m : Int)) = o1 + pr * (m : Int) := hwI (by omega) (by omega)
    have e6 : decide (p1 ≤ o1 + pr * (m : Int)) = true := decide_eq_true (P2.out z2)
    clear gd m3 m4 hpr GOOD YB P2
    subst z2
    go_wp2_with fail
    refine (AL.out _).mono ?_
    rintro e w7 ⟨rfl, st⟩
    have BB := Lib.hid (HB.out.trans (st.mono HB.out.size))
    go_wp2_with fail
    go_ret
    exact ⟨rfl, BB.out⟩
  · have d2 : (o2 == 0) = false := by simpa using z2
    have d2b : (o2 != 0) = true := by simp [z2]
    clear hpr GOOD YB P2
    go_wp2_with fail
    refine (AL.out _).mono ?_
    rintro e w7 ⟨rfl, st⟩
    have BB := Lib.hid (HB.out.trans (st.mono HB.out.size))
    go_wp2_with fail
    go_ret
    exact ⟨rfl, BB.out⟩
end Go.Proofs.Ytmdhmpfagekonaa
