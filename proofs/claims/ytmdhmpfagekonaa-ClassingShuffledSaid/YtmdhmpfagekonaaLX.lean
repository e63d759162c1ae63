/- The law ClassingShuffled: the same lines in another order, rows of fleeces that grow, the walk. -/
import Derived.Test.YtmdhmpfagekonaaLN
import Derived.Test.YtmdhmpfagekonaaLF
import Derived.Laws.AppendOwnNone
import Derived.Test.YtmdhmpfagekonaaLJ
import Derived.Test.YtmdhmpfagekonaaCAA
/- Classing's totals, plain: the mass of the fleeces of a kind, before and behind the cut. -/
namespace Go.Proofs.Ytmdhmpfagekonaa
open Go.RowKit Go.Proofs.Ytmdhmpfagekonaa.Ct Go.Proofs.Ytmdhmpfagekonaa.Ce Go.Proofs.Ytmdhmpfagekonaa.Stb
set_option linter.unusedVariables false
set_option linter.unusedSimpArgs false

namespace Ce
/-- The mass of those of the first fleeces that P takes. -/
def smK (A : Nat → Fl) (P : Fl → Bool) : Nat → Int
  | 0 => 0
  | k + 1 => smK A P k + (if P (A k) = true then (A k).gr else 0)
theorem smK_sum (A : Nat → Fl) (P : Fl → Bool) : ∀ n, smK A P n = ((List.range n).map fun k => if P (A k) = true then (A k).gr else 0).sum
  | 0 => rfl
  | n + 1 => by
    rw [List.range_succ, List.map_append, List.sum_append, ← smK_sum A P n]
    simp [smK]
theorem insK_sum (q : Nat → Int) (x : Int) (h : Int → Int) : ∀ l : List Int, ((insK q x l).map h).sum = h x + (l.map h).sum
  | [] => by simp [insK]
  | y :: l => by
    unfold insK
    split
    · simp
    · simp only [List.map_cons, List.sum_cons, insK_sum q x h l]
      omega
theorem ordK_sum (q : Nat → Int) (h : Int → Int) : ∀ n, ((ordK q n).map h).sum = ((List.range n).map fun k : Nat => h (k : Int)).sum
  | 0 => rfl
  | n + 1 => by
    rw [ordK, insK_sum, ordK_sum q h n, List.range_succ, List.map_append, List.sum_append]
    simp
    omega
theorem gi_map (O : List Int) : (List.range O.length).map (fun k => gi O k) = O := by
  apply List.ext_getElem (by simp)
  intro k h1 h2
  simp [gi, h2]
/-- In order there is as much as there was. -/
theorem smK_inO (F : Nat → Fl) (P : Fl → Bool) (n : Nat) : smK (inO F n) P n = smK F P n := by
  have e := ordK_sum (fun k => (F k).key) (fun z => if P (F z.toNat) = true then (F z.toNat).gr else 0) n
  have g := gi_map (ordK (fun k => (F k).key) n)
  rw [ordK_len] at g
  rw [smK_sum, smK_sum]
  rw [← g, List.map_map] at e
  exact e
/-- A run on which P is the same. -/
theorem smK_run (A : Nat → Fl) (P : Fl → Bool) (i : Nat) : ∀ m, (∀ k, i ≤ k → k < i + m → P (A k) = P (A i)) → smK A P (i + m) = smK A P i + (if P (A i) = true then mas A i (i + m) else 0)
  | 0, _ => by rw [Nat.add_zero, mas_eq A i (Nat.le_refl _)]; split <;> omega
  | m + 1, h => by
    have ih := smK_run A P i m (fun k a b => h k a (by omega))
    have e := h (i + m) (by omega) (by omega)
    show smK A P (i + m) + (if P (A (i + m)) = true then (A (i + m)).gr else 0) = _
    rw [ih, e, show mas A i (i + (m + 1)) = mas A i (i + m) + (if i ≤ i + m then (A (i + m)).gr else 0) from rfl, if_pos (Nat.le_add_right _ _)]
    split <;> omega
theorem smK_bd {A : Nat → Fl} {P : Fl → Bool} {n : Nat} (ok : ∀ k, k < n → (A k).ok) : ∀ {k}, k ≤ n → 0 ≤ smK A P k ∧ smK A P k ≤ 1073741824 * k
  | 0, _ => by simp [smK]
  | k + 1, h => by
    have ih := smK_bd (P := P) ok (k := k) (by omega)
    have o := ok k (by omega)
    unfold Fl.ok at o
    show 0 ≤ smK A P k + _ ∧ smK A P k + _ ≤ _
    split <;> omega
/-- Is it of this kind? -/
def isK (a b c d : Int) (f : Fl) : Bool := decide (f.ka = a ∧ f.kb = b ∧ f.kc = c ∧ f.kd = d)
theorem isK_kk {a b c d : Int} {f g : Fl} (hf : f.kok) (hg : g.kok) (h : f.kk = g.kk) : isK a b c d f = isK a b c d g := by
  have := (kk_eq hf hg).1 h
  unfold isK
  rw [this.1, this.2.1, this.2.2.1, this.2.2.2]
/-- Past a line. -/
theorem smK_line {A : Nat → Fl} {n i j : Nat} {le sp : Int} (ok : ∀ k, k < n → (A k).ok) (kok : ∀ k, k < n → (A k).kok) (up : ∀ x y, x ≤ y → y < n → (A x).key ≤ (A y).key) (ij : i < j) (jn : j ≤ n) (h : cMat A le sp i j ≠ -1) (a b c d : Int) :
    smK A (isK a b c d) j = smK A (isK a b c d) i + (if isK a b c d (A i) = true then mas A i j else 0) ∧ smK A (fun _ => true) j = smK A (fun _ => true) i + mas A i j := by
  have hl : isLine A le sp i j := by
    apply Classical.byContradiction
    intro g
    apply h
    unfold cMat lnc
    rw [if_pos ij, if_neg g]
  have s : ∀ k, i ≤ k → k < i + (j - i) → (A k).kk = (A i).kk := fun k h1 h2 => kk_btw ok up h1 (show k ≤ j - 1 by omega) (by omega) hl.2.1
  have r1 := smK_run A (isK a b c d) i (j - i) (fun k h1 h2 => isK_kk (kok k (by omega)) (kok i (by omega)) (s k h1 h2))
  have r2 := smK_run A (fun _ => true) i (j - i) (fun k h1 h2 => rfl)
  rw [show i + (j - i) = j by omega] at r1 r2
  exact ⟨r1, by simpa using r2⟩
end Ce

/-- A line at x. -/
structure LnAt (w : World) (x : Addr) (s : Fl) (v : Value) (gr ce co : Int) : Prop where
  blk : x.block < w.heap.size
  c0 : w.cell? x = some (.int .u8 s.ka)
  c1 : w.cell? ⟨x.block, x.off + 1, none⟩ = some (.int .u8 s.kb)
  c2 : w.cell? ⟨x.block, x.off + 2, none⟩ = some (.int .u8 s.kc)
  c3 : w.cell? ⟨x.block, x.off + 3, none⟩ = some (.int .u8 s.kd)
  c4 : w.cell? ⟨x.block, x.off + 4, none⟩ = some v
  c5 : w.cell? ⟨x.block, x.off + 5, none⟩ = some (.int .i64 gr)
  c6 : w.cell? ⟨x.block, x.off + 6, none⟩ = some (.int .i64 ce)
  c7 : w.cell? ⟨x.block, x.off + 7, none⟩ = some (.int .i64 co)
theorem LnAt.below {w w' : World} {x : Addr} {s : Fl} {v : Value} {gr ce co : Int} (h : LnAt w x s v gr ce co) (b : Below w.heap.size w w') : LnAt w' x s v gr ce co := by
  have c : ∀ p : Addr, p.block = x.block → w'.cell? p = w.cell? p := fun p hp => by
    unfold World.cell?; rw [hp, b.block _ h.blk]
  exact ⟨Nat.lt_of_lt_of_le h.blk b.size, (c x rfl).trans h.c0, (c ⟨x.block, x.off + 1, none⟩ rfl).trans h.c1, (c ⟨x.block, x.off + 2, none⟩ rfl).trans h.c2, (c ⟨x.block, x.off + 3, none⟩ rfl).trans h.c3, (c ⟨x.block, x.off + 4, none⟩ rfl).trans h.c4, (c ⟨x.block, x.off + 5, none⟩ rfl).trans h.c5, (c ⟨x.block, x.off + 6, none⟩ rfl).trans h.c6, (c ⟨x.block, x.off + 7, none⟩ rfl).trans h.c7⟩
/-- A plan that is read: its lines, and the places in each. -/
def PlS (w : World) (p : Option Addr) (m : Nat) (A : Nat → Fl) (o : Nat → Int) (C : Nat → Nat → Int) (ps : Nat → Nat) : Prop :=
  ∀ t, t < m → ∃ (x : Addr) (q : Option Addr) (d : Nat), p = some x ∧ LnAt w (x.add (t * 8)) (A (ps t)) (.slice q (ps (t + 1) - ps t) d) (mas A (ps t) (ps (t + 1))) (cen A (ps t) (ps (t + 1))) (C (ps t) (ps (t + 1))) ∧ NmR w q (ps (t + 1) - ps t) (fun z => o (ps t + z))
theorem PlS.below {w w' : World} {p : Option Addr} {m : Nat} {A : Nat → Fl} {o : Nat → Int} {C : Nat → Nat → Int} {ps : Nat → Nat} (h : PlS w p m A o C ps) (b : Below w.heap.size w w') : PlS w' p m A o C ps := fun t ht => by
  obtain ⟨x, q, d, e, l, r⟩ := h t ht
  exact ⟨x, q, d, e, l.below b, r.below b⟩
theorem plL_at (A : Nat → Fl) (C : Nat → Nat → Int) (ps : Nat → Nat) (q d : Nat → Nat) : ∀ {t x k : Nat}, x < t → k < 8 → (plL A C ps q d t)[x * 8 + k]? = (lnL (A (ps x)) (.slice (some ⟨q x, 0, none⟩) (ps (x + 1) - ps x) (d x)) (mas A (ps x) (ps (x + 1))) (cen A (ps x) (ps (x + 1))) (C (ps x) (ps (x + 1))))[k]? := by
  have len : ∀ t, (plL A C ps q d t).length = t * 8 := fun t => by
    induction t with
    | zero => rfl
    | succ t ih =>
      have e : plL A C ps q d (t + 1) = plL A C ps q d t ++ lnL (A (ps t)) (.slice (some ⟨q t, 0, none⟩) (ps (t + 1) - ps t) (d t)) (mas A (ps t) (ps (t + 1))) (cen A (ps t) (ps (t + 1))) (C (ps t) (ps (t + 1))) := by
        unfold plL; rw [List.range_succ, List.flatMap_append]; simp
      rw [e, List.length_append, ih]
      simp [lnL]; omega
  intro t
  induction t with
  | zero => intro x k h; omega
  | succ t ih =>
    intro x k h hk
    have e : plL A C ps q d (t + 1) = plL A C ps q d t ++ lnL (A (ps t)) (.slice (some ⟨q t, 0, none⟩) (ps (t + 1) - ps t) (d t)) (mas A (ps t) (ps (t + 1))) (cen A (ps t) (ps (t + 1))) (C (ps t) (ps (t + 1))) := by
      unfold plL; rw [List.range_succ, List.flatMap_append]; simp
    rw [e]
    rcases Nat.lt_or_ge x t with g | g
    · rw [List.getElem?_append_left (by rw [len]; omega)]
      exact ih g hk
    · obtain rfl : x = t := by omega
      rw [List.getElem?_append_right (by rw [len]; omega), len, show x * 8 + k - x * 8 = k by omega]
theorem row_some {w : World} {base : Nat} {e : TypeId} {size : Nat} {v : Value} {n : Nat} {xs : List Value} (h : w.ownsRow base e size v n xs) (hn : 0 < n) : ∃ g c, v = .slice (some ⟨g, 0, none⟩) n c ∧ g < w.heap.size := by
  rcases h.2 with ⟨rfl, h0⟩ | ⟨q, cap, cur, rfl, hb, hq, r⟩
  · omega
  · exact ⟨q, cap, rfl, (Array.getElem?_eq_some_iff.1 hq).1⟩
theorem plS_of {base : Nat} {A : Nat → Fl} {o : Nat → Int} {C : Nat → Nat → Int} {ps : Nat → Nat} {t : Nat} {v : Value} {W : World} (h : PlR base A o C ps t v W) (h0 : 0 < t) (pos : ∀ x, x < t → ps x < ps (x + 1)) : ∃ (g c : Nat), v = .slice (some ⟨g, 0, none⟩) t c ∧ PlS W (some ⟨g, 0, none⟩) t A o C ps := by
  obtain ⟨q, d, a, r⟩ := h
  obtain ⟨g, c, rfl, gl⟩ := row_some a h0
  refine ⟨g, c, rfl, fun x hx => ⟨_, some ⟨q x, 0, none⟩, d x, rfl, ?_, ?_⟩⟩
  · have e : ∀ k, k < 8 → W.cell? ⟨g, x * 8 + k, none⟩ = (lnL (A (ps x)) (.slice (some ⟨q x, 0, none⟩) (ps (x + 1) - ps x) (d x)) (mas A (ps x) (ps (x + 1))) (cen A (ps x) (ps (x + 1))) (C (ps x) (ps (x + 1))))[k]? := fun k hk => by
      rw [a.cellAt (x * 8 + k) (by omega), plL_at A C ps q d hx hk]
    have ea : (⟨g, 0, none⟩ : Addr).add (x * 8) = ⟨g, x * 8, none⟩ := by
      unfold Addr.add; split
      · next z => rw [z]
      · simp
    rw [ea]
    exact ⟨gl, e 0 (by omega), e 1 (by omega), e 2 (by omega), e 3 (by omega), e 4 (by omega), e 5 (by omega), e 6 (by omega), e 7 (by omega)⟩
  · have rx := r x hx
    have := pos x hx
    obtain ⟨g', c', e', gl'⟩ := row_some rx (by omega)
    cases e'
    intro z hz
    have cz := rx.cellAt z (by omega)
    refine ⟨⟨q x, 0, none⟩, rfl, gl', ?_⟩
    rw [add0, cz]
    simp [hz]
end Go.Proofs.Ytmdhmpfagekonaa

/- Classing's shuffle, plain: fleeces in another order give the same lines, where kind and diameter tell the mass. -/
namespace Go.Proofs.Ytmdhmpfagekonaa
open Go.RowKit Go.Proofs.Ytmdhmpfagekonaa.Ct Go.Proofs.Ytmdhmpfagekonaa.Ce Go.Proofs.Ytmdhmpfagekonaa.Stb
set_option linter.unusedVariables false
set_option linter.unusedSimpArgs false

namespace Ce
section
variable {A B : Nat → Fl} {n : Nat}
theorem mas_cg (h : ∀ k, k < n → A k = B k) (i : Nat) : ∀ {j}, j ≤ n → mas A i j = mas B i j
  | 0, _ => rfl
  | j + 1, hj => by unfold mas; rw [mas_cg h i (by omega), h j (by omega)]
theorem offs_cg (h : ∀ k, k < n → A k = B k) (c : Int) (i : Nat) : ∀ {j}, j ≤ n → offs A c i j = offs B c i j
  | 0, _ => rfl
  | j + 1, hj => by unfold offs; rw [offs_cg h c i (by omega), h j (by omega)]
theorem cenF_cg (h : ∀ k, k < n → A k = B k) (all : Int) (i : Nat) : ∀ {k p}, p + k ≤ n → cenF A all i k p = cenF B all i k p
  | 0, p, _ => rfl
  | k + 1, p, hk => by unfold cenF; rw [mas_cg h i (show p + 1 ≤ n by omega), cenF_cg h all i (by omega)]
theorem cen_cg (h : ∀ k, k < n → A k = B k) (ok : ∀ k, k < n → (A k).ok) {i j : Nat} (ij : i < j) (hj : j ≤ n) : cen A i j = cen B i j := by
  have ce := cenF_lt (A := A) (i := i) (k := j - i) (p := i) (j := j) (by omega) (by omega) (mas_bd ok hj).1
  have e : cenP A i j = cenP B i j := by unfold cenP; rw [mas_cg h i hj]; exact cenF_cg h _ i (by omega)
  unfold cen
  rw [← e, h _ (by unfold cenP; omega)]
theorem cMat_cg (h : ∀ k, k < n → A k = B k) (ok : ∀ k, k < n → (A k).ok) (le sp : Int) {i j : Nat} (hj : j ≤ n) : cMat A le sp i j = cMat B le sp i j := by
  unfold cMat
  by_cases ij : i < j
  · rw [if_pos ij, if_pos ij]
    unfold lnc
    have e : isLine A le sp i j ↔ isLine B le sp i j := by unfold isLine; rw [h i (by omega), h (j - 1) (by omega), mas_cg h i hj]
    by_cases q : isLine A le sp i j
    · rw [if_pos q, if_pos (e.1 q), cen_cg h ok ij hj, offs_cg h _ i hj]
    · rw [if_neg q, if_neg (fun g => q (e.2 g))]
  · rw [if_neg ij, if_neg ij]
end
theorem lfm_cg {c c' r : Nat → Int} (i : Nat) : ∀ m, (∀ j, i < j → j ≤ i + m → c j = c' j) → lfm c r i m = lfm c' r i m
  | 0, _ => rfl
  | m + 1, h => by unfold lfm; rw [lfm_cg i m (fun j a b => h j a (by omega)), h (i + m + 1) (by omega) (by omega)]
section
variable {C D : Nat → Nat → Int} {n : Nat}
theorem rowK_cg (h : ∀ i j, i < j → j ≤ n → C i j = D i j) : ∀ k i, rowK C n k i = rowK D n k i
  | 0, i => rfl
  | k + 1, i => by
    show lfm (C i) (rowK C n k) i (n - i) = lfm (D i) (rowK D n k) i (n - i)
    rw [lfm_cg i (n - i) (fun j a b => h i j a (by omega)), funext (rowK_cg h k)]
theorem nxt_cg (h : ∀ i j, i < j → j ≤ n → C i j = D i j) {k i : Nat} (e : rowK C n (k + 1) i ≠ -1) : nxt C n k i = nxt D n k i := by
  have r := rowK_cg h
  obtain ⟨a1, a2, a3⟩ := nxt_ok e
  obtain ⟨b1, b2, b3⟩ := nxt_ok (C := D) (n := n) (k := k) (i := i) (by rw [← r]; exact e)
  rcases Nat.lt_trichotomy (nxt C n k i) (nxt D n k i) with l | l | l
  · have := nxt_min (C := D) a1 l
    rw [← r, ← r, ← h i _ a1 a2] at this
    exact absurd a3 this
  · exact l
  · have := nxt_min (C := C) b1 l
    rw [r, r, h i _ b1 b2] at this
    exact absurd b3 this
theorem pos_cg (h : ∀ i j, i < j → j ≤ n → C i j = D i j) {m : Nat} (e : rowK C n m 0 ≠ -1) : ∀ t, t ≤ m → pos C n m t = pos D n m t
  | 0, _ => rfl
  | t + 1, ht => by
    have ih := pos_cg h e t (by omega)
    have p := (pos_ok (C := C) (n := n) e (t := t) (by omega)).1
    show nxt C n (m - 1 - t) (pos C n m t) = nxt D n (m - 1 - t) (pos D n m t)
    rw [← ih]
    exact nxt_cg h (by rw [show m - 1 - t + 1 = m - t by omega]; exact p)
end
theorem insK_perm (q : Nat → Int) (x : Int) : ∀ l : List Int, (insK q x l).Perm (x :: l)
  | [] => by simp [insK]
  | y :: l => by
    unfold insK
    split
    · exact .refl _
    · exact ((insK_perm q x l).cons y).trans (List.Perm.swap x y l)
theorem ordK_perm (q : Nat → Int) : ∀ n, (ordK q n).Perm ((List.range n).map fun k : Nat => (k : Int))
  | 0 => .refl _
  | n + 1 => by
    rw [ordK, List.range_succ, List.map_append]
    exact (insK_perm q n _).trans (((ordK_perm q n).cons _).trans (List.perm_append_singleton _ _).symm)
theorem inO_perm (F : Nat → Fl) (n : Nat) : ((List.range n).map (inO F n)).Perm ((List.range n).map F) := by
  have e := (ordK_perm (fun k => (F k).key) n).map (fun z : Int => F z.toNat)
  have g := gi_map (ordK (fun k => (F k).key) n)
  rw [ordK_len] at g
  rw [← g, List.map_map, List.map_map] at e
  exact e
theorem mem_rm {F : Nat → Fl} {n : Nat} {a : Fl} : a ∈ (List.range n).map F ↔ ∃ k, k < n ∧ F k = a := by
  rw [List.mem_map]
  exact ⟨fun ⟨k, h, e⟩ => ⟨k, List.mem_range.1 h, e⟩, fun ⟨k, h, e⟩ => ⟨k, List.mem_range.2 h, e⟩⟩
/-- Of two fleeces of one kind and diameter the masses are the same. -/
def TellM (F : Nat → Fl) (n : Nat) : Prop := ∀ i j, i < n → j < n → (F i).ka = (F j).ka ∧ (F i).kb = (F j).kb ∧ (F i).kc = (F j).kc ∧ (F i).kd = (F j).kd → (F i).mic = (F j).mic → (F i).gr = (F j).gr
section
variable {F F' : Nat → Fl} {n : Nat}
theorem inO_up (F : Nat → Fl) (n : Nat) : ((List.range n).map (inO F n)).Pairwise fun a b => a.key ≤ b.key := by
  rw [List.pairwise_iff_getElem]
  intro i j hi hj ij
  simp only [List.length_map, List.length_range] at hi hj
  simp only [List.getElem_map, List.getElem_range]
  exact inO_le F n (by omega) hj
theorem inO_same (ok : ∀ k, k < n → (F k).ok) (kok : ∀ k, k < n → (F k).kok) (p : ((List.range n).map F').Perm ((List.range n).map F)) (c : TellM F n) : ∀ k, k < n → inO F n k = inO F' n k := by
  have P := ((inO_perm F' n).trans p).trans (inO_perm F n).symm
  have E := List.Perm.eq_of_pairwise (le := fun a b : Fl => a.key ≤ b.key) (fun a b ha hb h1 h2 => by
    obtain ⟨i, hi, rfl⟩ := mem_rm.1 (((inO_perm F' n).trans p).mem_iff.1 ha)
    obtain ⟨j, hj, rfl⟩ := mem_rm.1 ((inO_perm F n).mem_iff.1 hb)
    have e := (key_eq (ok i hi) (ok j hj)).1 (by omega)
    have k := (kk_eq (kok i hi) (kok j hj)).1 e.1
    have g := c i j hi hj k e.2
    have m := e.2
    revert k g m
    generalize F i = x
    generalize F j = y
    intro k g m
    cases x
    cases y
    simp_all) (inO_up F' n) (inO_up F n) P
  intro k hk
  have := congrArg (fun l => l[k]?) E
  simp [hk] at this
  exact this.symm
theorem ok_perm (p : ((List.range n).map F').Perm ((List.range n).map F)) (q : Fl → Prop) : (∀ k, k < n → q (F' k)) ↔ ∀ k, k < n → q (F k) := by
  constructor
  · intro h k hk
    obtain ⟨j, hj, e⟩ := mem_rm.1 (p.mem_iff.2 (mem_rm.2 ⟨k, hk, rfl⟩))
    rw [← e]; exact h j hj
  · intro h k hk
    obtain ⟨j, hj, e⟩ := mem_rm.1 (p.mem_iff.1 (mem_rm.2 ⟨k, hk, rfl⟩))
    rw [← e]; exact h j hj
theorem flE_perm (p : ((List.range n).map F').Perm ((List.range n).map F)) (ls le sp : Int) : flE ls le sp F' n = flE ls le sp F n := by
  have e := ok_perm p Fl.ok
  unfold flE
  by_cases a : 128 < n
  · rw [if_pos a, if_pos a]
  · rw [if_neg a, if_neg a]
    by_cases h : spOk ls le sp ∧ ∀ k, k < n → (F k).ok
    · rw [if_pos h, if_pos ⟨h.1, e.2 h.2⟩]
    · rw [if_neg h, if_neg (fun g => h ⟨g.1, e.1 g.2⟩)]
theorem liV_same (kok : ∀ k, k < n → (F k).kok) (p : ((List.range n).map F').Perm ((List.range n).map F)) (c : TellM F n) (K : Nat) (ls le sp : Int) : liV K ls le sp F' n = liV K ls le sp F n := by
  by_cases fe : flE ls le sp F n = 0
  · have fe' : flE ls le sp F' n = 0 := by rw [flE_perm p]; exact fe
    by_cases n0 : n = 0
    · rw [liV_2 fe n0, liV_2 fe' n0]
    · have ok := inO_ok (flE_ok fe).2.2
      have sm := inO_same (flE_ok fe).2.2 kok p c
      have r : (fun k => rowK (cMat (inO F' n) le sp) n k 0) = fun k => rowK (cMat (inO F n) le sp) n k 0 := funext fun k => (rowK_cg (fun i j _ hj => cMat_cg sm ok le sp hj) k 0).symm
      by_cases b : bst (fun k => rowK (cMat (inO F n) le sp) n k 0) K = 0
      · rw [liV_3 fe n0 b, liV_3 fe' n0 (by rw [r]; exact b)]
      · rw [liV_4 fe n0 b, liV_4 fe' n0 (by rw [r]; exact b)]
        rw [r, ← rowK_cg (fun i j _ hj => cMat_cg sm ok le sp hj)]
  · rw [liV_1 fe, liV_1 (by rw [flE_perm p]; exact fe), flE_perm p]
end
end Ce
/-- The lines of a plan that is read, by what the shuffle looks at. -/
def PlN (w : World) (p : Option Addr) (m : Nat) (S : Nat → Fl) (k : Nat → Nat) (gr ce co : Nat → Int) : Prop := ∀ t, t < m → ∃ (x : Addr) (q : Option Addr) (d : Nat), p = some x ∧ LnAt w (x.add (t * 8)) (S t) (.slice q (k t) d) (gr t) (ce t) (co t)
theorem PlN.below {w w' : World} {p : Option Addr} {m : Nat} {S : Nat → Fl} {k : Nat → Nat} {gr ce co : Nat → Int} (h : PlN w p m S k gr ce co) (b : Below w.heap.size w w') : PlN w' p m S k gr ce co := fun t ht => by
  obtain ⟨x, q, d, e, l⟩ := h t ht
  exact ⟨x, q, d, e, l.below b⟩
def LiA (K : Nat) (ls le sp : Int) (F : Nat → Fl) (n : Nat) (base : Nat) (v : Value) (w' : World) : Prop :=
  (v = .slice none 0 0 ∧ ((liV K ls le sp F n).2 ≠ 0 ∨ n = 0)) ∨ ((liV K ls le sp F n).2 = 0 ∧ n ≠ 0 ∧ flE ls le sp F n = 0 ∧ liK K le sp F n ≠ 0 ∧ PlR base (inO F n) (gi (ordK (fun k => (F k).key) n)) (cMat (inO F n) le sp) (pos (cMat (inO F n) le sp) n (liK K le sp F n)) (liK K le sp F n) v w')
theorem shu_of {K n : Nat} {ls le sp : Int} {F F' : Nat → Fl} {b b' : Nat} {w w' : World} {v v' : Value} (h : LiA K ls le sp F n b v w) (h' : LiA K ls le sp F' n b' v' w')
    (hK : K = ls.toNat) (kok : ∀ k, k < n → (F k).kok) (p : ((List.range n).map F').Perm ((List.range n).map F)) (c : TellM F n) :
    ∃ (m : Nat) (pl : Option Addr) (cl : Nat) (pl' : Option Addr) (cl' : Nat) (S : Nat → Fl) (k : Nat → Nat) (gr ce co : Nat → Int), v = .slice pl m cl ∧ v' = .slice pl' m cl' ∧ m ≤ 16 ∧ PlN w pl m S k gr ce co ∧ PlN w' pl' m S k gr ce co := by
  have lsm := liV_same kok p c K ls le sp
  unfold LiA at h h'
  rw [lsm] at h'
  rcases h with ⟨rfl, h⟩ | ⟨e0, n0, fe, k0, pr⟩
  · rcases h' with ⟨rfl, -⟩ | ⟨a, b, -⟩
    · exact ⟨0, none, 0, none, 0, F, fun _ => 0, fun _ => 0, fun _ => 0, fun _ => 0, rfl, rfl, Nat.zero_le _, fun t ht => absurd ht (by omega), fun t ht => absurd ht (by omega)⟩
    · rcases h with h | h
      · exact absurd a h
      · exact absurd h b
  · rcases h' with ⟨-, h'⟩ | ⟨-, -, fe', k0', pr'⟩
    · rcases h' with h' | h'
      · exact absurd e0 h'
      · exact absurd h' n0
    · obtain ⟨-, so, fok⟩ := flE_ok fe
      have so1 := so.1
      have ok := inO_ok fok
      have sm := inO_same fok kok p c
      have cg : ∀ i j, i < j → j ≤ n → cMat (inO F n) le sp i j = cMat (inO F' n) le sp i j := fun i j _ hj => cMat_cg sm ok le sp hj
      have r : (fun k => rowK (cMat (inO F' n) le sp) n k 0) = fun k => rowK (cMat (inO F n) le sp) n k 0 := funext fun k => (rowK_cg cg k 0).symm
      have lk : liK K le sp F' n = liK K le sp F n := by unfold liK; rw [r]
      rw [lk] at pr' k0'
      have h0 : rowK (cMat (inO F n) le sp) n (liK K le sp F n) 0 ≠ -1 := bst_hit (f := fun k => rowK (cMat (inO F n) le sp) n k 0) k0
      have h0' : rowK (cMat (inO F' n) le sp) n (liK K le sp F n) 0 ≠ -1 := by rw [← rowK_cg cg]; exact h0
      have ln := fun {t} (ht : t < liK K le sp F n) => pos_line (C := cMat (inO F n) le sp) (n := n) h0 ht
      have ln' := fun {t} (ht : t < liK K le sp F n) => pos_line (C := cMat (inO F' n) le sp) (n := n) h0' ht
      have pc := pos_cg cg h0
      obtain ⟨g, cl, rfl, ps⟩ := plS_of pr (by omega) (fun x hx => (ln hx).1)
      obtain ⟨g', cl', rfl, ps'⟩ := plS_of pr' (by omega) (fun x hx => (ln' hx).1)
      refine ⟨_, _, cl, _, cl', fun t => inO F n (pos (cMat (inO F n) le sp) n (liK K le sp F n) t), fun t => pos (cMat (inO F n) le sp) n (liK K le sp F n) (t + 1) - pos (cMat (inO F n) le sp) n (liK K le sp F n) t, fun t => mas (inO F n) (pos (cMat (inO F n) le sp) n (liK K le sp F n) t) (pos (cMat (inO F n) le sp) n (liK K le sp F n) (t + 1)), fun t => cen (inO F n) (pos (cMat (inO F n) le sp) n (liK K le sp F n) t) (pos (cMat (inO F n) le sp) n (liK K le sp F n) (t + 1)), fun t => cMat (inO F n) le sp (pos (cMat (inO F n) le sp) n (liK K le sp F n) t) (pos (cMat (inO F n) le sp) n (liK K le sp F n) (t + 1)), rfl, rfl, Nat.le_trans (bst_le _ _) (by omega), fun t ht => ?_, fun t ht => ?_⟩
      · obtain ⟨x, q, d, e, l, -⟩ := ps t ht
        exact ⟨x, q, d, e, l⟩
      · obtain ⟨x, q, d, e, l, -⟩ := ps' t ht
        refine ⟨x, q, d, e, ?_⟩
        rw [← pc t (by omega), ← pc (t + 1) (by omega)] at l
        have a := ln ht
        rw [← sm _ (by omega), ← mas_cg sm _ a.2.1, ← cen_cg sm ok a.1 a.2.1, ← cg _ _ a.1 a.2.1] at l
        exact l
end Go.Proofs.Ytmdhmpfagekonaa

/- Classing's shuffle: rows of fleeces that grow. -/
namespace Go.Proofs.Ytmdhmpfagekonaa
open Go.RowKit Go.Proofs.Ytmdhmpfagekonaa.Ct Go.Proofs.Ytmdhmpfagekonaa.Ce Go.Proofs.Ytmdhmpfagekonaa.Stb
set_option linter.unusedVariables false
set_option linter.unusedSimpArgs false

def flV (f : Fl) : List Value := [.int .u8 f.ka, .int .u8 f.kb, .int .u8 f.kc, .int .u8 f.kd, .int .i64 f.mic, .int .i64 f.gr]
/-- The cells of a row of fleeces. -/
def flL (G : List Fl) : List Value := G.flatMap flV
theorem flL_cons (f : Fl) (G : List Fl) : flL (f :: G) = flV f ++ flL G := rfl
theorem flL_app (G H : List Fl) : flL (G ++ H) = flL G ++ flL H := List.flatMap_append
theorem flL_len : ∀ G : List Fl, (flL G).length = G.length * 6
  | [] => rfl
  | f :: G => by rw [flL_cons, List.length_append, flL_len G, List.length_cons]; simp [flV]; omega
theorem flL_one : ∀ {G : List Fl}, ∀ u ∈ flL G, u.oneCell' = true
  | [], u, h => by simp [flL] at h
  | f :: G, u, h => by
    rw [flL_cons, List.mem_append] at h
    rcases h with h | h
    · simp [flV] at h
      rcases h with h | h | h | h | h | h <;> (subst h; rfl)
    · exact flL_one u h
theorem flL_at : ∀ {G : List Fl} {i c : Nat}, i < G.length → c < 6 → (flL G)[i * 6 + c]? = (flV (G.getD i fl0))[c]?
  | [], i, c, h, _ => by simp at h
  | f :: G, 0, c, _, hc => by
    rw [flL_cons, List.getElem?_append_left (by simp [flV]; omega)]
    simp
  | f :: G, i + 1, c, h, hc => by
    rw [flL_cons, List.getElem?_append_right (by simp [flV]; omega), show (i + 1) * 6 + c - (flV f).length = i * 6 + c by simp [flV]; omega, flL_at (by simpa using h) hc]
    simp
/-- A row of fleeces of one's own. -/
def OF (W : World) (base : Nat) (v : Value) (G : List Fl) : Prop := W.ownsRow base 55 6 v G.length (flL G)
theorem OF.nil (W : World) (base : Nat) : OF W base (.slice none 0 0) [] := World.ownsRow_nil _ _ _ _
theorem OF.read {W : World} {base : Nat} {v : Value} {G : List Fl} (h : OF W base v G) : ∃ q c, v = .slice q G.length c ∧ G.length ≤ c ∧ (q = none → c = 0) ∧ FlR W q G.length (fun k => G.getD k fl0) := by
  have h' := h
  rcases h.2 with ⟨rfl, h0⟩ | ⟨g, cap, cur, rfl, hb, hg, hn, _, hs, ht⟩
  · exact ⟨none, 0, by rw [h0], by omega, fun _ => rfl, fun i hi => by omega⟩
  · refine ⟨_, _, rfl, hn, (fun h => by cases h), fun i hi => ⟨⟨g, 0, none⟩, rfl, ?_⟩⟩
    have e : ∀ c, c < 6 → W.cell? ⟨g, i * 6 + c, none⟩ = (flV (G.getD i fl0))[c]? := fun c hc => by
      rw [World.ownsRow.cellAt h' (i * 6 + c) (by omega), flL_at hi hc]
    have ea : (⟨g, 0, none⟩ : Addr).add (i * 6) = ⟨g, i * 6, none⟩ := by
      unfold Addr.add; split
      · next z => rw [z]
      · simp
    rw [ea]
    exact ⟨(Array.getElem?_eq_some_iff.1 hg).1, e 0 (by omega), e 1 (by omega), e 2 (by omega), e 3 (by omega), e 4 (by omega), e 5 (by omega)⟩
theorem OF.al {W : World} {base : Nat} {v : Value} {G : List Fl} (h : OF W base v G) (o : Obj) : OF (W.alloc o) base v G := World.ownsRow.alloc h o
theorem one_fl (W : World) (f : Fl) : FlR (W.alloc (Obj.cells #[.int .u8 f.ka, .int .u8 f.kb, .int .u8 f.kc, .int .u8 f.kd, .int .i64 f.mic, .int .i64 f.gr] 55)) (some ⟨W.heap.size, 0, none⟩) [f].length (fun j => [f].getD j fl0) := fun i hi => by
  have : i = 0 := by simp at hi; exact hi
  subst this
  refine ⟨_, rfl, ?_⟩
  show FlAt _ ⟨W.heap.size, 0, none⟩ f
  have h := heap_alloc_new W (Obj.cells #[.int .u8 f.ka, .int .u8 f.kb, .int .u8 f.kc, .int .u8 f.kd, .int .i64 f.mic, .int .i64 f.gr] 55)
  have e := fun k => ownNums.cellAt (o := k) h
  exact ⟨by simp, e 0, e 1, e 2, e 3, e 4, e 5⟩
/-- Put in between. -/
def putL (G : List Fl) (k : Nat) (f : Fl) : List Fl := G.take k ++ [f] ++ G.drop k
theorem putL_len {G : List Fl} {k j : Nat} {f : Fl} (h : G.length = j) (hk : k ≤ j) : (putL G k f).length = j + 1 := by
  unfold putL
  rw [List.length_append, List.length_append, List.length_take, List.length_drop]; simp; omega
theorem put_perm {G M : List Fl} {f : Fl} (k : Nat) (h : G.Perm M) : (putL G k f).Perm (M ++ [f]) := by
  unfold putL
  have e : G.take k ++ [f] ++ G.drop k = G.take k ++ f :: G.drop k := by simp
  rw [e]
  have p : (G.take k ++ f :: G.drop k).Perm (f :: G) := by
    have := List.perm_middle (a := f) (l₁ := G.take k) (l₂ := G.drop k)
    rwa [List.take_append_drop] at this
  exact p.trans ((h.cons f).trans (List.perm_append_singleton f M).symm)
theorem add_add (x : Addr) (a b : Nat) : (x.add a).add b = x.add (a + b) := by
  unfold Addr.add
  by_cases ha : a = 0
  · subst ha; simp
  · by_cases hb : b = 0
    · subst hb; simp [ha]
    · rw [if_neg ha, if_neg hb, if_neg (by omega), Nat.add_assoc]
/-- A part of a row of fleeces. -/
theorem FlR.drop {W : World} {x : Addr} {n k : Nat} {G : List Fl} (h : FlR W (some x) n (fun j => G.getD j fl0)) (hn : n = G.length) (hk : k ≤ n) : FlR W (some (x.add (k * 6))) (G.drop k).length (fun j => (G.drop k).getD j fl0) := fun i hi => by
  rw [List.length_drop] at hi
  obtain ⟨y, e, f⟩ := h (k + i) (by omega)
  cases e
  refine ⟨_, rfl, ?_⟩
  rw [add_add, show k * 6 + i * 6 = (k + i) * 6 by omega]
  show FlAt W _ ((G.drop k).getD i fl0)
  have : (G.drop k).getD i fl0 = G.getD (k + i) fl0 := by simp [List.getD_eq_getElem?_getD]
  rw [this]
  exact f
theorem FlR.take {W : World} {q : Option Addr} {n k : Nat} {G : List Fl} (h : FlR W q n (fun j => G.getD j fl0)) (hn : n = G.length) (hk : k ≤ n) : FlR W q (G.take k).length (fun j => (G.take k).getD j fl0) := fun i hi => by
  rw [List.length_take] at hi
  obtain ⟨y, e, f⟩ := h i (by omega)
  refine ⟨y, e, ?_⟩
  show FlAt W _ ((G.take k).getD i fl0)
  have : (G.take k).getD i fl0 = G.getD i fl0 := by rw [List.getD_eq_getElem?_getD, List.getD_eq_getElem?_getD, List.getElem?_take, if_pos (by omega)]
  rw [this]
  exact f
theorem flR_cells {W : World} {x : Addr} {H : List Fl} (h : FlR W (some x) H.length (fun j => H.getD j fl0)) : ∀ j u, (flL H)[j]? = some u → W.cell? (x.add j) = some u := fun j u hu => by
  have hj : j < (flL H).length := (List.getElem?_eq_some_iff.1 hu).1
  rw [flL_len] at hj
  obtain ⟨y, e, f⟩ := h (j / 6) (by omega)
  cases e
  have e2 := flL_at (G := H) (i := j / 6) (c := j % 6) (by omega) (by omega)
  rw [show j / 6 * 6 + j % 6 = j by omega, hu] at e2
  have ad : ∀ c, c ≠ 0 → (⟨(x.add (j / 6 * 6)).block, (x.add (j / 6 * 6)).off + c, none⟩ : Addr) = x.add (j / 6 * 6 + c) := fun c hc => by
    unfold Addr.add
    by_cases z : j / 6 * 6 = 0
    · rw [if_pos z, if_neg (by omega), z]; simp
    · rw [if_neg z, if_neg (by omega), Nat.add_assoc]
  obtain ⟨-, f0, f1, f2, f3, f4, f5⟩ := f
  rw [ad 1 (by decide)] at f1
  rw [ad 2 (by decide)] at f2
  rw [ad 3 (by decide)] at f3
  rw [ad 4 (by decide)] at f4
  rw [ad 5 (by decide)] at f5
  have c6 : j % 6 = 0 ∨ j % 6 = 1 ∨ j % 6 = 2 ∨ j % 6 = 3 ∨ j % 6 = 4 ∨ j % 6 = 5 := by omega
  have dj : j / 6 * 6 + j % 6 = j := by omega
  rcases c6 with c | c | c | c | c | c
  · rw [c] at e2 dj; rw [← dj, Nat.add_zero, f0, e2]; rfl
  · rw [c] at e2 dj; rw [← dj, f1, e2]; rfl
  · rw [c] at e2 dj; rw [← dj, f2, e2]; rfl
  · rw [c] at e2 dj; rw [← dj, f3, e2]; rfl
  · rw [c] at e2 dj; rw [← dj, f4, e2]; rfl
  · rw [c] at e2 dj; rw [← dj, f5, e2]; rfl
theorem wpList_append_fls {W : World} {ops : Array Oper} {rest : List Oper} {o : Oper} {a : Act} {Q : Exit → Act → World → Prop} (hgd : o.guard = none) (s x : Operand)
    (ho : o.op = .call { callee := .builtin .append, args := #[s, x], argTypes := #[22, 22] })
    (base : Nat) (v : Value) (L : List Fl) (hs : a.eval s = v) (hown : OF W base v L) (q : Option Addr) (m c : Nat) (H : List Fl) (hx : a.eval x = .slice q m c) (hq : q = none → c = 0) (hm : m = H.length) (hH : FlR W q H.length (fun j => H.getD j fl0)) (hL : L.length + H.length ≤ 1000000) (hbase : base ≤ W.heap.size)
    (h : ∀ v' W', OF W' base v' (L ++ H) → W.grownBy W' v.ownBlock → wpList Try.prog ops Q rest (a.put o.dst v') W') : wpList Try.prog ops Q (o :: rest) a W := by
  obtain ⟨i1, hi1, hy0, hy1, hy2⟩ := info_parts flInfo
  subst hm
  cases q with
  | none =>
    have h0 : H = [] := by
      cases H with
      | nil => rfl
      | cons f G =>
        obtain ⟨y, e, -⟩ := hH 0 (by simp)
        cases e
    subst h0
    rw [hq rfl] at hx
    exact wpList_append_own_none hgd s x 22 ho base 55 i1 6 Try.underlying22 hi1 v _ _ hs hown hx (h v W (by simpa using hown) ⟨rfl, rfl, rfl, Nat.le_refl _, fun _ _ _ => rfl⟩)
  | some ad =>
    refine wpList_append_own W hgd s x 22 ho base 55 i1 _ 6 24 Try.underlying22 hi1 hy0 hy1 hy2 rfl (by decide) v _ _ hs hown ad H.length c (flL H) hx (flL_len H) (flR_cells hH) flL_one (by unfold maxLen; omega) (by omega) hbase ?_
    intro v' W' h1 h2 _
    exact h v' W' (by unfold OF; rw [flL_app, List.length_append]; exact h1) h2
/-- What a row of one's own that grows leaves as it was. -/
theorem OF.grown {W0 W W' : World} {v : Value} {L : List Fl} (h : OF W W0.heap.size v L) (b : Below W0.heap.size W0 W) (g : W.grownBy W' v.ownBlock) : Below W0.heap.size W0 W' := b.grown g b.size (own_ltD h)
end Go.Proofs.Ytmdhmpfagekonaa

/- The law ClassingShuffled: its walk. -/
namespace Go.Proofs.Ytmdhmpfagekonaa
open Go.RowKit Go.Proofs.Ytmdhmpfagekonaa.Ct Go.Proofs.Ytmdhmpfagekonaa.Ce Go.Proofs.Ytmdhmpfagekonaa.Stb
set_option linter.unusedVariables false
set_option linter.unusedSimpArgs false

/-- A row of bytes that came in. -/
def UbR (W : World) (q : Option Addr) (m : Nat) (U : Nat → Int) : Prop := ∀ i, i < m → ∃ x : Addr, q = some x ∧ x.block < W.heap.size ∧ W.cell? (x.add i) = some (.int .u8 (U i)) ∧ 0 ≤ U i ∧ U i ≤ 255
theorem UbR.below {W W' : World} {q : Option Addr} {m : Nat} {U : Nat → Int} (r : UbR W q m U) (hb : Below W.heap.size W W') : UbR W' q m U := fun i h => by
  obtain ⟨x, e, k, c, b⟩ := r i h
  exact ⟨x, e, Nat.lt_of_lt_of_le k hb.size, by rw [hb.cell (p := x.add i) (by rw [addB]; exact k)]; exact c, b⟩
/-- Of these two: of one kind and diameter, so of one mass. -/
def TM (F : Nat → Fl) (a b : Nat) : Prop := (F a).ka = (F b).ka ∧ (F a).kb = (F b).kb ∧ (F a).kc = (F b).kc ∧ (F a).kd = (F b).kd → (F a).mic = (F b).mic → (F a).gr = (F b).gr
theorem tell_of {F : Nat → Fl} {n : Nat} (h : ∀ b, b < n → ∀ a, a < b → TM F a b) : TellM F n := fun i j hi hj k m => by
  rcases Nat.lt_trichotomy i j with l | l | l
  · exact h j hj i l k m
  · rw [l]
  · exact (h i hi j l ⟨k.1.symm, k.2.1.symm, k.2.2.1.symm, k.2.2.2.symm⟩ m.symm).symm

set_option maxRecDepth 100000 in
set_option maxHeartbeats 16000000 in
theorem classingShuffled_walk (p : Option Addr) (c n : Nat) (F : Nat → Fl) (w : World) (r : FlR w p n F) (z : n ≤ 9223372036854775807) (kok : ∀ k, k < n → (F k).kok) (ls le sp : Int) (qa : Option Addr) (ca ma : Nat) (U : Nat → Int) (ru : UbR w qa ma U) (za : ma ≤ 9223372036854775807) :
    Calls Try.prog 8 #[.slice p n c, .agg #[.int .i64 ls, .int .i64 le, .int .i64 sp], .slice qa ma ca] w fun e w' => e = .returned (.bool true) ∧ Below w.heap.size w w' := by
  have AL := Lib.hid alive_any
  have R := Lib.hid r
  have RU := Lib.hid ru
  have KOK := Lib.hid kok
  have HP := Lib.hid (fl_hp r)
  have B1 := Lib.hid (show Below w.heap.size w (w.alloc (Obj.cells #[.int .i64 ls, .int .i64 le, .int .i64 sp] 24)) from (Below.refl _ _).alloc (Nat.le_refl _) _)
  have OS := Lib.hid (spBx w ls le sp)
  have FW := Lib.hid (fun W => few_any p c n W)
  clear r ru kok
  obtain ⟨K, hK⟩ : ∃ K, K = ls.toNat := ⟨_, rfl⟩
  have HK := Lib.hid hK
  clear hK
  go_enter Try.func8, Try.ntmps8
  go_upto_region 1 with fail
  generalize (w.alloc (Obj.cells #[.int .i64 ls, .int .i64 le, .int .i64 sp] 24)) = wa at *
  by_cases t0 : n ≤ 140
  case neg =>
    rw [decide_eq_false t0] at FW
    go_wp2_with fail
    refine (FW.out _).mono ?_
    rintro e w1 ⟨rfl, rfl⟩
    go_wp2_with fail
    refine (AL.out _).mono ?_
    rintro e w2 ⟨rfl, st⟩
    have BB := Lib.hid (B1.out.trans (st.mono B1.out.size))
    go_wp2_with fail
    go_ret
    exact ⟨rfl, BB.out⟩
  rw [decide_eq_true t0] at FW
  go_wp2_with fail
  refine (FW.out _).mono ?_
  rintro e w1 ⟨rfl, rfl⟩
  rename World => wa
  clear FW
  go_wp2_with fail
  go_loopw [7, 8] (fun iv _ wr => ∃ i : Nat, i ≤ n ∧ iv = .int .i64 i ∧ Hid (Below wa.heap.size wa wr) ∧ Hid (∀ b, b < i → ∀ a, a < b → TM F a b)) (fun iv _ _ => n - (intOf iv).toNat)
  case atStart => exact ⟨0, Nat.zero_le _, rfl, Lib.hid (Below.refl _ _), Lib.hid (fun b hb => absurd hb (by omega))⟩
  case round =>
  obtain ⟨i, hi, rfl, BW, TI⟩ := hrel
  by_cases t1 : i < n
  case pos =>
    have i1 : (0 : Int) ≤ (i : Int) := by omega
    have i2 : (i : Int) < (n : Int) := by omega
    go_wp2_with fail
    go_loopw [8] (fun kv wq => ∃ k : Nat, k ≤ i ∧ kv = .int .i64 k ∧ Hid (Below wr.heap.size wr wq) ∧ Hid (∀ a, a < k → TM F a i)) (fun kv _ => i - (intOf kv).toNat)
    case atStart => exact ⟨0, Nat.zero_le _, rfl, Lib.hid (Below.refl _ _), Lib.hid (fun b hb => absurd hb (by omega))⟩
    case round =>
    obtain ⟨k, hk, rfl, BQ, TK⟩ := hrel
    have BX := Lib.hid (B1.out.trans ((BW.out.trans (BQ.out.mono BW.out.size)).mono B1.out.size))
    by_cases t2 : k < i
    case pos =>
      have k1 : (0 : Int) ≤ (k : Int) := by omega
      have k2 : (k : Int) < (n : Int) := by omega
      have k3 : (k : Int) < (i : Int) := by omega
      obtain ⟨x, rfl, -⟩ := R.out i t1
      obtain ⟨-, a0, a1, a2, a3, a4, a5⟩ := (R.out.below BX.out).at1 t1 rfl
      obtain ⟨-, b0, b1, b2, b3, b4, b5⟩ := (R.out.below BX.out).at1 (show k < n by omega) rfl
      have EK := fun W => eq_kind (F k).ka (F k).kb (F k).kc (F k).kd (F i).ka (F i).kb (F i).kc (F i).kd W
      have NX := Lib.hid (show TM F k i → ∀ a, a < k + 1 → TM F a i from fun h a ha => by
        by_cases e : a = k
        · rw [e]; exact h
        · exact TK.out a (by omega))
      have TE := Lib.hid (show TM F k i ↔ ((F k).ka = (F i).ka ∧ (F k).kb = (F i).kb ∧ (F k).kc = (F i).kc ∧ (F k).kd = (F i).kd → (F k).mic = (F i).mic → (F k).gr = (F i).gr) from Iff.rfl)
      by_cases q : (F k).ka = (F i).ka ∧ (F k).kb = (F i).kb ∧ (F k).kc = (F i).kc ∧ (F k).kd = (F i).kd
      · simp only [decide_eq_true q] at EK
        by_cases q2 : (F k).mic = (F i).mic
        · have d2 : ((F k).mic == (F i).mic) = true := by simp [q2]
          by_cases q3 : (F k).gr = (F i).gr
          · have d3 : ((F k).gr != (F i).gr) = false := by simp [q3]
            have TT := Lib.hid (TE.out.2 fun _ _ => q3)
            clear q q2 q3 TE
            generalize F k = s at *
            generalize F i = s' at *
            go_upto_region 9 with fail
            go_quiet (fail)
            go_wp2_with fail
            go_roundw
            case rel => exact ⟨k + 1, by omega, by go_num, Lib.hid (below_drewN BQ.out _), Lib.hid (NX.out TT.out)⟩
            case measure => simp [intOf]; omega
          · have d3 : ((F k).gr != (F i).gr) = true := by simp [q3]
            clear q q2 q3 TE NX
            generalize F k = s at *
            generalize F i = s' at *
            go_upto_region 9 with fail
            go_quiet (fail)
            have HX := Lib.hid (below_drewN BX.out nq)
            go_wp2_with fail
            refine (AL.out _).mono ?_
            rintro e w4 ⟨rfl, st⟩
            have BB := Lib.hid (HX.out.trans (st.mono HX.out.size))
            go_wp2_with fail
            go_ret
            exact ⟨rfl, BB.out⟩
        · have d2 : ((F k).mic == (F i).mic) = false := by simp [q2]
          have TT := Lib.hid (TE.out.2 fun _ h => absurd h q2)
          clear q q2 TE
          generalize F k = s at *
          generalize F i = s' at *
          go_upto_region 9 with fail
          go_quiet (fail)
          go_wp2_with fail
          go_roundw
          case rel => exact ⟨k + 1, by omega, by go_num, Lib.hid (below_drewN BQ.out _), Lib.hid (NX.out TT.out)⟩
          case measure => simp [intOf]; omega
      · simp only [decide_eq_false q] at EK
        have TT := Lib.hid (TE.out.2 fun h => absurd h q)
        clear q TE
        generalize F k = s at *
        generalize F i = s' at *
        go_upto_region 9 with fail
        go_quiet (fail)
        go_wp2_with fail
        go_roundw
        case rel => exact ⟨k + 1, by omega, by go_num, Lib.hid (below_drewN BQ.out _), Lib.hid (NX.out TT.out)⟩
        case measure => simp [intOf]; omega
    obtain rfl : k = i := by omega
    have k4 : ¬ ((k : Int) < (k : Int)) := by omega
    have TJ := Lib.hid (show ∀ b, b < k + 1 → ∀ a, a < b → TM F a b from fun b hb => by
      by_cases e : b = k
      · rw [e]; exact TK.out
      · exact TI.out b (by omega))
    go_wp2_with fail
    go_roundw
    case rel => exact ⟨k + 1, by omega, by go_num, Lib.hid (BW.out.trans (BQ.out.mono BW.out.size)), TJ⟩
    case measure => simp [intOf]; omega
  obtain rfl : n = i := by omega
  have TL := Lib.hid (tell_of TI.out)
  have k4 : ¬ ((n : Int) < (n : Int)) := by omega
  have HB := Lib.hid (B1.out.trans (BW.out.mono B1.out.size))
  have OS1 := Lib.hid (OS.out.below BW.out)
  clear TI BW OS B1
  rename World => ws
  go_wp2_with fail
  go_loopw [9, 10, 11, 12] (fun ov iv _ _ wx => ∃ (j : Nat) (q : Option Addr) (c' : Nat) (G : List Fl), j ≤ n ∧ iv = .int .i64 j ∧ ov = .slice q j c' ∧ G.length = j ∧ j ≤ c' ∧ (q = none → c' = 0) ∧ Hid (FlR wx q j (fun k => G.getD k fl0)) ∧ Hid (G.Perm ((List.range j).map F)) ∧ Hid (Below ws.heap.size ws wx)) (fun _ iv _ _ _ => n - (intOf iv).toNat)
  case atStart => exact ⟨0, none, 0, [], Nat.zero_le _, rfl, rfl, rfl, Nat.le_refl _, fun _ => rfl, Lib.hid (fun i hi => absurd hi (by omega)), Lib.hid (.refl _), Lib.hid (Below.refl _ _)⟩
  case round =>
  obtain ⟨j, q, c', G, hj, rfl, rfl, lg, jc, qn, RG, PG, BS⟩ := hrel
  have LG := Lib.hid lg
  have QN := Lib.hid qn
  clear lg qn
  by_cases t3 : j < n
  case pos =>
    have i1 : (0 : Int) ≤ (j : Int) := by omega
    have i2 : (j : Int) < (n : Int) := by omega
    have T3 := Lib.hid t3
    go_upto_region 16 with fail
    go_upto_if 82 with fail
    go_cut [11] from 82 to 91 (fun kv w' => ∃ k : Nat, k ≤ j ∧ kv = .int .i64 k ∧ w' = wr)
    case first =>
      by_cases t4 : j < ma
      · obtain ⟨y, rfl, -, cy, u0, u1⟩ := (RU.out.below (HB.out.trans (BS.out.mono HB.out.size))) j t4
        have j1 : (j : Int) < (ma : Int) := by omega
        generalize U j = u at *
        have e1 : IntKind.i64.wrap ((j : Int) + 1) = (j : Int) + 1 := hwI (by omega) (by omega)
        have e2 : (((j : Int) + 1) == 0) = false := by simp; omega
        have e3 : ¬ ((j : Int) + 1 = 0) := by omega
        go_wp2_with fail
        go_meet
        have m0 := Int.emod_nonneg u (show (j : Int) + 1 ≠ 0 by omega)
        have m1 := Int.emod_lt_of_pos u (show (0 : Int) < (j : Int) + 1 by omega)
        exact ⟨(u % ((j : Int) + 1)).toNat, by omega, by rw [Int.toNat_of_nonneg m0], rfl⟩
      · have j1 : ¬ ((j : Int) < (ma : Int)) := by omega
        go_wp2_with fail
        go_meet
        exact ⟨0, Nat.zero_le _, rfl, rfl⟩
    case rest =>
    obtain ⟨k, hk, rfl, hw⟩ := hcut
    subst hw
    rename World => wo
    have HX := Lib.hid (HB.out.trans (BS.out.mono HB.out.size))
    have K1 : (0 : Int) ≤ (k : Int) := by omega
    have K2 : (k : Int) ≤ (j : Int) := by omega
    have K3 : (k : Int) ≤ (c' : Int) := by omega
    have RX := Lib.hid (R.out.below HX.out)
    have JN := Lib.hid (show j ≤ 140 from by omega)
    have lg := LG.out
    cases q with
    | none =>
      obtain rfl : j = 0 := by
        by_cases q0 : 0 < j
        · obtain ⟨y, e, -⟩ := RG.out 0 q0
          cases e
        · omega
      obtain rfl : k = 0 := by omega
      obtain rfl : c' = 0 := QN.out rfl
      obtain rfl : G = [] := List.eq_nil_of_length_eq_zero lg
      obtain ⟨y, rfl, -⟩ := R.out 0 t3
      clear lg K1 K2 K3
      go_upto_region 20 with (first
        | (at_builtin; refine wpList_append_fls rfl _ _ rfl wo.heap.size _ [] rfl (OF.nil _ _) none 0 0 [] rfl (fun _ => rfl) rfl (fun i hi => absurd hi (by simp)) (by simp) (Nat.le_refl _) ?_))
      intro v1 w1 O1 g1
      have B1' := Lib.hid (OF.grown (OF.nil wo wo.heap.size) (Below.refl _ _) g1)
      have O1' := Lib.hid (show OF w1 wo.heap.size v1 [] from O1)
      obtain ⟨-, a0, a1, a2, a3, a4, a5⟩ := (RX.out.below B1'.out).at1 t3 rfl
      rw [show y.add (0 * 6) = y from rfl] at a0 a1 a2 a3 a4 a5
      clear O1 g1
      generalize hfj : F 0 = f at *
      have HF := Lib.hid hfj
      clear hfj
      go_upto_region 21 with (first
        | (at_builtin; refine wpList_append_fls rfl _ _ rfl wo.heap.size _ [] rfl (OF.al O1'.out _) (some ⟨w1.heap.size, 0, none⟩) 1 1 [f] rfl (fun h => by cases h) rfl (one_fl w1 f) (by simp) (by have := B1'.out.size; simp; omega) ?_))
      intro v2 w2 O2 g2
      have B2' := Lib.hid (OF.grown (OF.al O1'.out _) (B1'.out.alloc B1'.out.size _) g2)
      have O2' := Lib.hid (show OF w2 wo.heap.size v2 [f] from O2)
      clear O2 g2 a0 a1 a2 a3 a4 a5
      go_wp2_with (first
        | (at_builtin; refine wpList_append_fls rfl _ _ rfl wo.heap.size _ [f] rfl O2'.out none 0 0 [] rfl (fun _ => rfl) rfl (fun i hi => absurd hi (by simp)) (by simp) B2'.out.size ?_))
      intro v3 w3 O3 g3
      have B3' := Lib.hid (OF.grown O2'.out B2'.out g3)
      replace O3 : OF w3 wo.heap.size v3 [f] := by simpa using O3
      obtain ⟨q3, c3, rfl, lc, qn3, r3⟩ := O3.read
      have R3 := Lib.hid r3
      have QN3 := Lib.hid qn3
      have LC := Lib.hid (show 0 + 1 ≤ c3 from lc)
      have PN := Lib.hid (show [f].Perm ((List.range (0 + 1)).map F) from by
        rw [show (List.range (0 + 1)).map F = [F 0] from rfl, HF.out])
      have BN := Lib.hid (BS.out.trans (B3'.out.mono BS.out.size))
      clear r3 O3 g3 qn3 lc
      go_wp2_with fail
      go_roundw
      case rel => exact ⟨0 + 1, q3, c3, [f], by omega, by go_num, rfl, rfl, LC.out, QN3.out, R3, PN, BN⟩
      case measure => simp [intOf]; omega
    | some x =>
      obtain ⟨y, rfl, -⟩ := R.out j t3
      go_upto_region 20 with (first
        | (at_builtin; refine wpList_append_fls rfl _ _ rfl wo.heap.size _ [] rfl (OF.nil _ _) (some x) k c' (G.take k) rfl (fun h => by cases h) (by rw [List.length_take]; omega) (FlR.take RG.out LG.out.symm hk) (by rw [List.length_take]; simp; omega) (Nat.le_refl _) ?_))
      intro v1 w1 O1 g1
      have B1' := Lib.hid (OF.grown (OF.nil wo wo.heap.size) (Below.refl _ _) g1)
      have O1' := Lib.hid O1
      obtain ⟨-, a0, a1, a2, a3, a4, a5⟩ := (RX.out.below B1'.out).at1 t3 rfl
      have FJ := Lib.hid (show F j = F j from rfl)
      clear O1 g1
      generalize hfj : F j = f at *
      have HF := Lib.hid hfj
      clear hfj
      go_upto_region 21 with (first
        | (at_builtin; refine wpList_append_fls rfl _ _ rfl wo.heap.size _ (G.take k) rfl (OF.al O1'.out _) (some ⟨w1.heap.size, 0, none⟩) 1 1 [f] rfl (fun h => by cases h) rfl (one_fl w1 f) (by rw [List.length_take]; simp; omega) (by have := B1'.out.size; simp; omega) ?_))
      intro v2 w2 O2 g2
      have B2' := Lib.hid (OF.grown (OF.al O1'.out _) (B1'.out.alloc B1'.out.size _) g2)
      have O2' := Lib.hid O2
      clear O2 g2 a0 a1 a2 a3 a4 a5
      by_cases ek : c' = k
      · obtain rfl : j = k := by omega
        have DR : G.drop j = [] := List.drop_eq_nil_of_le (by omega)
        have HD := Lib.hid DR
        clear DR
        subst ek
        go_wp2_with (first
          | (at_builtin; refine wpList_append_fls rfl _ _ rfl wo.heap.size _ (G.take c' ++ [f]) rfl O2'.out (some x) 0 0 (G.drop c') (by first | rfl | simp) (fun h => by cases h) (by rw [HD.out]; rfl) (by rw [HD.out]; intro i hi; simp at hi) (by rw [List.length_append, List.length_take, List.length_drop]; simp; omega) B2'.out.size ?_))
        intro v3 w3 O3 g3
        have B3' := Lib.hid (OF.grown O2'.out B2'.out g3)
        replace O3 : OF w3 wo.heap.size v3 (putL G c' f) := by unfold putL; simpa using O3
        obtain ⟨q3, c3, rfl, lc, qn3, r3⟩ := O3.read
        have LN := putL_len (f := f) LG.out hk
        rw [LN] at lc r3 ⊢
        have LN' := Lib.hid LN
        have R3 := Lib.hid r3
        have QN3 := Lib.hid qn3
        have PN := Lib.hid (show (putL G c' f).Perm ((List.range (c' + 1)).map F) from by
          have := put_perm (f := f) c' PG.out
          rw [List.range_succ, List.map_append]
          rw [← HF.out] at this ⊢
          exact this)
        have BN := Lib.hid (BS.out.trans (B3'.out.mono BS.out.size))
        clear LN r3 O3 g3 qn3
        go_wp2_with fail
        go_roundw
        case rel => exact ⟨c' + 1, q3, c3, putL G c' f, by omega, by go_num, rfl, LN'.out, lc, QN3.out, R3, PN, BN⟩
        case measure => simp [intOf]; omega
      · go_wp2_with (first
          | (at_builtin; refine wpList_append_fls rfl _ _ rfl wo.heap.size _ (G.take k ++ [f]) rfl O2'.out (some (x.add (k * 6))) (j - k) (c' - k) (G.drop k) rfl (fun h => by cases h) (by rw [List.length_drop]; omega) (FlR.drop (RG.out.below B2'.out) LG.out.symm hk) (by rw [List.length_append, List.length_take, List.length_drop]; simp; omega) B2'.out.size ?_))
        intro v3 w3 O3 g3
        have B3' := Lib.hid (OF.grown O2'.out B2'.out g3)
        replace O3 : OF w3 wo.heap.size v3 (putL G k f) := by unfold putL; simpa using O3
        obtain ⟨q3, c3, rfl, lc, qn3, r3⟩ := O3.read
        have LN := putL_len (f := f) LG.out hk
        rw [LN] at lc r3 ⊢
        have LN' := Lib.hid LN
        have R3 := Lib.hid r3
        have QN3 := Lib.hid qn3
        have PN := Lib.hid (show (putL G k f).Perm ((List.range (j + 1)).map F) from by
          have := put_perm (f := f) k PG.out
          rw [List.range_succ, List.map_append]
          rw [← HF.out] at this ⊢
          exact this)
        have BN := Lib.hid (BS.out.trans (B3'.out.mono BS.out.size))
        clear LN r3 O3 g3 qn3
        go_wp2_with fail
        go_roundw
        case rel => exact ⟨j + 1, q3, c3, putL G k f, by omega, by go_num, rfl, LN'.out, lc, QN3.out, R3, PN, BN⟩
        case measure => simp [intOf]; omega
  obtain rfl : n = j := by omega
  have k5 : ¬ ((n : Int) < (n : Int)) := by omega
  have EG := Lib.hid (show (List.range n).map (fun k => G.getD k fl0) = G from by
    apply List.ext_getElem
    · rw [List.length_map, List.length_range, LG.out]
    · intro k h1 h2
      simp [List.getD_eq_getElem?_getD, h2])
  have PF := Lib.hid (show ((List.range n).map (fun k => G.getD k fl0)).Perm ((List.range n).map F) from by rw [EG.out]; exact PG.out)
  obtain ⟨F', hF'⟩ : ∃ F' : Nat → Fl, F' = fun k => G.getD k fl0 := ⟨_, rfl⟩
  rw [← hF'] at RG PF
  clear hF' EG PG LG QN jc
  have KOK' := Lib.hid ((ok_perm PF.out Fl.kok).2 KOK.out)
  replace HB := Lib.hid (HB.out.trans (BS.out.mono HB.out.size))
  have OS2 := Lib.hid (OS1.out.below BS.out)
  clear OS1 BS
  have s0 : wr.cell? ⟨w.heap.size, 0, none⟩ = some (.int .i64 ls) := OS2.out.cell (k := 0) (by decide)
  have s1 : wr.cell? ⟨w.heap.size, 1, none⟩ = some (.int .i64 le) := OS2.out.cell (k := 1) (by decide)
  have s2 : wr.cell? ⟨w.heap.size, 2, none⟩ = some (.int .i64 sp) := OS2.out.cell (k := 2) (by decide)
  have C1 := Lib.hid (Lines_any p c n K F ls le sp wr (R.out.below HB.out) t0 KOK.out (fun x hx h0 => Nat.lt_of_lt_of_le (HP.out x hx h0) HB.out.size) HK.out)
  go_wp2_with fail
  refine C1.out.mono ?_
  rintro e w1 ⟨v, rfl, b1, hl⟩
  replace HB := Lib.hid (HB.out.trans (b1.mono HB.out.size))
  replace OS2 := Lib.hid (OS2.out.below b1)
  replace RG := Lib.hid (RG.out.below b1)
  have HL := Lib.hid (show LiA K ls le sp F n wr.heap.size v w1 from hl)
  clear b1 C1 s0 s1 s2 hl
  have s0 : w1.cell? ⟨w.heap.size, 0, none⟩ = some (.int .i64 ls) := OS2.out.cell (k := 0) (by decide)
  have s1 : w1.cell? ⟨w.heap.size, 1, none⟩ = some (.int .i64 le) := OS2.out.cell (k := 1) (by decide)
  have s2 : w1.cell? ⟨w.heap.size, 2, none⟩ = some (.int .i64 sp) := OS2.out.cell (k := 2) (by decide)
  have C2 := Lib.hid (Lines_any q c' n K F' ls le sp w1 RG.out t0 KOK'.out (fl_hp RG.out) HK.out)
  have EQ := Lib.hid (liV_same KOK.out PF.out TL.out K ls le sp)
  generalize hy : liV K ls le sp F n = y at *
  obtain ⟨y1, y2⟩ := y
  have HY := Lib.hid hy
  clear hy
  go_wp2_with fail
  refine C2.out.mono ?_
  rintro e w2 ⟨v', rfl, b1, hl⟩
  rw [EQ.out]
  replace HB := Lib.hid (HB.out.trans (b1.mono HB.out.size))
  obtain ⟨m, pl, cl, pl', cl', S, kk, gr, ce, co, rfl, rfl, mK, P1, P2⟩ := shu_of (b' := w1.heap.size) HL.out (show LiA K ls le sp F' n w1.heap.size v' w2 from hl) HK.out KOK.out PF.out TL.out
  have PA := Lib.hid (P1.below b1)
  have PB := Lib.hid P2
  clear b1 C2 s0 s1 s2 hl P1 P2 HL EQ OS2 RG
  go_wp2_with fail
  go_loopw [19] (fun kv wx => ∃ t : Nat, t ≤ m ∧ kv = .int .i64 t ∧ Hid (Below w2.heap.size w2 wx)) (fun kv _ => m - (intOf kv).toNat)
  case atStart => exact ⟨0, Nat.zero_le _, rfl, Lib.hid (Below.refl _ _)⟩
  case round =>
  obtain ⟨t, ht, rfl, BT⟩ := hrel
  by_cases t5 : t < m
  case pos =>
    have k1 : (0 : Int) ≤ (t : Int) := by omega
    have k2 : (t : Int) < (m : Int) := by omega
    obtain ⟨x, q1, d1, rfl, l1⟩ := (PA.out.below BT.out) t t5
    obtain ⟨x', q2, d2, rfl, l2⟩ := (PB.out.below BT.out) t t5
    obtain ⟨-, a0, a1, a2, a3, a4, a5, a6, a7⟩ := l1
    obtain ⟨-, b0, b1, b2, b3, b4, b5, b6, b7⟩ := l2
    have EK := fun W => eq_kind (S t).ka (S t).kb (S t).kc (S t).kd (S t).ka (S t).kb (S t).kc (S t).kd W
    simp only [decide_eq_true (⟨rfl, rfl, rfl, rfl⟩ : (S t).ka = (S t).ka ∧ (S t).kb = (S t).kb ∧ (S t).kc = (S t).kc ∧ (S t).kd = (S t).kd)] at EK
    generalize S t = s at *
    generalize kk t = k at *
    generalize gr t = g at *
    generalize ce t = cc at *
    generalize co t = oo at *
    go_upto_region 29 with fail
    go_quiet (fail)
    go_wp2_with fail
    go_roundw
    case rel => exact ⟨t + 1, by omega, by go_num, Lib.hid (below_drewN BT.out _)⟩
    case measure => simp [intOf]; omega
  obtain rfl : t = m := by omega
  have k6 : ¬ ((t : Int) < (t : Int)) := by omega
  have HX := Lib.hid (HB.out.trans (BT.out.mono HB.out.size))
  go_wp2_with fail
  refine (AL.out _).mono ?_
  rintro e w4 ⟨rfl, st⟩
  have BB := Lib.hid (HX.out.trans (st.mono HX.out.size))
  go_wp2_with fail
  go_ret
  exact ⟨rfl, BB.out⟩
end Go.Proofs.Ytmdhmpfagekonaa
