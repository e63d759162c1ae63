/- The law ClassingTotals: the plan that is read, its walk. -/
import Derived.Test.YtmdhmpfagekonaaLN
import Derived.Test.YtmdhmpfagekonaaLJ
import Derived.Test.YtmdhmpfagekonaaCAA
/- Classing's totals, plain: the mass of the fleeces of a kind, before and behind the cut. -/
namespace Go.Proofs.Ytmdhmpfagekonaa
open Go.RowKit Go.Proofs.Ytmdhmpfagekonaa.Ct Go.Proofs.Ytmdhmpfagekonaa.Ce Go.Proofs.Ytmdhmpfagekonaa.Stb
set_option linter.unusedVariables false
set_option linter.unusedSimpArgs false

namespace Ce
/-- The mass of those of the first fleeces that P takes. -/
def smK (A : Nat → Fl) (P : Fl → Bool) : Nat → Int
  | 0 => 0
  | k + 1 => smK A P k + (if P (A k) = true then (A k).gr else 0)
theorem smK_sum (A : Nat → Fl) (P : Fl → Bool) : ∀ n, smK A P n = ((List.range n).map fun k => if P (A k) = true then (A k).gr else 0).sum
  | 0 => rfl
  | n + 1 => by
    rw [List.range_succ, List.map_append, List.sum_append, ← smK_sum A P n]
    simp [smK]
theorem insK_sum (q : Nat → Int) (x : Int) (h : Int → Int) : ∀ l : List Int, ((insK q x l).map h).sum = h x + (l.map h).sum
  | [] => by simp [insK]
  | y :: l => by
    unfold insK
    split
    · simp
    · simp only [List.map_cons, List.sum_cons, insK_sum q x h l]
      omega
theorem ordK_sum (q : Nat → Int) (h : Int → Int) : ∀ n, ((ordK q n).map h).sum = ((List.range n).map fun k : Nat => h (k : Int)).sum
  | 0 => rfl
  | n + 1 => by
    rw [ordK, insK_sum, ordK_sum q h n, List.range_succ, List.map_append, List.sum_append]
    simp
    omega
theorem gi_map (O : List Int) : (List.range O.length).map (fun k => gi O k) = O := by
  apply List.ext_getElem (by simp)
  intro k h1 h2
  simp [gi, h2]
/-- In order there is as much as there was. -/
theorem smK_inO (F : Nat → Fl) (P : Fl → Bool) (n : Nat) : smK (inO F n) P n = smK F P n := by
  have e := ordK_sum (fun k => (F k).key) (fun z => if P (F z.toNat) = true then (F z.toNat).gr else 0) n
  have g := gi_map (ordK (fun k => (F k).key) n)
  rw [ordK_len] at g
  rw [smK_sum, smK_sum]
  rw [← g, List.map_map] at e
  exact e
/-- A run on which P is the same. -/
theorem smK_run (A : Nat → Fl) (P : Fl → Bool) (i : Nat) : ∀ m, (∀ k, i ≤ k → k < i + m → P (A k) = P (A i)) → smK A P (i + m) = smK A P i + (if P (A i) = true then mas A i (i + m) else 0)
  | 0, _ => by rw [Nat.add_zero, mas_eq A i (Nat.le_refl _)]; split <;> omega
  | m + 1, h => by
    have ih := smK_run A P i m (fun k a b => h k a (by omega))
    have e := h (i + m) (by omega) (by omega)
    show smK A P (i + m) + (if P (A (i + m)) = true then (A (i + m)).gr else 0) = _
    rw [ih, e, show mas A i (i + (m + 1)) = mas A i (i + m) + (if i ≤ i + m then (A (i + m)).gr else 0) from rfl, if_pos (Nat.le_add_right _ _)]
    split <;> omega
theorem smK_bd {A : Nat → Fl} {P : Fl → Bool} {n : Nat} (ok : ∀ k, k < n → (A k).ok) : ∀ {k}, k ≤ n → 0 ≤ smK A P k ∧ smK A P k ≤ 1073741824 * k
  | 0, _ => by simp [smK]
  | k + 1, h => by
    have ih := smK_bd (P := P) ok (k := k) (by omega)
    have o := ok k (by omega)
    unfold Fl.ok at o
    show 0 ≤ smK A P k + _ ∧ smK A P k + _ ≤ _
    split <;> omega
/-- Is it of this kind? -/
def isK (a b c d : Int) (f : Fl) : Bool := decide (f.ka = a ∧ f.kb = b ∧ f.kc = c ∧ f.kd = d)
theorem isK_kk {a b c d : Int} {f g : Fl} (hf : f.kok) (hg : g.kok) (h : f.kk = g.kk) : isK a b c d f = isK a b c d g := by
  have := (kk_eq hf hg).1 h
  unfold isK
  rw [this.1, this.2.1, this.2.2.1, this.2.2.2]
/-- Past a line. -/
theorem smK_line {A : Nat → Fl} {n i j : Nat} {le sp : Int} (ok : ∀ k, k < n → (A k).ok) (kok : ∀ k, k < n → (A k).kok) (up : ∀ x y, x ≤ y → y < n → (A x).key ≤ (A y).key) (ij : i < j) (jn : j ≤ n) (h : cMat A le sp i j ≠ -1) (a b c d : Int) :
    smK A (isK a b c d) j = smK A (isK a b c d) i + (if isK a b c d (A i) = true then mas A i j else 0) ∧ smK A (fun _ => true) j = smK A (fun _ => true) i + mas A i j := by
  have hl : isLine A le sp i j := by
    apply Classical.byContradiction
    intro g
    apply h
    unfold cMat lnc
    rw [if_pos ij, if_neg g]
  have s : ∀ k, i ≤ k → k < i + (j - i) → (A k).kk = (A i).kk := fun k h1 h2 => kk_btw ok up h1 (show k ≤ j - 1 by omega) (by omega) hl.2.1
  have r1 := smK_run A (isK a b c d) i (j - i) (fun k h1 h2 => isK_kk (kok k (by omega)) (kok i (by omega)) (s k h1 h2))
  have r2 := smK_run A (fun _ => true) i (j - i) (fun k h1 h2 => rfl)
  rw [show i + (j - i) = j by omega] at r1 r2
  exact ⟨r1, by simpa using r2⟩
end Ce

/-- A line at x. -/
structure LnAt (w : World) (x : Addr) (s : Fl) (v : Value) (gr ce co : Int) : Prop where
  blk : x.block < w.heap.size
  c0 : w.cell? x = some (.int .u8 s.ka)
  c1 : w.cell? ⟨x.block, x.off + 1, none⟩ = some (.int .u8 s.kb)
  c2 : w.cell? ⟨x.block, x.off + 2, none⟩ = some (.int .u8 s.kc)
  c3 : w.cell? ⟨x.block, x.off + 3, none⟩ = some (.int .u8 s.kd)
  c4 : w.cell? ⟨x.block, x.off + 4, none⟩ = some v
  c5 : w.cell? ⟨x.block, x.off + 5, none⟩ = some (.int .i64 gr)
  c6 : w.cell? ⟨x.block, x.off + 6, none⟩ = some (.int .i64 ce)
  c7 : w.cell? ⟨x.block, x.off + 7, none⟩ = some (.int .i64 co)
theorem LnAt.below {w w' : World} {x : Addr} {s : Fl} {v : Value} {gr ce co : Int} (h : LnAt w x s v gr ce co) (b : Below w.heap.size w w') : LnAt w' x s v gr ce co := by
  have c : ∀ p : Addr, p.block = x.block → w'.cell? p = w.cell? p := fun p hp => by
    unfold World.cell?; rw [hp, b.block _ h.blk]
  exact ⟨Nat.lt_of_lt_of_le h.blk b.size, (c x rfl).trans h.c0, (c ⟨x.block, x.off + 1, none⟩ rfl).trans h.c1, (c ⟨x.block, x.off + 2, none⟩ rfl).trans h.c2, (c ⟨x.block, x.off + 3, none⟩ rfl).trans h.c3, (c ⟨x.block, x.off + 4, none⟩ rfl).trans h.c4, (c ⟨x.block, x.off + 5, none⟩ rfl).trans h.c5, (c ⟨x.block, x.off + 6, none⟩ rfl).trans h.c6, (c ⟨x.block, x.off + 7, none⟩ rfl).trans h.c7⟩
/-- A plan that is read: its lines, and the places in each. -/
def PlS (w : World) (p : Option Addr) (m : Nat) (A : Nat → Fl) (o : Nat → Int) (C : Nat → Nat → Int) (ps : Nat → Nat) : Prop :=
  ∀ t, t < m → ∃ (x : Addr) (q : Option Addr) (d : Nat), p = some x ∧ LnAt w (x.add (t * 8)) (A (ps t)) (.slice q (ps (t + 1) - ps t) d) (mas A (ps t) (ps (t + 1))) (cen A (ps t) (ps (t + 1))) (C (ps t) (ps (t + 1))) ∧ NmR w q (ps (t + 1) - ps t) (fun z => o (ps t + z))
theorem PlS.below {w w' : World} {p : Option Addr} {m : Nat} {A : Nat → Fl} {o : Nat → Int} {C : Nat → Nat → Int} {ps : Nat → Nat} (h : PlS w p m A o C ps) (b : Below w.heap.size w w') : PlS w' p m A o C ps := fun t ht => by
  obtain ⟨x, q, d, e, l, r⟩ := h t ht
  exact ⟨x, q, d, e, l.below b, r.below b⟩
theorem plL_at (A : Nat → Fl) (C : Nat → Nat → Int) (ps : Nat → Nat) (q d : Nat → Nat) : ∀ {t x k : Nat}, x < t → k < 8 → (plL A C ps q d t)[x * 8 + k]? = (lnL (A (ps x)) (.slice (some ⟨q x, 0, none⟩) (ps (x + 1) - ps x) (d x)) (mas A (ps x) (ps (x + 1))) (cen A (ps x) (ps (x + 1))) (C (ps x) (ps (x + 1))))[k]? := by
  have len : ∀ t, (plL A C ps q d t).length = t * 8 := fun t => by
    induction t with
    | zero => rfl
    | succ t ih =>
      have e : plL A C ps q d (t + 1) = plL A C ps q d t ++ lnL (A (ps t)) (.slice (some ⟨q t, 0, none⟩) (ps (t + 1) - ps t) (d t)) (mas A (ps t) (ps (t + 1))) (cen A (ps t) (ps (t + 1))) (C (ps t) (ps (t + 1))) := by
        unfold plL; rw [List.range_succ, List.flatMap_append]; simp
      rw [e, List.length_append, ih]
      simp [lnL]; omega
  intro t
  induction t with
  | zero => intro x k h; omega
  | succ t ih =>
    intro x k h hk
    have e : plL A C ps q d (t + 1) = plL A C ps q d t ++ lnL (A (ps t)) (.slice (some ⟨q t, 0, none⟩) (ps (t + 1) - ps t) (d t)) (mas A (ps t) (ps (t + 1))) (cen A (ps t) (ps (t + 1))) (C (ps t) (ps (t + 1))) := by
      unfold plL; rw [List.range_succ, List.flatMap_append]; simp
    rw [e]
    rcases Nat.lt_or_ge x t with g | g
    · rw [List.getElem?_append_left (by rw [len]; omega)]
      exact ih g hk
    · obtain rfl : x = t := by omega
      rw [List.getElem?_append_right (by rw [len]; omega), len, show x * 8 + k - x * 8 = k by omega]
theorem row_some {w : World} {base : Nat} {e : TypeId} {size : Nat} {v : Value} {n : Nat} {xs : List Value} (h : w.ownsRow base e size v n xs) (hn : 0 < n) : ∃ g c, v = .slice (some ⟨g, 0, none⟩) n c ∧ g < w.heap.size := by
  rcases h.2 with ⟨rfl, h0⟩ | ⟨q, cap, cur, rfl, hb, hq, r⟩
  · omega
  · exact ⟨q, cap, rfl, (Array.getElem?_eq_some_iff.1 hq).1⟩
theorem plS_of {base : Nat} {A : Nat → Fl} {o : Nat → Int} {C : Nat → Nat → Int} {ps : Nat → Nat} {t : Nat} {v : Value} {W : World} (h : PlR base A o C ps t v W) (h0 : 0 < t) (pos : ∀ x, x < t → ps x < ps (x + 1)) : ∃ (g c : Nat), v = .slice (some ⟨g, 0, none⟩) t c ∧ PlS W (some ⟨g, 0, none⟩) t A o C ps := by
  obtain ⟨q, d, a, r⟩ := h
  obtain ⟨g, c, rfl, gl⟩ := row_some a h0
  refine ⟨g, c, rfl, fun x hx => ⟨_, some ⟨q x, 0, none⟩, d x, rfl, ?_, ?_⟩⟩
  · have e : ∀ k, k < 8 → W.cell? ⟨g, x * 8 + k, none⟩ = (lnL (A (ps x)) (.slice (some ⟨q x, 0, none⟩) (ps (x + 1) - ps x) (d x)) (mas A (ps x) (ps (x + 1))) (cen A (ps x) (ps (x + 1))) (C (ps x) (ps (x + 1))))[k]? := fun k hk => by
      rw [a.cellAt (x * 8 + k) (by omega), plL_at A C ps q d hx hk]
    have ea : (⟨g, 0, none⟩ : Addr).add (x * 8) = ⟨g, x * 8, none⟩ := by
      unfold Addr.add; split
      · next z => rw [z]
      · simp
    rw [ea]
    exact ⟨gl, e 0 (by omega), e 1 (by omega), e 2 (by omega), e 3 (by omega), e 4 (by omega), e 5 (by omega), e 6 (by omega), e 7 (by omega)⟩
  · have rx := r x hx
    have := pos x hx
    obtain ⟨g', c', e', gl'⟩ := row_some rx (by omega)
    cases e'
    intro z hz
    have cz := rx.cellAt z (by omega)
    refine ⟨⟨q x, 0, none⟩, rfl, gl', ?_⟩
    rw [add0, cz]
    simp [hz]
end Go.Proofs.Ytmdhmpfagekonaa

/- The law ClassingTotals: its walk. -/
namespace Go.Proofs.Ytmdhmpfagekonaa
open Go.RowKit Go.Proofs.Ytmdhmpfagekonaa.Ct Go.Proofs.Ytmdhmpfagekonaa.Ce Go.Proofs.Ytmdhmpfagekonaa.Stb
set_option linter.unusedVariables false
set_option linter.unusedSimpArgs false

/-- What an answer of Lines says of the masses. -/
theorem tot_of {K n : Nat} {ls le sp : Int} {F : Nat → Fl} {w w' : World} {v : Value} (h : (v = .slice none 0 0 ∧ ((liV K ls le sp F n).2 ≠ 0 ∨ n = 0)) ∨ ((liV K ls le sp F n).2 = 0 ∧ n ≠ 0 ∧ flE ls le sp F n = 0 ∧ liK K le sp F n ≠ 0 ∧ PlR w.heap.size (inO F n) (gi (ordK (fun k => (F k).key) n)) (cMat (inO F n) le sp) (pos (cMat (inO F n) le sp) n (liK K le sp F n)) (liK K le sp F n) v w'))
    (e0 : (liV K ls le sp F n).2 = 0) (kok : ∀ k, k < n → (F k).kok) (n1 : n ≤ 140) (a b c d : Int) :
    ∃ (pl : Option Addr) (cl m : Nat) (A : Nat → Fl) (o : Nat → Int) (C : Nat → Nat → Int) (ps : Nat → Nat), v = .slice pl m cl ∧ m ≤ 140 ∧ PlS w' pl m A o C ps ∧ ps 0 = 0 ∧ ps m = n ∧ (∀ t, t ≤ m → ps t ≤ n) ∧ (∀ k, k < n → (A k).ok) ∧ (∀ t, t < m → smK A (isK a b c d) (ps (t + 1)) = smK A (isK a b c d) (ps t) + (if isK a b c d (A (ps t)) = true then mas A (ps t) (ps (t + 1)) else 0) ∧ smK A (fun _ => true) (ps (t + 1)) = smK A (fun _ => true) (ps t) + mas A (ps t) (ps (t + 1))) ∧ smK A (isK a b c d) n = smK F (isK a b c d) n ∧ smK A (fun _ => true) n = smK F (fun _ => true) n := by
  rcases h with ⟨rfl, h⟩ | ⟨-, n0, fe, k0, pr⟩
  · have z : n = 0 := by
      rcases h with h | h
      · exact absurd e0 h
      · exact h
    subst z
    exact ⟨none, 0, 0, F, fun _ => 0, fun _ _ => 0, fun _ => 0, rfl, by omega, fun t ht => absurd ht (by omega), rfl, rfl, fun t ht => Nat.le_refl _, fun k hk => absurd hk (by omega), fun t ht => absurd ht (by omega), rfl, rfl⟩
  · obtain ⟨-, -, fok⟩ := flE_ok fe
    have ok := inO_ok fok
    have ko := inO_kok kok
    have h0 : rowK (cMat (inO F n) le sp) n (liK K le sp F n) 0 ≠ -1 := bst_hit (f := fun k => rowK (cMat (inO F n) le sp) n k 0) k0
    have ln := fun {t} (ht : t < liK K le sp F n) => pos_line (C := cMat (inO F n) le sp) (n := n) h0 ht
    have up := fun t (ht : t ≤ liK K le sp F n) => (pos_ok (C := cMat (inO F n) le sp) (n := n) h0 ht).2
    have grow : ∀ t, t ≤ liK K le sp F n → t ≤ pos (cMat (inO F n) le sp) n (liK K le sp F n) t := fun t => by
      induction t with
      | zero => intro _; exact Nat.zero_le _
      | succ t ih => intro ht; have := (ln (show t < _ by omega)).1; have := ih (by omega); omega
    obtain ⟨g, cl, rfl, ps⟩ := plS_of pr (by omega) (fun x hx => (ln hx).1)
    refine ⟨_, cl, _, _, _, _, _, rfl, ?_, ps, rfl, pos_end h0, up, ok, fun t ht => ?_, smK_inO F _ n, smK_inO F _ n⟩
    · have := grow _ (Nat.le_refl _); have := up _ (Nat.le_refl _); omega
    · exact smK_line ok ko (fun x y xy yn => inO_le F n xy yn) (ln ht).1 (ln ht).2.1 (ln ht).2.2 a b c d

set_option maxRecDepth 100000 in
set_option maxHeartbeats 16000000 in
theorem classingTotals_walk (p : Option Addr) (c n : Nat) (F : Nat → Fl) (w : World) (r : FlR w p n F) (z : n ≤ 9223372036854775807) (kok : ∀ k, k < n → (F k).kok) (ls le sp : Int) (m0 m1 m2 m3 : Int) :
    Calls Try.prog 9 #[.slice p n c, .agg #[.int .i64 ls, .int .i64 le, .int .i64 sp], .agg #[.int .u8 m0, .int .u8 m1, .int .u8 m2, .int .u8 m3]] w fun e w' => e = .returned (.bool true) ∧ Below w.heap.size w w' := by
  have AL := Lib.hid alive_any
  have R := Lib.hid r
  have KOK := Lib.hid kok
  have HP := Lib.hid (fl_hp r)
  have B1 := Lib.hid (show let wa := (w.alloc (Obj.cells #[.int .i64 ls, .int .i64 le, .int .i64 sp] 24)).alloc (Obj.cells #[.int .u8 m0, .int .u8 m1, .int .u8 m2, .int .u8 m3] 35)
      Below w.heap.size w wa ∧ OB wa w.heap.size 24 3 (spC ls le sp) ∧ OB wa (w.heap.size + 1) 35 4 (fun k => if k = 0 then .int .u8 m0 else if k = 1 then .int .u8 m1 else if k = 2 then .int .u8 m2 else .int .u8 m3) from by
    refine ⟨((Below.refl _ _).alloc (Nat.le_refl _) _).alloc (by simp) _, ob_old' (spBx w ls le sp) _, ?_⟩
    have := heap_alloc_new (w.alloc (Obj.cells #[.int .i64 ls, .int .i64 le, .int .i64 sp] 24)) (Obj.cells #[.int .u8 m0, .int .u8 m1, .int .u8 m2, .int .u8 m3] 35)
    unfold OB
    simp only [World.size_alloc] at this
    rw [this]; rfl)
  have FW := Lib.hid (fun W => few_any p c n W)
  clear r kok
  go_enter Try.func9, Try.ntmps9
  go_upto_region 1 with fail
  generalize (w.alloc (Obj.cells #[.int .i64 ls, .int .i64 le, .int .i64 sp] 24)).alloc (Obj.cells #[.int .u8 m0, .int .u8 m1, .int .u8 m2, .int .u8 m3] 35) = wa at *
  obtain ⟨b1, os, om⟩ := B1.out
  clear B1
  have B1 := Lib.hid b1
  have OS := Lib.hid os
  have OM := Lib.hid om
  clear b1 os om
  by_cases t0 : n ≤ 140
  case neg =>
    rw [decide_eq_false t0] at FW
    go_wp2_with fail
    refine (FW.out _).mono ?_
    rintro e w1 ⟨rfl, rfl⟩
    go_wp2_with fail
    refine (AL.out _).mono ?_
    rintro e w2 ⟨rfl, st⟩
    have BB := Lib.hid (B1.out.trans (st.mono B1.out.size))
    go_wp2_with fail
    go_ret
    exact ⟨rfl, BB.out⟩
  rw [decide_eq_true t0] at FW
  have s0 : wa.cell? ⟨w.heap.size, 0, none⟩ = some (.int .i64 ls) := OS.out.cell (k := 0) (by decide)
  have s1 : wa.cell? ⟨w.heap.size, 1, none⟩ = some (.int .i64 le) := OS.out.cell (k := 1) (by decide)
  have s2 : wa.cell? ⟨w.heap.size, 2, none⟩ = some (.int .i64 sp) := OS.out.cell (k := 2) (by decide)
  have C1 := Lib.hid (Lines_any p c n ls.toNat F ls le sp wa (R.out.below B1.out) t0 KOK.out (fun x hx h0 => Nat.lt_of_lt_of_le (HP.out x hx h0) B1.out.size) rfl)
  go_wp2_with fail
  refine (FW.out _).mono ?_
  rintro e w1 ⟨rfl, rfl⟩
  go_wp2_with fail
  refine C1.out.mono ?_
  rintro e w1 ⟨v, rfl, b1, hl⟩
  have HB := Lib.hid (B1.out.trans (b1.mono B1.out.size))
  have OM1 := Lib.hid (OM.out.below b1)
  have HLQ := Lib.hid hl
  clear b1 C1 s0 s1 s2 OS OM B1 FW hl
  by_cases z1 : (liV ls.toNat ls le sp F n).2 = 0
  case neg =>
    have d1 : ((liV ls.toNat ls le sp F n).2 == 0) = false := by simpa using z1
    clear z1 HLQ
    generalize (liV ls.toNat ls le sp F n).2 = x at *
    generalize (liV ls.toNat ls le sp F n).1 = y at *
    go_wp2_with fail
    refine (AL.out _).mono ?_
    rintro e w2 ⟨rfl, st⟩
    have BB := Lib.hid (HB.out.trans (st.mono HB.out.size))
    go_wp2_with fail
    go_ret
    exact ⟨rfl, BB.out⟩
  obtain ⟨pl, cl, m, A, o, C, ps, rfl, hm, hs, p0, pm, pu, aok, hst, q1, q2⟩ := tot_of HLQ.out z1 KOK.out t0 m0 m1 m2 m3
  have HS := Lib.hid hs
  have PU := Lib.hid pu
  have AOK := Lib.hid aok
  have ST := Lib.hid hst
  have P0 := Lib.hid p0
  have PM := Lib.hid pm
  have Q1 := Lib.hid q1
  have Q2 := Lib.hid q2
  have FOK : Hid (∀ k, k < n → (F k).ok) := Lib.hid (by
    by_cases fz : flE ls le sp F n = 0
    · exact (flE_ok fz).2.2
    · rw [liV_1 fz] at z1; exact absurd z1 fz)
  rw [z1]
  clear z1 HLQ hs pu aok hst p0 pm q1 q2
  generalize (liV ls.toNat ls le sp F n).1 = y at *
  go_wp2_with fail
  go_loopw [10, 12, 13] (fun iv av kv wr => ∃ k : Nat, k ≤ n ∧ kv = .int .i64 k ∧ iv = .int .i64 (smK F (isK m0 m1 m2 m3) k) ∧ av = .int .i64 (smK F (fun _ => true) k) ∧ Hid (Below w1.heap.size w1 wr)) (fun _ _ kv _ => n - (intOf kv).toNat)
  case atStart => exact ⟨0, Nat.zero_le _, rfl, rfl, rfl, Lib.hid (Below.refl _ _)⟩
  case round =>
    obtain ⟨k, hk, rfl, rfl, rfl, BW⟩ := hrel
    by_cases t1 : k < n
    case pos =>
      have k1 : (0 : Int) ≤ (k : Int) := by omega
      have k2 : (k : Int) < (n : Int) := by omega
      obtain ⟨x, rfl, -⟩ := R.out k t1
      obtain ⟨-, a0, a1, a2, a3, a4, a5⟩ := (R.out.below (HB.out.trans (BW.out.mono HB.out.size))).at1 t1 rfl
      have OMw := OM1.out.below BW.out
      have c0 : wr.cell? ⟨w.heap.size + 1, 0, none⟩ = some (.int .u8 m0) := OMw.cell (k := 0) (by decide)
      have c1 : wr.cell? ⟨w.heap.size + 1, 1, none⟩ = some (.int .u8 m1) := OMw.cell (k := 1) (by decide)
      have c2 : wr.cell? ⟨w.heap.size + 1, 2, none⟩ = some (.int .u8 m2) := OMw.cell (k := 2) (by decide)
      have c3 : wr.cell? ⟨w.heap.size + 1, 3, none⟩ = some (.int .u8 m3) := OMw.cell (k := 3) (by decide)
      have u1 := smK_bd (P := isK m0 m1 m2 m3) FOK.out (k := k) hk
      have u2 := smK_bd (P := fun _ => true) FOK.out (k := k) hk
      have fo := FOK.out k t1
      unfold Fl.ok at fo
      have e1 : IntKind.i64.wrap (smK F (isK m0 m1 m2 m3) k + (F k).gr) = smK F (isK m0 m1 m2 m3) k + (F k).gr := hwI (by omega) (by omega)
      have e2 : IntKind.i64.wrap (smK F (fun _ => true) k + (F k).gr) = smK F (fun _ => true) k + (F k).gr := hwI (by omega) (by omega)
      have EK := fun W => eq_kind (F k).ka (F k).kb (F k).kc (F k).kd m0 m1 m2 m3 W
      have S2 := Lib.hid (show smK F (fun _ => true) (k + 1) = smK F (fun _ => true) k + (F k).gr from rfl)
      by_cases q : (F k).ka = m0 ∧ (F k).kb = m1 ∧ (F k).kc = m2 ∧ (F k).kd = m3
      · have S1 := Lib.hid (show smK F (isK m0 m1 m2 m3) (k + 1) = smK F (isK m0 m1 m2 m3) k + (F k).gr from by
          show smK F (isK m0 m1 m2 m3) k + (if isK m0 m1 m2 m3 (F k) = true then (F k).gr else 0) = _
          rw [if_pos (show isK m0 m1 m2 m3 (F k) = true from decide_eq_true q)])
        simp only [decide_eq_true q] at EK
        clear OMw fo u1 u2 q
        generalize F k = s at *
        generalize smK F (isK m0 m1 m2 m3) k = g1 at *
        generalize smK F (fun _ => true) k = g2 at *
        go_upto_region 10 with fail
        go_quiet (fail)
        go_wp2_with fail
        go_roundw
        case rel => exact ⟨k + 1, by omega, by go_num, by rw [S1.out], by rw [S2.out], Lib.hid (below_drewN BW.out _)⟩
        case measure => simp [intOf]; omega
      · have S1 := Lib.hid (show smK F (isK m0 m1 m2 m3) (k + 1) = smK F (isK m0 m1 m2 m3) k from by
          show smK F (isK m0 m1 m2 m3) k + (if isK m0 m1 m2 m3 (F k) = true then (F k).gr else 0) = _
          rw [if_neg (by unfold isK; rw [decide_eq_false q]; decide), Int.add_zero])
        simp only [decide_eq_false q] at EK
        clear OMw fo u1 u2 q
        generalize F k = s at *
        generalize smK F (isK m0 m1 m2 m3) k = g1 at *
        generalize smK F (fun _ => true) k = g2 at *
        go_upto_region 10 with fail
        go_quiet (fail)
        go_wp2_with fail
        go_roundw
        case rel => exact ⟨k + 1, by omega, by go_num, by rw [S1.out], by rw [S2.out], Lib.hid (below_drewN BW.out _)⟩
        case measure => simp [intOf]; omega
    obtain rfl : k = n := by omega
    have k1 : ¬ ((k : Int) < (k : Int)) := by omega
    have Q3 := Lib.hid (Q1.out)
    have Q4 := Lib.hid (Q2.out)
    have u1 := smK_bd (P := isK m0 m1 m2 m3) FOK.out (k := k) (Nat.le_refl _)
    have u2 := smK_bd (P := fun _ => true) FOK.out (k := k) (Nat.le_refl _)
    obtain ⟨g1, hg1⟩ : ∃ g, g = smK F (isK m0 m1 m2 m3) k := ⟨_, rfl⟩
    obtain ⟨g2, hg2⟩ : ∃ g, g = smK F (fun _ => true) k := ⟨_, rfl⟩
    rw [← hg1] at Q1 u1 ⊢
    rw [← hg2] at Q2 u2 ⊢
    have U2 := Lib.hid u2
    clear hg1 hg2 Q3 Q4 u1 u2
    go_wp2_with fail
    go_loopw [11, 12, 14] (fun ov av kv wr2 => ∃ t : Nat, t ≤ m ∧ kv = .int .i64 t ∧ ov = .int .i64 (smK A (isK m0 m1 m2 m3) (ps t)) ∧ av = .int .i64 (g2 - smK A (fun _ => true) (ps t)) ∧ Hid (Below wr.heap.size wr wr2)) (fun _ _ kv _ => m - (intOf kv).toNat)
    case atStart => exact ⟨0, Nat.zero_le _, rfl, by rw [P0.out]; rfl, by rw [P0.out]; simp [smK], Lib.hid (Below.refl _ _)⟩
    case round =>
      obtain ⟨t, ht, rfl, rfl, rfl, BV⟩ := hrel
      have BX := Lib.hid (BW.out.trans (BV.out.mono BW.out.size))
      by_cases t2 : t < m
      case pos =>
        have k1 : (0 : Int) ≤ (t : Int) := by omega
        have k2 : (t : Int) < (m : Int) := by omega
        obtain ⟨x, q, d, rfl, l, -⟩ := (HS.out.below BX.out) t t2
        obtain ⟨-, a0, a1, a2, a3, -, a5, -, -⟩ := l
        have OMw := OM1.out.below BX.out
        have c0 : wr.cell? ⟨w.heap.size + 1, 0, none⟩ = some (.int .u8 m0) := OMw.cell (k := 0) (by decide)
        have c1 : wr.cell? ⟨w.heap.size + 1, 1, none⟩ = some (.int .u8 m1) := OMw.cell (k := 1) (by decide)
        have c2 : wr.cell? ⟨w.heap.size + 1, 2, none⟩ = some (.int .u8 m2) := OMw.cell (k := 2) (by decide)
        have c3 : wr.cell? ⟨w.heap.size + 1, 3, none⟩ = some (.int .u8 m3) := OMw.cell (k := 3) (by decide)
        have st := ST.out t t2
        have p1 := PU.out t (by omega)
        have p2 := PU.out (t + 1) (by omega)
        have u1 := smK_bd (P := isK m0 m1 m2 m3) AOK.out (k := ps t) p1
        have u2 := smK_bd (P := fun _ => true) AOK.out (k := ps t) p1
        have u3 := mas_bd (A := A) (i := ps t) AOK.out (j := ps (t + 1)) p2
        have v2 := U2.out
        have e1 : IntKind.i64.wrap (smK A (isK m0 m1 m2 m3) (ps t) + mas A (ps t) (ps (t + 1))) = smK A (isK m0 m1 m2 m3) (ps t) + mas A (ps t) (ps (t + 1)) := hwI (by omega) (by omega)
        have e2 : IntKind.i64.wrap (g2 - smK A (fun _ => true) (ps t) - mas A (ps t) (ps (t + 1))) = g2 - smK A (fun _ => true) (ps t) - mas A (ps t) (ps (t + 1)) := hwI (by omega) (by omega)
        have EK := fun W => eq_kind (A (ps t)).ka (A (ps t)).kb (A (ps t)).kc (A (ps t)).kd m0 m1 m2 m3 W
        have S2 := Lib.hid (show g2 - smK A (fun _ => true) (ps (t + 1)) = g2 - smK A (fun _ => true) (ps t) - mas A (ps t) (ps (t + 1)) from by rw [st.2]; omega)
        by_cases q : (A (ps t)).ka = m0 ∧ (A (ps t)).kb = m1 ∧ (A (ps t)).kc = m2 ∧ (A (ps t)).kd = m3
        · have S1 := Lib.hid (show smK A (isK m0 m1 m2 m3) (ps (t + 1)) = smK A (isK m0 m1 m2 m3) (ps t) + mas A (ps t) (ps (t + 1)) from by
            rw [st.1, if_pos (show isK m0 m1 m2 m3 (A (ps t)) = true from decide_eq_true q)])
          simp only [decide_eq_true q] at EK
          clear OMw u1 u2 u3 v2 q st p1 p2
          generalize mas A (ps t) (ps (t + 1)) = g3 at *
          generalize A (ps t) = s at *
          generalize smK A (isK m0 m1 m2 m3) (ps t) = g4 at *
          generalize smK A (fun _ => true) (ps t) = g5 at *
          go_upto_region 16 with fail
          go_quiet (fail)
          go_wp2_with fail
          go_roundw
          case rel => exact ⟨t + 1, by omega, by go_num, by rw [S1.out], by rw [S2.out], Lib.hid (below_drewN BV.out _)⟩
          case measure => simp [intOf]; omega
        · have S1 := Lib.hid (show smK A (isK m0 m1 m2 m3) (ps (t + 1)) = smK A (isK m0 m1 m2 m3) (ps t) from by
            rw [st.1, if_neg (by unfold isK; rw [decide_eq_false q]; decide), Int.add_zero])
          simp only [decide_eq_false q] at EK
          clear OMw u1 u2 u3 v2 q st p1 p2
          generalize mas A (ps t) (ps (t + 1)) = g3 at *
          generalize A (ps t) = s at *
          generalize smK A (isK m0 m1 m2 m3) (ps t) = g4 at *
          generalize smK A (fun _ => true) (ps t) = g5 at *
          go_upto_region 16 with fail
          go_quiet (fail)
          go_wp2_with fail
          go_roundw
          case rel => exact ⟨t + 1, by omega, by go_num, by rw [S1.out], by rw [S2.out], Lib.hid (below_drewN BV.out _)⟩
          case measure => simp [intOf]; omega
      obtain rfl : t = m := by omega
      have k3 : ¬ ((t : Int) < (t : Int)) := by omega
      rw [PM.out, Q1.out, Q2.out, Int.sub_self]
      have HX := Lib.hid (HB.out.trans (BX.out.mono HB.out.size))
      go_wp2_with fail
      refine (AL.out _).mono ?_
      rintro e w4 ⟨rfl, st⟩
      have BB := Lib.hid (HX.out.trans (st.mono HX.out.size))
      go_wp2_with fail
      go_ret
      exact ⟨rfl, BB.out⟩
end Go.Proofs.Ytmdhmpfagekonaa
