/- The law ClassingCovers: the plan that is read, what a line must keep, the weighted median, the walk. -/
import Derived.Test.YtmdhmpfagekonaaLN
/- Classing's totals, plain: the mass of the fleeces of a kind, before and behind the cut. -/
namespace Go.Proofs.Ytmdhmpfagekonaa
open Go.RowKit Go.Proofs.Ytmdhmpfagekonaa.Ct Go.Proofs.Ytmdhmpfagekonaa.Ce Go.Proofs.Ytmdhmpfagekonaa.Stb
set_option linter.unusedVariables false
set_option linter.unusedSimpArgs false

namespace Ce
/-- The mass of those of the first fleeces that P takes. -/
def smK (A : Nat → Fl) (P : Fl → Bool) : Nat → Int
  | 0 => 0
  | k + 1 => smK A P k + (if P (A k) = true then (A k).gr else 0)
theorem smK_sum (A : Nat → Fl) (P : Fl → Bool) : ∀ n, smK A P n = ((List.range n).map fun k => if P (A k) = true then (A k).gr else 0).sum
  | 0 => rfl
  | n + 1 => by
    rw [List.range_succ, List.map_append, List.sum_append, ← smK_sum A P n]
    simp [smK]
theorem insK_sum (q : Nat → Int) (x : Int) (h : Int → Int) : ∀ l : List Int, ((insK q x l).map h).sum = h x + (l.map h).sum
  | [] => by simp [insK]
  | y :: l => by
    unfold insK
    split
    · simp
    · simp only [List.map_cons, List.sum_cons, insK_sum q x h l]
      omega
theorem ordK_sum (q : Nat → Int) (h : Int → Int) : ∀ n, ((ordK q n).map h).sum = ((List.range n).map fun k : Nat => h (k : Int)).sum
  | 0 => rfl
  | n + 1 => by
    rw [ordK, insK_sum, ordK_sum q h n, List.range_succ, List.map_append, List.sum_append]
    simp
    omega
theorem gi_map (O : List Int) : (List.range O.length).map (fun k => gi O k) = O := by
  apply List.ext_getElem (by simp)
  intro k h1 h2
  simp [gi, h2]
/-- In order there is as much as there was. -/
theorem smK_inO (F : Nat → Fl) (P : Fl → Bool) (n : Nat) : smK (inO F n) P n = smK F P n := by
  have e := ordK_sum (fun k => (F k).key) (fun z => if P (F z.toNat) = true then (F z.toNat).gr else 0) n
  have g := gi_map (ordK (fun k => (F k).key) n)
  rw [ordK_len] at g
  rw [smK_sum, smK_sum]
  rw [← g, List.map_map] at e
  exact e
/-- A run on which P is the same. -/
theorem smK_run (A : Nat → Fl) (P : Fl → Bool) (i : Nat) : ∀ m, (∀ k, i ≤ k → k < i + m → P (A k) = P (A i)) → smK A P (i + m) = smK A P i + (if P (A i) = true then mas A i (i + m) else 0)
  | 0, _ => by rw [Nat.add_zero, mas_eq A i (Nat.le_refl _)]; split <;> omega
  | m + 1, h => by
    have ih := smK_run A P i m (fun k a b => h k a (by omega))
    have e := h (i + m) (by omega) (by omega)
    show smK A P (i + m) + (if P (A (i + m)) = true then (A (i + m)).gr else 0) = _
    rw [ih, e, show mas A i (i + (m + 1)) = mas A i (i + m) + (if i ≤ i + m then (A (i + m)).gr else 0) from rfl, if_pos (Nat.le_add_right _ _)]
    split <;> omega
theorem smK_bd {A : Nat → Fl} {P : Fl → Bool} {n : Nat} (ok : ∀ k, k < n → (A k).ok) : ∀ {k}, k ≤ n → 0 ≤ smK A P k ∧ smK A P k ≤ 1073741824 * k
  | 0, _ => by simp [smK]
  | k + 1, h => by
    have ih := smK_bd (P := P) ok (k := k) (by omega)
    have o := ok k (by omega)
    unfold Fl.ok at o
    show 0 ≤ smK A P k + _ ∧ smK A P k + _ ≤ _
    split <;> omega
/-- Is it of this kind? -/
def isK (a b c d : Int) (f : Fl) : Bool := decide (f.ka = a ∧ f.kb = b ∧ f.kc = c ∧ f.kd = d)
theorem isK_kk {a b c d : Int} {f g : Fl} (hf : f.kok) (hg : g.kok) (h : f.kk = g.kk) : isK a b c d f = isK a b c d g := by
  have := (kk_eq hf hg).1 h
  unfold isK
  rw [this.1, this.2.1, this.2.2.1, this.2.2.2]
/-- Past a line. -/
theorem smK_line {A : Nat → Fl} {n i j : Nat} {le sp : Int} (ok : ∀ k, k < n → (A k).ok) (kok : ∀ k, k < n → (A k).kok) (up : ∀ x y, x ≤ y → y < n → (A x).key ≤ (A y).key) (ij : i < j) (jn : j ≤ n) (h : cMat A le sp i j ≠ -1) (a b c d : Int) :
    smK A (isK a b c d) j = smK A (isK a b c d) i + (if isK a b c d (A i) = true then mas A i j else 0) ∧ smK A (fun _ => true) j = smK A (fun _ => true) i + mas A i j := by
  have hl : isLine A le sp i j := by
    apply Classical.byContradiction
    intro g
    apply h
    unfold cMat lnc
    rw [if_pos ij, if_neg g]
  have s : ∀ k, i ≤ k → k < i + (j - i) → (A k).kk = (A i).kk := fun k h1 h2 => kk_btw ok up h1 (show k ≤ j - 1 by omega) (by omega) hl.2.1
  have r1 := smK_run A (isK a b c d) i (j - i) (fun k h1 h2 => isK_kk (kok k (by omega)) (kok i (by omega)) (s k h1 h2))
  have r2 := smK_run A (fun _ => true) i (j - i) (fun k h1 h2 => rfl)
  rw [show i + (j - i) = j by omega] at r1 r2
  exact ⟨r1, by simpa using r2⟩
end Ce

/-- A line at x. -/
structure LnAt (w : World) (x : Addr) (s : Fl) (v : Value) (gr ce co : Int) : Prop where
  blk : x.block < w.heap.size
  c0 : w.cell? x = some (.int .u8 s.ka)
  c1 : w.cell? ⟨x.block, x.off + 1, none⟩ = some (.int .u8 s.kb)
  c2 : w.cell? ⟨x.block, x.off + 2, none⟩ = some (.int .u8 s.kc)
  c3 : w.cell? ⟨x.block, x.off + 3, none⟩ = some (.int .u8 s.kd)
  c4 : w.cell? ⟨x.block, x.off + 4, none⟩ = some v
  c5 : w.cell? ⟨x.block, x.off + 5, none⟩ = some (.int .i64 gr)
  c6 : w.cell? ⟨x.block, x.off + 6, none⟩ = some (.int .i64 ce)
  c7 : w.cell? ⟨x.block, x.off + 7, none⟩ = some (.int .i64 co)
theorem LnAt.below {w w' : World} {x : Addr} {s : Fl} {v : Value} {gr ce co : Int} (h : LnAt w x s v gr ce co) (b : Below w.heap.size w w') : LnAt w' x s v gr ce co := by
  have c : ∀ p : Addr, p.block = x.block → w'.cell? p = w.cell? p := fun p hp => by
    unfold World.cell?; rw [hp, b.block _ h.blk]
  exact ⟨Nat.lt_of_lt_of_le h.blk b.size, (c x rfl).trans h.c0, (c ⟨x.block, x.off + 1, none⟩ rfl).trans h.c1, (c ⟨x.block, x.off + 2, none⟩ rfl).trans h.c2, (c ⟨x.block, x.off + 3, none⟩ rfl).trans h.c3, (c ⟨x.block, x.off + 4, none⟩ rfl).trans h.c4, (c ⟨x.block, x.off + 5, none⟩ rfl).trans h.c5, (c ⟨x.block, x.off + 6, none⟩ rfl).trans h.c6, (c ⟨x.block, x.off + 7, none⟩ rfl).trans h.c7⟩
/-- A plan that is read: its lines, and the places in each. -/
def PlS (w : World) (p : Option Addr) (m : Nat) (A : Nat → Fl) (o : Nat → Int) (C : Nat → Nat → Int) (ps : Nat → Nat) : Prop :=
  ∀ t, t < m → ∃ (x : Addr) (q : Option Addr) (d : Nat), p = some x ∧ LnAt w (x.add (t * 8)) (A (ps t)) (.slice q (ps (t + 1) - ps t) d) (mas A (ps t) (ps (t + 1))) (cen A (ps t) (ps (t + 1))) (C (ps t) (ps (t + 1))) ∧ NmR w q (ps (t + 1) - ps t) (fun z => o (ps t + z))
theorem PlS.below {w w' : World} {p : Option Addr} {m : Nat} {A : Nat → Fl} {o : Nat → Int} {C : Nat → Nat → Int} {ps : Nat → Nat} (h : PlS w p m A o C ps) (b : Below w.heap.size w w') : PlS w' p m A o C ps := fun t ht => by
  obtain ⟨x, q, d, e, l, r⟩ := h t ht
  exact ⟨x, q, d, e, l.below b, r.below b⟩
theorem plL_at (A : Nat → Fl) (C : Nat → Nat → Int) (ps : Nat → Nat) (q d : Nat → Nat) : ∀ {t x k : Nat}, x < t → k < 8 → (plL A C ps q d t)[x * 8 + k]? = (lnL (A (ps x)) (.slice (some ⟨q x, 0, none⟩) (ps (x + 1) - ps x) (d x)) (mas A (ps x) (ps (x + 1))) (cen A (ps x) (ps (x + 1))) (C (ps x) (ps (x + 1))))[k]? := by
  have len : ∀ t, (plL A C ps q d t).length = t * 8 := fun t => by
    induction t with
    | zero => rfl
    | succ t ih =>
      have e : plL A C ps q d (t + 1) = plL A C ps q d t ++ lnL (A (ps t)) (.slice (some ⟨q t, 0, none⟩) (ps (t + 1) - ps t) (d t)) (mas A (ps t) (ps (t + 1))) (cen A (ps t) (ps (t + 1))) (C (ps t) (ps (t + 1))) := by
        unfold plL; rw [List.range_succ, List.flatMap_append]; simp
      rw [e, List.length_append, ih]
      simp [lnL]; omega
  intro t
  induction t with
  | zero => intro x k h; omega
  | succ t ih =>
    intro x k h hk
    have e : plL A C ps q d (t + 1) = plL A C ps q d t ++ lnL (A (ps t)) (.slice (some ⟨q t, 0, none⟩) (ps (t + 1) - ps t) (d t)) (mas A (ps t) (ps (t + 1))) (cen A (ps t) (ps (t + 1))) (C (ps t) (ps (t + 1))) := by
      unfold plL; rw [List.range_succ, List.flatMap_append]; simp
    rw [e]
    rcases Nat.lt_or_ge x t with g | g
    · rw [List.getElem?_append_left (by rw [len]; omega)]
      exact ih g hk
    · obtain rfl : x = t := by omega
      rw [List.getElem?_append_right (by rw [len]; omega), len, show x * 8 + k - x * 8 = k by omega]
theorem row_some {w : World} {base : Nat} {e : TypeId} {size : Nat} {v : Value} {n : Nat} {xs : List Value} (h : w.ownsRow base e size v n xs) (hn : 0 < n) : ∃ g c, v = .slice (some ⟨g, 0, none⟩) n c ∧ g < w.heap.size := by
  rcases h.2 with ⟨rfl, h0⟩ | ⟨q, cap, cur, rfl, hb, hq, r⟩
  · omega
  · exact ⟨q, cap, rfl, (Array.getElem?_eq_some_iff.1 hq).1⟩
theorem plS_of {base : Nat} {A : Nat → Fl} {o : Nat → Int} {C : Nat → Nat → Int} {ps : Nat → Nat} {t : Nat} {v : Value} {W : World} (h : PlR base A o C ps t v W) (h0 : 0 < t) (pos : ∀ x, x < t → ps x < ps (x + 1)) : ∃ (g c : Nat), v = .slice (some ⟨g, 0, none⟩) t c ∧ PlS W (some ⟨g, 0, none⟩) t A o C ps := by
  obtain ⟨q, d, a, r⟩ := h
  obtain ⟨g, c, rfl, gl⟩ := row_some a h0
  refine ⟨g, c, rfl, fun x hx => ⟨_, some ⟨q x, 0, none⟩, d x, rfl, ?_, ?_⟩⟩
  · have e : ∀ k, k < 8 → W.cell? ⟨g, x * 8 + k, none⟩ = (lnL (A (ps x)) (.slice (some ⟨q x, 0, none⟩) (ps (x + 1) - ps x) (d x)) (mas A (ps x) (ps (x + 1))) (cen A (ps x) (ps (x + 1))) (C (ps x) (ps (x + 1))))[k]? := fun k hk => by
      rw [a.cellAt (x * 8 + k) (by omega), plL_at A C ps q d hx hk]
    have ea : (⟨g, 0, none⟩ : Addr).add (x * 8) = ⟨g, x * 8, none⟩ := by
      unfold Addr.add; split
      · next z => rw [z]
      · simp
    rw [ea]
    exact ⟨gl, e 0 (by omega), e 1 (by omega), e 2 (by omega), e 3 (by omega), e 4 (by omega), e 5 (by omega), e 6 (by omega), e 7 (by omega)⟩
  · have rx := r x hx
    have := pos x hx
    obtain ⟨g', c', e', gl'⟩ := row_some rx (by omega)
    cases e'
    intro z hz
    have cz := rx.cellAt z (by omega)
    refine ⟨⟨q x, 0, none⟩, rfl, gl', ?_⟩
    rw [add0, cz]
    simp [hz]
end Go.Proofs.Ytmdhmpfagekonaa

/- Classing covers: what a line costs with any centre. -/
namespace Go.Proofs.Ytmdhmpfagekonaa
open Go.RowKit Go.Proofs.Ytmdhmpfagekonaa.Ct Go.Proofs.Ytmdhmpfagekonaa.Ce Go.Proofs.Ytmdhmpfagekonaa.Stb
set_option linter.unusedVariables false
set_option linter.unusedSimpArgs false

namespace Ce
/-- Behind the place where half of the mass is reached, or before it. -/
theorem cenF_half {A : Nat → Fl} {all : Int} {i : Nat} : ∀ {k p : Nat}, all ≤ 2 * mas A i (p + k) → i ≤ p → (p = i ∨ 2 * mas A i p < all) → 0 < all → (cenF A all i k p = i ∨ 2 * mas A i (cenF A all i k p) < all) ∧ (0 < k → all ≤ 2 * mas A i (cenF A all i k p + 1)) ∧ p ≤ cenF A all i k p
  | 0, p, h, ip, hp, h0 => ⟨hp, fun g => absurd g (Nat.lt_irrefl 0), Nat.le_refl _⟩
  | k + 1, p, h, ip, hp, h0 => by
    unfold cenF
    split
    · next g => exact ⟨hp, fun _ => g, Nat.le_refl _⟩
    · next g =>
      have ih := cenF_half (A := A) (all := all) (i := i) (k := k) (p := p + 1) (by rw [show p + 1 + k = p + (k + 1) by omega]; exact h) (by omega) (.inr (by omega)) h0
      refine ⟨ih.1, fun _ => ?_, by omega⟩
      by_cases k0 : 0 < k
      · exact ih.2.1 k0
      · obtain rfl : k = 0 := by omega
        exact absurd h (by simpa using g)
theorem offs_up (A : Nat → Fl) (c : Int) {i j : Nat} (h : i ≤ j) : offs A c i (j + 1) = offs A c i j + (A j).gr * max ((A j).mic - c) (c - (A j).mic) := by
  show offs A c i j + (if i ≤ j then _ else 0) = _
  rw [if_pos h]
theorem offs_step (A : Nat → Fl) (c : Int) (k : Nat) : offs A c 0 (k + 1) = offs A c 0 k + (A k).gr * max ((A k).mic - c) (c - (A k).mic) := offs_up A c (Nat.zero_le _)
theorem offs_bd2 {A : Nat → Fl} {n : Nat} {c : Int} (h1 : 0 ≤ c) (h2 : c ≤ 20000) (ok : ∀ k, k < n → (A k).ok) : ∀ {j}, j ≤ n → 0 ≤ offs A c 0 j ∧ offs A c 0 j ≤ 21474836480000 * j
  | 0, _ => by simp [offs]
  | j + 1, hj => by
    have ih := offs_bd2 h1 h2 ok (j := j) (by omega)
    have o := ok j (by omega)
    unfold Fl.ok at o
    have m0 : 0 ≤ max ((A j).mic - c) (c - (A j).mic) := by omega
    have m1 : max ((A j).mic - c) (c - (A j).mic) ≤ 20000 := by omega
    have p0 : 0 ≤ (A j).gr * max ((A j).mic - c) (c - (A j).mic) := Int.mul_nonneg (by omega) m0
    have p1 : (A j).gr * max ((A j).mic - c) (c - (A j).mic) ≤ 1073741824 * 20000 := Int.mul_le_mul o.2.2 m1 m0 (by omega)
    rw [offs_step]
    omega
end Ce
theorem ob_ln (w : World) (s : Fl) (v : Value) (gr ce co : Int) : OB (w.alloc (Obj.cells #[.int .u8 s.ka, .int .u8 s.kb, .int .u8 s.kc, .int .u8 s.kd, v, .int .i64 gr, .int .i64 ce, .int .i64 co] 38)) w.heap.size 38 8 (fun k => if k = 0 then .int .u8 s.ka else if k = 1 then .int .u8 s.kb else if k = 2 then .int .u8 s.kc else if k = 3 then .int .u8 s.kd else if k = 4 then v else if k = 5 then .int .i64 gr else if k = 6 then .int .i64 ce else .int .i64 co) := by
  unfold OB
  rw [heap_alloc_new]
  rfl

set_option maxRecDepth 100000 in
set_option maxHeartbeats 4000000 in
theorem spent_any (p : Option Addr) (c n : Nat) (F : Nat → Fl) (s : Fl) (q : Option Addr) (k d : Nat) (g : Nat → Int) (gr ce co x : Int) (w : World) (r : FlR w p n F) (rq : NmR w q k g) (hk : k ≤ 140) (hg : ∀ z, z < k → 0 ≤ g z ∧ g z < n) (ok : ∀ i, i < n → (F i).ok) (x0 : 0 ≤ x ∧ x ≤ 20000) :
    Calls Try.prog 25 #[.slice p n c, .agg #[.int .u8 s.ka, .int .u8 s.kb, .int .u8 s.kc, .int .u8 s.kd, .slice q k d, .int .i64 gr, .int .i64 ce, .int .i64 co], .int .i64 x] w fun e w' => e = .returned (.int .i64 (offs (fun z => F (g z).toNat) x 0 k)) ∧ Below w.heap.size w w' := by
  have R := Lib.hid r
  have RQ := Lib.hid rq
  have HG := Lib.hid hg
  have OK := Lib.hid ok
  have OO := Lib.hid (ob_ln w s (.slice q k d) gr ce co)
  have B1 := Lib.hid (show Below w.heap.size w (w.alloc (Obj.cells #[.int .u8 s.ka, .int .u8 s.kb, .int .u8 s.kc, .int .u8 s.kd, .slice q k d, .int .i64 gr, .int .i64 ce, .int .i64 co] 38)) from (Below.refl _ _).alloc (Nat.le_refl _) _)
  clear r rq hg ok
  go_enter Try.func25, Try.ntmps25
  go_upto_region 1 with fail
  generalize (w.alloc (Obj.cells #[.int .u8 s.ka, .int .u8 s.kb, .int .u8 s.kc, .int .u8 s.kd, .slice q k d, .int .i64 gr, .int .i64 ce, .int .i64 co] 38)) = wa at *
  go_wp2_with fail
  go_loopw [7, 8] (fun sv kv wr => ∃ i : Nat, i ≤ k ∧ kv = .int .i64 i ∧ sv = .int .i64 (offs (fun z => F (g z).toNat) x 0 i) ∧ Hid (Below wa.heap.size wa wr)) (fun _ kv _ => k - (intOf kv).toNat)
  case atStart => exact ⟨0, Nat.zero_le _, rfl, rfl, Lib.hid (Below.refl _ _)⟩
  case round =>
    obtain ⟨i, hi, rfl, rfl, BW⟩ := hrel
    have c4 : wr.cell? ⟨w.heap.size, 4, none⟩ = some (.slice q k d) := (OO.out.below BW.out).cell (k := 4) (by decide)
    by_cases t1 : i < k
    case pos =>
      have k1 : (0 : Int) ≤ (i : Int) := by omega
      have k2 : (i : Int) < (k : Int) := by omega
      have HB := Lib.hid (B1.out.trans (BW.out.mono B1.out.size))
      obtain ⟨y, rfl, -, cy⟩ := (RQ.out.below HB.out) i t1
      have hz := HG.out i t1
      obtain ⟨z, ez⟩ : ∃ z : Nat, g i = (z : Int) := ⟨(g i).toNat, by omega⟩
      rw [ez] at cy hz
      have zn : z < n := by omega
      have z1 : (0 : Int) ≤ (z : Int) := by omega
      have z2 : (z : Int) < (n : Int) := by omega
      obtain ⟨xa, rfl, -⟩ := R.out z zn
      obtain ⟨ab, a0, a1, a2, a3, a4, a5⟩ := (R.out.below HB.out).at1 zn rfl
      have fo := OK.out z zn
      unfold Fl.ok at fo
      have bd := offs_bd2 (A := fun z => F (g z).toNat) (n := k) x0.1 x0.2 (fun j hj => OK.out _ (by have := HG.out j hj; omega)) (j := i) hi
      have ST := Lib.hid (show offs (fun z => F (g z).toNat) x 0 (i + 1) = offs (fun z => F (g z).toNat) x 0 i + max ((F z).mic - x) (x - (F z).mic) * (F z).gr from by
        rw [offs_step]
        simp only [ez, Int.toNat_natCast]
        rw [Int.mul_comm])
      have m0 : 0 ≤ max ((F z).mic - x) (x - (F z).mic) := by omega
      have m1 : max ((F z).mic - x) (x - (F z).mic) ≤ 20000 := by omega
      have q0 : 0 ≤ max ((F z).mic - x) (x - (F z).mic) * (F z).gr := Int.mul_nonneg m0 (by omega)
      have q1 : max ((F z).mic - x) (x - (F z).mic) * (F z).gr ≤ 20000 * 1073741824 := Int.mul_le_mul m1 fo.2.2 (by omega) (by omega)
      have e1 : IntKind.i64.wrap ((F z).mic - x) = (F z).mic - x := hwI (by omega) (by omega)
      have e2 : IntKind.i64.wrap (x - (F z).mic) = x - (F z).mic := hwI (by omega) (by omega)
      have e3 : IntKind.i64.wrap (max ((F z).mic - x) (x - (F z).mic) * (F z).gr) = max ((F z).mic - x) (x - (F z).mic) * (F z).gr := hwI (by omega) (by omega)
      have e4 : IntKind.i64.wrap (offs (fun z => F (g z).toNat) x 0 i + max ((F z).mic - x) (x - (F z).mic) * (F z).gr) = offs (fun z => F (g z).toNat) x 0 i + max ((F z).mic - x) (x - (F z).mic) * (F z).gr := hwI (by omega) (by omega)
      clear fo bd m0 m1 q0 q1 hz
      generalize F z = f at *
      go_wp2_with fail
      go_roundw
      case rel => exact ⟨i + 1, by omega, by go_num, by rw [ST.out], Lib.hid (BW.out.alloc (by have := BW.out.size; omega) _)⟩
      case measure => simp [intOf]; omega
    obtain rfl : i = k := by omega
    have k3 : ¬ ((i : Int) < (i : Int)) := by omega
    have HB := Lib.hid (B1.out.trans (BW.out.mono B1.out.size))
    go_wp2_with fail
    go_ret
    exact ⟨rfl, HB.out⟩
end Go.Proofs.Ytmdhmpfagekonaa

/- Classing covers, plain: no other centre lowers the cost of a line. -/
namespace Go.Proofs.Ytmdhmpfagekonaa
open Go.RowKit Go.Proofs.Ytmdhmpfagekonaa.Ct Go.Proofs.Ytmdhmpfagekonaa.Ce Go.Proofs.Ytmdhmpfagekonaa.Stb
set_option linter.unusedVariables false
set_option linter.unusedSimpArgs false

namespace Ce
/-- The masses, those that u takes counted for, the others against. -/
def wgt (A : Nat → Fl) (u : Nat → Bool) (i : Nat) : Nat → Int
  | 0 => 0
  | t + 1 => wgt A u i t + (if i ≤ t then (if u t = true then (A t).gr else -(A t).gr) else 0)
theorem offs_wgt {A : Nat → Fl} {u : Nat → Bool} {i n : Nat} {a b D : Int} (ok : ∀ k, k < n → (A k).ok) : ∀ {t}, t ≤ n → (∀ k, i ≤ k → k < t → max ((A k).mic - a) (a - (A k).mic) + (if u k = true then D else -D) ≤ max ((A k).mic - b) (b - (A k).mic)) → offs A a i t + D * wgt A u i t ≤ offs A b i t
  | 0, _, _ => by simp [offs, wgt]
  | t + 1, tn, h => by
    have ih := offs_wgt (A := A) (u := u) (i := i) (a := a) (b := b) (D := D) ok (t := t) (by omega) (fun k h1 h2 => h k h1 (by omega))
    show offs A a i t + (if i ≤ t then (A t).gr * max ((A t).mic - a) (a - (A t).mic) else 0) + D * (wgt A u i t + (if i ≤ t then (if u t = true then (A t).gr else -(A t).gr) else 0)) ≤ offs A b i t + (if i ≤ t then (A t).gr * max ((A t).mic - b) (b - (A t).mic) else 0)
    by_cases it : i ≤ t
    · rw [if_pos it, if_pos it, if_pos it]
      have o := (ok t (by omega)).2
      have hh := Int.mul_le_mul_of_nonneg_left (h t it (by omega)) (show 0 ≤ (A t).gr by omega)
      rw [Int.mul_add] at hh
      rw [Int.mul_add]
      by_cases q : u t = true
      · rw [if_pos q] at hh ⊢
        rw [Int.mul_comm D (A t).gr]
        omega
      · rw [if_neg q] at hh ⊢
        rw [Int.mul_neg] at hh ⊢
        rw [Int.mul_comm D (A t).gr]
        omega
    · rw [if_neg it, if_neg it, if_neg it]
      simpa using ih
theorem wgt_low (A : Nat → Fl) (i p : Nat) : ∀ t, wgt A (fun k => decide (k ≤ p)) i t = 2 * mas A i (min t (p + 1)) - mas A i t
  | 0 => by simp [wgt, mas]
  | t + 1 => by
    show wgt A (fun k => decide (k ≤ p)) i t + _ = 2 * mas A i (min (t + 1) (p + 1)) - (mas A i t + (if i ≤ t then (A t).gr else 0))
    rw [wgt_low A i p t]
    by_cases c : t ≤ p
    · rw [show min t (p + 1) = t by omega, show min (t + 1) (p + 1) = t + 1 by omega, show mas A i (t + 1) = mas A i t + (if i ≤ t then (A t).gr else 0) from rfl]
      simp only [decide_eq_true c, if_pos rfl]
      split <;> simp <;> omega
    · rw [show min t (p + 1) = p + 1 by omega, show min (t + 1) (p + 1) = p + 1 by omega]
      simp only [decide_eq_false c]
      split <;> simp <;> omega
theorem wgt_high (A : Nat → Fl) (i p : Nat) : ∀ t, wgt A (fun k => decide (p ≤ k)) i t = mas A i t - 2 * mas A i (min t p)
  | 0 => by simp [wgt, mas]
  | t + 1 => by
    show wgt A (fun k => decide (p ≤ k)) i t + _ = (mas A i t + (if i ≤ t then (A t).gr else 0)) - 2 * mas A i (min (t + 1) p)
    rw [wgt_high A i p t]
    by_cases c : p ≤ t
    · rw [show min t p = p by omega, show min (t + 1) p = p by omega]
      simp only [decide_eq_true c]
      split <;> simp <;> omega
    · rw [show min t p = t by omega, show min (t + 1) p = t + 1 by omega, show mas A i (t + 1) = mas A i t + (if i ≤ t then (A t).gr else 0) from rfl]
      simp only [decide_eq_false c]
      split <;> simp <;> omega
/-- The weighted median is the best centre. -/
theorem med_best {A : Nat → Fl} {n i j : Nat} (ok : ∀ k, k < n → (A k).ok) (up : ∀ x y, i ≤ x → x ≤ y → y < j → (A x).mic ≤ (A y).mic) (ij : i < j) (jn : j ≤ n) (c : Int) : offs A (cen A i j) i j ≤ offs A c i j := by
  have b0 := mas_up (A := A) ok (Nat.le_refl i) (show i < n by omega)
  rw [mas_eq A i (Nat.le_refl i)] at b0
  have grow : ∀ t, i + 1 ≤ t → t ≤ n → mas A i (i + 1) ≤ mas A i t := fun t => by
    induction t with
    | zero => intro h; omega
    | succ t ih =>
      intro h1 h2
      by_cases e : t = i
      · rw [e]; exact Int.le_refl _
      · have := ih (by omega) (by omega)
        have := mas_up (A := A) (i := i) ok (show i ≤ t by omega) (show t < n by omega)
        omega
  have all0 : 0 < mas A i j := by have := grow j (by omega) jn; omega
  have lt : cenP A i j < j := (cenF_lt (A := A) (i := i) (k := j - i) (p := i) (j := j) (by omega) (by omega) (by omega)).2
  have H := cenF_half (A := A) (all := mas A i j) (i := i) (k := j - i) (p := i) (by rw [show i + (j - i) = j by omega]; omega) (Nat.le_refl i) (.inl rfl) all0
  change (cenP A i j = i ∨ 2 * mas A i (cenP A i j) < mas A i j) ∧ (0 < j - i → mas A i j ≤ 2 * mas A i (cenP A i j + 1)) ∧ i ≤ cenP A i j at H
  obtain ⟨h1, h2, h3⟩ := H
  have h2 := h2 (by omega)
  obtain ⟨p, hp⟩ : ∃ p, p = cenP A i j := ⟨_, rfl⟩
  show offs A (A (cenP A i j)).mic i j ≤ offs A c i j
  rw [← hp] at lt h1 h2 h3 ⊢
  by_cases q : (A p).mic ≤ c
  · have := offs_wgt (A := A) (u := fun k => decide (k ≤ p)) (i := i) (a := (A p).mic) (b := c) (D := c - (A p).mic) ok (t := j) jn (fun k k1 k2 => by
      by_cases e : k ≤ p
      · simp only [decide_eq_true e, if_pos rfl]
        have := up k p k1 e lt
        simp only [if_true]
        omega
      · simp only [decide_eq_false e]
        have := up p k h3 (by omega) k2
        simp
        omega)
    rw [wgt_low, show min j (p + 1) = p + 1 by omega] at this
    have w := Int.mul_nonneg (show 0 ≤ c - (A p).mic by omega) (show 0 ≤ 2 * mas A i (p + 1) - mas A i j by omega)
    omega
  · have := offs_wgt (A := A) (u := fun k => decide (p ≤ k)) (i := i) (a := (A p).mic) (b := c) (D := (A p).mic - c) ok (t := j) jn (fun k k1 k2 => by
      by_cases e : p ≤ k
      · simp only [decide_eq_true e]
        have := up p k h3 e k2
        simp
        omega
      · simp only [decide_eq_false e]
        have := up k p k1 (by omega) lt
        simp
        omega)
    rw [wgt_high, show min j p = p by omega] at this
    have z : 2 * mas A i p ≤ mas A i j := by
      rcases h1 with h1 | h1
      · rw [h1, mas_eq A i (Nat.le_refl i)]; omega
      · omega
    have w := Int.mul_nonneg (show 0 ≤ (A p).mic - c by omega) (show 0 ≤ mas A i j - 2 * mas A i p by omega)
    omega
end Ce
end Go.Proofs.Ytmdhmpfagekonaa

/- Classing covers, plain: what a plan says of the places, the lines and the costs. -/
namespace Go.Proofs.Ytmdhmpfagekonaa
open Go.RowKit Go.Proofs.Ytmdhmpfagekonaa.Ct Go.Proofs.Ytmdhmpfagekonaa.Ce Go.Proofs.Ytmdhmpfagekonaa.Stb
set_option linter.unusedVariables false
set_option linter.unusedSimpArgs false

namespace Ce
/-- What the first lines cost together. -/
def smC (C : Nat → Nat → Int) (ps : Nat → Nat) : Nat → Int
  | 0 => 0
  | t + 1 => smC C ps t + C (ps t) (ps (t + 1))
theorem smC_rowK {C : Nat → Nat → Int} {n m : Nat} (h : rowK C n m 0 ≠ -1) : ∀ t, t ≤ m → smC C (pos C n m) t + rowK C n (m - t) (pos C n m t) = rowK C n m 0
  | 0, _ => by simp [smC, pos]
  | t + 1, ht => by
    have ih := smC_rowK h t (by omega)
    have r := (pos_ok h (t := t) (by omega)).1
    have e : m - t = (m - 1 - t) + 1 := by omega
    rw [e] at ih r
    obtain ⟨-, -, c⟩ := nxt_ok r
    have d := both_ne (a := C (pos C n m t) (nxt C n (m - 1 - t) (pos C n m t))) (b := rowK C n (m - 1 - t) (nxt C n (m - 1 - t) (pos C n m t))) (by rw [c]; exact r)
    show smC C (pos C n m) t + C (pos C n m t) (nxt C n (m - 1 - t) (pos C n m t)) + rowK C n (m - (t + 1)) (nxt C n (m - 1 - t) (pos C n m t)) = _
    rw [show m - (t + 1) = m - 1 - t by omega]
    unfold both at c
    rw [if_neg (fun h => h.elim d.1 d.2)] at c
    omega
theorem smC_bd {C : Nat → Nat → Int} {ps : Nat → Nat} {m : Nat} {M : Int} (h : ∀ t, t < m → 0 ≤ C (ps t) (ps (t + 1)) ∧ C (ps t) (ps (t + 1)) ≤ M) : ∀ t, t ≤ m → 0 ≤ smC C ps t ∧ smC C ps t ≤ M * t
  | 0, _ => by simp [smC]
  | t + 1, ht => by
    have ih := smC_bd h t (by omega)
    have c := h t (by omega)
    have e : M * ((t + 1 : Nat) : Int) = M * t + M := by rw [Int.natCast_add, Int.mul_add]; simp
    rw [e]
    show 0 ≤ smC C ps t + _ ∧ smC C ps t + _ ≤ _
    omega
/-- What holds of a line from i to below j. -/
structure LnF (A : Nat → Fl) (le sp : Int) (n i j : Nat) (co : Int) : Prop where
  ij : i < j
  jn : j ≤ n
  le : le ≤ mas A i j
  sp : (A (j - 1)).mic - (A i).mic ≤ sp
  up : ∀ x y, i ≤ x → x ≤ y → y < j → (A x).mic ≤ (A y).mic
  kin : ∀ k, i ≤ k → k < j → (A k).ka = (A i).ka ∧ (A k).kb = (A i).kb ∧ (A k).kc = (A i).kc ∧ (A k).kd = (A i).kd
  eq : co = offs A (Ce.cen A i j) i j
  ceb : 0 ≤ Ce.cen A i j ∧ Ce.cen A i j ≤ 20000
  bd : 0 ≤ co ∧ co ≤ 1503238553600000
theorem lnF_of {A : Nat → Fl} {n i j : Nat} {le sp : Int} (n1 : n ≤ 140) (ok : ∀ k, k < n → (A k).ok) (kok : ∀ k, k < n → (A k).kok) (up : ∀ x y, x ≤ y → y < n → (A x).key ≤ (A y).key) (ij : i < j) (jn : j ≤ n) (h : cMat A le sp i j ≠ -1) : LnF A le sp n i j (cMat A le sp i j) := by
  have bd := cMat_bd (A := A) (i := i) (le := le) (sp := sp) ok n1 jn
  have hl : isLine A le sp i j := by
    apply Classical.byContradiction
    intro g
    apply h
    unfold cMat lnc
    rw [if_pos ij, if_neg g]
  have s : ∀ k, i ≤ k → k < j → (A k).kk = (A i).kk := fun k h1 h2 => kk_btw ok up h1 (show k ≤ j - 1 by omega) (by omega) hl.2.1
  have ce := cenF_lt (A := A) (i := i) (k := j - i) (p := i) (j := j) (by omega) (by omega) (mas_bd ok jn).1
  refine ⟨ij, jn, hl.2.2.2, hl.2.2.1, fun x y ix xy yj => ?_, fun k h1 h2 => (kk_eq (kok k (by omega)) (kok i (by omega))).1 (s k h1 h2), ?_, ?_, ?_⟩
  · have a := s x ix (by omega)
    have b := s y (by omega) yj
    have c := up x y xy (by omega)
    unfold Fl.key at c
    omega
  · unfold cMat lnc
    rw [if_pos ij, if_pos hl]
  · have o := ok (cenP A i j) (by unfold cenP; omega)
    unfold Fl.ok at o
    unfold cen
    omega
  · omega
/-- Has place z come up in the first i? -/
def seenM (o : Nat → Int) (i z : Nat) : Bool := (List.range i).any fun t => decide (o t = (z : Int))
theorem seenM_add (o : Nat → Int) (i k z : Nat) : (seenM o i z || (List.range k).any fun t => decide (o (i + t) = (z : Int))) = seenM o (i + k) z := by
  unfold seenM
  rw [List.range_add, List.any_append, List.any_map]
  rfl
theorem seenM_no {o : Nat → Int} {n i : Nat} (inj : ∀ x y, x < y → y < n → o x ≠ o y) {x z : Nat} (ix : i ≤ x) (xn : x < n) (e : o x = (z : Int)) : seenM o i z = false := by
  unfold seenM
  rw [List.any_eq_false]
  intro t ht
  have := inj t x (by have := List.mem_range.1 ht; omega) xn
  rw [e] at this
  simpa using this
end Ce

/-- What an answer of Lines says of the places, the lines and the costs. -/
theorem cov_of {K n : Nat} {ls le sp : Int} {F : Nat → Fl} {w w' : World} {v : Value} (h : (v = .slice none 0 0 ∧ ((liV K ls le sp F n).2 ≠ 0 ∨ n = 0)) ∨ ((liV K ls le sp F n).2 = 0 ∧ n ≠ 0 ∧ flE ls le sp F n = 0 ∧ liK K le sp F n ≠ 0 ∧ PlR w.heap.size (inO F n) (gi (ordK (fun k => (F k).key) n)) (cMat (inO F n) le sp) (pos (cMat (inO F n) le sp) n (liK K le sp F n)) (liK K le sp F n) v w'))
    (e0 : (liV K ls le sp F n).2 = 0) (kok : ∀ k, k < n → (F k).kok) (n1 : n ≤ 140) :
    ∃ (pl : Option Addr) (cl m : Nat) (A : Nat → Fl) (o : Nat → Int) (C : Nat → Nat → Int) (ps : Nat → Nat), v = .slice pl m cl ∧ m ≤ 140 ∧ PlS w' pl m A o C ps ∧ ps 0 = 0 ∧ ps m = n ∧ smC C ps m = (liV K ls le sp F n).1 ∧ (∀ t, t < m → LnF A le sp n (ps t) (ps (t + 1)) (C (ps t) (ps (t + 1)))) ∧ (∀ k, k < n → 0 ≤ o k ∧ o k < n) ∧ (∀ k, A k = F (o k).toNat) ∧ (∀ x y, x < y → y < n → o x ≠ o y) ∧ (∀ k, k < n → (F k).ok) := by
  rcases h with ⟨rfl, h⟩ | ⟨-, n0, fe, k0, pr⟩
  · have z : n = 0 := by
      rcases h with h | h
      · exact absurd e0 h
      · exact h
    subst z
    refine ⟨none, 0, 0, fun _ => F 0, fun _ => 0, fun _ _ => 0, fun _ => 0, rfl, by omega, fun t ht => absurd ht (by omega), rfl, rfl, ?_, fun t ht => absurd ht (by omega), fun k hk => absurd hk (by omega), fun k => rfl, fun x y _ hk => absurd hk (by omega), fun k hk => absurd hk (by omega)⟩
    by_cases fz : flE ls le sp F 0 = 0
    · rw [liV_2 fz rfl]; rfl
    · rw [liV_1 fz]; rfl
  · obtain ⟨-, -, fok⟩ := flE_ok fe
    have ok := inO_ok fok
    have ko := inO_kok kok
    have h0 : rowK (cMat (inO F n) le sp) n (liK K le sp F n) 0 ≠ -1 := bst_hit (f := fun k => rowK (cMat (inO F n) le sp) n k 0) k0
    have ln := fun {t} (ht : t < liK K le sp F n) => pos_line (C := cMat (inO F n) le sp) (n := n) h0 ht
    have up := fun t (ht : t ≤ liK K le sp F n) => (pos_ok (C := cMat (inO F n) le sp) (n := n) h0 ht).2
    have grow : ∀ t, t ≤ liK K le sp F n → t ≤ pos (cMat (inO F n) le sp) n (liK K le sp F n) t := fun t => by
      induction t with
      | zero => intro _; exact Nat.zero_le _
      | succ t ih => intro ht; have := (ln (show t < _ by omega)).1; have := ih (by omega); omega
    obtain ⟨g, cl, rfl, ps⟩ := plS_of pr (by omega) (fun x hx => (ln hx).1)
    have O := ordK_ord (q := fun k => (F k).key) n
    refine ⟨_, cl, _, _, _, _, _, rfl, ?_, ps, rfl, pos_end h0, ?_, fun t ht => ?_, O.2.1, fun k => rfl, ?_, fok⟩
    · have := grow _ (Nat.le_refl _); have := up _ (Nat.le_refl _); omega
    · have := smC_rowK h0 _ (Nat.le_refl _)
      rw [Nat.sub_self, pos_end h0] at this
      rw [liV_4 fe n0 k0]
      unfold liK at this ⊢
      rw [← this]
      simp [rowK]
    · exact lnF_of n1 ok ko (fun x y xy yn => inO_le F n xy yn) (ln ht).1 (ln ht).2.1 (ln ht).2.2
    · exact O.2.2
end Go.Proofs.Ytmdhmpfagekonaa

/- Classing covers: holds. -/
namespace Go.Proofs.Ytmdhmpfagekonaa
open Go.RowKit Go.Proofs.Ytmdhmpfagekonaa.Ct Go.Proofs.Ytmdhmpfagekonaa.Ce Go.Proofs.Ytmdhmpfagekonaa.Stb
set_option linter.unusedVariables false
set_option linter.unusedSimpArgs false

theorem FlR.fm {w w' : World} {M : Nat → Prop} {p : Option Addr} {n : Nat} {A : Nat → Fl} (h : FlR w p n A) (f : Fm M w w') (q : ∀ x, p = some x → ¬ M x.block) : FlR w' p n A := fun i hi => by
  obtain ⟨x, e, k⟩ := h i hi
  refine ⟨x, e, k.keep f.size ?_⟩
  have b := k.blk
  rw [addB] at b ⊢
  exact f.block _ b (q x e)
def seenF (M : Nat → Bool) (g : Nat → Int) (i z : Nat) : Value := .bool (M z || (List.range i).any fun t => decide (g t = (z : Int)))
theorem seenF_up (M : Nat → Bool) (g : Nat → Int) (i z : Nat) (e : g i = (z : Int)) : updV (seenF M g i) z (.bool true) = seenF M g (i + 1) := by
  funext y
  unfold updV seenF
  rw [List.range_succ, List.any_append]
  by_cases c : y = z
  · rw [if_pos c, c]; simp [e]
  · rw [if_neg c]
    have : ¬ g i = (y : Int) := by omega
    simp [this]
theorem seenF_no {M : Nat → Bool} {g : Nat → Int} {i z : Nat} (h : M z = false) (d : ∀ t, t < i → g t ≠ (z : Int)) : seenF M g i z = .bool false := by
  unfold seenF
  rw [h]
  have : ((List.range i).any fun t => decide (g t = (z : Int))) = false := by
    rw [List.any_eq_false]
    intro t ht
    have := d t (List.mem_range.1 ht)
    simpa using this
  rw [this]; rfl

/-- The cells of a line and of what it must keep. -/
def LnS (X : Nat) (s : Fl) (v : Value) (gr ce co le sp : Int) (w' : World) : Prop := w'.cell? ⟨X, 0, none⟩ = some (.int .u8 s.ka) ∧ w'.cell? ⟨X, 1, none⟩ = some (.int .u8 s.kb) ∧ w'.cell? ⟨X, 2, none⟩ = some (.int .u8 s.kc) ∧ w'.cell? ⟨X, 3, none⟩ = some (.int .u8 s.kd) ∧ w'.cell? ⟨X, 4, none⟩ = some v ∧ w'.cell? ⟨X, 5, none⟩ = some (.int .i64 gr) ∧ w'.cell? ⟨X, 6, none⟩ = some (.int .i64 ce) ∧ w'.cell? ⟨X, 7, none⟩ = some (.int .i64 co) ∧ w'.cell? ⟨X + 1, 1, none⟩ = some (.int .i64 le) ∧ w'.cell? ⟨X + 1, 2, none⟩ = some (.int .i64 sp)
theorem LnS.below {X : Nat} {s : Fl} {v : Value} {gr ce co le sp : Int} {w w' : World} (h : LnS X s v gr ce co le sp w) (x : X + 1 < w.heap.size) (b : Below w.heap.size w w') : LnS X s v gr ce co le sp w' := by
  have c : ∀ p : Addr, p.block ≤ X + 1 → w'.cell? p = w.cell? p := fun p hp => by
    unfold World.cell?; rw [b.block _ (by omega)]
  obtain ⟨h0, h1, h2, h3, h4, h5, h6, h7, h8, h9⟩ := h
  exact ⟨(c _ (by simp)).trans h0, (c _ (by simp)).trans h1, (c _ (by simp)).trans h2, (c _ (by simp)).trans h3, (c _ (by simp)).trans h4, (c _ (by simp)).trans h5, (c _ (by simp)).trans h6, (c _ (by simp)).trans h7, (c _ (by simp)).trans h8, (c _ (by simp)).trans h9⟩

set_option maxRecDepth 100000 in
set_option maxHeartbeats 8000000 in
theorem holds_any (p : Option Addr) (c n b : Nat) (F : Nat → Fl) (M : Nat → Bool) (s : Fl) (q : Option Addr) (k d : Nat) (g : Nat → Int) (ce : Int) (ls le sp : Int) (w : World) (r : FlR w p n F) (rq : NmR w q k g) (ob : OB w b 4 n (fun z => .bool (M z))) (pb : ∀ x, p = some x → x.block ≠ b) (qb : ∀ x, q = some x → x.block ≠ b) (n140 : n ≤ 140) (k0 : 0 < k) (hk : k ≤ 140) (hg : ∀ z, z < k → 0 ≤ g z ∧ g z < n) (inj : ∀ y z, y < z → z < k → g y ≠ g z) (fr : ∀ z, z < k → M (g z).toNat = false) (ok : ∀ i, i < n → (F i).ok)
    (up : ∀ y z, y ≤ z → z < k → (F (g y).toNat).mic ≤ (F (g z).toNat).mic) (kin : ∀ z, z < k → (F (g z).toNat).ka = s.ka ∧ (F (g z).toNat).kb = s.kb ∧ (F (g z).toNat).kc = s.kc ∧ (F (g z).toNat).kd = s.kd)
    (x0 : 0 ≤ ce ∧ ce ≤ 20000) (hle : le ≤ mas (fun z => F (g z).toNat) 0 k) (hsp : (F (g (k - 1)).toNat).mic - (F (g 0).toNat).mic ≤ sp) :
    Calls Try.prog 24 #[.slice p n c, .agg #[.int .u8 s.ka, .int .u8 s.kb, .int .u8 s.kc, .int .u8 s.kd, .slice q k d, .int .i64 (mas (fun z => F (g z).toNat) 0 k), .int .i64 ce, .int .i64 (offs (fun z => F (g z).toNat) ce 0 k)], .agg #[.int .i64 ls, .int .i64 le, .int .i64 sp], .slice (some ⟨b, 0, none⟩) n n] w fun e w' => e = .returned (.bool true) ∧ OB w' b 4 n (seenF M g k) ∧ Fm (fun y => y = b) w w' := by
  have R := Lib.hid r
  have RQ := Lib.hid rq
  have OBB := Lib.hid ob
  have PB := Lib.hid pb
  have QB := Lib.hid qb
  have HG := Lib.hid hg
  have INJ := Lib.hid inj
  have FR := Lib.hid fr
  have OK := Lib.hid ok
  have UP := Lib.hid up
  have KIN := Lib.hid kin
  have HLE := Lib.hid hle
  have HSP := Lib.hid hsp
  obtain ⟨gr, hgr⟩ : ∃ y, y = mas (fun z => F (g z).toNat) 0 k := ⟨_, rfl⟩
  obtain ⟨co, hco⟩ : ∃ y, y = offs (fun z => F (g z).toNat) ce 0 k := ⟨_, rfl⟩
  rw [← hgr, ← hco]
  have HGR := Lib.hid hgr
  have HCO := Lib.hid hco
  have B1 := Lib.hid (show let wa := (w.alloc (Obj.cells #[.int .u8 s.ka, .int .u8 s.kb, .int .u8 s.kc, .int .u8 s.kd, .slice q k d, .int .i64 gr, .int .i64 ce, .int .i64 co] 38)).alloc (Obj.cells #[.int .i64 ls, .int .i64 le, .int .i64 sp] 24)
      Below w.heap.size w wa ∧ OB wa w.heap.size 38 8 (fun k' => if k' = 0 then .int .u8 s.ka else if k' = 1 then .int .u8 s.kb else if k' = 2 then .int .u8 s.kc else if k' = 3 then .int .u8 s.kd else if k' = 4 then .slice q k d else if k' = 5 then .int .i64 gr else if k' = 6 then .int .i64 ce else .int .i64 co) ∧ OB wa (w.heap.size + 1) 24 3 (spC ls le sp) from by
    refine ⟨((Below.refl _ _).alloc (Nat.le_refl _) _).alloc (by simp) _, ob_old' (ob_ln w s (.slice q k d) gr ce co) _, ?_⟩
    have := spBx (w.alloc (Obj.cells #[.int .u8 s.ka, .int .u8 s.kb, .int .u8 s.kc, .int .u8 s.kd, .slice q k d, .int .i64 gr, .int .i64 ce, .int .i64 co] 38)) ls le sp
    simpa using this)
  clear r rq ob pb qb hg inj fr ok up kin hle hsp hgr hco
  go_enter Try.func24, Try.ntmps24
  go_upto_region 1 with fail
  generalize (w.alloc (Obj.cells #[.int .u8 s.ka, .int .u8 s.kb, .int .u8 s.kc, .int .u8 s.kd, .slice q k d, .int .i64 gr, .int .i64 ce, .int .i64 co] 38)).alloc (Obj.cells #[.int .i64 ls, .int .i64 le, .int .i64 sp] 24) = wa at *
  obtain ⟨b1, ol, os⟩ := B1.out
  clear B1
  have B1 := Lib.hid b1
  have OL := Lib.hid ol
  have OS := Lib.hid os
  have HBL := Lib.hid (OBB.out.lt)
  clear b1 ol os
  go_wp2_with fail
  go_loopw [9, 10, 11, 12] (fun gv lv mv kv wr => ∃ i : Nat, i ≤ k ∧ kv = .int .i64 i ∧ gv = .int .i64 (mas (fun z => F (g z).toNat) 0 i) ∧ lv = .int .i64 (if i = 0 then 0 else (F (g 0).toNat).mic) ∧ mv = .int .i64 (if i = 0 then 0 else (F (g (i - 1)).toNat).mic) ∧ Hid (OB wr b 4 n (seenF M g i)) ∧ Hid (Fm (fun y => y = b) wa wr)) (fun _ _ _ kv _ => k - (intOf kv).toNat)
  case atStart => exact ⟨0, Nat.zero_le _, rfl, rfl, rfl, rfl, Lib.hid ((OBB.out.below B1.out).ext fun z hz => by simp [seenF]), Lib.hid (Fm.refl _ _)⟩
  case round =>
    obtain ⟨i, hi, rfl, rfl, rfl, rfl, OB2, FW⟩ := hrel
    have FX := Lib.hid ((Fm.call (M := fun y => y = b) B1.out).trans FW.out)
    have c4 : wr.cell? ⟨w.heap.size, 4, none⟩ = some (.slice q k d) := (OL.out.fm FW.out (by have := HBL.out; omega)).cell (k := 4) (by decide)
    by_cases t1 : i < k
    case pos =>
      have k1 : (0 : Int) ≤ (i : Int) := by omega
      have k2 : (i : Int) < (k : Int) := by omega
      obtain ⟨y, rfl, -, cy⟩ := (RQ.out.fm FX.out QB.out) i t1
      have hz := HG.out i t1
      obtain ⟨z, ez⟩ : ∃ z : Nat, g i = (z : Int) := ⟨(g i).toNat, by omega⟩
      rw [ez] at cy hz
      have zn : z < n := by omega
      have z1 : (0 : Int) ≤ (z : Int) := by omega
      have z2 : (z : Int) < (n : Int) := by omega
      have z3 : decide ((z : Int) < 0) = false := decide_eq_false (by omega)
      have z4 : decide ((n : Int) ≤ (z : Int)) = false := decide_eq_false (by omega)
      obtain ⟨xa, rfl, -⟩ := R.out z zn
      obtain ⟨ab, a0, a1, a2, a3, a4, a5⟩ := (R.out.fm FX.out PB.out).at1 zn rfl
      have cs : wr.cell? ⟨b, z, none⟩ = some (.bool false) := by
        rw [OB2.out.cell zn, seenF_no (by have := FR.out i t1; rwa [ez, Int.toNat_natCast] at this) (fun t ht e => INJ.out t i ht t1 (by rw [e, ez]))]
      have z5 : decide (n ≤ z) = false := decide_eq_false (by omega)
      have OLW := OL.out.fm FW.out (show ¬ w.heap.size = b by have := HBL.out; omega)
      have l0 : wr.cell? ⟨w.heap.size, 0, none⟩ = some (.int .u8 s.ka) := OLW.cell (k := 0) (by decide)
      have l1 : wr.cell? ⟨w.heap.size, 1, none⟩ = some (.int .u8 s.kb) := OLW.cell (k := 1) (by decide)
      have l2 : wr.cell? ⟨w.heap.size, 2, none⟩ = some (.int .u8 s.kc) := OLW.cell (k := 2) (by decide)
      have l3 : wr.cell? ⟨w.heap.size, 3, none⟩ = some (.int .u8 s.kd) := OLW.cell (k := 3) (by decide)
      clear OLW
      have fs := OB2.out.frozen z
      have kin := KIN.out i t1
      have NX := Lib.hid (show mas (fun z => F (g z).toNat) 0 (i + 1) = mas (fun z => F (g z).toNat) 0 i + (F z).gr from by
        rw [mas_step]; simp only [ez, Int.toNat_natCast])
      have bd := mas_bd (A := fun z => F (g z).toNat) (n := k) (i := 0) (fun j hj => OK.out _ (by have := HG.out j hj; omega)) (j := i) hi
      have fo := OK.out z zn
      unfold Fl.ok at fo
      have e4 : IntKind.i64.wrap (mas (fun z => F (g z).toNat) 0 i + (F z).gr) = mas (fun z => F (g z).toNat) 0 i + (F z).gr := hwI (by omega) (by omega)
      have EK := fun W => eq_kind (F z).ka (F z).kb (F z).kc (F z).kd s.ka s.kb s.kc s.kd W
      have ei : (F (g i).toNat).mic = (F z).mic := by rw [ez, Int.toNat_natCast]
      have EI := Lib.hid ei
      rw [ez, Int.toNat_natCast] at kin
      simp only [decide_eq_true kin] at EK
      by_cases i0 : i = 0
      · subst i0
        simp [Addr.add] at cy
        have m1 : max 0 (F z).mic = (F z).mic := by omega
        clear fo bd hz kin
        have FZ := Lib.hid (show F z = F z from rfl)
        go_upto_region 6 with fail
        go_quiet (fail)
        have DB : Below wr.heap.size wr (wr.drewN nq) := below_drewN (Below.refl _ _) _
        have OB3 := Lib.hid (show OB ((wr.drewN nq).setCell ⟨b, z, none⟩ (.bool true)) b 4 n (seenF M g (0 + 1)) from by
          rw [← seenF_up M g 0 z ez]; exact (OB2.out.below DB).set z _)
        have FW3 := Lib.hid (show Fm (fun y => y = b) wa ((wr.drewN nq).setCell ⟨b, z, none⟩ (.bool true)) from (FW.out.trans (Fm.call DB)).trans (Fm.set _ _ rfl))
        obtain ⟨-, -, -, -, -, a4, a5⟩ := (R.out.fm ((Fm.call (M := fun y => y = b) B1.out).trans FW3.out) PB.out).at1 zn rfl
        go_upto_region 9 with fail
        generalize (wr.drewN nq).setCell ⟨b, z, none⟩ (.bool true) = wz at *
        clear DB
        go_wp2_with fail
        go_roundw
        case rel => exact ⟨0 + 1, by omega, by go_num, by rw [NX.out], by first | (simp [EI.out]; done) | (rw [if_neg (by omega)]), by rw [if_neg (by omega), Nat.add_sub_cancel, EI.out], OB3, FW3⟩
        case measure => simp [intOf]; omega
      · have d0 : ((i : Int) == 0) = false := by simp; omega
        have lo := UP.out 0 i (by omega) t1
        have lp := UP.out (i - 1) i (by omega) t1
        rw [EI.out] at lo lp
        rw [if_neg i0, if_neg i0]
        have d2 : decide ((F z).mic < (F (g 0).toNat).mic) = false := decide_eq_false (by omega)
        have m1 : max (F (g (i - 1)).toNat).mic (F z).mic = (F z).mic := by omega
        clear lo lp
        clear fo bd hz kin
        have FZ := Lib.hid (show F z = F z from rfl)
        go_upto_region 6 with fail
        go_quiet (fail)
        have DB : Below wr.heap.size wr (wr.drewN nq) := below_drewN (Below.refl _ _) _
        have OB3 := Lib.hid (show OB ((wr.drewN nq).setCell ⟨b, z, none⟩ (.bool true)) b 4 n (seenF M g (i + 1)) from by
          rw [← seenF_up M g i z ez]; exact (OB2.out.below DB).set z _)
        have FW3 := Lib.hid (show Fm (fun y => y = b) wa ((wr.drewN nq).setCell ⟨b, z, none⟩ (.bool true)) from (FW.out.trans (Fm.call DB)).trans (Fm.set _ _ rfl))
        obtain ⟨-, -, -, -, -, a4, a5⟩ := (R.out.fm ((Fm.call (M := fun y => y = b) B1.out).trans FW3.out) PB.out).at1 zn rfl
        go_upto_region 9 with fail
        generalize (wr.drewN nq).setCell ⟨b, z, none⟩ (.bool true) = wz at *
        clear DB
        go_wp2_with fail
        go_roundw
        case rel => exact ⟨i + 1, by omega, by go_num, by rw [NX.out], by first | (simp [EI.out]; done) | (rw [if_neg (by omega)]), by rw [if_neg (by omega), Nat.add_sub_cancel, EI.out], OB3, FW3⟩
        case measure => simp [intOf]; omega
    obtain rfl : i = k := by omega
    have k3 : ¬ ((i : Int) < (i : Int)) := by omega
    rw [if_neg (show ¬ i = 0 by omega), if_neg (show ¬ i = 0 by omega), ← HGR.out]
    have nb : ¬ w.heap.size = b := by have := HBL.out; omega
    have nb2 : ¬ w.heap.size + 1 = b := by have := HBL.out; omega
    have OLW := OL.out.fm FW.out nb
    have OSW := OS.out.fm FW.out nb2
    have l0 : wr.cell? ⟨w.heap.size, 0, none⟩ = some (.int .u8 s.ka) := OLW.cell (k := 0) (by decide)
    have l1 : wr.cell? ⟨w.heap.size, 1, none⟩ = some (.int .u8 s.kb) := OLW.cell (k := 1) (by decide)
    have l2 : wr.cell? ⟨w.heap.size, 2, none⟩ = some (.int .u8 s.kc) := OLW.cell (k := 2) (by decide)
    have l3 : wr.cell? ⟨w.heap.size, 3, none⟩ = some (.int .u8 s.kd) := OLW.cell (k := 3) (by decide)
    have l5 : wr.cell? ⟨w.heap.size, 5, none⟩ = some (.int .i64 gr) := OLW.cell (k := 5) (by decide)
    have l6 : wr.cell? ⟨w.heap.size, 6, none⟩ = some (.int .i64 ce) := OLW.cell (k := 6) (by decide)
    have l7 : wr.cell? ⟨w.heap.size, 7, none⟩ = some (.int .i64 co) := OLW.cell (k := 7) (by decide)
    have r1 : wr.cell? ⟨w.heap.size + 1, 1, none⟩ = some (.int .i64 le) := OSW.cell (k := 1) (by decide)
    have r2 : wr.cell? ⟨w.heap.size + 1, 2, none⟩ = some (.int .i64 sp) := OSW.cell (k := 2) (by decide)
    have zl : w.heap.size < wr.heap.size := OLW.lt
    have o1 := OK.out (g (i - 1)).toNat (by have := HG.out (i - 1) (by omega); omega)
    have o2 := OK.out (g 0).toNat (by have := HG.out 0 (by omega); omega)
    unfold Fl.ok at o1 o2
    have e1 : IntKind.i64.wrap ((F (g (i - 1)).toNat).mic - (F (g 0).toNat).mic) = (F (g (i - 1)).toNat).mic - (F (g 0).toNat).mic := hwI (by omega) (by omega)
    have d1 : decide ((F (g (i - 1)).toNat).mic - (F (g 0).toNat).mic ≤ sp) = true := decide_eq_true HSP.out
    have d2 : decide (le ≤ gr) = true := decide_eq_true (by rw [HGR.out]; exact HLE.out)
    have d3 : decide ((0 : Int) < (i : Int)) = true := decide_eq_true (by omega)
    have d4 : decide (0 < i) = true := decide_eq_true k0
    have C1 := Lib.hid (fun W (bw : Below wr.heap.size wr W) => spent_any p c n F s q i d g gr ce co ce W ((R.out.fm FX.out PB.out).below bw) ((RQ.out.fm FX.out QB.out).below bw) hk HG.out OK.out x0)
    rw [← HCO.out] at C1
    have LS := Lib.hid (show LnS w.heap.size s (.slice q i d) gr ce co le sp wr from ⟨l0, l1, l2, l3, OLW.cell (k := 4) (by decide), l5, l6, l7, r1, r2⟩)
    have zl2 : w.heap.size + 1 < wr.heap.size := OSW.lt
    clear OLW OSW o1 o2
    generalize (F (g (i - 1)).toNat).mic = u1 at *
    generalize (F (g 0).toNat).mic = u2 at *
    go_wp2_with fail
    go_region_held3 (fun w' => w'.cell? ⟨w.heap.size, 0, none⟩ = some (.int .u8 s.ka) ∧ w'.cell? ⟨w.heap.size, 1, none⟩ = some (.int .u8 s.kb) ∧ w'.cell? ⟨w.heap.size, 2, none⟩ = some (.int .u8 s.kc) ∧ w'.cell? ⟨w.heap.size, 3, none⟩ = some (.int .u8 s.kd) ∧ w'.cell? ⟨w.heap.size, 4, none⟩ = some (.slice q i d) ∧ w'.cell? ⟨w.heap.size, 5, none⟩ = some (.int .i64 gr) ∧ w'.cell? ⟨w.heap.size, 6, none⟩ = some (.int .i64 ce) ∧ w'.cell? ⟨w.heap.size, 7, none⟩ = some (.int .i64 co) ∧ w'.cell? ⟨w.heap.size + 1, 1, none⟩ = some (.int .i64 le) ∧ w'.cell? ⟨w.heap.size + 1, 2, none⟩ = some (.int .i64 sp)) (first | exact LS.out | exact LS.out.below zl2 ((Below.refl _ _).drew) | exact LS.out.below zl2 ST.out) (first
      | (go_at_call 25; (with_reducible refine (C1.out _ ((Below.refl _ _).drew)).mono ?_); rintro e w5 ⟨rfl, qq⟩; have ST := Lib.hid (((Below.refl _ _).drew).trans qq : Below wr.heap.size wr w5); clear qq))
    all_goals go_wp2_with fail
    all_goals go_ret
    all_goals
      have FZ := Lib.hid ((Fm.call (M := fun y => y = b) ST.out))
      exact ⟨rfl, OB2.out.below ST.out, FX.out.trans FZ.out⟩
end Go.Proofs.Ytmdhmpfagekonaa

/- The law ClassingCovers: its walk. -/
namespace Go.Proofs.Ytmdhmpfagekonaa
open Go.RowKit Go.Proofs.Ytmdhmpfagekonaa.Ct Go.Proofs.Ytmdhmpfagekonaa.Ce Go.Proofs.Ytmdhmpfagekonaa.Stb
set_option linter.unusedVariables false
set_option linter.unusedSimpArgs false

theorem wpAnyG_skip {P : Program} {ops : Array Oper} {Q : Exit → Act → World → Prop} {md : Region.Mode} {S : World → Prop} {n i : Nat} {oi : Oper} {fuel : Nat} {listed : Array Bool} {a : Act} {w : World} (hi : ops[i]? = some oi)
    (hs : Region.noSelect ops = true) (hf : Region.free md ops listed i = true) (hr : (Region.ready md ops listed).contains i = true) (hT : tailB md ops n i = true) (hcl : closedB md ops listed = true) (hin : i < n)
    (hQ : ∀ c a w, Q (.panic c) (a.put oi.dst undef) w → Q (.panic c) a w) (hw : Region.wanted oi (yielded ops a.tmps) = false) (hS : S w)
    (h : wpAnyG P md ops Q S n fuel (listed.setIfInBounds i true) (a.put oi.dst undef) w) : wpAnyG P md ops Q S n (fuel + 1) listed a w :=
  wpAnyG_first hi (Region.noSelect_spec hs) hQ hT hin fuel listed a w (closedB_spec hcl) (Region.free_spec hi hf) (by simpa using hr) (.inr ⟨hw, rfl⟩) hS h
theorem boolInfo1 : (Try.prog.info? 4).map (fun i => (i.zero, i.size, i.bytes)) = some (some (.bool false), 1, 1) := by kernel_rfl
theorem made_boolsC (n : Nat) : (madeCells (Value.bool false).cells (n * 1)).toList = (List.range (n * 1)).map fun _ => Value.bool false := by
  rw [Nat.mul_one, show (Value.bool false).cells = #[.bool false] from rfl, toList_madeCells_one]
  apply List.ext_getElem <;> simp
/-- The cells of a line at p, and of a specification. -/
def LnW (p : Addr) (X : Nat) (s : Fl) (v : Value) (gr ce co ls le sp : Int) (w' : World) : Prop := w'.cell? p = some (.int .u8 s.ka) ∧ w'.cell? ⟨p.block, p.off + 1, none⟩ = some (.int .u8 s.kb) ∧ w'.cell? ⟨p.block, p.off + 2, none⟩ = some (.int .u8 s.kc) ∧ w'.cell? ⟨p.block, p.off + 3, none⟩ = some (.int .u8 s.kd) ∧ w'.cell? ⟨p.block, p.off + 4, none⟩ = some v ∧ w'.cell? ⟨p.block, p.off + 5, none⟩ = some (.int .i64 gr) ∧ w'.cell? ⟨p.block, p.off + 6, none⟩ = some (.int .i64 ce) ∧ w'.cell? ⟨p.block, p.off + 7, none⟩ = some (.int .i64 co) ∧ w'.cell? ⟨X, 0, none⟩ = some (.int .i64 ls) ∧ w'.cell? ⟨X, 1, none⟩ = some (.int .i64 le) ∧ w'.cell? ⟨X, 2, none⟩ = some (.int .i64 sp)
theorem LnW.keep {p : Addr} {X : Nat} {s : Fl} {v : Value} {gr ce co ls le sp : Int} {w w' : World} {b : Nat} (h : LnW p X s v gr ce co ls le sp w) (x : p.block < b ∧ X < b) (bb : Below b w w') : LnW p X s v gr ce co ls le sp w' := by
  have c : ∀ a : Addr, a.block < b → w'.cell? a = w.cell? a := fun a ha => by
    unfold World.cell?; rw [bb.block _ ha]
  obtain ⟨h0, h1, h2, h3, h4, h5, h6, h7, h8, h9, h10⟩ := h
  exact ⟨(c p x.1).trans h0, (c ⟨p.block, p.off + 1, none⟩ x.1).trans h1, (c ⟨p.block, p.off + 2, none⟩ x.1).trans h2, (c ⟨p.block, p.off + 3, none⟩ x.1).trans h3, (c ⟨p.block, p.off + 4, none⟩ x.1).trans h4, (c ⟨p.block, p.off + 5, none⟩ x.1).trans h5, (c ⟨p.block, p.off + 6, none⟩ x.1).trans h6, (c ⟨p.block, p.off + 7, none⟩ x.1).trans h7, (c ⟨X, 0, none⟩ x.2).trans h8, (c ⟨X, 1, none⟩ x.2).trans h9, (c ⟨X, 2, none⟩ x.2).trans h10⟩

set_option maxRecDepth 100000 in
set_option maxHeartbeats 16000000 in
theorem classingCovers_walk (p : Option Addr) (c n : Nat) (F : Nat → Fl) (w : World) (r : FlR w p n F) (z : n ≤ 9223372036854775807) (kok : ∀ k, k < n → (F k).kok) (ls le sp : Int) (oc : Int) (boc : -9223372036854775808 ≤ oc ∧ oc ≤ 9223372036854775807) :
    Calls Try.prog 6 #[.slice p n c, .agg #[.int .i64 ls, .int .i64 le, .int .i64 sp], .int .i64 oc] w fun e w' => e = .returned (.bool true) ∧ Below w.heap.size w w' := by
  have AL := Lib.hid alive_any
  have R := Lib.hid r
  have KOK := Lib.hid kok
  have HP := Lib.hid (fl_hp r)
  have B1 := Lib.hid (show let wa := w.alloc (Obj.cells #[.int .i64 ls, .int .i64 le, .int .i64 sp] 24)
      Below w.heap.size w wa ∧ OB wa w.heap.size 24 3 (spC ls le sp) from ⟨(Below.refl _ _).alloc (Nat.le_refl _) _, spBx w ls le sp⟩)
  have FW := Lib.hid (fun W => few_any p c n W)
  clear r kok
  go_enter Try.func6, Try.ntmps6
  go_upto_region 1 with fail
  generalize w.alloc (Obj.cells #[.int .i64 ls, .int .i64 le, .int .i64 sp] 24) = wa at *
  obtain ⟨b1, os⟩ := B1.out
  clear B1
  have B1 := Lib.hid b1
  have OS := Lib.hid os
  clear b1 os
  by_cases t0 : n ≤ 140
  case neg =>
    rw [decide_eq_false t0] at FW
    go_wp2_with fail
    refine (FW.out _).mono ?_
    rintro e w1 ⟨rfl, rfl⟩
    go_wp2_with fail
    refine (AL.out _).mono ?_
    rintro e w2 ⟨rfl, st⟩
    have BB := Lib.hid (B1.out.trans (st.mono B1.out.size))
    go_wp2_with fail
    go_ret
    exact ⟨rfl, BB.out⟩
  rw [decide_eq_true t0] at FW
  have s0 : wa.cell? ⟨w.heap.size, 0, none⟩ = some (.int .i64 ls) := OS.out.cell (k := 0) (by decide)
  have s1 : wa.cell? ⟨w.heap.size, 1, none⟩ = some (.int .i64 le) := OS.out.cell (k := 1) (by decide)
  have s2 : wa.cell? ⟨w.heap.size, 2, none⟩ = some (.int .i64 sp) := OS.out.cell (k := 2) (by decide)
  have C1 := Lib.hid (Lines_any p c n ls.toNat F ls le sp wa (R.out.below B1.out) t0 KOK.out (fun x hx h0 => Nat.lt_of_lt_of_le (HP.out x hx h0) B1.out.size) rfl)
  go_wp2_with fail
  refine (FW.out _).mono ?_
  rintro e w1 ⟨rfl, rfl⟩
  go_wp2_with fail
  refine C1.out.mono ?_
  rintro e w1 ⟨v, rfl, b1, hl⟩
  have HB := Lib.hid (B1.out.trans (b1.mono B1.out.size))
  have OS1 := Lib.hid (OS.out.below b1)
  have HLQ := Lib.hid hl
  clear b1 C1 s0 s1 s2 OS B1 FW hl
  by_cases z1 : (liV ls.toNat ls le sp F n).2 = 0
  case neg =>
    have d1 : ((liV ls.toNat ls le sp F n).2 == 0) = false := by simpa using z1
    clear z1 HLQ
    generalize (liV ls.toNat ls le sp F n).2 = x at *
    generalize (liV ls.toNat ls le sp F n).1 = y at *
    go_wp2_with fail
    refine (AL.out _).mono ?_
    rintro e w2 ⟨rfl, st⟩
    have BB := Lib.hid (HB.out.trans (st.mono HB.out.size))
    go_wp2_with fail
    go_ret
    exact ⟨rfl, BB.out⟩
  obtain ⟨pl, cl, m, A, o, C, ps, rfl, hm, hs, p0, pm, sm, lf, oo, ea, inj, fok⟩ := cov_of HLQ.out z1 KOK.out t0
  have HS := Lib.hid hs
  have P0 := Lib.hid p0
  have PM := Lib.hid pm
  have SM := Lib.hid sm
  have LF := Lib.hid lf
  have OO := Lib.hid oo
  have EA := Lib.hid ea
  have INJ := Lib.hid inj
  have FOK := Lib.hid fok
  rw [z1]
  clear z1 HLQ hs p0 pm sm lf oo ea inj fok
  generalize (liV ls.toNat ls le sp F n).1 = y at *
  obtain ⟨i0, hi, hz0, hz1, hz2⟩ := info_parts boolInfo1
  go_upto_region 7 with (first
    | (at_make; refine wpList_make_full _ rfl _ _ 47 rfl w1.heap.size 4 i0 (.bool false) 1 Try.underlying47 hi hz0 hz1 .i64 .i64 _ _ n rfl rfl (by omega) (by omega) (by rw [hz2]; omega) (by unfold maxLen; omega) (Nat.le_refl _) ?_; intro wc hown hgrow))
  have OL := Lib.hid (show OB wc w1.heap.size 4 n (fun z => .bool (seenM o (ps 0) z)) from by
    have h3 := hown
    rw [made_boolsC] at h3
    have := OB.of (m := 1) (c := fun _ => Value.bool false) h3
    rw [Nat.mul_one] at this
    refine this.ext fun k _ => ?_
    rw [P0.out]; rfl)
  have BW0 := Lib.hid (show Below w1.heap.size w1 wc from (Below.refl _ _).grown hgrow (Nat.le_refl _) (fun k e => by cases e))
  clear hown hgrow hi hz0 hz1 hz2 i0
  go_wp2_with fail
  go_loopw [11, 12, 13] (fun cv sv kv wr => ∃ t : Nat, t ≤ m ∧ kv = .int .i64 t ∧ cv = .int .i64 (ps t : Nat) ∧ sv = .int .i64 (smC C ps t) ∧ Hid (OB wr w1.heap.size 4 n (fun z => .bool (seenM o (ps t) z))) ∧ Hid (Below w1.heap.size w1 wr)) (fun _ _ kv _ => m - (intOf kv).toNat)
  case atStart => exact ⟨0, Nat.zero_le _, rfl, by rw [P0.out]; rfl, rfl, OL, BW0⟩
  case round =>
    obtain ⟨t, ht, rfl, rfl, rfl, OBW, BW⟩ := hrel
    have BX := Lib.hid (HB.out.trans (BW.out.mono HB.out.size))
    by_cases t1 : t < m
    case pos =>
      have k1 : (0 : Int) ≤ (t : Int) := by omega
      have k2 : (t : Int) < (m : Int) := by omega
      obtain ⟨x, q, d, rfl, l, nr⟩ := HS.out t t1
      have f := LF.out t t1
      have n0 : 0 < n := by have := f.ij; have := f.jn; omega
      have hxb : (x.add (t * 8)).block < w1.heap.size := l.blk
      have lw := l.below BW.out
      have nw := nr.below BW.out
      have OSw := OS1.out.below BW.out
      have LW := Lib.hid (show LnW (x.add (t * 8)) w.heap.size (A (ps t)) (.slice q (ps (t + 1) - ps t) d) (mas A (ps t) (ps (t + 1))) (cen A (ps t) (ps (t + 1))) (C (ps t) (ps (t + 1))) ls le sp wr from
        ⟨lw.c0, lw.c1, lw.c2, lw.c3, lw.c4, lw.c5, lw.c6, lw.c7, OSw.cell (k := 0) (by decide), OSw.cell (k := 1) (by decide), OSw.cell (k := 2) (by decide)⟩)
      have hX : w.heap.size < w1.heap.size := OS1.out.lt
      have XB := Lib.hid (show (x.add (t * 8)).block < w1.heap.size ∧ w.heap.size < w1.heap.size from ⟨hxb, hX⟩)
      obtain ⟨g, hg⟩ : ∃ g : Nat → Int, ∀ z, g z = o (ps t + z) := ⟨_, fun _ => rfl⟩
      have eg : (fun z => F (g z).toNat) = fun z => A (ps t + z) := funext fun z => by rw [hg, EA.out]
      have ej : ps t + (ps (t + 1) - ps t) = ps (t + 1) := by have := f.ij; omega
      have E1 : mas (fun z => F (g z).toNat) 0 (ps (t + 1) - ps t) = mas A (ps t) (ps (t + 1)) := by rw [eg, mas_sh, ej]
      have E2 : ∀ c, offs (fun z => F (g z).toNat) c 0 (ps (t + 1) - ps t) = offs A c (ps t) (ps (t + 1)) := fun c => by rw [eg, offs_sh, ej]
      have E3 : ∀ z, F (g z).toNat = A (ps t + z) := fun z => congrFun eg z
      have ng : NmR w1 q (ps (t + 1) - ps t) g := by rw [show g = fun z => o (ps t + z) from funext hg]; exact nr
      have fij := f.ij
      have fjn := f.jn
      have hgz : ∀ z, z < ps (t + 1) - ps t → 0 ≤ g z ∧ g z < n := fun z hz => by rw [hg]; exact OO.out _ (by omega)
      have HO := Lib.hid (show ∀ W, Below w1.heap.size w1 W → OB W w1.heap.size 4 n (fun z => .bool (seenM o (ps t) z)) → Calls Try.prog 24 #[.slice p n c, .agg #[.int .u8 (A (ps t)).ka, .int .u8 (A (ps t)).kb, .int .u8 (A (ps t)).kc, .int .u8 (A (ps t)).kd, .slice q (ps (t + 1) - ps t : Nat) d, .int .i64 (mas A (ps t) (ps (t + 1))), .int .i64 (cen A (ps t) (ps (t + 1))), .int .i64 (C (ps t) (ps (t + 1)))], .agg #[.int .i64 ls, .int .i64 le, .int .i64 sp], .slice (some ⟨w1.heap.size, 0, none⟩) n n] W fun e w' => e = .returned (.bool true) ∧ OB w' w1.heap.size 4 n (fun z => .bool (seenM o (ps (t + 1)) z)) ∧ Below w1.heap.size W w' from fun W bw ob => by
        have h := holds_any p c n w1.heap.size F (seenM o (ps t)) (A (ps t)) q (ps (t + 1) - ps t) d g (cen A (ps t) (ps (t + 1))) ls le sp W (R.out.below (HB.out.trans (bw.mono HB.out.size))) (ng.below bw) ob (fun y hy => by have := HP.out y hy n0; omega)
          (fun y hy => by
            obtain ⟨y', e', lt, -⟩ := ng 0 (by omega)
            rw [hy] at e'; cases e'; omega) t0 (by omega) (by omega) hgz
          (fun y z yz hz => by rw [hg, hg]; exact INJ.out _ _ (by omega) (by omega))
          (fun z hz => by
            have hh := hgz z hz
            refine seenM_no (n := n) INJ.out (x := ps t + z) (by omega) (by omega) ?_
            rw [← hg]; omega) FOK.out
          (fun y z yz hz => by rw [E3, E3]; exact f.up _ _ (by omega) (by omega) (by omega))
          (fun z hz => by rw [E3]; exact f.kin _ (by omega) (by omega)) f.ceb (by rw [E1]; exact f.le)
          (by rw [E3, E3, show ps t + (ps (t + 1) - ps t - 1) = ps (t + 1) - 1 by omega, Nat.add_zero]; exact f.sp)
        rw [E1, E2, ← f.eq] at h
        refine h.mono ?_
        rintro e w' ⟨he, ho, hf⟩
        refine ⟨he, ho.ext fun z _ => ?_, hf.below (fun k hk e => by omega) bw.size⟩
        unfold seenF
        simp only [hg]
        rw [seenM_add, ej])
      have ST := Lib.hid (show IntKind.i64.wrap ((ps t : Nat) + (ps (t + 1) - ps t : Nat) : Int) = (ps (t + 1) : Nat) from by
        rw [show ((ps t : Nat) + (ps (t + 1) - ps t : Nat) : Int) = ((ps (t + 1) : Nat) : Int) by omega]; exact hwI (by omega) (by omega))
      have sb := smC_bd (C := C) (ps := ps) (m := m) (M := 1503238553600000) (fun t ht => (LF.out t ht).bd) t (by omega)
      have ES := Lib.hid (show IntKind.i64.wrap (smC C ps t + C (ps t) (ps (t + 1))) = smC C ps (t + 1) from by
        have := f.bd
        rw [show smC C ps (t + 1) = smC C ps t + C (ps t) (ps (t + 1)) from rfl]
        exact hwI (by omega) (by omega))
      have SP := Lib.hid (show 0 ≤ oc ∧ oc ≤ 20000 → ∀ W, Below w1.heap.size w1 W → Calls Try.prog 25 #[.slice p n c, .agg #[.int .u8 (A (ps t)).ka, .int .u8 (A (ps t)).kb, .int .u8 (A (ps t)).kc, .int .u8 (A (ps t)).kd, .slice q (ps (t + 1) - ps t : Nat) d, .int .i64 (mas A (ps t) (ps (t + 1))), .int .i64 (cen A (ps t) (ps (t + 1))), .int .i64 (C (ps t) (ps (t + 1)))], .int .i64 oc] W fun e w' => e = .returned (.int .i64 (offs A oc (ps t) (ps (t + 1)))) ∧ Below W.heap.size W w' from fun ho W bw => by
        have h := spent_any p c n F (A (ps t)) q (ps (t + 1) - ps t) d g (mas A (ps t) (ps (t + 1))) (cen A (ps t) (ps (t + 1))) (C (ps t) (ps (t + 1))) oc W (R.out.below (HB.out.trans (bw.mono HB.out.size))) (ng.below bw) (by omega) hgz FOK.out ho
        rw [E2] at h
        exact h)
      have aok : ∀ k, k < n → (A k).ok := fun k hk => by rw [EA.out]; have := OO.out k hk; exact FOK.out _ (by omega)
      have BST := Lib.hid (show C (ps t) (ps (t + 1)) ≤ offs A oc (ps t) (ps (t + 1)) from by
        rw [f.eq]; exact med_best aok f.up f.ij f.jn oc)
      have hbw : Below w1.heap.size w1 wr := BW.out
      clear lw nw OSw eg ej E1 E2 E3 ng fij fjn hgz sb f l nr hxb hX hg aok g
      generalize mas A (ps t) (ps (t + 1)) = gr at *
      generalize cen A (ps t) (ps (t + 1)) = ce at *
      generalize C (ps t) (ps (t + 1)) = co at *
      generalize offs A oc (ps t) (ps (t + 1)) = so at *
      generalize A (ps t) = s at *
      generalize ps (t + 1) - ps t = k at *
      have NB := Lib.hid (fun W (b : Below w1.heap.size wr W) => (BW.out.trans b : Below w1.heap.size w1 W))
      have KB := Lib.hid (fun W (b : Below w1.heap.size wr W) => LW.out.keep XB.out b)
      obtain ⟨a0, a1, a2, a3, a4, a5, a6, a7, v0, v1, v2⟩ := LW.out
      have e1 := ST.out
      have e2 := ES.out
      by_cases oc0 : 0 ≤ oc ∧ oc ≤ 20000
      · have d1 : decide (0 ≤ oc) = true := decide_eq_true oc0.1
        have d2 : decide (oc ≤ 20000) = true := decide_eq_true oc0.2
        have d3 : decide (so < co) = false := decide_eq_false (by have := BST.out; omega)
        have SP2 := Lib.hid (SP.out oc0)
        clear oc0 SP BST
        go_upto_region 11 with fail
        go_region_held3 (fun w' => w'.cell? (x.add (t * 8)) = some (.int .u8 s.ka) ∧ w'.cell? ⟨(x.add (t * 8)).block, (x.add (t * 8)).off + 1, none⟩ = some (.int .u8 s.kb) ∧ w'.cell? ⟨(x.add (t * 8)).block, (x.add (t * 8)).off + 2, none⟩ = some (.int .u8 s.kc) ∧ w'.cell? ⟨(x.add (t * 8)).block, (x.add (t * 8)).off + 3, none⟩ = some (.int .u8 s.kd) ∧ w'.cell? ⟨(x.add (t * 8)).block, (x.add (t * 8)).off + 4, none⟩ = some (.slice q k d) ∧ w'.cell? ⟨(x.add (t * 8)).block, (x.add (t * 8)).off + 5, none⟩ = some (.int .i64 gr) ∧ w'.cell? ⟨(x.add (t * 8)).block, (x.add (t * 8)).off + 6, none⟩ = some (.int .i64 ce) ∧ w'.cell? ⟨(x.add (t * 8)).block, (x.add (t * 8)).off + 7, none⟩ = some (.int .i64 co) ∧ w'.cell? ⟨w.heap.size, 0, none⟩ = some (.int .i64 ls) ∧ w'.cell? ⟨w.heap.size, 1, none⟩ = some (.int .i64 le) ∧ w'.cell? ⟨w.heap.size, 2, none⟩ = some (.int .i64 sp)) (first | exact LW.out | exact KB.out _ ((Below.refl _ _).drew) | exact KB.out _ F5.out | exact KB.out _ F6.out) (first
          | (go_at_call 24; (with_reducible refine (HO.out _ (NB.out _ ((Below.refl _ _).drew)) (OBW.out.below (Below.refl _ _).drew)).mono ?_); rintro e w5 ⟨rfl, o5, f5⟩; have O5 := Lib.hid o5; have F5 := Lib.hid (((Below.refl _ _).drew).trans f5 : Below w1.heap.size wr w5); clear o5 f5)
          | (go_at_call 25; (with_reducible refine (SP2.out _ (NB.out _ F5.out)).mono ?_); rintro e w6 ⟨rfl, f6⟩; have O6 := Lib.hid (O5.out.below f6); have F6 := Lib.hid (F5.out.trans (f6.mono (NB.out _ F5.out).size)); clear f6))
        all_goals
          obtain ⟨a0, a1, a2, a3, a4, a5, a6, a7, v0, v1, v2⟩ := KB.out _ F6.out
          go_wp2_with fail
          go_roundw
          case rel => exact ⟨t + 1, by omega, by go_num, by first | rfl | rw [ST.out], by first | rfl | rw [ES.out], O6, Lib.hid (NB.out _ F6.out)⟩
          case measure => simp [intOf]; omega
      · clear SP BST
        go_upto_region 11 with fail
        by_cases oc1 : 0 ≤ oc
        · have d1 : decide (0 ≤ oc) = true := decide_eq_true oc1
          have d2 : decide (oc ≤ 20000) = false := decide_eq_false (by omega)
          clear oc0 oc1
          refine wp_region_G (fun w' => w'.cell? (x.add (t * 8)) = some (.int .u8 s.ka) ∧ w'.cell? ⟨(x.add (t * 8)).block, (x.add (t * 8)).off + 1, none⟩ = some (.int .u8 s.kb) ∧ w'.cell? ⟨(x.add (t * 8)).block, (x.add (t * 8)).off + 2, none⟩ = some (.int .u8 s.kc) ∧ w'.cell? ⟨(x.add (t * 8)).block, (x.add (t * 8)).off + 3, none⟩ = some (.int .u8 s.kd) ∧ w'.cell? ⟨(x.add (t * 8)).block, (x.add (t * 8)).off + 4, none⟩ = some (.slice q k d) ∧ w'.cell? ⟨(x.add (t * 8)).block, (x.add (t * 8)).off + 5, none⟩ = some (.int .i64 gr) ∧ w'.cell? ⟨(x.add (t * 8)).block, (x.add (t * 8)).off + 6, none⟩ = some (.int .i64 ce) ∧ w'.cell? ⟨(x.add (t * 8)).block, (x.add (t * 8)).off + 7, none⟩ = some (.int .i64 co) ∧ w'.cell? ⟨w.heap.size, 0, none⟩ = some (.int .i64 ls) ∧ w'.cell? ⟨w.heap.size, 1, none⟩ = some (.int .i64 le) ∧ w'.cell? ⟨w.heap.size, 2, none⟩ = some (.int .i64 sp)) 32 (by kernel_rfl) ?_
          have hS : wr.drew.cell? (x.add (t * 8)) = some (.int .u8 s.ka) ∧ wr.drew.cell? ⟨(x.add (t * 8)).block, (x.add (t * 8)).off + 1, none⟩ = some (.int .u8 s.kb) ∧ wr.drew.cell? ⟨(x.add (t * 8)).block, (x.add (t * 8)).off + 2, none⟩ = some (.int .u8 s.kc) ∧ wr.drew.cell? ⟨(x.add (t * 8)).block, (x.add (t * 8)).off + 3, none⟩ = some (.int .u8 s.kd) ∧ wr.drew.cell? ⟨(x.add (t * 8)).block, (x.add (t * 8)).off + 4, none⟩ = some (.slice q k d) ∧ wr.drew.cell? ⟨(x.add (t * 8)).block, (x.add (t * 8)).off + 5, none⟩ = some (.int .i64 gr) ∧ wr.drew.cell? ⟨(x.add (t * 8)).block, (x.add (t * 8)).off + 6, none⟩ = some (.int .i64 ce) ∧ wr.drew.cell? ⟨(x.add (t * 8)).block, (x.add (t * 8)).off + 7, none⟩ = some (.int .i64 co) ∧ wr.drew.cell? ⟨w.heap.size, 0, none⟩ = some (.int .i64 ls) ∧ wr.drew.cell? ⟨w.heap.size, 1, none⟩ = some (.int .i64 le) ∧ wr.drew.cell? ⟨w.heap.size, 2, none⟩ = some (.int .i64 sp) := ⟨cellDr a0, cellDr a1, cellDr a2, cellDr a3, cellDr a4, cellDr a5, cellDr a6, cellDr a7, cellDr v0, cellDr v1, cellDr v2⟩
          refine wpAnyG_take (i := 0) (oi := _) (v := .slice p n c) rfl (by kernel_rfl) (by kernel_rfl) (by kernel_rfl) (by kernel_rfl) (by kernel_rfl) (by decide) (fun _ _ _ h => h) (by rfl) (fun w' hw' => ?_) hS ?_
          · obtain ⟨h1, h2, h3, h4, h5, h6, h7, h8, h9, h10, h11⟩ := hw'
            go_simp
          try simp only [Act.put, List.getElem_toArray, List.getElem_cons_zero, List.getElem_cons_succ, List.setIfInBounds_toArray, List.set_cons_zero, List.set_cons_succ]
          refine wpAnyG_take (i := 1) (oi := _) (v := .slice (some x) m cl) rfl (by kernel_rfl) (by kernel_rfl) (by kernel_rfl) (by kernel_rfl) (by kernel_rfl) (by decide) (fun _ _ _ h => h) (by rfl) (fun w' hw' => ?_) hS ?_
          · obtain ⟨h1, h2, h3, h4, h5, h6, h7, h8, h9, h10, h11⟩ := hw'
            go_simp
          try simp only [Act.put, List.getElem_toArray, List.getElem_cons_zero, List.getElem_cons_succ, List.setIfInBounds_toArray, List.set_cons_zero, List.set_cons_succ]
          refine wpAnyG_take (i := 2) (oi := _) (v := .int .i64 (t : Int)) rfl (by kernel_rfl) (by kernel_rfl) (by kernel_rfl) (by kernel_rfl) (by kernel_rfl) (by decide) (fun _ _ _ h => h) (by rfl) (fun w' hw' => ?_) hS ?_
          · obtain ⟨h1, h2, h3, h4, h5, h6, h7, h8, h9, h10, h11⟩ := hw'
            go_simp
          try simp only [Act.put, List.getElem_toArray, List.getElem_cons_zero, List.getElem_cons_succ, List.setIfInBounds_toArray, List.set_cons_zero, List.set_cons_succ]
          refine wpAnyG_take (i := 3) (oi := _) (v := .pointer (some (x.add (t * 8)))) rfl (by kernel_rfl) (by kernel_rfl) (by kernel_rfl) (by kernel_rfl) (by kernel_rfl) (by decide) (fun _ _ _ h => h) (by rfl) (fun w' hw' => ?_) hS ?_
          · obtain ⟨h1, h2, h3, h4, h5, h6, h7, h8, h9, h10, h11⟩ := hw'
            go_simp
          try simp only [Act.put, List.getElem_toArray, List.getElem_cons_zero, List.getElem_cons_succ, List.setIfInBounds_toArray, List.set_cons_zero, List.set_cons_succ]
          refine wpAnyG_take (i := 4) (oi := _) (v := .agg #[.int .u8 s.ka, .int .u8 s.kb, .int .u8 s.kc, .int .u8 s.kd, .slice q k d, .int .i64 gr, .int .i64 ce, .int .i64 co]) rfl (by kernel_rfl) (by kernel_rfl) (by kernel_rfl) (by kernel_rfl) (by kernel_rfl) (by decide) (fun _ _ _ h => h) (by rfl) (fun w' hw' => ?_) hS ?_
          · obtain ⟨h1, h2, h3, h4, h5, h6, h7, h8, h9, h10, h11⟩ := hw'
            go_simp
          try simp only [Act.put, List.getElem_toArray, List.getElem_cons_zero, List.getElem_cons_succ, List.setIfInBounds_toArray, List.set_cons_zero, List.set_cons_succ]
          refine wpAnyG_take (i := 5) (oi := _) (v := .agg #[.int .i64 ls, .int .i64 le, .int .i64 sp]) rfl (by kernel_rfl) (by kernel_rfl) (by kernel_rfl) (by kernel_rfl) (by kernel_rfl) (by decide) (fun _ _ _ h => h) (by rfl) (fun w' hw' => ?_) hS ?_
          · obtain ⟨h1, h2, h3, h4, h5, h6, h7, h8, h9, h10, h11⟩ := hw'
            go_simp
          try simp only [Act.put, List.getElem_toArray, List.getElem_cons_zero, List.getElem_cons_succ, List.setIfInBounds_toArray, List.set_cons_zero, List.set_cons_succ]
          refine wpAnyG_take (i := 6) (oi := _) (v := .slice (some ⟨w1.heap.size, 0, none⟩) n n) rfl (by kernel_rfl) (by kernel_rfl) (by kernel_rfl) (by kernel_rfl) (by kernel_rfl) (by decide) (fun _ _ _ h => h) (by rfl) (fun w' hw' => ?_) hS ?_
          · obtain ⟨h1, h2, h3, h4, h5, h6, h7, h8, h9, h10, h11⟩ := hw'
            go_simp
          try simp only [Act.put, List.getElem_toArray, List.getElem_cons_zero, List.getElem_cons_succ, List.setIfInBounds_toArray, List.set_cons_zero, List.set_cons_succ]
          refine wpAnyG_one (i := 7) (o := _) (by kernel_rfl) rfl (fun KK hK => ?_)
          go_simp
          refine (HO.out _ (NB.out _ ((Below.refl _ _).drew)) (OBW.out.below (Below.refl _ _).drew)).mono ?_
          rintro e w5 ⟨rfl, o5, f5⟩
          have O5 := Lib.hid o5
          have F5 := Lib.hid (((Below.refl _ _).drew).trans f5 : Below w1.heap.size wr w5)
          refine hK.out _ _ (fun _ => KB.out _ F5.out) ?_
          try simp only [Act.put, List.getElem_toArray, List.getElem_cons_zero, List.getElem_cons_succ, List.setIfInBounds_toArray, List.set_cons_zero, List.set_cons_succ]
          clear hK o5 f5
          have hS5 := KB.out _ F5.out
          refine wpAnyG_take (i := 8) (oi := _) (v := .bool false) rfl (by kernel_rfl) (by kernel_rfl) (by kernel_rfl) (by kernel_rfl) (by kernel_rfl) (by decide) (fun _ _ _ h => h) (by rfl) (fun w' hw' => ?_) hS5 ?_
          · obtain ⟨h1, h2, h3, h4, h5, h6, h7, h8, h9, h10, h11⟩ := hw'
            go_simp
          try simp only [Act.put, List.getElem_toArray, List.getElem_cons_zero, List.getElem_cons_succ, List.setIfInBounds_toArray, List.set_cons_zero, List.set_cons_succ]
          refine wpAnyG_take (i := 9) (oi := _) (v := .bool false) rfl (by kernel_rfl) (by kernel_rfl) (by kernel_rfl) (by kernel_rfl) (by kernel_rfl) (by decide) (fun _ _ _ h => h) (by rfl) (fun w' hw' => ?_) hS5 ?_
          · obtain ⟨h1, h2, h3, h4, h5, h6, h7, h8, h9, h10, h11⟩ := hw'
            go_simp
          try simp only [Act.put, List.getElem_toArray, List.getElem_cons_zero, List.getElem_cons_succ, List.setIfInBounds_toArray, List.set_cons_zero, List.set_cons_succ]
          refine wpAnyG_take (i := 10) (oi := _) (v := .int .i64 oc) rfl (by kernel_rfl) (by kernel_rfl) (by kernel_rfl) (by kernel_rfl) (by kernel_rfl) (by decide) (fun _ _ _ h => h) (by rfl) (fun w' hw' => ?_) hS5 ?_
          · obtain ⟨h1, h2, h3, h4, h5, h6, h7, h8, h9, h10, h11⟩ := hw'
            go_simp
          try simp only [Act.put, List.getElem_toArray, List.getElem_cons_zero, List.getElem_cons_succ, List.setIfInBounds_toArray, List.set_cons_zero, List.set_cons_succ]
          refine wpAnyG_take (i := 11) (oi := _) (v := .bool true) rfl (by kernel_rfl) (by kernel_rfl) (by kernel_rfl) (by kernel_rfl) (by kernel_rfl) (by decide) (fun _ _ _ h => h) (by rfl) (fun w' hw' => ?_) hS5 ?_
          · obtain ⟨h1, h2, h3, h4, h5, h6, h7, h8, h9, h10, h11⟩ := hw'
            go_simp
          try simp only [Act.put, List.getElem_toArray, List.getElem_cons_zero, List.getElem_cons_succ, List.setIfInBounds_toArray, List.set_cons_zero, List.set_cons_succ]
          refine wpAnyG_take (i := 12) (oi := _) (v := .bool true) rfl (by kernel_rfl) (by kernel_rfl) (by kernel_rfl) (by kernel_rfl) (by kernel_rfl) (by decide) (fun _ _ _ h => h) (by rfl) (fun w' hw' => ?_) hS5 ?_
          · obtain ⟨h1, h2, h3, h4, h5, h6, h7, h8, h9, h10, h11⟩ := hw'
            go_simp
          try simp only [Act.put, List.getElem_toArray, List.getElem_cons_zero, List.getElem_cons_succ, List.setIfInBounds_toArray, List.set_cons_zero, List.set_cons_succ]
          refine wpAnyG_take (i := 13) (oi := _) (v := .int .i64 oc) rfl (by kernel_rfl) (by kernel_rfl) (by kernel_rfl) (by kernel_rfl) (by kernel_rfl) (by decide) (fun _ _ _ h => h) (by rfl) (fun w' hw' => ?_) hS5 ?_
          · obtain ⟨h1, h2, h3, h4, h5, h6, h7, h8, h9, h10, h11⟩ := hw'
            go_simp
          try simp only [Act.put, List.getElem_toArray, List.getElem_cons_zero, List.getElem_cons_succ, List.setIfInBounds_toArray, List.set_cons_zero, List.set_cons_succ]
          refine wpAnyG_take (i := 14) (oi := _) (v := .bool false) rfl (by kernel_rfl) (by kernel_rfl) (by kernel_rfl) (by kernel_rfl) (by kernel_rfl) (by decide) (fun _ _ _ h => h) (by rfl) (fun w' hw' => ?_) hS5 ?_
          · obtain ⟨h1, h2, h3, h4, h5, h6, h7, h8, h9, h10, h11⟩ := hw'
            go_simp
          try simp only [Act.put, List.getElem_toArray, List.getElem_cons_zero, List.getElem_cons_succ, List.setIfInBounds_toArray, List.set_cons_zero, List.set_cons_succ]
          refine wpAnyG_take (i := 15) (oi := _) (v := .bool false) rfl (by kernel_rfl) (by kernel_rfl) (by kernel_rfl) (by kernel_rfl) (by kernel_rfl) (by decide) (fun _ _ _ h => h) (by rfl) (fun w' hw' => ?_) hS5 ?_
          · obtain ⟨h1, h2, h3, h4, h5, h6, h7, h8, h9, h10, h11⟩ := hw'
            go_simp
          try simp only [Act.put, List.getElem_toArray, List.getElem_cons_zero, List.getElem_cons_succ, List.setIfInBounds_toArray, List.set_cons_zero, List.set_cons_succ]
          refine wpAnyG_take (i := 16) (oi := _) (v := .bool false) rfl (by kernel_rfl) (by kernel_rfl) (by kernel_rfl) (by kernel_rfl) (by kernel_rfl) (by decide) (fun _ _ _ h => h) (by rfl) (fun w' hw' => ?_) hS5 ?_
          · obtain ⟨h1, h2, h3, h4, h5, h6, h7, h8, h9, h10, h11⟩ := hw'
            go_simp
          try simp only [Act.put, List.getElem_toArray, List.getElem_cons_zero, List.getElem_cons_succ, List.setIfInBounds_toArray, List.set_cons_zero, List.set_cons_succ]
          refine wpAnyG_skip (i := 17) (oi := _) rfl (by kernel_rfl) (by kernel_rfl) (by kernel_rfl) (by kernel_rfl) (by kernel_rfl) (by decide) (fun _ _ _ h => h) (by rfl) hS5 ?_
          try simp only [Act.put, List.getElem_toArray, List.getElem_cons_zero, List.getElem_cons_succ, List.setIfInBounds_toArray, List.set_cons_zero, List.set_cons_succ]
          refine wpAnyG_skip (i := 18) (oi := _) rfl (by kernel_rfl) (by kernel_rfl) (by kernel_rfl) (by kernel_rfl) (by kernel_rfl) (by decide) (fun _ _ _ h => h) (by rfl) hS5 ?_
          try simp only [Act.put, List.getElem_toArray, List.getElem_cons_zero, List.getElem_cons_succ, List.setIfInBounds_toArray, List.set_cons_zero, List.set_cons_succ]
          refine wpAnyG_skip (i := 19) (oi := _) rfl (by kernel_rfl) (by kernel_rfl) (by kernel_rfl) (by kernel_rfl) (by kernel_rfl) (by decide) (fun _ _ _ h => h) (by rfl) hS5 ?_
          try simp only [Act.put, List.getElem_toArray, List.getElem_cons_zero, List.getElem_cons_succ, List.setIfInBounds_toArray, List.set_cons_zero, List.set_cons_succ]
          refine wpAnyG_skip (i := 20) (oi := _) rfl (by kernel_rfl) (by kernel_rfl) (by kernel_rfl) (by kernel_rfl) (by kernel_rfl) (by decide) (fun _ _ _ h => h) (by rfl) hS5 ?_
          try simp only [Act.put, List.getElem_toArray, List.getElem_cons_zero, List.getElem_cons_succ, List.setIfInBounds_toArray, List.set_cons_zero, List.set_cons_succ]
          refine wpAnyG_skip (i := 21) (oi := _) rfl (by kernel_rfl) (by kernel_rfl) (by kernel_rfl) (by kernel_rfl) (by kernel_rfl) (by decide) (fun _ _ _ h => h) (by rfl) hS5 ?_
          try simp only [Act.put, List.getElem_toArray, List.getElem_cons_zero, List.getElem_cons_succ, List.setIfInBounds_toArray, List.set_cons_zero, List.set_cons_succ]
          refine wpAnyG_skip (i := 22) (oi := _) rfl (by kernel_rfl) (by kernel_rfl) (by kernel_rfl) (by kernel_rfl) (by kernel_rfl) (by decide) (fun _ _ _ h => h) (by rfl) hS5 ?_
          try simp only [Act.put, List.getElem_toArray, List.getElem_cons_zero, List.getElem_cons_succ, List.setIfInBounds_toArray, List.set_cons_zero, List.set_cons_succ]
          refine wpAnyG_skip (i := 23) (oi := _) rfl (by kernel_rfl) (by kernel_rfl) (by kernel_rfl) (by kernel_rfl) (by kernel_rfl) (by decide) (fun _ _ _ h => h) (by rfl) hS5 ?_
          try simp only [Act.put, List.getElem_toArray, List.getElem_cons_zero, List.getElem_cons_succ, List.setIfInBounds_toArray, List.set_cons_zero, List.set_cons_succ]
          refine wpAnyG_skip (i := 24) (oi := _) rfl (by kernel_rfl) (by kernel_rfl) (by kernel_rfl) (by kernel_rfl) (by kernel_rfl) (by decide) (fun _ _ _ h => h) (by rfl) hS5 ?_
          try simp only [Act.put, List.getElem_toArray, List.getElem_cons_zero, List.getElem_cons_succ, List.setIfInBounds_toArray, List.set_cons_zero, List.set_cons_succ]
          refine wpAnyG_skip (i := 25) (oi := _) rfl (by kernel_rfl) (by kernel_rfl) (by kernel_rfl) (by kernel_rfl) (by kernel_rfl) (by decide) (fun _ _ _ h => h) (by rfl) hS5 ?_
          try simp only [Act.put, List.getElem_toArray, List.getElem_cons_zero, List.getElem_cons_succ, List.setIfInBounds_toArray, List.set_cons_zero, List.set_cons_succ]
          refine wpAnyG_skip (i := 26) (oi := _) rfl (by kernel_rfl) (by kernel_rfl) (by kernel_rfl) (by kernel_rfl) (by kernel_rfl) (by decide) (fun _ _ _ h => h) (by rfl) hS5 ?_
          try simp only [Act.put, List.getElem_toArray, List.getElem_cons_zero, List.getElem_cons_succ, List.setIfInBounds_toArray, List.set_cons_zero, List.set_cons_succ]
          refine wpAnyG_skip (i := 27) (oi := _) rfl (by kernel_rfl) (by kernel_rfl) (by kernel_rfl) (by kernel_rfl) (by kernel_rfl) (by decide) (fun _ _ _ h => h) (by rfl) hS5 ?_
          try simp only [Act.put, List.getElem_toArray, List.getElem_cons_zero, List.getElem_cons_succ, List.setIfInBounds_toArray, List.set_cons_zero, List.set_cons_succ]
          refine wpAnyG_skip (i := 28) (oi := _) rfl (by kernel_rfl) (by kernel_rfl) (by kernel_rfl) (by kernel_rfl) (by kernel_rfl) (by decide) (fun _ _ _ h => h) (by rfl) hS5 ?_
          try simp only [Act.put, List.getElem_toArray, List.getElem_cons_zero, List.getElem_cons_succ, List.setIfInBounds_toArray, List.set_cons_zero, List.set_cons_succ]
          refine wpAnyG_skip (i := 29) (oi := _) rfl (by kernel_rfl) (by kernel_rfl) (by kernel_rfl) (by kernel_rfl) (by kernel_rfl) (by decide) (fun _ _ _ h => h) (by rfl) hS5 ?_
          try simp only [Act.put, List.getElem_toArray, List.getElem_cons_zero, List.getElem_cons_succ, List.setIfInBounds_toArray, List.set_cons_zero, List.set_cons_succ]
          refine wpAnyG_take (i := 30) (oi := _) (v := .bool false) rfl (by kernel_rfl) (by kernel_rfl) (by kernel_rfl) (by kernel_rfl) (by kernel_rfl) (by decide) (fun _ _ _ h => h) (by rfl) (fun w' hw' => ?_) hS5 ?_
          · obtain ⟨h1, h2, h3, h4, h5, h6, h7, h8, h9, h10, h11⟩ := hw'
            go_simp
          try simp only [Act.put, List.getElem_toArray, List.getElem_cons_zero, List.getElem_cons_succ, List.setIfInBounds_toArray, List.set_cons_zero, List.set_cons_succ]
          refine wpAnyG_take (i := 31) (oi := _) (v := .bool false) rfl (by kernel_rfl) (by kernel_rfl) (by kernel_rfl) (by kernel_rfl) (by kernel_rfl) (by decide) (fun _ _ _ h => h) (by rfl) (fun w' hw' => ?_) hS5 ?_
          · obtain ⟨h1, h2, h3, h4, h5, h6, h7, h8, h9, h10, h11⟩ := hw'
            go_simp
          try simp only [Act.put, List.getElem_toArray, List.getElem_cons_zero, List.getElem_cons_succ, List.setIfInBounds_toArray, List.set_cons_zero, List.set_cons_succ]
          refine wpAnyG_done (by kernel_rfl) ?_ _
          obtain ⟨a0, a1, a2, a3, a4, a5, a6, a7, v0, v1, v2⟩ := KB.out _ F5.out
          go_wp2_with fail
          go_roundw
          case rel => exact ⟨t + 1, by omega, by go_num, by first | rfl | rw [ST.out], by first | rfl | rw [ES.out], O5, Lib.hid (NB.out _ F5.out)⟩
          case measure => simp [intOf]; omega
        · have d1 : decide (0 ≤ oc) = false := decide_eq_false oc1
          clear oc0 oc1
          refine wp_region_G (fun w' => w'.cell? (x.add (t * 8)) = some (.int .u8 s.ka) ∧ w'.cell? ⟨(x.add (t * 8)).block, (x.add (t * 8)).off + 1, none⟩ = some (.int .u8 s.kb) ∧ w'.cell? ⟨(x.add (t * 8)).block, (x.add (t * 8)).off + 2, none⟩ = some (.int .u8 s.kc) ∧ w'.cell? ⟨(x.add (t * 8)).block, (x.add (t * 8)).off + 3, none⟩ = some (.int .u8 s.kd) ∧ w'.cell? ⟨(x.add (t * 8)).block, (x.add (t * 8)).off + 4, none⟩ = some (.slice q k d) ∧ w'.cell? ⟨(x.add (t * 8)).block, (x.add (t * 8)).off + 5, none⟩ = some (.int .i64 gr) ∧ w'.cell? ⟨(x.add (t * 8)).block, (x.add (t * 8)).off + 6, none⟩ = some (.int .i64 ce) ∧ w'.cell? ⟨(x.add (t * 8)).block, (x.add (t * 8)).off + 7, none⟩ = some (.int .i64 co) ∧ w'.cell? ⟨w.heap.size, 0, none⟩ = some (.int .i64 ls) ∧ w'.cell? ⟨w.heap.size, 1, none⟩ = some (.int .i64 le) ∧ w'.cell? ⟨w.heap.size, 2, none⟩ = some (.int .i64 sp)) 32 (by kernel_rfl) ?_
          have hS : wr.drew.cell? (x.add (t * 8)) = some (.int .u8 s.ka) ∧ wr.drew.cell? ⟨(x.add (t * 8)).block, (x.add (t * 8)).off + 1, none⟩ = some (.int .u8 s.kb) ∧ wr.drew.cell? ⟨(x.add (t * 8)).block, (x.add (t * 8)).off + 2, none⟩ = some (.int .u8 s.kc) ∧ wr.drew.cell? ⟨(x.add (t * 8)).block, (x.add (t * 8)).off + 3, none⟩ = some (.int .u8 s.kd) ∧ wr.drew.cell? ⟨(x.add (t * 8)).block, (x.add (t * 8)).off + 4, none⟩ = some (.slice q k d) ∧ wr.drew.cell? ⟨(x.add (t * 8)).block, (x.add (t * 8)).off + 5, none⟩ = some (.int .i64 gr) ∧ wr.drew.cell? ⟨(x.add (t * 8)).block, (x.add (t * 8)).off + 6, none⟩ = some (.int .i64 ce) ∧ wr.drew.cell? ⟨(x.add (t * 8)).block, (x.add (t * 8)).off + 7, none⟩ = some (.int .i64 co) ∧ wr.drew.cell? ⟨w.heap.size, 0, none⟩ = some (.int .i64 ls) ∧ wr.drew.cell? ⟨w.heap.size, 1, none⟩ = some (.int .i64 le) ∧ wr.drew.cell? ⟨w.heap.size, 2, none⟩ = some (.int .i64 sp) := ⟨cellDr a0, cellDr a1, cellDr a2, cellDr a3, cellDr a4, cellDr a5, cellDr a6, cellDr a7, cellDr v0, cellDr v1, cellDr v2⟩
          refine wpAnyG_take (i := 0) (oi := _) (v := .slice p n c) rfl (by kernel_rfl) (by kernel_rfl) (by kernel_rfl) (by kernel_rfl) (by kernel_rfl) (by decide) (fun _ _ _ h => h) (by rfl) (fun w' hw' => ?_) hS ?_
          · obtain ⟨h1, h2, h3, h4, h5, h6, h7, h8, h9, h10, h11⟩ := hw'
            go_simp
          try simp only [Act.put, List.getElem_toArray, List.getElem_cons_zero, List.getElem_cons_succ, List.setIfInBounds_toArray, List.set_cons_zero, List.set_cons_succ]
          refine wpAnyG_take (i := 1) (oi := _) (v := .slice (some x) m cl) rfl (by kernel_rfl) (by kernel_rfl) (by kernel_rfl) (by kernel_rfl) (by kernel_rfl) (by decide) (fun _ _ _ h => h) (by rfl) (fun w' hw' => ?_) hS ?_
          · obtain ⟨h1, h2, h3, h4, h5, h6, h7, h8, h9, h10, h11⟩ := hw'
            go_simp
          try simp only [Act.put, List.getElem_toArray, List.getElem_cons_zero, List.getElem_cons_succ, List.setIfInBounds_toArray, List.set_cons_zero, List.set_cons_succ]
          refine wpAnyG_take (i := 2) (oi := _) (v := .int .i64 (t : Int)) rfl (by kernel_rfl) (by kernel_rfl) (by kernel_rfl) (by kernel_rfl) (by kernel_rfl) (by decide) (fun _ _ _ h => h) (by rfl) (fun w' hw' => ?_) hS ?_
          · obtain ⟨h1, h2, h3, h4, h5, h6, h7, h8, h9, h10, h11⟩ := hw'
            go_simp
          try simp only [Act.put, List.getElem_toArray, List.getElem_cons_zero, List.getElem_cons_succ, List.setIfInBounds_toArray, List.set_cons_zero, List.set_cons_succ]
          refine wpAnyG_take (i := 3) (oi := _) (v := .pointer (some (x.add (t * 8)))) rfl (by kernel_rfl) (by kernel_rfl) (by kernel_rfl) (by kernel_rfl) (by kernel_rfl) (by decide) (fun _ _ _ h => h) (by rfl) (fun w' hw' => ?_) hS ?_
          · obtain ⟨h1, h2, h3, h4, h5, h6, h7, h8, h9, h10, h11⟩ := hw'
            go_simp
          try simp only [Act.put, List.getElem_toArray, List.getElem_cons_zero, List.getElem_cons_succ, List.setIfInBounds_toArray, List.set_cons_zero, List.set_cons_succ]
          refine wpAnyG_take (i := 4) (oi := _) (v := .agg #[.int .u8 s.ka, .int .u8 s.kb, .int .u8 s.kc, .int .u8 s.kd, .slice q k d, .int .i64 gr, .int .i64 ce, .int .i64 co]) rfl (by kernel_rfl) (by kernel_rfl) (by kernel_rfl) (by kernel_rfl) (by kernel_rfl) (by decide) (fun _ _ _ h => h) (by rfl) (fun w' hw' => ?_) hS ?_
          · obtain ⟨h1, h2, h3, h4, h5, h6, h7, h8, h9, h10, h11⟩ := hw'
            go_simp
          try simp only [Act.put, List.getElem_toArray, List.getElem_cons_zero, List.getElem_cons_succ, List.setIfInBounds_toArray, List.set_cons_zero, List.set_cons_succ]
          refine wpAnyG_take (i := 5) (oi := _) (v := .agg #[.int .i64 ls, .int .i64 le, .int .i64 sp]) rfl (by kernel_rfl) (by kernel_rfl) (by kernel_rfl) (by kernel_rfl) (by kernel_rfl) (by decide) (fun _ _ _ h => h) (by rfl) (fun w' hw' => ?_) hS ?_
          · obtain ⟨h1, h2, h3, h4, h5, h6, h7, h8, h9, h10, h11⟩ := hw'
            go_simp
          try simp only [Act.put, List.getElem_toArray, List.getElem_cons_zero, List.getElem_cons_succ, List.setIfInBounds_toArray, List.set_cons_zero, List.set_cons_succ]
          refine wpAnyG_take (i := 6) (oi := _) (v := .slice (some ⟨w1.heap.size, 0, none⟩) n n) rfl (by kernel_rfl) (by kernel_rfl) (by kernel_rfl) (by kernel_rfl) (by kernel_rfl) (by decide) (fun _ _ _ h => h) (by rfl) (fun w' hw' => ?_) hS ?_
          · obtain ⟨h1, h2, h3, h4, h5, h6, h7, h8, h9, h10, h11⟩ := hw'
            go_simp
          try simp only [Act.put, List.getElem_toArray, List.getElem_cons_zero, List.getElem_cons_succ, List.setIfInBounds_toArray, List.set_cons_zero, List.set_cons_succ]
          refine wpAnyG_one (i := 7) (o := _) (by kernel_rfl) rfl (fun KK hK => ?_)
          go_simp
          refine (HO.out _ (NB.out _ ((Below.refl _ _).drew)) (OBW.out.below (Below.refl _ _).drew)).mono ?_
          rintro e w5 ⟨rfl, o5, f5⟩
          have O5 := Lib.hid o5
          have F5 := Lib.hid (((Below.refl _ _).drew).trans f5 : Below w1.heap.size wr w5)
          refine hK.out _ _ (fun _ => KB.out _ F5.out) ?_
          try simp only [Act.put, List.getElem_toArray, List.getElem_cons_zero, List.getElem_cons_succ, List.setIfInBounds_toArray, List.set_cons_zero, List.set_cons_succ]
          clear hK o5 f5
          have hS5 := KB.out _ F5.out
          refine wpAnyG_take (i := 8) (oi := _) (v := .bool false) rfl (by kernel_rfl) (by kernel_rfl) (by kernel_rfl) (by kernel_rfl) (by kernel_rfl) (by decide) (fun _ _ _ h => h) (by rfl) (fun w' hw' => ?_) hS5 ?_
          · obtain ⟨h1, h2, h3, h4, h5, h6, h7, h8, h9, h10, h11⟩ := hw'
            go_simp
          try simp only [Act.put, List.getElem_toArray, List.getElem_cons_zero, List.getElem_cons_succ, List.setIfInBounds_toArray, List.set_cons_zero, List.set_cons_succ]
          refine wpAnyG_take (i := 9) (oi := _) (v := .bool false) rfl (by kernel_rfl) (by kernel_rfl) (by kernel_rfl) (by kernel_rfl) (by kernel_rfl) (by decide) (fun _ _ _ h => h) (by rfl) (fun w' hw' => ?_) hS5 ?_
          · obtain ⟨h1, h2, h3, h4, h5, h6, h7, h8, h9, h10, h11⟩ := hw'
            go_simp
          try simp only [Act.put, List.getElem_toArray, List.getElem_cons_zero, List.getElem_cons_succ, List.setIfInBounds_toArray, List.set_cons_zero, List.set_cons_succ]
          refine wpAnyG_take (i := 10) (oi := _) (v := .int .i64 oc) rfl (by kernel_rfl) (by kernel_rfl) (by kernel_rfl) (by kernel_rfl) (by kernel_rfl) (by decide) (fun _ _ _ h => h) (by rfl) (fun w' hw' => ?_) hS5 ?_
          · obtain ⟨h1, h2, h3, h4, h5, h6, h7, h8, h9, h10, h11⟩ := hw'
            go_simp
          try simp only [Act.put, List.getElem_toArray, List.getElem_cons_zero, List.getElem_cons_succ, List.setIfInBounds_toArray, List.set_cons_zero, List.set_cons_succ]
          refine wpAnyG_take (i := 11) (oi := _) (v := .bool false) rfl (by kernel_rfl) (by kernel_rfl) (by kernel_rfl) (by kernel_rfl) (by kernel_rfl) (by decide) (fun _ _ _ h => h) (by rfl) (fun w' hw' => ?_) hS5 ?_
          · obtain ⟨h1, h2, h3, h4, h5, h6, h7, h8, h9, h10, h11⟩ := hw'
            go_simp
          try simp only [Act.put, List.getElem_toArray, List.getElem_cons_zero, List.getElem_cons_succ, List.setIfInBounds_toArray, List.set_cons_zero, List.set_cons_succ]
          refine wpAnyG_take (i := 12) (oi := _) (v := .bool false) rfl (by kernel_rfl) (by kernel_rfl) (by kernel_rfl) (by kernel_rfl) (by kernel_rfl) (by decide) (fun _ _ _ h => h) (by rfl) (fun w' hw' => ?_) hS5 ?_
          · obtain ⟨h1, h2, h3, h4, h5, h6, h7, h8, h9, h10, h11⟩ := hw'
            go_simp
          try simp only [Act.put, List.getElem_toArray, List.getElem_cons_zero, List.getElem_cons_succ, List.setIfInBounds_toArray, List.set_cons_zero, List.set_cons_succ]
          refine wpAnyG_skip (i := 13) (oi := _) rfl (by kernel_rfl) (by kernel_rfl) (by kernel_rfl) (by kernel_rfl) (by kernel_rfl) (by decide) (fun _ _ _ h => h) (by rfl) hS5 ?_
          try simp only [Act.put, List.getElem_toArray, List.getElem_cons_zero, List.getElem_cons_succ, List.setIfInBounds_toArray, List.set_cons_zero, List.set_cons_succ]
          refine wpAnyG_skip (i := 14) (oi := _) rfl (by kernel_rfl) (by kernel_rfl) (by kernel_rfl) (by kernel_rfl) (by kernel_rfl) (by decide) (fun _ _ _ h => h) (by rfl) hS5 ?_
          try simp only [Act.put, List.getElem_toArray, List.getElem_cons_zero, List.getElem_cons_succ, List.setIfInBounds_toArray, List.set_cons_zero, List.set_cons_succ]
          refine wpAnyG_take (i := 15) (oi := _) (v := .bool false) rfl (by kernel_rfl) (by kernel_rfl) (by kernel_rfl) (by kernel_rfl) (by kernel_rfl) (by decide) (fun _ _ _ h => h) (by rfl) (fun w' hw' => ?_) hS5 ?_
          · obtain ⟨h1, h2, h3, h4, h5, h6, h7, h8, h9, h10, h11⟩ := hw'
            go_simp
          try simp only [Act.put, List.getElem_toArray, List.getElem_cons_zero, List.getElem_cons_succ, List.setIfInBounds_toArray, List.set_cons_zero, List.set_cons_succ]
          refine wpAnyG_take (i := 16) (oi := _) (v := .bool false) rfl (by kernel_rfl) (by kernel_rfl) (by kernel_rfl) (by kernel_rfl) (by kernel_rfl) (by decide) (fun _ _ _ h => h) (by rfl) (fun w' hw' => ?_) hS5 ?_
          · obtain ⟨h1, h2, h3, h4, h5, h6, h7, h8, h9, h10, h11⟩ := hw'
            go_simp
          try simp only [Act.put, List.getElem_toArray, List.getElem_cons_zero, List.getElem_cons_succ, List.setIfInBounds_toArray, List.set_cons_zero, List.set_cons_succ]
          refine wpAnyG_skip (i := 17) (oi := _) rfl (by kernel_rfl) (by kernel_rfl) (by kernel_rfl) (by kernel_rfl) (by kernel_rfl) (by decide) (fun _ _ _ h => h) (by rfl) hS5 ?_
          try simp only [Act.put, List.getElem_toArray, List.getElem_cons_zero, List.getElem_cons_succ, List.setIfInBounds_toArray, List.set_cons_zero, List.set_cons_succ]
          refine wpAnyG_skip (i := 18) (oi := _) rfl (by kernel_rfl) (by kernel_rfl) (by kernel_rfl) (by kernel_rfl) (by kernel_rfl) (by decide) (fun _ _ _ h => h) (by rfl) hS5 ?_
          try simp only [Act.put, List.getElem_toArray, List.getElem_cons_zero, List.getElem_cons_succ, List.setIfInBounds_toArray, List.set_cons_zero, List.set_cons_succ]
          refine wpAnyG_skip (i := 19) (oi := _) rfl (by kernel_rfl) (by kernel_rfl) (by kernel_rfl) (by kernel_rfl) (by kernel_rfl) (by decide) (fun _ _ _ h => h) (by rfl) hS5 ?_
          try simp only [Act.put, List.getElem_toArray, List.getElem_cons_zero, List.getElem_cons_succ, List.setIfInBounds_toArray, List.set_cons_zero, List.set_cons_succ]
          refine wpAnyG_skip (i := 20) (oi := _) rfl (by kernel_rfl) (by kernel_rfl) (by kernel_rfl) (by kernel_rfl) (by kernel_rfl) (by decide) (fun _ _ _ h => h) (by rfl) hS5 ?_
          try simp only [Act.put, List.getElem_toArray, List.getElem_cons_zero, List.getElem_cons_succ, List.setIfInBounds_toArray, List.set_cons_zero, List.set_cons_succ]
          refine wpAnyG_skip (i := 21) (oi := _) rfl (by kernel_rfl) (by kernel_rfl) (by kernel_rfl) (by kernel_rfl) (by kernel_rfl) (by decide) (fun _ _ _ h => h) (by rfl) hS5 ?_
          try simp only [Act.put, List.getElem_toArray, List.getElem_cons_zero, List.getElem_cons_succ, List.setIfInBounds_toArray, List.set_cons_zero, List.set_cons_succ]
          refine wpAnyG_skip (i := 22) (oi := _) rfl (by kernel_rfl) (by kernel_rfl) (by kernel_rfl) (by kernel_rfl) (by kernel_rfl) (by decide) (fun _ _ _ h => h) (by rfl) hS5 ?_
          try simp only [Act.put, List.getElem_toArray, List.getElem_cons_zero, List.getElem_cons_succ, List.setIfInBounds_toArray, List.set_cons_zero, List.set_cons_succ]
          refine wpAnyG_skip (i := 23) (oi := _) rfl (by kernel_rfl) (by kernel_rfl) (by kernel_rfl) (by kernel_rfl) (by kernel_rfl) (by decide) (fun _ _ _ h => h) (by rfl) hS5 ?_
          try simp only [Act.put, List.getElem_toArray, List.getElem_cons_zero, List.getElem_cons_succ, List.setIfInBounds_toArray, List.set_cons_zero, List.set_cons_succ]
          refine wpAnyG_skip (i := 24) (oi := _) rfl (by kernel_rfl) (by kernel_rfl) (by kernel_rfl) (by kernel_rfl) (by kernel_rfl) (by decide) (fun _ _ _ h => h) (by rfl) hS5 ?_
          try simp only [Act.put, List.getElem_toArray, List.getElem_cons_zero, List.getElem_cons_succ, List.setIfInBounds_toArray, List.set_cons_zero, List.set_cons_succ]
          refine wpAnyG_skip (i := 25) (oi := _) rfl (by kernel_rfl) (by kernel_rfl) (by kernel_rfl) (by kernel_rfl) (by kernel_rfl) (by decide) (fun _ _ _ h => h) (by rfl) hS5 ?_
          try simp only [Act.put, List.getElem_toArray, List.getElem_cons_zero, List.getElem_cons_succ, List.setIfInBounds_toArray, List.set_cons_zero, List.set_cons_succ]
          refine wpAnyG_skip (i := 26) (oi := _) rfl (by kernel_rfl) (by kernel_rfl) (by kernel_rfl) (by kernel_rfl) (by kernel_rfl) (by decide) (fun _ _ _ h => h) (by rfl) hS5 ?_
          try simp only [Act.put, List.getElem_toArray, List.getElem_cons_zero, List.getElem_cons_succ, List.setIfInBounds_toArray, List.set_cons_zero, List.set_cons_succ]
          refine wpAnyG_skip (i := 27) (oi := _) rfl (by kernel_rfl) (by kernel_rfl) (by kernel_rfl) (by kernel_rfl) (by kernel_rfl) (by decide) (fun _ _ _ h => h) (by rfl) hS5 ?_
          try simp only [Act.put, List.getElem_toArray, List.getElem_cons_zero, List.getElem_cons_succ, List.setIfInBounds_toArray, List.set_cons_zero, List.set_cons_succ]
          refine wpAnyG_skip (i := 28) (oi := _) rfl (by kernel_rfl) (by kernel_rfl) (by kernel_rfl) (by kernel_rfl) (by kernel_rfl) (by decide) (fun _ _ _ h => h) (by rfl) hS5 ?_
          try simp only [Act.put, List.getElem_toArray, List.getElem_cons_zero, List.getElem_cons_succ, List.setIfInBounds_toArray, List.set_cons_zero, List.set_cons_succ]
          refine wpAnyG_skip (i := 29) (oi := _) rfl (by kernel_rfl) (by kernel_rfl) (by kernel_rfl) (by kernel_rfl) (by kernel_rfl) (by decide) (fun _ _ _ h => h) (by rfl) hS5 ?_
          try simp only [Act.put, List.getElem_toArray, List.getElem_cons_zero, List.getElem_cons_succ, List.setIfInBounds_toArray, List.set_cons_zero, List.set_cons_succ]
          refine wpAnyG_take (i := 30) (oi := _) (v := .bool false) rfl (by kernel_rfl) (by kernel_rfl) (by kernel_rfl) (by kernel_rfl) (by kernel_rfl) (by decide) (fun _ _ _ h => h) (by rfl) (fun w' hw' => ?_) hS5 ?_
          · obtain ⟨h1, h2, h3, h4, h5, h6, h7, h8, h9, h10, h11⟩ := hw'
            go_simp
          try simp only [Act.put, List.getElem_toArray, List.getElem_cons_zero, List.getElem_cons_succ, List.setIfInBounds_toArray, List.set_cons_zero, List.set_cons_succ]
          refine wpAnyG_take (i := 31) (oi := _) (v := .bool false) rfl (by kernel_rfl) (by kernel_rfl) (by kernel_rfl) (by kernel_rfl) (by kernel_rfl) (by decide) (fun _ _ _ h => h) (by rfl) (fun w' hw' => ?_) hS5 ?_
          · obtain ⟨h1, h2, h3, h4, h5, h6, h7, h8, h9, h10, h11⟩ := hw'
            go_simp
          try simp only [Act.put, List.getElem_toArray, List.getElem_cons_zero, List.getElem_cons_succ, List.setIfInBounds_toArray, List.set_cons_zero, List.set_cons_succ]
          refine wpAnyG_done (by kernel_rfl) ?_ _
          obtain ⟨a0, a1, a2, a3, a4, a5, a6, a7, v0, v1, v2⟩ := KB.out _ F5.out
          go_wp2_with fail
          go_roundw
          case rel => exact ⟨t + 1, by omega, by go_num, by first | rfl | rw [ST.out], by first | rfl | rw [ES.out], O5, Lib.hid (NB.out _ F5.out)⟩
          case measure => simp [intOf]; omega
    obtain rfl : t = m := by omega
    have k3 : ¬ ((t : Int) < (t : Int)) := by omega
    rw [PM.out, SM.out]
    have BV := Lib.hid BX.out
    go_wp2_with fail
    refine (AL.out _).mono ?_
    rintro e w4 ⟨rfl, st⟩
    have BB := Lib.hid (BV.out.trans (st.mono BV.out.size))
    go_wp2_with fail
    go_ret
    exact ⟨rfl, BB.out⟩
end Go.Proofs.Ytmdhmpfagekonaa
