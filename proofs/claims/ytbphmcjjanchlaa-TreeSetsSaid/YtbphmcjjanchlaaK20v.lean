/- halve. -/
import Derived.Test.YtbphmcjjanchlaaK2v
namespace Go.Proofs.Ytbphmcjjanchlaa.Mis
open Go.RowKit
set_option linter.unusedVariables false
set_option linter.unusedSimpArgs false

/-- The pairs of a list lie in a block, from an offset on. -/
def PairsAt (w : World) (g : Nat) (L : List (Int × Value)) : Prop := ∀ (i : Nat) (x : Int × Value), L[i]? = some x → w.cell? ⟨g, 2 * i, none⟩ = some (KV.kv x.1) ∧ w.cell? ⟨g, 2 * i + 1, none⟩ = some x.2 ∧ x.2.oneCell' = true
theorem PairsAt.grow {A B : World} {g : Nat} {L : List (Int × Value)} (st : Below A.heap.size A B) (h : PairsAt A g L) : PairsAt B g L := fun i x e => ⟨cell_gr st (h i x e).1, cell_gr st (h i x e).2.1, (h i x e).2.2⟩
/-- The bits of a number: how deep a halved map is. -/
def bits : Nat → Nat → Nat
  | 0, _ => 0
  | f + 1, n => if n = 0 then 0 else 1 + bits f (n / 2)
theorem bits_mono : ∀ (f n m : Nat), n ≤ m → bits f n ≤ bits f m
  | 0, _, _, _ => Nat.le_refl _
  | f + 1, n, m, h => by
    simp only [bits]
    by_cases h0 : n = 0
    · simp [h0]
    · have : m ≠ 0 := by omega
      simp only [h0, this, if_false]
      have := bits_mono f (n / 2) (m / 2) (by omega); omega
theorem bits_stable : ∀ (f n : Nat), n < 2 ^ f → bits (f + 1) n = bits f n
  | 0, n, h => by simp at h; subst h; rfl
  | f + 1, n, h => by
    rw [Nat.pow_succ] at h
    by_cases h0 : n = 0
    · subst h0; rfl
    · have := bits_stable f (n / 2) (by omega)
      rw [show bits (f + 1 + 1) n = 1 + bits (f + 1) (n / 2) from by simp [bits, h0], show bits (f + 1) n = 1 + bits f (n / 2) from by simp [bits, h0], this]
theorem bits_succ : ∀ (f n : Nat), bits f (n + 1) ≤ bits f n + 1
  | 0, _ => by simp [bits]
  | f + 1, n => by
    by_cases h0 : n = 0
    · subst h0
      simp only [bits]
      cases f <;> simp [bits]
    · simp only [bits, h0, if_false]
      have h1 : n + 1 ≠ 0 := by omega
      simp only [h1, if_false]
      rcases (by omega : (n + 1) / 2 = n / 2 ∨ (n + 1) / 2 = n / 2 + 1) with e | e
      · rw [e]; omega
      · rw [e]; have := bits_succ f (n / 2); omega
/-- What halving makes. -/
structure HalQ (L : List (Int × Value)) (t : Tr Int Value) : Prop where
  rows : t.rows = L
  avl : t.Avl
  dep : t.dep = bits 60 L.length
theorem HalQ.sz {L : List (Int × Value)} {t : Tr Int Value} (h : HalQ L t) : t.sz = L.length := by rw [← t.sz_eq, h.rows]
theorem hal_node {L : List (Int × Value)} {x : Int × Value} {t u : Tr Int Value} (hL : L.length < 2 ^ 59) (hx : L[L.length / 2]? = some x) (h1 : HalQ (L.take (L.length / 2)) t) (h2 : HalQ (L.drop (L.length / 2 + 1)) u) : HalQ L (.node x.1 x.2 t u) := by
  have hlt : L.length / 2 < L.length := (List.getElem?_eq_some_iff.1 hx).1
  have ex : L[L.length / 2] = x := (List.getElem?_eq_some_iff.1 hx).2
  have d1 := h1.dep
  have d2 := h2.dep
  rw [List.length_take, Nat.min_eq_left (by omega)] at d1
  rw [List.length_drop] at d2
  have m1 := bits_mono 60 (L.length - (L.length / 2 + 1)) (L.length / 2) (by omega)
  have m2 := bits_succ 60 (L.length - (L.length / 2 + 1))
  have m3 := bits_mono 60 (L.length / 2) (L.length - (L.length / 2 + 1) + 1) (by omega)
  refine ⟨?_, ⟨h1.avl, h2.avl, by omega, by omega⟩, ?_⟩
  · show t.rows ++ (x.1, x.2) :: u.rows = L
    rw [h1.rows, h2.rows]
    have e2 : L.drop (L.length / 2) = x :: L.drop (L.length / 2 + 1) := by rw [List.drop_eq_getElem_cons hlt, ex]
    rw [show (x.1, x.2) = x from rfl, ← e2, List.take_append_drop]
  · show max t.dep u.dep + 1 = _
    rw [d1, d2, Nat.max_eq_left m1]
    have e3 : bits 60 (L.length / 2) = bits 59 (L.length / 2) := bits_stable 59 (L.length / 2) (by omega)
    have e4 : bits 60 L.length = 1 + bits 59 (L.length / 2) := by
      show bits (59 + 1) L.length = _
      simp only [bits]
      rw [if_neg (by omega)]
    omega
theorem sub_get {L : List (Int × Value)} {off n i : Nat} (h : i < n) : ((L.drop off).take n)[i]? = L[off + i]? := by
  rw [List.getElem?_take_of_lt h, List.getElem?_drop]
set_option maxRecDepth 100000 in
theorem halve_nil (p : Option Addr) (c : Nat) (w : World) : Calls Try.prog 77 #[.slice p 0 c] w (MapR w (HalQ ([] : List (Int × Value)))) := by
  go_enter Try.func77, Try.ntmps77
  go_wp2
  exact bodyPost_ret (v := .agg #[.pointer none]) (by simp [results, Try.results77, go_sem]) rfl ⟨none, .nil, rfl, rfl, ⟨rfl, trivial, rfl⟩, (Below.refl _ _).alloc (Nat.le_refl _) _⟩
set_option maxRecDepth 100000 in
set_option maxHeartbeats 2000000 in
theorem halve_step (g off n c : Nat) (L : List (Int × Value)) (w : World) (hn : 0 < n) (hc : n ≤ c) (hoff : off + n ≤ L.length) (hL : L.length ≤ 2 ^ 40) (hcm : c ≤ 2 ^ 45) (pl : PairsAt w g L)
    (I1 : Hid (∀ W, PairsAt W g L → Calls Try.prog 77 #[.slice (some ⟨g, 2 * off, none⟩) (n / 2 : Nat) c] W (MapR W (HalQ ((L.drop off).take (n / 2))))))
    (I2 : Hid (∀ (W : World), PairsAt W g L → Calls Try.prog 77 #[.slice (if c - (n / 2 + 1) = 0 then some ⟨g, 2 * off, none⟩ else some ⟨g, 2 * off + (n / 2 + 1) * 2, none⟩) (n - (n / 2 + 1)) (c - (n / 2 + 1))] W (MapR W (HalQ ((L.drop (off + (n / 2 + 1))).take (n - (n / 2 + 1))))))) :
    Calls Try.prog 77 #[.slice (some ⟨g, 2 * off, none⟩) n c] w (MapR w (HalQ ((L.drop off).take n))) := by
  obtain ⟨x, hx⟩ : ∃ x, L[off + n / 2]? = some x := ⟨L[off + n / 2]'(by omega), List.getElem?_eq_getElem (by omega)⟩
  obtain ⟨xk, xv⟩ := x
  obtain ⟨m1', m2', hv⟩ := pl _ _ hx
  have hlen : ((L.drop off).take n).length = n := by rw [List.length_take, List.length_drop]; omega
  have HX : Hid (IsKV xk (.int .i64 xk : Value) xv) := ⟨rfl, hv⟩
  have HQ : Hid (∀ t u, HalQ ((L.drop off).take (n / 2)) t → HalQ ((L.drop (off + (n / 2 + 1))).take (n - (n / 2 + 1))) u → HalQ ((L.drop off).take n) (.node xk xv t u)) := Lib.hid (fun t u h1 h2 => by
    have e1 : ((L.drop off).take n).take (((L.drop off).take n).length / 2) = (L.drop off).take (n / 2) := by rw [hlen, List.take_take, Nat.min_eq_left (by omega)]
    have e2 : ((L.drop off).take n).drop (((L.drop off).take n).length / 2 + 1) = (L.drop (off + (n / 2 + 1))).take (n - (n / 2 + 1)) := by rw [hlen, List.drop_take, List.drop_drop]
    exact hal_node (x := (xk, xv)) (by rw [hlen]; omega) (by rw [hlen, sub_get (by omega)]; exact hx) (by rw [e1]; exact h1) (by rw [e2]; exact h2))
  obtain ⟨mid, hh⟩ : ∃ mid, mid = n / 2 := ⟨_, rfl⟩
  have m1 : w.cell? ⟨g, 2 * off + mid * 2, none⟩ = some (.int .i64 xk) := by rw [hh, show 2 * off + n / 2 * 2 = 2 * (off + n / 2) from by omega]; exact m1'
  have m2 : w.cell? ⟨g, 2 * off + mid * 2 + 1, none⟩ = some xv := by rw [hh, show 2 * off + n / 2 * 2 + 1 = 2 * (off + n / 2) + 1 from by omega]; exact m2'
  have PL := Lib.hid pl
  have HN : Hid (n ≤ 2 ^ 40) := Lib.hid (by omega)
  have b1 : mid < n := by omega
  have q1 : IntKind.i64.wrap ((n : Int).tdiv 2) = (mid : Int) := by
    rw [show (n : Int).tdiv 2 = (mid : Int) from by rw [hh]; rw [Int.tdiv_eq_ediv_of_nonneg (by omega)]; omega]
    exact IntWalk.i64_in _ (by omega)
  have q2 := IntWalk.i64_in ((mid : Int) + 1) (by omega)
  rw [← hh] at I1 I2 HQ
  clear m1' m2' hv pl hx hlen
  have HH := Lib.hid hh
  clear hh
  have q0 : (n : Int) / 2 = (mid : Int) := by rw [HH.out]; omega
  have i1 : (0 : Int) ≤ (mid : Int) := by omega
  have i2 : (mid : Int) < (n : Int) := by omega
  have i3 : (mid : Int) ≤ (c : Int) := by omega
  have i4 : (0 : Int) ≤ (mid : Int) + 1 := by omega
  have i5 : (mid : Int) + 1 ≤ (n : Int) := by omega
  have i6 : (n : Int) ≤ (c : Int) := by omega
  have i7 : ((mid : Int) + 1).toNat = mid + 1 := by omega
  have n0 : ((n : Int) == 0) = false := by simp; omega
  have HB : Hid (∀ w0, w.alloc (Obj.cells #[Value.pointer none] 97) = w0 → Below w.heap.size w w0 ∧ w0.cell? ⟨w.heap.size, 0, none⟩ = some (.pointer none) ∧ w0.frozen? ⟨w.heap.size, 0, none⟩ = false ∧ w.heap.size < w0.heap.size) := Lib.hid (fun w0 e => by
    subst e; exact ⟨(Below.refl _ _).alloc (Nat.le_refl _) _, by simp [go_sem], by simp [go_sem], by simp⟩)
  have gz : g < w.heap.size := World.block_lt_of_cell? w _ m1
  have ngw : ¬ g = w.heap.size := by omega
  clear q1
  by_cases hcc : c - (mid + 1) = 0
  case' pos =>
    rw [if_pos hcc] at I2
    have e1 : n - (mid + 1) = 0 := by omega
    replace I2 : Hid (∀ (W : World), PairsAt W g L → Calls Try.prog 77 #[.slice (some ⟨g, 2 * off, none⟩) 0 0] W (MapR W (HalQ ((L.drop (off + (mid + 1))).take (n - (mid + 1)))))) := Lib.hid (fun W hW => by
      have t := I2.out W hW
      rw [e1, hcc] at t
      rw [e1]
      exact t)
    have hcc2 : mid + 1 = c := by omega
    have hnc : n - c = 0 := by omega
    clear e1 hcc
  case' neg =>
    rw [if_neg hcc] at I2
    have hcc2 : ¬ c = mid + 1 := by omega
  all_goals
    go_enter Try.func77, Try.ntmps77
    go_wp2_with fail
    generalize e0 : w.alloc (Obj.cells #[Value.pointer none] 97) = w0
    obtain ⟨bel, k1, f1, sz⟩ := HB.out w0 e0
    have BL := Lib.hid bel
    replace m1 := cell_gr bel m1
    replace m2 := cell_gr bel m2
    replace PL := Lib.hid (PL.out.grow (bel.mono (Nat.le_refl _)))
    clear HB e0 bel
    go_region_held3 (fun w' => w'.cell? ⟨g, 2 * off + mid * 2, none⟩ = some (.int .i64 xk) ∧ w'.cell? ⟨g, 2 * off + mid * 2 + 1, none⟩ = some (xv))
      (first | exact ⟨m1, m2⟩ | exact ⟨cell_dr m1, cell_dr m2⟩ | exact ⟨cell_al _ m1, cell_al _ m2⟩ | exact ⟨cell_al _ (cell_dr m1), cell_al _ (cell_dr m2)⟩ | exact ⟨cell_al _ (cell_al _ m1), cell_al _ (cell_al _ m2)⟩ | exact ⟨cell_st (by dsimp only; omega) m1, cell_st (by dsimp only; omega) m2⟩ | exact ⟨cell_st (by dsimp only; omega) (cell_dr m1), cell_st (by dsimp only; omega) (cell_dr m2)⟩ | exact ⟨cell_al _ (cell_st (by dsimp only; omega) m1), cell_al _ (cell_st (by dsimp only; omega) m2)⟩ | exact ⟨cell_st (by dsimp only; omega) (cell_st (by dsimp only; omega) m1), cell_st (by dsimp only; omega) (cell_st (by dsimp only; omega) m2)⟩)
      (first
        | (go_at_call 77; (with_reducible refine (I1.out _ (by first | exact PL.out | exact PL.out.grow (Below.refl _ _).drew)).mono ?_); rintro e w1 ⟨x1, u1, rfl, e1, h1, st0⟩; have st : Below w0.heap.size w0 w1 := (by first | exact st0 | exact Below.of_dr st0); replace f1 := fro_gr st k1 f1; replace k1 := cell_gr st k1; replace m1 := cell_gr st m1; replace m2 := cell_gr st m2; replace BL := Lib.hid (BL.out.trans (st.mono BL.out.size)); replace sz := Nat.lt_of_lt_of_le sz st.size; replace PL := Lib.hid (PL.out.grow st); clear st st0; have E1 := Lib.hid e1; clear e1; have H1 := Lib.hid h1; clear h1)
        | (go_at_call 77; (with_reducible refine (I2.out _ (by first | exact PL.out | exact PL.out.grow (Below.refl _ _).drew)).mono ?_); rintro e w2 ⟨x2, u2, rfl, e2, h2, st0⟩; have st : Below w1.heap.size w1 w2 := (by first | exact st0 | exact Below.of_dr st0); replace f1 := fro_gr st k1 f1; replace k1 := cell_gr st k1; replace m1 := cell_gr st m1; replace m2 := cell_gr st m2; replace E1 := Lib.hid (E1.out.grow st); replace BL := Lib.hid (BL.out.trans (st.mono BL.out.size)); replace sz := Nat.lt_of_lt_of_le sz st.size; replace PL := Lib.hid (PL.out.grow st); clear st st0; have E2 := Lib.hid e2; clear e2; have H2 := Lib.hid h2; clear h2)
        | (go_at_call 101; (with_reducible refine (tie_any x1 x2 u1 u2 xk (.int .i64 xk) xv _ HX.out (by first | exact E1.out | exact E1.out.drew) (by first | exact E2.out | exact E2.out.drew) (by have := H1.out.sz; have := HN.out; simp at *; omega) (by have := H2.out.sz; have := HN.out; simp at *; omega)).mono ?_); rintro e w3 ⟨x3, u3, rfl, e3, rfl, st0⟩; have st : Below w2.heap.size w2 w3 := (by first | exact st0 | exact Below.of_dr st0); replace f1 := fro_gr st k1 f1; replace k1 := cell_gr st k1; replace m1 := cell_gr st m1; replace m2 := cell_gr st m2; replace E1 := Lib.hid (E1.out.grow st); replace E2 := Lib.hid (E2.out.grow st); replace BL := Lib.hid (BL.out.trans (st.mono BL.out.size)); replace sz := Nat.lt_of_lt_of_le sz st.size; clear st st0; have E3 := Lib.hid e3; clear e3))
    have FIN := Lib.hid (MapR.set (c := w.heap.size) (.pointer x3) k1 E3.out (HQ.out _ _ H1.out H2.out) BL.out (Nat.le_refl _))
    clear E1 E2 E3 H1 H2 BL PL I1 I2 HQ HN HX HH
    go_wp2_with fail
    exact bodyPost_ret (v := .agg #[.pointer x3]) (by simp [results, Try.results77, go_sem, k1, sz]) rfl FIN.out
theorem halve_all (g : Nat) (L : List (Int × Value)) (hL : L.length ≤ 2 ^ 40) : ∀ (m n off c : Nat) (p : Option Addr) (w : World), n ≤ m → n ≤ c → off + n ≤ L.length → c ≤ 2 ^ 45 → (0 < n → p = some ⟨g, 2 * off, none⟩) → PairsAt w g L →
    Calls Try.prog 77 #[.slice p n c] w (MapR w (HalQ ((L.drop off).take n))) := by
  intro m
  induction m with
  | zero =>
    intro n off c p w hm hc ho hcm hp pl
    obtain rfl : n = 0 := by omega
    rw [List.take_zero]
    exact halve_nil p c w
  | succ m ih =>
    intro n off c p w hm hc ho hcm hp pl
    by_cases h0 : n = 0
    · subst h0; rw [List.take_zero]; exact halve_nil p c w
    · rw [hp (by omega)]
      refine halve_step g off n c L w (by omega) hc ho hL hcm pl (Lib.hid (fun W hW => ih (n / 2) off c _ W (by omega) (by omega) (by omega) hcm (fun _ => rfl) hW)) (Lib.hid (fun W hW => ?_))
      refine ih (n - (n / 2 + 1)) (off + (n / 2 + 1)) (c - (n / 2 + 1)) _ W (by omega) (by omega) (by omega) (by omega) (fun h => ?_) hW
      rw [if_neg (by omega), show 2 * off + (n / 2 + 1) * 2 = 2 * (off + (n / 2 + 1)) from by omega]
end Go.Proofs.Ytbphmcjjanchlaa.Mis
