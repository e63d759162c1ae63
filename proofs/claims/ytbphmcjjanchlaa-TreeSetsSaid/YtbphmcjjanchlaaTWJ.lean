/- Floor, Ceil, and the laws' row, stands and looks. -/
import Derived.Test.YtbphmcjjanchlaaTWH
namespace Go.Proofs.Ytbphmcjjanchlaa
open Go.RowKit Go.Proofs.Ytbphmcjjanchlaa.Mii
set_option linter.unusedVariables false
set_option linter.unusedSimpArgs false

/-- Row number i, as a map tells it. -/
def RowV (L : List (Int × Int)) (i : Int) : Value := if 0 ≤ i ∧ i < L.length then .tuple #[.int .i64 (kd L i.toNat), .int .i64 (vd L i.toNat), .bool true] else .tuple #[.int .i64 0, .int .i64 0, .bool false]
theorem rowV_parts (L : List (Int × Int)) (i : Int) : ∃ x y b, RowV L i = .tuple #[.int .i64 x, .int .i64 y, .bool b] := by
  unfold RowV; split
  · exact ⟨_, _, _, rfl⟩
  · exact ⟨_, _, _, rfl⟩
theorem atV_enc (L : List (Int × Int)) (i : Int) : AtV (Mii.rowAt (encL L) i) = RowV L i := by
  unfold RowV
  by_cases c : 0 ≤ i ∧ i < L.length
  · rw [if_pos c]
    obtain ⟨j, rfl⟩ : ∃ j : Nat, i = j := ⟨i.toNat, by omega⟩
    rw [rowAt_enc (by omega), Int.toNat_natCast]; rfl
  · rw [if_neg c]
    unfold Mii.rowAt
    by_cases d : 0 ≤ i
    · rw [if_pos d, List.getElem?_eq_none (by rw [encL_len]; omega)]; rfl
    · rw [if_neg d]; rfl
theorem rnk_enc (L : List (Int × Int)) (k : Int) : rnk (encL L) k = rnk L k := by
  unfold rnk encL
  rw [List.countP_map]; rfl
theorem getV_enc (L : List (Int × Int)) (k : Int) : GetV (val (encL L) k) = .tuple #[.int .i64 ((val L k).getD 0), .bool (val L k).isSome] := by
  rw [enc_val]; cases val L k <;> rfl

set_option maxRecDepth 100000 in
theorem Floor_any (p : Option Addr) (t : Tr Int Value) (L : List (Int × Int)) (k : Int) (w : World) (h : At w p t) (hL : t.rows = encL L) (sa : Asc L) (hz : L.length ≤ 1000000) :
    Calls Try.prog 57 #[.agg #[.pointer p], .int .i64 k] w fun e w' => e = .returned (RowV L (if (val L k).isSome = true then (rnk L k : Int) else (rnk L k : Int) - 1)) ∧ Below w.heap.size w w' := by
  have hs := sz_enc hL
  have hn : rnk L k ≤ L.length := rnk_le L k
  have ta : Asc t.rows := by rw [hL]; exact enc_asc sa
  have CR := Lib.hid (fun W hW => Rank_any p t k W hW ta (by omega))
  have CG := Lib.hid (fun W hW => Get_any p t k W hW ta)
  have CA := Lib.hid (fun i W hW h1 h2 => At_any p t i W hW h1 h2 (by omega))
  rw [hL, rnk_enc] at CR
  rw [hL, getV_enc] at CG
  simp only [hL, atV_enc] at CA
  have TT := Lib.hid h
  have HB := Lib.hid (boxM w p)
  have HL := Lib.hid hz
  clear h hL ta sa hs hz
  generalize (val L k).getD 0 = x at *
  generalize hn' : rnk L k = n at *
  have q1 := IntWalk.i64_in ((n : Int) - 1) (by have := HL.out; omega)
  clear hn'
  cases hf : (val L k).isSome with
  | true =>
    simp only [hf, if_true] at CG ⊢
    obtain ⟨a, b, c, hv⟩ := rowV_parts L (n : Int)
    have CA1 := Lib.hid (fun W hW => CA.out (n : Int) W hW (by omega) (by have := HL.out; omega))
    rw [hv] at CA1 ⊢
    clear CA hv hf
    go_enter Try.func57, Try.ntmps57
    go_wp2_with fail
    generalize e0 : w.alloc (Obj.cells #[Value.pointer p] 35) = w0
    obtain ⟨k1, f1, sz, bel⟩ := HB.out w0 e0
    replace TT := Lib.hid (TT.out.below bel (Nat.le_refl _))
    have BL := Lib.hid bel
    clear HB e0 bel f1
    refine (CR.out _ TT.out).mono ?_
    rintro e w1 ⟨rfl, st⟩
    replace k1 := cell_gr st k1
    replace TT := Lib.hid (TT.out.grow st)
    replace BL := Lib.hid (BL.out.trans (st.mono BL.out.size))
    clear st CR
    go_wp2_with fail
    refine (CG.out _ TT.out).mono ?_
    rintro e w2 ⟨rfl, st⟩
    replace k1 := cell_gr st k1
    replace TT := Lib.hid (TT.out.grow st)
    replace BL := Lib.hid (BL.out.trans (st.mono BL.out.size))
    clear st CG
    go_wp2_with fail
    refine (CA1.out _ TT.out).mono ?_
    rintro e w3 ⟨rfl, st⟩
    replace BL := Lib.hid (BL.out.trans (st.mono BL.out.size))
    go_wp2_with fail
    exact bodyPost_ret (v := .tuple #[.int .i64 a, .int .i64 b, .bool c]) (by simp [results, Try.results57, go_sem]) rfl ⟨rfl, BL.out⟩
  | false =>
    simp only [hf, Bool.false_eq_true, if_false] at CG ⊢
    obtain ⟨a, b, c, hv⟩ := rowV_parts L ((n : Int) - 1)
    have CA1 := Lib.hid (fun W hW => CA.out ((n : Int) - 1) W hW (by omega) (by have := HL.out; omega))
    rw [hv] at CA1 ⊢
    clear CA hv hf
    go_enter Try.func57, Try.ntmps57
    go_wp2_with fail
    generalize e0 : w.alloc (Obj.cells #[Value.pointer p] 35) = w0
    obtain ⟨k1, f1, sz, bel⟩ := HB.out w0 e0
    replace TT := Lib.hid (TT.out.below bel (Nat.le_refl _))
    have BL := Lib.hid bel
    clear HB e0 bel f1
    refine (CR.out _ TT.out).mono ?_
    rintro e w1 ⟨rfl, st⟩
    replace k1 := cell_gr st k1
    replace TT := Lib.hid (TT.out.grow st)
    replace BL := Lib.hid (BL.out.trans (st.mono BL.out.size))
    clear st CR
    go_wp2_with fail
    refine (CG.out _ TT.out).mono ?_
    rintro e w2 ⟨rfl, st⟩
    replace k1 := cell_gr st k1
    replace TT := Lib.hid (TT.out.grow st)
    replace BL := Lib.hid (BL.out.trans (st.mono BL.out.size))
    clear st CG
    go_wp2_with fail
    refine (CA1.out _ TT.out).mono ?_
    rintro e w3 ⟨rfl, st⟩
    replace BL := Lib.hid (BL.out.trans (st.mono BL.out.size))
    go_wp2_with fail
    exact bodyPost_ret (v := .tuple #[.int .i64 a, .int .i64 b, .bool c]) (by simp [results, Try.results57, go_sem]) rfl ⟨rfl, BL.out⟩

set_option maxRecDepth 100000 in
theorem Ceil_any (p : Option Addr) (t : Tr Int Value) (L : List (Int × Int)) (k : Int) (w : World) (h : At w p t) (hL : t.rows = encL L) (sa : Asc L) (hz : L.length ≤ 1000000) :
    Calls Try.prog 58 #[.agg #[.pointer p], .int .i64 k] w fun e w' => e = .returned (RowV L (rnk L k : Int)) ∧ Below w.heap.size w w' := by
  have hs := sz_enc hL
  have hn : rnk L k ≤ L.length := rnk_le L k
  have ta : Asc t.rows := by rw [hL]; exact enc_asc sa
  have CR := Lib.hid (fun W hW => Rank_any p t k W hW ta (by omega))
  have CA := Lib.hid (fun W hW => At_any p t (rnk L k : Int) W hW (by omega) (by omega) (by omega))
  rw [hL, rnk_enc] at CR
  rw [hL, atV_enc] at CA
  have TT := Lib.hid h
  have HB := Lib.hid (boxM w p)
  obtain ⟨a, b, c, hv⟩ := rowV_parts L (rnk L k : Int)
  rw [hv] at CA ⊢
  clear h hL ta sa hs hz hv
  generalize rnk L k = n at *
  go_enter Try.func58, Try.ntmps58
  go_wp2_with fail
  generalize e0 : w.alloc (Obj.cells #[Value.pointer p] 35) = w0
  obtain ⟨k1, f1, sz, bel⟩ := HB.out w0 e0
  replace TT := Lib.hid (TT.out.below bel (Nat.le_refl _))
  have BL := Lib.hid bel
  clear HB e0 bel f1
  go_region_held3 (fun w' => w'.cell? ⟨w.heap.size, 0, none⟩ = some (.pointer p))
    (first | exact k1 | exact cell_dr k1)
    (first
      | (go_at_call 39; (with_reducible refine (CR.out _ (by first | exact TT.out | exact TT.out.drew)).mono ?_); rintro e w1 ⟨rfl, st0⟩; have st : Below w0.heap.size w0 w1 := (by first | exact st0 | exact Below.of_dr st0); replace k1 := cell_gr st k1; replace TT := Lib.hid (TT.out.grow st); replace BL := Lib.hid (BL.out.trans (st.mono BL.out.size)); clear st st0)
      | (go_at_call 60; (with_reducible refine (CA.out _ (by first | exact TT.out | exact TT.out.drew)).mono ?_); rintro e w2 ⟨rfl, st0⟩; have st : Below w1.heap.size w1 w2 := (by first | exact st0 | exact Below.of_dr st0); replace k1 := cell_gr st k1; replace BL := Lib.hid (BL.out.trans (st.mono BL.out.size)); clear st st0))
  go_wp2_with fail
  exact bodyPost_ret (v := .tuple #[.int .i64 a, .int .i64 b, .bool c]) (by simp [results, Try.results58, go_sem]) rfl ⟨rfl, BL.out⟩

set_option maxRecDepth 100000 in
theorem row_any (L : List (Int × Int)) (i x y : Int) (b : Bool) (s : Option Addr) (c : Nat) (w : World) (h : RowV L i = .tuple #[.int .i64 x, .int .i64 y, .bool b]) (r : RowsR w s L) (hz : L.length ≤ 1000000) :
    Calls Try.prog 59 #[.int .i64 x, .int .i64 y, .bool b, .slice s L.length c, .int .i64 i] w fun e w' => e = .returned (.bool true) ∧ Below w.heap.size w w' := by
  unfold RowV at h
  by_cases d : 0 ≤ i ∧ i < L.length
  · rw [if_pos d] at h
    simp at h
    obtain ⟨rfl, rfl, rfl⟩ := h
    obtain ⟨j, rfl⟩ : ∃ j : Nat, i = j := ⟨i.toNat, by omega⟩
    obtain ⟨xa, rfl, kx, cx, dx⟩ := r j (by omega)
    have i1 : (0 : Int) ≤ (j : Int) := by omega
    have i2 : (j : Int) < (L.length : Int) := by omega
    have i3 : ¬ (j : Int) < 0 := by omega
    rw [Int.toNat_natCast]
    clear d r
    generalize kd L j = u at *
    generalize vd L j = v at *
    generalize L.length = n at *
    go_enter Try.func59, Try.ntmps59
    go_wp2_with fail
    go_ret
    exact ⟨rfl, Below.refl _ _⟩
  · rw [if_neg d] at h
    simp at h
    obtain ⟨rfl, rfl, rfl⟩ := h
    generalize L.length = n at *
    clear r
    by_cases e : i < 0
    · clear d
      go_enter Try.func59, Try.ntmps59
      go_wp2_with fail
      go_ret
      exact ⟨rfl, Below.refl _ _⟩
    · have f : (n : Int) ≤ i := by omega
      clear d
      go_enter Try.func59, Try.ntmps59
      go_wp2_with fail
      go_ret
      exact ⟨rfl, Below.refl _ _⟩
end Go.Proofs.Ytbphmcjjanchlaa
