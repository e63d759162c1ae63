/- The laws' stands and looks. -/
import Derived.Test.YtbphmcjjanchlaaTWJ
namespace Go.Proofs.Ytbphmcjjanchlaa
open Go.RowKit Go.Proofs.Ytbphmcjjanchlaa.Mii
set_option linter.unusedVariables false
set_option linter.unusedSimpArgs false

set_option maxRecDepth 100000 in
theorem stands_any (p : Option Addr) (t : Tr Int Value) (L : List (Int × Int)) (i : Int) (s : Option Addr) (c : Nat) (w : World) (h : At w p t) (hL : t.rows = encL L) (r : RowsR w s L) (hz : L.length ≤ 1000000) (i1 : -9223372036854775808 ≤ i) (i2 : i ≤ 9223372036854775807) :
    Calls Try.prog 18 #[.agg #[.pointer p], .slice s L.length c, .int .i64 i] w fun e w' => e = .returned (.bool true) ∧ Below w.heap.size w w' := by
  have hs := sz_enc hL
  have CA := Lib.hid (fun W hW => At_any p t i W hW i1 i2 (by omega))
  rw [hL, atV_enc] at CA
  obtain ⟨a, b, d, hv⟩ := rowV_parts L i
  rw [hv] at CA
  have CW := Lib.hid (fun W hW => row_any L i a b d s c W hv hW hz)
  have TT := Lib.hid h
  have RR := Lib.hid r
  have HB := Lib.hid (boxM w p)
  clear h hL hs hv r
  generalize L.length = n at *
  go_enter Try.func18, Try.ntmps18
  go_wp2_with fail
  generalize e0 : w.alloc (Obj.cells #[Value.pointer p] 35) = w0
  obtain ⟨k1, f1, sz, bel⟩ := HB.out w0 e0
  replace TT := Lib.hid (TT.out.below bel (Nat.le_refl _))
  replace RR := Lib.hid (RR.out.below bel)
  have BL := Lib.hid bel
  clear HB e0 bel f1
  refine (CA.out _ TT.out).mono ?_
  rintro e w1 ⟨rfl, st⟩
  replace RR := Lib.hid (RR.out.grow st)
  replace BL := Lib.hid (BL.out.trans (st.mono BL.out.size))
  clear st CA
  go_wp2_with fail
  refine (CW.out _ RR.out).mono ?_
  rintro e w2 ⟨rfl, st⟩
  replace BL := Lib.hid (BL.out.trans (st.mono BL.out.size))
  go_wp2_with fail
  go_ret
  exact ⟨rfl, BL.out⟩

set_option maxRecDepth 100000 in
set_option maxHeartbeats 4000000 in
theorem looks_any (p : Option Addr) (t : Tr Int Value) (L : List (Int × Int)) (k : Int) (s : Option Addr) (c : Nat) (w : World) (h : At w p t) (hL : t.rows = encL L) (sa : Asc L) (r : RowsR w s L) (hz : L.length ≤ 1000000) :
    Calls Try.prog 17 #[.agg #[.pointer p], .slice s L.length c, .int .i64 k] w fun e w' => e = .returned (.bool true) ∧ Below w.heap.size w w' := by
  have hs := sz_enc hL
  have hn : rnk L k ≤ L.length := rnk_le L k
  have ta : Asc t.rows := by rw [hL]; exact enc_asc sa
  have CK := Lib.hid (fun W hW => rRank_any s c L k W hW hz)
  have CI := Lib.hid (fun W hW => Find_any s c L k W hW hz)
  have CG := Lib.hid (fun W hW => Get_any p t k W hW ta)
  have CR := Lib.hid (fun W hW => Rank_any p t k W hW ta (by omega))
  have CF := Lib.hid (fun W hW => Floor_any p t L k W hW hL sa hz)
  have CC := Lib.hid (fun W hW => Ceil_any p t L k W hW hL sa hz)
  rw [hL, rnk_enc] at CR
  rw [hL, getV_enc] at CG
  have TT := Lib.hid h
  have RR := Lib.hid r
  have HB := Lib.hid (boxM w p)
  obtain ⟨n, hn2⟩ : ∃ n : Int, n = (rnk L k : Int) := ⟨_, rfl⟩
  have hn0 : 0 ≤ n := by omega
  have hn1 : n ≤ 1000000 := by omega
  rw [← hn2] at CK CR CC CF
  have q1 := IntWalk.i64_in (n - 1) (by omega)
  obtain ⟨a, b, d, hv⟩ := rowV_parts L n
  have CW := Lib.hid (fun W hW => row_any L n a b d s c W hv hW hz)
  rw [hv] at CC
  obtain ⟨a', b', d', hv'⟩ := rowV_parts L (if (val L k).isSome = true then n else n - 1)
  have CV := Lib.hid (fun W hW => row_any L (if (val L k).isSome = true then n else n - 1) a' b' d' s c W hv' hW hz)
  rw [hv'] at CF
  have FQ : (val L k = none ∨ ∃ jj : Nat, jj < L.length ∧ val L k = some (vd L jj)) := by
    cases hf : val L k with
    | none => exact .inl rfl
    | some u =>
      refine .inr ?_
      obtain ⟨i, hi, e⟩ := List.getElem_of_mem (val_mem hf)
      exact ⟨i, hi, by rw [show vd L i = u by have := kvd hi; rw [e] at this; exact (Prod.mk.inj this).2]⟩
  clear h hL hs hv hv' r sa ta hn hn2 FQ
  generalize hl : L.length = l at *
  go_enter Try.func17, Try.ntmps17
  go_wp2_with fail
  generalize e0 : w.alloc (Obj.cells #[Value.pointer p] 35) = w0
  obtain ⟨k1, f1, sz, bel⟩ := HB.out w0 e0
  replace TT := Lib.hid (TT.out.below bel (Nat.le_refl _))
  replace RR := Lib.hid (RR.out.below bel)
  have BL := Lib.hid bel
  clear HB e0 bel f1
  refine (CK.out _ RR.out).mono ?_
  rintro e w1 ⟨rfl, n1, rfl⟩
  have st : Below w0.heap.size w0 (w0.drewN n1) := below_drewN (Below.refl _ _) _
  generalize w0.drewN n1 = w1 at *
  replace k1 := cell_gr st k1
  replace TT := Lib.hid (TT.out.grow st)
  replace RR := Lib.hid (RR.out.grow st)
  replace BL := Lib.hid (BL.out.trans (st.mono BL.out.size))
  clear st CK
  go_wp2_with fail
  refine (CI.out _ RR.out).mono ?_
  rintro e w2 ⟨⟨z, rfl, hz2⟩, n2, rfl⟩
  have st : Below w1.heap.size w1 (w1.drewN n2) := below_drewN (Below.refl _ _) _
  generalize w1.drewN n2 = w2 at *
  replace k1 := cell_gr st k1
  replace TT := Lib.hid (TT.out.grow st)
  replace RR := Lib.hid (RR.out.grow st)
  replace BL := Lib.hid (BL.out.trans (st.mono BL.out.size))
  clear st CI
  have HF : Hid ((val L k = none ∧ z = -1) ∨ ∃ jj : Nat, jj < L.length ∧ z = jj ∧ val L k = some (vd L jj)) := Lib.hid (by
    rcases hz2 with h | ⟨jj, h1, h2, _, h3⟩
    · exact .inl h
    · exact .inr ⟨jj, h1, h2, h3⟩)
  clear hz2
  go_wp2_with fail
  refine (CG.out _ TT.out).mono ?_
  rintro e w3 ⟨rfl, st⟩
  replace k1 := cell_gr st k1
  replace TT := Lib.hid (TT.out.grow st)
  replace RR := Lib.hid (RR.out.grow st)
  replace BL := Lib.hid (BL.out.trans (st.mono BL.out.size))
  clear st CG
  rcases HF.out with ⟨hv, rfl⟩ | ⟨jj, hjj, rfl, hv⟩
  · simp only [hv, Option.getD_none, Option.isSome_none, Bool.false_eq_true, if_false] at CV CF ⊢
    clear hv HF
    go_wp2_with fail
    refine (CR.out _ TT.out).mono ?_
    rintro e w4 ⟨rfl, st⟩
    replace k1 := cell_gr st k1
    replace TT := Lib.hid (TT.out.grow st)
    replace RR := Lib.hid (RR.out.grow st)
    replace BL := Lib.hid (BL.out.trans (st.mono BL.out.size))
    clear st CR
    go_wp2_with fail
    refine (CF.out _ TT.out).mono ?_
    rintro e w5 ⟨rfl, st⟩
    replace k1 := cell_gr st k1
    replace TT := Lib.hid (TT.out.grow st)
    replace RR := Lib.hid (RR.out.grow st)
    replace BL := Lib.hid (BL.out.trans (st.mono BL.out.size))
    clear st CF
    go_wp2_with fail
    refine (CC.out _ TT.out).mono ?_
    rintro e w6 ⟨rfl, st⟩
    replace RR := Lib.hid (RR.out.grow st)
    replace BL := Lib.hid (BL.out.trans (st.mono BL.out.size))
    clear st CC
    go_wp2_with fail
    refine (CV.out _ RR.out).mono ?_
    rintro e w7 ⟨rfl, st⟩
    replace RR := Lib.hid (RR.out.grow st)
    replace BL := Lib.hid (BL.out.trans (st.mono BL.out.size))
    clear st CV
    go_wp2_with fail
    refine (CW.out _ RR.out).mono ?_
    rintro e w8 ⟨rfl, st⟩
    replace BL := Lib.hid (BL.out.trans (st.mono BL.out.size))
    go_wp2_with fail
    go_ret
    exact ⟨rfl, BL.out⟩
  · simp only [hv, Option.getD_some, Option.isSome_some, if_true] at CV CF ⊢
    clear hv HF
    go_wp2_with fail
    refine (CR.out _ TT.out).mono ?_
    rintro e w4 ⟨rfl, st⟩
    replace k1 := cell_gr st k1
    replace TT := Lib.hid (TT.out.grow st)
    replace RR := Lib.hid (RR.out.grow st)
    replace BL := Lib.hid (BL.out.trans (st.mono BL.out.size))
    clear st CR
    obtain ⟨xa, rfl, kx, cx, dx⟩ := RR.out jj hjj
    rw [hl] at hjj
    have j1 : (0 : Int) ≤ (jj : Int) := by omega
    have j2 : (jj : Int) < (l : Int) := by omega
    generalize vd L jj = vv at *
    go_wp2_with fail
    refine (CF.out _ TT.out).mono ?_
    rintro e w5 ⟨rfl, st⟩
    replace k1 := cell_gr st k1
    replace TT := Lib.hid (TT.out.grow st)
    replace RR := Lib.hid (RR.out.grow st)
    replace BL := Lib.hid (BL.out.trans (st.mono BL.out.size))
    clear st CF cx dx
    go_wp2_with fail
    refine (CC.out _ TT.out).mono ?_
    rintro e w6 ⟨rfl, st⟩
    replace RR := Lib.hid (RR.out.grow st)
    replace BL := Lib.hid (BL.out.trans (st.mono BL.out.size))
    clear st CC
    go_wp2_with fail
    refine (CV.out _ RR.out).mono ?_
    rintro e w7 ⟨rfl, st⟩
    replace RR := Lib.hid (RR.out.grow st)
    replace BL := Lib.hid (BL.out.trans (st.mono BL.out.size))
    clear st CV
    go_wp2_with fail
    refine (CW.out _ RR.out).mono ?_
    rintro e w8 ⟨rfl, st⟩
    replace BL := Lib.hid (BL.out.trans (st.mono BL.out.size))
    go_wp2_with fail
    go_ret
    exact ⟨rfl, BL.out⟩
end Go.Proofs.Ytbphmcjjanchlaa
