/- PressJohnson, walked. -/
import Derived.Test.YthbgeikdamajlaaPC9
import Derived.Test.YthbgeikdamajlaaPC4
import Derived.Test.YthbgeikdamajlaaPBA
namespace Go.Proofs.Ythbgeikdamajlaa
open Go.RowKit Go.Proofs.Ythbgeikdamajlaa.Prs Go.Proofs.Ythbgeikdamajlaa.Stb
set_option linter.unusedVariables false
set_option linter.unusedSimpArgs false

theorem OErr.of {D : List (Int × Int)} {O : List Int} {x : Int} (h : OErr D O x) (n64 : D.length ≤ 64) (dk : DOk D D.length) (io : IsOrd D.length O) : x = 0 := h.fn (.inr (.inr (.inl ⟨n64, dk, io, rfl⟩)))
theorem OErr.bad {D : List (Int × Int)} {O : List Int} {x y : Int} (h : OErr D O x) (g : DErr D y) (hy : y ≠ 0) : x = y := h.fn (g.order hy)
/-- No order is shorter. -/
theorem john {D : List (Int × Int)} {O U : List Int} (dk : ∀ i, 0 ≤ pd D i ∧ pd D i ≤ 1073741824 ∧ 0 ≤ sd D i ∧ sd D i ≤ 1073741824) (hO : IsOrd D.length O) (hU : IsOrd D.length U) (r : ∀ i j, i < j → j < D.length → RJ D (gi O i) (gi O j)) :
    mks (pd D) (sd D) (od O) D.length ≤ mks (pd D) (sd D) (od U) D.length :=
  johnson (pd D) (sd D) (fun i => (dk i).1) (fun i => (dk i).2.2.1) hO.ord hU.ord (fun x y xy yn => rj_jo D _ _ (r x y xy yn))

set_option maxRecDepth 100000 in
set_option maxHeartbeats 8000000 in
theorem pressJohnson_walk (p : Option Addr) (c : Nat) (D : List (Int × Int)) (w : World) (r : DmpR w p D) (ln : D.length ≤ 9223372036854775807) (q : Option Addr) (d : Nat) (O : List Int) (ro : NumR w q O) (lo : O.length ≤ 9223372036854775807) :
    Calls Try.prog 11 #[.slice p D.length c, .slice q O.length d] w fun e w' => e = .returned (.bool true) ∧ Below w.heap.size w w' := by
  have AL := Lib.hid alive_any
  by_cases big : 80 < D.length ∨ 80 < O.length
  · generalize D.length = n at *
    generalize O.length = m at *
    by_cases b1 : 80 < n
    · have b2 : decide (80 < n) = true := decide_eq_true b1
      clear big r ro
      go_enter Try.func11, Try.ntmps11
      go_wp2_with fail
      refine (AL.out _).mono ?_
      rintro e w1 ⟨rfl, st⟩
      go_wp2_with fail
      go_ret
      exact ⟨rfl, st⟩
    · have b2 : decide (80 < n) = false := decide_eq_false b1
      have b3 : 80 < m := by omega
      have b4 : decide (80 < m) = true := decide_eq_true b3
      clear big r ro
      go_enter Try.func11, Try.ntmps11
      go_wp2_with fail
      refine (AL.out _).mono ?_
      rintro e w1 ⟨rfl, st⟩
      go_wp2_with fail
      go_ret
      exact ⟨rfl, st⟩
  have lD : D.length ≤ 80 := by omega
  have lO : O.length ≤ 80 := by omega
  have CS := Lib.hid (Sequence_any p c D w r (by omega))
  have CM := Lib.hid (fun W (st : Below w.heap.size w W) => Makespan_any p c D q d O W (r.below st) (ro.below st) (by omega) (by omega))
  have CK := Lib.hid (fun W (st : Below w.heap.size w W) b U (hU : NumR W (some ⟨b, 0, none⟩) U) (lU : U.length ≤ 1000000) => Makespan_any p c D (some ⟨b, 0, none⟩) U.length U W (r.below st) hU (by omega) lU)
  have CU := Lib.hid (fun W b U (hU : NumR W (some ⟨b, 0, none⟩) U) (lU : U.length ≤ 1000000) => once_any (some ⟨b, 0, none⟩) U.length U D.length W hU lU (by omega))
  have CO := Lib.hid (fun W (st : Below w.heap.size w W) => once_any q d O D.length W (ro.below st) (by omega) (by omega))
  obtain ⟨n, hn⟩ : ∃ n, n = D.length := ⟨_, rfl⟩
  obtain ⟨m, hm⟩ : ∃ m, m = O.length := ⟨_, rfl⟩
  rw [← hn] at lD CS CM CK CU CO ⊢
  rw [← hm] at lO CM CO ⊢
  have HN := Lib.hid (show n = D.length ∧ m = O.length ∧ n ≤ 80 ∧ m ≤ 80 from ⟨hn, hm, lD, lO⟩)
  have l1 : decide (80 < n) = false := decide_eq_false (by omega)
  have l2 : decide (80 < m) = false := decide_eq_false (by omega)
  have l3 : ¬ 80 < n := by omega
  have l4 : ¬ 80 < m := by omega
  clear hn hm lD lO r ro ln lo big
  go_enter Try.func11, Try.ntmps11
  go_wp2_with fail
  refine CS.out.mono ?_
  rintro e w1 ⟨x, v, m1, rfl, de, st1, hbad, hgood⟩
  have DE := Lib.hid de
  have S1 := Lib.hid st1
  have HG := Lib.hid hgood
  have HB := Lib.hid hbad
  clear CS st1 l1 l2 l3 l4 hgood hbad de
  by_cases x0 : x = 0
  case neg =>
    obtain ⟨rfl, rfl⟩ := HB.out x0
    go_wp2_with fail
    refine (CM.out _ S1.out).mono ?_
    rintro e w2 ⟨y, mm, rfl, QM, st2⟩
    obtain rfl : y = x := QM.1.bad DE.out x0
    have S2 := Lib.hid (S1.out.trans (st2.mono S1.out.size))
    have x1 : (y == 0) = false := by simpa using x0
    have x2 : decide (y = 0) = false := decide_eq_false x0
    clear CM st2 QM HG HB CK CU CO
    go_wp2_with fail
    refine (AL.out _).mono ?_
    rintro e w3 ⟨rfl, st3⟩
    go_wp2_with fail
    go_ret
    exact ⟨rfl, S2.out.trans (st3.mono S2.out.size)⟩
  subst x0
  obtain ⟨b, U, rfl, hb, hU, iU, hm1, hr⟩ := HG.out rfl
  obtain ⟨n64, dk⟩ := DE.out.good rfl
  have DK := Lib.hid (show D.length ≤ 64 ∧ DOk D D.length from ⟨n64, dk⟩)
  have IU := Lib.hid iU
  have HR := Lib.hid hr
  have NU := Lib.hid hU
  have M1 := Lib.hid hm1
  have LU := Lib.hid (show U.length ≤ 1000000 by rw [iU.1]; omega)
  clear hb hU iU hr n64 dk HG HB hm1
  go_wp2_with fail
  refine (CM.out _ S1.out).mono ?_
  rintro e w2 ⟨y, mm, rfl, QM, st2⟩
  have QM := Lib.hid QM
  have S2 := Lib.hid (S1.out.trans (st2.mono S1.out.size))
  have NU2 := Lib.hid (NU.out.below st2)
  clear CM st2 NU S1
  go_wp2_with fail
  refine (CK.out _ S2.out b U NU2.out LU.out).mono ?_
  rintro e w3 ⟨z, kk, rfl, QK, st3⟩
  obtain rfl : z = 0 := QK.1.of DK.out.1 DK.out.2 IU.out
  obtain rfl : kk = m1 := by rw [M1.out]; exact QK.2.2 rfl
  have S3 := Lib.hid (S2.out.trans (st3.mono S2.out.size))
  have NU3 := Lib.hid (NU2.out.below st3)
  clear CK st3 NU2 S2 QK
  go_wp2_with fail
  refine (CU.out _ b U NU3.out LU.out).mono ?_
  rintro e w4 ⟨o, rfl, ho, st4⟩
  obtain rfl : o = true := ho.2 (by rw [HN.out.1]; exact IU.out)
  have S4 := Lib.hid (S3.out.trans (st4.mono S3.out.size))
  clear CU st4 ho S3 NU3
  by_cases y0 : y = 0
  · subst y0
    have IO := Lib.hid QM.out.1.good.2.2
    have GE := Lib.hid (show kk ≤ mm by rw [M1.out, QM.out.2.2 rfl]; exact john DK.out.2.all IU.out IO.out HR.out)
    have g1 : decide (kk ≤ mm) = true := decide_eq_true GE.out
    go_wp2_with fail
    refine (CO.out _ S4.out).mono ?_
    rintro e w5 ⟨o, rfl, ho, st5⟩
    obtain rfl : o = true := ho.2 (by rw [HN.out.1]; exact IO.out)
    have S5 := Lib.hid (S4.out.trans (st5.mono S4.out.size))
    clear CO st5 ho S4
    go_wp2_with fail
    refine (AL.out _).mono ?_
    rintro e w6 ⟨rfl, st6⟩
    go_wp2_with fail
    go_ret
    exact ⟨rfl, S5.out.trans (st6.mono S5.out.size)⟩
  · obtain rfl : mm = 0 := QM.out.2.1 y0
    have y1 : (y == 0) = false := by simpa using y0
    have y2 : decide (y = 0) = false := decide_eq_false y0
    clear CO QM
    go_wp2_with fail
    refine (AL.out _).mono ?_
    rintro e w6 ⟨rfl, st6⟩
    go_wp2_with fail
    go_ret
    exact ⟨rfl, S4.out.trans (st6.mono S4.out.size)⟩
end Go.Proofs.Ythbgeikdamajlaa
