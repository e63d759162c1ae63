/- PressCritical, walked. -/
import Derived.Test.YtdgalnabpoepfaaPC3
import Derived.Test.YtdgalnabpoepfaaPC4
import Derived.Test.YtdgalnabpoepfaaPBA
namespace Go.Proofs.Ytdgalnabpoepfaa
open Go.RowKit Go.Proofs.Ytdgalnabpoepfaa.Prs
set_option linter.unusedVariables false
set_option linter.unusedSimpArgs false

/-- The greatest so far, and where it first came. -/
def Bst (F : Nat → Int) (i : Nat) (b a : Int) : Prop := (i = 0 ∧ b = -1 ∧ a = -1) ∨ ∃ j, j < i ∧ a = (j : Nat) ∧ b = F j ∧ (∀ l, l < i → F l ≤ F j) ∧ ∀ l, l < j → F l < F j
theorem Bst.up {F : Nat → Int} {i : Nat} {b a : Int} (h : Bst F i b a) (h0 : 0 ≤ F i) (g : b < F i) : Bst F (i + 1) (F i) i := by
  rcases h with ⟨rfl, rfl, rfl⟩ | ⟨j, j1, rfl, rfl, j2, j3⟩
  · exact .inr ⟨0, by omega, rfl, rfl, fun l hl => by rw [show l = 0 by omega]; exact Int.le_refl _, fun l hl => by omega⟩
  · refine .inr ⟨i, by omega, rfl, rfl, fun l hl => ?_, fun l hl => ?_⟩
    · by_cases e : l = i
      · rw [e]; exact Int.le_refl _
      · have := j2 l (by omega); omega
    · have := j2 l hl; omega
theorem Bst.keep {F : Nat → Int} {i : Nat} {b a : Int} (h : Bst F i b a) (h0 : 0 ≤ F i) (g : ¬ b < F i) : Bst F (i + 1) b a := by
  rcases h with ⟨rfl, rfl, rfl⟩ | ⟨j, j1, rfl, rfl, j2, j3⟩
  · omega
  · refine .inr ⟨j, by omega, rfl, rfl, fun l hl => ?_, j3⟩
    by_cases e : l = i
    · rw [e]; omega
    · exact j2 l (by omega)
theorem Bst.low {F : Nat → Int} {i : Nat} {b a : Int} (h : Bst F i b a) (h0 : ∀ l, 0 ≤ F l ∧ F l ≤ 137438953472) : -1 ≤ b ∧ b ≤ 137438953472 := by
  rcases h with ⟨rfl, rfl, rfl⟩ | ⟨j, j1, rfl, rfl, j2, j3⟩
  · omega
  · have := h0 j; omega
/-- At the end it is the makespan, and where Critical says. -/
theorem Bst.done {D : List (Int × Int)} {O : List Int} {n : Nat} {b a k : Int} (hn : n = D.length) (n0 : 0 < n) (hP : ∀ i, 0 ≤ pd D i) (h : Bst (vl (pd D) (sd D) (od O) n) n b a) (hc : CrQ D O 0 k) : mks (pd D) (sd D) (od O) n = b ∧ k = a := by
  rcases h with ⟨rfl, -, -⟩ | ⟨j, j1, rfl, rfl, j2, j3⟩
  · omega
  · obtain ⟨m, m1, m2⟩ := mks_at (pd D) (sd D) (od O) (fun _ => hP _) n n0
    have g := mks_ge (pd D) (sd D) (od O) n j j1
    have g2 := j2 m m1
    have e : mks (pd D) (sd D) (od O) n = vl (pd D) (sd D) (od O) n j := by omega
    refine ⟨e, ?_⟩
    rcases hc.2.2 rfl with ⟨c, _⟩ | ⟨k', k1, rfl, k2, k3⟩
    · omega
    · rw [← hn] at k1 k2 k3
      rcases Nat.lt_trichotomy k' j with l | l | l
      · have := j3 k' l; omega
      · rw [l]
      · exact absurd e.symm (k3 j l)
theorem vl_bd {D : List (Int × Int)} {O : List Int} {n : Nat} (n64 : n ≤ 64) (dk : ∀ i, 0 ≤ pd D i ∧ pd D i ≤ 1073741824 ∧ 0 ≤ sd D i ∧ sd D i ≤ 1073741824) (k : Nat) (hk : k < n) : 0 ≤ vl (pd D) (sd D) (od O) n k ∧ vl (pd D) (sd D) (od O) n k ≤ 137438953472 := by
  have a := sm_bd (F := fun j => pd D (od O j)) (fun k => ⟨(dk _).1, (dk _).2.1⟩) (k + 1)
  have b := sm_bd (F := fun j => sd D (od O j)) (fun k => ⟨(dk _).2.2.1, (dk _).2.2.2⟩) n
  have c := sm_bd (F := fun j => sd D (od O j)) (fun k => ⟨(dk _).2.2.1, (dk _).2.2.2⟩) k
  have d := sm_mono (F := fun j => sd D (od O j)) (m := k) (n := n) (fun j _ => (dk _).2.2.1) (by omega)
  unfold vl; omega

set_option maxRecDepth 100000 in
set_option maxHeartbeats 8000000 in
theorem pressCritical_walk (p : Option Addr) (c : Nat) (D : List (Int × Int)) (w : World) (r : DmpR w p D) (ln : D.length ≤ 9223372036854775807) (q : Option Addr) (d : Nat) (O : List Int) (ro : NumR w q O) (lo : O.length ≤ 9223372036854775807) :
    Calls Try.prog 9 #[.slice p D.length c, .slice q O.length d] w fun e w' => e = .returned (.bool true) ∧ Below w.heap.size w w' := by
  have AL := Lib.hid alive_any
  by_cases big : 64 < D.length ∨ 64 < O.length
  · generalize D.length = n at *
    generalize O.length = m at *
    by_cases b1 : 64 < n
    · have b2 : decide (64 < n) = true := decide_eq_true b1
      clear big r ro
      go_enter Try.func9, Try.ntmps9
      go_wp2_with fail
      refine (AL.out _).mono ?_
      rintro e w1 ⟨rfl, st⟩
      go_wp2_with fail
      go_ret
      exact ⟨rfl, st⟩
    · have b2 : decide (64 < n) = false := decide_eq_false b1
      have b3 : 64 < m := by omega
      have b4 : decide (64 < m) = true := decide_eq_true b3
      clear big r ro
      go_enter Try.func9, Try.ntmps9
      go_wp2_with fail
      refine (AL.out _).mono ?_
      rintro e w1 ⟨rfl, st⟩
      go_wp2_with fail
      go_ret
      exact ⟨rfl, st⟩
  have lD : D.length ≤ 64 := by omega
  have lO : O.length ≤ 64 := by omega
  have CM := Lib.hid (Makespan_any p c D q d O w r ro (by omega) (by omega))
  have CC := Lib.hid (fun W (st : Below w.heap.size w W) => Critical_any p c D q d O W (r.below st) (ro.below st) (by omega) (by omega))
  have CO := Lib.hid (fun W (st : Below w.heap.size w W) => once_any q d O D.length W (ro.below st) (by omega) (by omega))
  have R := Lib.hid r
  have RO := Lib.hid ro
  obtain ⟨n, hn⟩ : ∃ n, n = D.length := ⟨_, rfl⟩
  obtain ⟨m, hm⟩ : ∃ m, m = O.length := ⟨_, rfl⟩
  rw [← hn] at lD CM CC CO ⊢
  rw [← hm] at lO CM CC CO ⊢
  have HN := Lib.hid (show n = D.length ∧ m = O.length ∧ n ≤ 64 ∧ m ≤ 64 from ⟨hn, hm, lD, lO⟩)
  have l1 : decide (64 < n) = false := decide_eq_false (by omega)
  have l2 : decide (64 < m) = false := decide_eq_false (by omega)
  have l3 : ¬ 64 < n := by omega
  have l4 : ¬ 64 < m := by omega
  clear hn hm lD lO r ro ln lo big
  go_enter Try.func9, Try.ntmps9
  go_wp2_with fail
  refine CM.out.mono ?_
  rintro e w1 ⟨x, mm, rfl, QM, st1⟩
  have QM := Lib.hid QM
  have S1 := Lib.hid st1
  clear CM st1 l1 l2 l3 l4
  go_wp2_with fail
  refine (CC.out _ S1.out).mono ?_
  rintro e w2 ⟨x', k, rfl, QC, st2⟩
  obtain rfl : x' = x := OErr.fn QC.1 QM.out.1
  have QC := Lib.hid QC
  have S2 := Lib.hid (S1.out.trans (st2.mono S1.out.size))
  clear CC st2 S1
  by_cases x0 : x' = 0
  case neg =>
    have x1 : (x' == 0) = false := by simpa using x0
    obtain rfl : mm = 0 := QM.out.2.1 x0
    obtain rfl : k = 0 := QC.out.2.1 x0
    have x2 : decide (x' = 0) = false := decide_eq_false x0
    go_wp2_with fail
    refine (AL.out _).mono ?_
    rintro e w3 ⟨rfl, st3⟩
    go_wp2_with fail
    go_ret
    exact ⟨rfl, S2.out.trans (st3.mono S2.out.size)⟩
  subst x0
  have EM := Lib.hid (QM.out.2.2 rfl)
  obtain ⟨n64, dk, io⟩ := QM.out.1.good
  rw [← HN.out.1] at io EM
  have DK := Lib.hid dk.all
  have IO := Lib.hid io
  clear n64 dk io
  go_wp2_with fail
  refine (CO.out _ S2.out).mono ?_
  rintro e w3 ⟨o, rfl, ho, st3⟩
  obtain rfl : o = true := ho.2 IO.out
  have S3 := Lib.hid (S2.out.trans (st3.mono S2.out.size))
  clear CO st3 ho S2
  by_cases n0 : n = 0
  · have K1 := Lib.hid (show k = -1 ∧ mm = 0 by
      rcases QC.out.2.2 rfl with ⟨c, e⟩ | ⟨j, j1, _⟩
      · exact ⟨e, by rw [EM.out, n0]; rfl⟩
      · rw [← HN.out.1] at j1; omega)
    obtain ⟨rfl, rfl⟩ := K1.out
    subst n0
    go_wp2_with fail
    refine (AL.out _).mono ?_
    rintro e w4 ⟨rfl, st4⟩
    go_wp2_with fail
    go_ret
    exact ⟨rfl, S3.out.trans (st4.mono S3.out.size)⟩
  · obtain rfl : m = n := by rw [HN.out.2.1, IO.out.1]
    have n1 : ((m : Int) == 0) = false := by simp; omega
    have N0 := Lib.hid (show 0 < m by omega)
    clear n0
    go_wp2_with fail
    have FB := Lib.hid (fun k hk => vl_bd (O := O) HN.out.2.2.1 DK.out k hk)
    have BP := Lib.hid (fun k => sm_bd (F := fun j => pd D (od O j)) (fun k => ⟨(DK.out _).1, (DK.out _).2.1⟩) k)
    have BS := Lib.hid (fun k => sm_bd (F := fun j => sd D (od O j)) (fun k => ⟨(DK.out _).2.2.1, (DK.out _).2.2.2⟩) k)
    go_loopw [9, 10, 11] (fun bv av kv wr => ∃ (i : Nat) (b a : Int), i ≤ m ∧ bv = .int .i64 b ∧ av = .int .i64 a ∧ kv = .int .i64 i ∧ Hid (Bst (vl (pd D) (sd D) (od O) m) i b a) ∧ Hid (Below w.heap.size w wr)) (fun _ _ kv _ => m - (intOf kv).toNat)
    case atStart => exact ⟨0, -1, -1, Nat.zero_le _, rfl, rfl, rfl, Lib.hid (.inl ⟨rfl, rfl, rfl⟩), S3⟩
    case round =>
      obtain ⟨i, b, a, hi, rfl, rfl, rfl, HB, HW⟩ := hrel
      clear S3
      by_cases t1 : i < m
      · have i1 : (0 : Int) ≤ (i : Int) := by omega
        have i2 : (i : Int) < (m : Int) := by omega
        have T1 := Lib.hid t1
        clear hi
        go_wp2_with fail
        go_loopw [12, 13] (fun sv kv wx => ∃ k : Nat, k ≤ i + 1 ∧ sv = .int .i64 (sm (fun j => pd D (od O j)) k) ∧ kv = .int .i64 k ∧ Hid (Below w.heap.size w wx)) (fun _ kv _ => i + 1 - (intOf kv).toNat)
        case atStart => exact ⟨0, Nat.zero_le _, rfl, rfl, HW⟩
        case round =>
          obtain ⟨k, hk, rfl, rfl, HX⟩ := hrel
          clear HW
          by_cases t2 : k ≤ i
          · obtain ⟨y, rfl, ky, cy⟩ := (RO.out.below HX.out) k (by have := HN.out; have := T1.out; omega)
            obtain ⟨u, hu⟩ : ∃ u, u = od O k := ⟨_, rfl⟩
            have km : k < m := by have := T1.out; omega
            have eu : gi O k = (u : Int) := by have := IO.out.2.1 k km; rw [hu]; unfold od; omega
            have un : u < m := by rw [hu]; exact IO.out.ord.lt k km
            obtain ⟨x, rfl, kx, cx, dx⟩ := (R.out.below HX.out) u (by have := HN.out; omega)
            have E1 := Lib.hid (show sm (fun j => pd D (od O j)) (k + 1) = sm (fun j => pd D (od O j)) k + pd D u by rw [hu]; rfl)
            have w1' : IntKind.i64.wrap (sm (fun j => pd D (od O j)) k + pd D u) = sm (fun j => pd D (od O j)) k + pd D u := wI rfl (by have := BP.out k; have := DK.out u; omega) (by have := BP.out k; have := DK.out u; have := HN.out; omega)
            have k1 : (0 : Int) ≤ (k : Int) := by omega
            have k2 : (k : Int) < (m : Int) := by omega
            have u1 : (0 : Int) ≤ (u : Int) := by omega
            have u2 : (u : Int) < (m : Int) := by omega
            have k3 : decide (k ≤ i) = true := decide_eq_true t2
            rw [eu] at cy
            clear eu hu un km
            generalize sm (fun j => pd D (od O j)) k = T at *
            generalize pd D u = P at *
            go_wp2_with fail
            go_roundw
            case rel => exact ⟨k + 1, by omega, by rw [E1.out], by go_num, HX⟩
            case measure => clear w1'; simp [intOf]; omega
          · obtain rfl : k = i + 1 := by omega
            have k3 : decide (i + 1 ≤ i) = false := decide_eq_false (by omega)
            have EX := Lib.hid (show sm (fun j => pd D (od O j)) (i + 1) = sm (fun j => pd D (od O j)) (i + 1) + (sm (fun j => sd D (od O j)) i - sm (fun j => sd D (od O j)) i) by omega)
            go_wp2_with fail
            rw [EX.out]
            go_loopw [12, 14] (fun sv kv wx => ∃ k : Nat, i ≤ k ∧ k ≤ m ∧ sv = .int .i64 (sm (fun j => pd D (od O j)) (i + 1) + (sm (fun j => sd D (od O j)) k - sm (fun j => sd D (od O j)) i)) ∧ kv = .int .i64 k ∧ Hid (Below w.heap.size w wx)) (fun _ kv _ => m - (intOf kv).toNat)
            case atStart => exact ⟨i, Nat.le_refl _, by have := T1.out; omega, rfl, rfl, HX⟩
            case round =>
              obtain ⟨k, ik, hk, rfl, rfl, HY⟩ := hrel
              clear HX
              by_cases t3 : k < m
              · obtain ⟨y, rfl, ky, cy⟩ := (RO.out.below HY.out) k (by have := HN.out; have := T1.out; omega)
                obtain ⟨u, hu⟩ : ∃ u, u = od O k := ⟨_, rfl⟩
                have eu : gi O k = (u : Int) := by have := IO.out.2.1 k t3; rw [hu]; unfold od; omega
                have un : u < m := by rw [hu]; exact IO.out.ord.lt k t3
                obtain ⟨x, rfl, kx, cx, dx⟩ := (R.out.below HY.out) u (by have := HN.out; omega)
                have E1 := Lib.hid (show sm (fun j => pd D (od O j)) (i + 1) + (sm (fun j => sd D (od O j)) (k + 1) - sm (fun j => sd D (od O j)) i) = sm (fun j => pd D (od O j)) (i + 1) + (sm (fun j => sd D (od O j)) k - sm (fun j => sd D (od O j)) i) + sd D u by rw [hu]; simp only [sm]; omega)
                have bd := show -9223372036854775808 ≤ sm (fun j => pd D (od O j)) (i + 1) + (sm (fun j => sd D (od O j)) k - sm (fun j => sd D (od O j)) i) + sd D u ∧ sm (fun j => pd D (od O j)) (i + 1) + (sm (fun j => sd D (od O j)) k - sm (fun j => sd D (od O j)) i) + sd D u ≤ 9223372036854775807 by
                  have := BP.out (i + 1); have := BS.out k; have := BS.out i; have := DK.out u; have := HN.out; have := T1.out
                  omega
                have w1' : IntKind.i64.wrap (sm (fun j => pd D (od O j)) (i + 1) + (sm (fun j => sd D (od O j)) k - sm (fun j => sd D (od O j)) i) + sd D u) = sm (fun j => pd D (od O j)) (i + 1) + (sm (fun j => sd D (od O j)) k - sm (fun j => sd D (od O j)) i) + sd D u := wI rfl bd.1 bd.2
                have k1 : (0 : Int) ≤ (k : Int) := by omega
                have k2 : (k : Int) < (m : Int) := by omega
                have u1 : (0 : Int) ≤ (u : Int) := by omega
                have u2 : (u : Int) < (m : Int) := by omega
                rw [eu] at cy
                clear eu hu un bd
                generalize sm (fun j => pd D (od O j)) (i + 1) + (sm (fun j => sd D (od O j)) k - sm (fun j => sd D (od O j)) i) = T at *
                generalize sd D u = S at *
                go_wp2_with fail
                go_roundw
                case rel => exact ⟨k + 1, by omega, by omega, by rw [E1.out], by go_num, HY⟩
                case measure => clear w1'; simp [intOf]; omega
              · obtain rfl : k = m := by omega
                have EV := Lib.hid (show sm (fun j => pd D (od O j)) (i + 1) + (sm (fun j => sd D (od O j)) k - sm (fun j => sd D (od O j)) i) = vl (pd D) (sd D) (od O) k i from rfl)
                rw [EV.out]
                have F0 := FB.out i T1.out
                by_cases g : b < vl (pd D) (sd D) (od O) k i
                · have NB := Lib.hid (HB.out.up F0.1 g)
                  have g2 : decide (b < vl (pd D) (sd D) (od O) k i) = true := decide_eq_true g
                  clear EV HB F0
                  generalize vl (pd D) (sd D) (od O) k i = T at *
                  go_wp2_with fail
                  go_roundw
                  case rel => exact ⟨i + 1, _, _, by have := T1.out; omega, rfl, rfl, by go_num, NB, HY⟩
                  case measure => have := T1.out; simp [intOf]; omega
                · have NB := Lib.hid (HB.out.keep F0.1 g)
                  have g2 : decide (b < vl (pd D) (sd D) (od O) k i) = false := decide_eq_false g
                  clear EV HB F0
                  generalize vl (pd D) (sd D) (od O) k i = T at *
                  go_wp2_with fail
                  go_roundw
                  case rel => exact ⟨i + 1, _, _, by have := T1.out; omega, rfl, rfl, by go_num, NB, HY⟩
                  case measure => have := T1.out; simp [intOf]; omega
      · obtain rfl : i = m := by omega
        obtain ⟨e1, e2⟩ := HB.out.done HN.out.1 N0.out (fun i => (DK.out i).1) QC.out
        rw [← EM.out] at e1
        subst e1 e2
        clear EM
        go_wp2_with fail
        refine (AL.out _).mono ?_
        rintro e w4 ⟨rfl, st4⟩
        go_wp2_with fail
        go_ret
        exact ⟨rfl, HW.out.trans (st4.mono HW.out.size)⟩
end Go.Proofs.Ytdgalnabpoepfaa
