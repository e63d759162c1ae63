/- The law NumScaled: its walk. -/
import Derived.Test.YtacliakmhkebbaaDoorAQ4
import Derived.Test.YtacliakmhkebbaaDoorE1
namespace Go.Proofs.YtacliakmhkebbaaDoor.numScaled
open Go.RowKit Go.Proofs.YtacliakmhkebbaaDoor.Prs
set_option linter.unusedVariables false
set_option linter.unusedSimpArgs false

theorem RowR.rowA {w : World} {p : Option Addr} {l : List Int} (h : RowR w p l) : RowA w p l := fun i hi => by
  obtain ⟨g, e, k, c⟩ := h i hi
  exact ⟨⟨g, 0, none⟩, e, k, by rw [add_zero_addr, c, gd_in hi]⟩
theorem take_map (l : List Int) (k : Int) {i : Nat} (h : i < l.length) : (l.take (i + 1)).map (· * k) = (l.take i).map (· * k) ++ [gd l i * k] := by
  rw [List.take_succ_eq_append_getElem h, List.map_append, gd_in h]; rfl

theorem RowA.grown {w w' : World} {b : Nat} {P : List Int} {row : Option Nat} (h : RowA w (some ⟨b, 0, none⟩) P) (hg : w.grownBy w' row) (hne : some b ≠ row) : RowA w' (some ⟨b, 0, none⟩) P := fun i hi => by
  obtain ⟨x, e, k, c⟩ := h i hi
  cases e
  refine ⟨_, rfl, Nat.lt_of_lt_of_le k hg.size, ?_⟩
  rw [add_zero_addr] at c ⊢
  exact hg.cell c hne
theorem RowA.alloc {w : World} {q : Option Addr} {P : List Int} (h : RowA w q P) (o : Obj) : RowA (w.alloc o) q P := h.below ((Below.refl _ _).alloc (Nat.le_refl _) o)
theorem errs {T n : Int} {l : List Int} (hn : l.length ≤ 200) (ok : ∀ i, i < l.length → 0 ≤ gd l i ∧ gd l i ≤ 21474836) (n0 : 0 < n) (n1 : n ≤ 50) {G1 G2 G3 G4 : List Int → Prop} {a1 a2 a3 a4 b1 b2 b3 b4 : World} {v1 v2 v3 v4 : Value} {E1 E2 E3 E4 : Int}
    (q1 : DivQ G1 T l a1 v1 E1 b1) (q2 : DivQ G2 T (l.map (· * n)) a2 v2 E2 b2) (q3 : DivQ G3 T l a3 v3 E3 b3) (q4 : DivQ G4 T (l.map (· * n) ++ [0]) a4 v4 E4 b4) : E2 = E1 ∧ E3 = E1 ∧ E4 = E1 := by
  obtain ⟨k1, k2, k3⟩ := WOk.mul hn ok n0 n1
  obtain ⟨S1, s1⟩ := q1.err
  obtain ⟨S2, s2⟩ := q2.err
  obtain ⟨S3, s3⟩ := q3.err
  obtain ⟨S4, s4⟩ := q4.err
  obtain ⟨S5, s5⟩ := SumR.like k3 k1 n0 (sum_map_mul l n) s1
  obtain ⟨S6, s6⟩ := SumR.like k3 k2 n0 (sum_mul_zero l n) s1
  exact ⟨s2.det s5, s3.det s1, s4.det s6⟩

set_option maxRecDepth 100000 in
set_option maxHeartbeats 8000000 in
theorem walkS (T : Int) (q : Option Addr) (c : Nat) (l : List Int) (y : Int) (t1 : -9223372036854775808 ≤ T) (t2 : T ≤ 9223372036854775807) (y1 : 0 ≤ y) (y2 : y ≤ 255) (w : World) (r : RowA w q l) :
    Calls Tryd.prog 5 #[.int .i64 T, .slice q l.length c, .int .u8 y] w fun e w' => e = .returned (.bool true) ∧ Below w.heap.size w w' := by
  obtain ⟨i0, hi, hz0, hz1, hz2⟩ := info_parts intInfo
  have R := Lib.hid r
  have AP1 := Lib.hid (fun W h (ln : l.length ≤ 200) => Apportion_q T q c l W h (by omega))
  have DV1 := Lib.hid (fun W h (ln : l.length ≤ 200) => Divide_q T q c l W h (by omega))
  have AP2 := Lib.hid (fun p d (m : List Int) W h (ln : m.length ≤ 300) => Apportion_q T p d m W h (by omega))
  have DV2 := Lib.hid (fun p d (m : List Int) W h (ln : m.length ≤ 300) => Divide_q T p d m W h (by omega))
  unfold DivE at AP1 DV1 AP2 DV2
  obtain ⟨x, hx⟩ : ∃ x, x = l.length := ⟨_, rfl⟩
  rw [← hx] at AP1 DV1 ⊢
  have HX := Lib.hid hx
  clear hx r
  have KB : Hid (Below w.heap.size w w) := Below.refl _ _
  obtain ⟨z, hz⟩ : ∃ z, z = y % 50 := ⟨_, rfl⟩
  have ez : y.tmod 50 = z := by rw [Int.tmod_eq_emod_of_nonneg y1, hz]
  have z0 : 0 ≤ z := by omega
  have z1 : z < 50 := by omega
  have ew : IntKind.i64.wrap z = z := IntWalk.i64_in _ (by omega)
  clear hz
  go_enter Tryd.func5, Tryd.ntmps5
  by_cases hf : 200 < x
  · go_wp2_with fail
    refine (alive_any _).mono ?_
    rintro e wq ⟨rfl, hq⟩
    have B9 := Lib.hid (KB.out.trans ((show Below _ _ wq from by first | exact hq | exact ((Below.refl _ _).drew).trans hq | exact (below_drewN (Below.refl _ _) _).trans hq).mono KB.out.size))
    clear hq
    go_wp2_with fail
    go_ret
    exact ⟨rfl, by first | exact B9.out | exact B9.out.drew | exact below_drewN B9.out _⟩
  · go_wp2_with fail
    clear ez ew
    have HK := Lib.hid (show 0 < 1 + z ∧ 1 + z ≤ 50 from ⟨by omega, by omega⟩)
    obtain ⟨n, hn⟩ : ∃ n, n = 1 + z := ⟨_, rfl⟩
    rw [← hn] at HK ⊢
    have n0 : 1 ≤ n := by omega
    have n1 : n ≤ 50 := by omega
    clear hn z0 z1
    go_loopw [8, 9] (fun mv iv wr => ∃ (i : Nat) (m : List Int), i ≤ x ∧ iv = .int .i64 i ∧ wr.ownsRow w.heap.size 3 1 mv i (m.map (Value.int .i64)) ∧ Hid (m = (l.take i).map (· * n)) ∧ Hid (Below w.heap.size w wr) ∧ Hid (∀ j, j < i → 0 ≤ gd l j ∧ gd l j ≤ 21474836)) (fun _ iv _ => x - (intOf iv).toNat)
    case atStart => exact ⟨0, [], Nat.zero_le _, rfl, World.ownsRow_nil _ _ _ _, Lib.hid (by simp), KB, Lib.hid fun j hj => by omega⟩
    case round =>
      clear KB
      obtain ⟨i, m, hi1, rfl, hown, HM, KB, OKS⟩ := hrel
      by_cases tx : i < x
      · have li : i < l.length := by have := HX.out; omega
        obtain ⟨xa, rfl, kx, cx⟩ := (R.out.below KB.out) i li
        have TM := Lib.hid (take_map l n li)
        have NOK := Lib.hid (fun (g : 0 ≤ gd l i ∧ gd l i ≤ 21474836) (j : Nat) (hj : j < i + 1) => (show 0 ≤ gd l j ∧ gd l j ≤ 21474836 from by
          by_cases e : j = i
          · subst e; exact g
          · exact OKS.out j (by omega)))
        have i3 : (i : Int) < (x : Int) := by omega
        have i4 : (0 : Int) ≤ (i : Int) := by omega
        clear kx
        generalize gd l i = v at *
        by_cases v0 : v < 0
        · clear TM NOK hown
          go_wp2_with fail
          refine (alive_any _).mono ?_
          rintro e wq ⟨rfl, hq⟩
          have B9 := Lib.hid (KB.out.trans ((show Below _ _ wq from by first | exact hq | exact ((Below.refl _ _).drew).trans hq | exact (below_drewN (Below.refl _ _) _).trans hq).mono KB.out.size))
          clear hq
          go_wp2_with fail
          go_ret
          exact ⟨rfl, by first | exact B9.out | exact B9.out.drew | exact below_drewN B9.out _⟩
        · by_cases v1 : 21474836 < v
          · clear TM NOK hown
            go_wp2_with fail
            refine (alive_any _).mono ?_
            rintro e wq ⟨rfl, hq⟩
            have B9 := Lib.hid (KB.out.trans ((show Below _ _ wq from by first | exact hq | exact ((Below.refl _ _).drew).trans hq | exact (below_drewN (Below.refl _ _) _).trans hq).mono KB.out.size))
            clear hq
            go_wp2_with fail
            go_ret
            exact ⟨rfl, by first | exact B9.out | exact B9.out.drew | exact below_drewN B9.out _⟩
          · have NO := Lib.hid (NOK.out ⟨by omega, by omega⟩)
            have p0 := Int.mul_nonneg (show 0 ≤ v by omega) (show 0 ≤ n by omega)
            have p1 : v * n ≤ 21474836 * n := Int.mul_le_mul_of_nonneg_right (by omega) (by omega)
            have ev : IntKind.i64.wrap (v * n) = v * n := IntWalk.i64_in _ (by omega)
            have ew : wrap64 (v * n) = v * n := IntWalk.wrap64_in _ (by omega)
            have hbs : ∀ o, w.heap.size ≤ (wr.alloc o).heap.size := fun o => by have := KB.out.size; simp; omega
            clear NOK p0 p1
            obtain ⟨p, hp⟩ : ∃ p, v * n = p := ⟨_, rfl⟩
            have ev2 : IntKind.i64.wrap (v * n) = p := ev.trans hp
            have ew2 : wrap64 (v * n) = p := ew.trans hp
            rw [hp] at TM
            clear hp ev ew
            go_wp2_with (first
              | (at_builtin; refine wpList_append_own _ rfl _ _ 22 rfl w.heap.size 3 i0 (.int .i64 0) 1 8 Tryd.underlying22 hi hz0 hz1 hz2 rfl (by decide) _ _ _ rfl (hown.alloc _) ⟨wr.heap.size, 0, none⟩ 1 1 [.int .i64 p] rfl rfl (one_cell _) one_one (by unfold maxLen; omega) (by omega) (hbs _) ?_))
            intro v' w1 hown' hgrow hq
            have RR := own_snoc (l := m) (x := p) _ rfl KB.out hown hown' hgrow
            have HM2 := Lib.hid (show m ++ [p] = (l.take (i + 1)).map (· * n) by rw [HM.out, TM.out])
            have KB2 := Lib.hid RR.2
            replace RR := RR.1
            clear hown hown' hgrow hq hbs TM HM
            go_wp2_with fail
            go_roundw
            case rel => exact ⟨i + 1, _, by omega, by go_num, RR, HM2, KB2, NO⟩
            case measure => simp [intOf]; omega
      · obtain rfl : i = x := by omega
        have MM : m = l.map (· * n) := by rw [HM.out, HX.out, List.take_length]
        obtain ⟨pm, d, hmv, hl, rr, -, -⟩ := own_row hown
        rw [hl] at hmv
        subst hmv
        have OB : Hid (∀ k, (Value.slice pm i d).ownBlock = some k → k < wr.heap.size) := fun k hk => (hown.lt k hk).2
        have RM := Lib.hid (RowR.rowA rr)
        have ER := Lib.hid (fun G1 G2 G3 G4 a1 a2 a3 a4 b1 b2 b3 b4 v1 v2 v3 v4 E1 E2 E3 E4 => errs (T := T) (n := n) (l := l) (by have := HX.out; omega) (fun j hj => OKS.out j (by have := HX.out; omega)) (by omega) n1 (G1 := G1) (G2 := G2) (G3 := G3) (G4 := G4) (a1 := a1) (a2 := a2) (a3 := a3) (a4 := a4) (b1 := b1) (b2 := b2) (b3 := b3) (b4 := b4) (v1 := v1) (v2 := v2) (v3 := v3) (v4 := v4) (E1 := E1) (E2 := E2) (E3 := E3) (E4 := E4))
        rw [← MM] at ER
        have A2 := Lib.hid (fun W h => AP2.out pm d m W h (by omega))
        rw [hl] at A2
        have D2 := Lib.hid (fun p d W h => DV2.out p d (m ++ [0]) W h (by simp; omega))
        have ML := Lib.hid hl
        replace MM := Lib.hid MM
        have ML1 : (m ++ [0]).length = i + 1 := by simp [hl]
        rw [ML1] at D2
        clear AP2 DV2 rr hl HM t1 ML1
        go_wp2_with fail
        refine (AP1.out _ (R.out.below KB.out) (by omega)).mono ?_
        rintro e w1 ⟨v1, E1, rfl, Q1⟩
        replace Q1 := Lib.hid Q1
        clear AP1
        go_wp2_with fail
        refine (A2.out _ (RM.out.below Q1.out.bel)).mono ?_
        rintro e w2 ⟨v2, E2, rfl, Q2⟩
        replace Q2 := Lib.hid Q2
        have B2 := Lib.hid (Q1.out.bel.trans (Q2.out.bel.mono Q1.out.bel.size))
        clear A2
        go_wp2_with fail
        refine (DV1.out _ ((R.out.below KB.out).below B2.out) (by omega)).mono ?_
        rintro e w3 ⟨v3, E3, rfl, Q3⟩
        replace Q3 := Lib.hid Q3
        have B3 := Lib.hid (B2.out.trans (Q3.out.bel.mono B2.out.size))
        have hown3 := own_below hown B3.out
        have KB3 := Lib.hid (KB.out.trans (B3.out.mono KB.out.size))
        have hbs : ∀ o, w.heap.size ≤ (w3.alloc o).heap.size := fun o => by have := KB3.out.size; simp; omega
        clear DV1 hown KB
        go_wp2_with (first
          | (at_builtin; refine wpList_append_own _ rfl _ _ 22 rfl w.heap.size 3 i0 (.int .i64 0) 1 8 Tryd.underlying22 hi hz0 hz1 hz2 rfl (by decide) _ _ _ rfl (hown3.alloc _) ⟨w3.heap.size, 0, none⟩ 1 1 [.int .i64 0] rfl rfl (one_cell _) one_one (by unfold maxLen; omega) (by omega) (hbs _) ?_))
        intro v' w4 hown' hgrow hq
        have RR := own_snoc (l := m) (x := 0) _ rfl KB3.out hown3 hown' hgrow
        have KB4 := Lib.hid RR.2
        replace RR := RR.1
        obtain ⟨p4, d4, hv4, hl4, rr4, -, -⟩ := own_row RR
        rw [hl4] at hv4
        subst hv4
        have RM4 := Lib.hid (RowR.rowA rr4)
        have HG := Lib.hid hgrow
        clear hown' hgrow hq hown3 hbs RR rr4
        go_wp2_with fail
        refine (D2.out p4 d4 _ RM4.out).mono ?_
        rintro e w5 ⟨v4, E4, rfl, Q4⟩
        replace Q4 := Lib.hid Q4
        have KB := Lib.hid (KB4.out.trans (Q4.out.bel.mono KB4.out.size))
        obtain ⟨e2, e3, e4⟩ := ER.out _ _ _ _ _ _ _ _ _ _ _ _ _ _ _ _ _ _ _ _ Q1.out Q2.out Q3.out Q4.out
        replace e2 := e2.symm
        replace e3 := e3.symm
        replace e4 := e4.symm
        subst e2 e3 e4
        clear ER D2 RM4 RM
        by_cases hE : E1 = 0
        · subst hE
          have o1 := Q1.out.good rfl
          have o2 := Q2.out.good rfl
          have o3 := Q3.out.good rfl
          have o4 := Q4.out.good rfl
          obtain ⟨x1, hx1⟩ : ∃ x1, x1 = i + 1 := ⟨_, rfl⟩
          have lm4 : (m ++ [0]).length = x1 := by simp [ML.out, hx1]
          rw [lm4] at o4
          clear lm4
          rw [← HX.out] at o1 o3
          rw [ML.out] at o2
          obtain ⟨b1, P1, rfl, g1, r1, len1, -, G1⟩ := o1
          obtain ⟨b2, P2, rfl, g2, r2, len2, -, G2⟩ := o2
          obtain ⟨b3, P3, rfl, g3, r3, len3, -, G3⟩ := o3
          obtain ⟨b4, P4, rfl, g4, r4, len4, -, G4⟩ := o4
          have P21 : P2 = P1 := by
            rw [MM.out] at G2
            exact (GA.scaled (by omega) (fun j hj => (OKS.out j (by have := HX.out; omega)).1) G1 G2).symm
          subst P21
          obtain ⟨T4, Z4⟩ : P4.take i = P3 ∧ gd P4 i = 0 := by
            rw [MM.out] at G4
            have := GD.scaled (by omega) G3 G4
            rw [← HX.out] at this
            exact this
          have s1 := Q1.out.bel.size
          have s2 := Q2.out.bel.size
          have s3 := Q3.out.bel.size
          have nb : ∀ b, wr.heap.size ≤ b → some b ≠ (Value.slice pm i d).ownBlock := fun b hb e => by have := OB.out b e.symm; omega
          have H1 := Lib.hid ((RowA.grown (RowA.alloc ((r1.below Q2.out.bel).below Q3.out.bel) _) HG.out (nb b1 g1)).below Q4.out.bel)
          have H2 := Lib.hid ((RowA.grown (RowA.alloc (r2.below Q3.out.bel) _) HG.out (nb b2 (by omega))).below Q4.out.bel)
          have H3 := Lib.hid ((RowA.grown (RowA.alloc r3 _) HG.out (nb b3 (by omega))).below Q4.out.bel)
          have H4 : Hid (RowA w5 (some ⟨b4, 0, none⟩) P3) := fun j hj => by
            obtain ⟨xx, e, k, cc⟩ := r4 j (by omega)
            refine ⟨xx, e, k, ?_⟩
            rw [← T4, gd_take' (by omega)]
            exact cc
          have cz : w5.cell? ⟨b4, i, none⟩ = some (.int .i64 0) := by
            obtain ⟨xx, e, k, cc⟩ := r4 i (by omega)
            cases e
            rw [add_zero_addr, Z4] at cc
            exact cc
          have SM1 := Lib.hid (fun W h h' => same_eq (some ⟨b1, 0, none⟩) (some ⟨b2, 0, none⟩) i i P2 W h h' (by omega))
          have SM3 := Lib.hid (fun W h h' => same_eq (some ⟨b3, 0, none⟩) (some ⟨b4, 0, none⟩) i x1 P3 W h h' (by omega))
          rw [len2] at SM1
          rw [len3] at SM3
          have e1 : IntKind.i64.wrap ((i : Int) + 1) = (x1 : Int) := w64 (by omega) (by omega)
          have l1 : (i : Int) ≤ (x1 : Int) := by omega
          have l2 : (i : Int) < (x1 : Int) := by omega
          have l3 : (0 : Int) ≤ (i : Int) := by omega
          have x1b : x1 ≤ 1000 := by omega
          clear Q1 Q2 Q3 Q4 OB HG G1 G2 G3 G4 T4 Z4 g1 g2 g3 g4 r1 r2 r3 r4 len1 len2 len3 len4 s1 s2 s3 nb hx1
          go_wp2_with fail
          refine (SM1.out _ H1.out H2.out).mono ?_
          rintro e wq ⟨rfl, nq, rfl⟩
          have KB0 := KB
          replace KB := Lib.hid (below_drewN KB.out nq)
          clear SM1 H1 H2
          go_wp2_with fail
          refine (SM3.out _ (by first | exact H3.out.drewN _ | exact (H3.out.drewN _).drewN _) (by first | exact H4.out.drewN _ | exact (H4.out.drewN _).drewN _)).mono ?_
          rintro e wq ⟨rfl, nq3, rfl⟩
          replace KB := Lib.hid (below_drewN KB0.out (nq + nq3))
          clear SM3 H3 H4
          go_wp2_with fail
          refine (alive_any _).mono ?_
          rintro e wq ⟨rfl, hq⟩
          have B9 := Lib.hid (KB.out.trans ((show Below _ _ wq from by first | exact hq | exact ((Below.refl _ _).drew).trans hq | exact (below_drewN (Below.refl _ _) _).trans hq).mono KB.out.size))
          clear hq
          go_wp2_with fail
          go_ret
          exact ⟨rfl, by first | exact B9.out | exact B9.out.drew | exact below_drewN B9.out _⟩
        · obtain rfl := Q1.out.bad hE
          obtain rfl := Q2.out.bad hE
          obtain rfl := Q3.out.bad hE
          obtain rfl := Q4.out.bad hE
          have SM := Lib.hid (fun W => same_eq none none 0 0 [] W (fun i h => by simp at h) (fun i h => by simp at h) (by simp))
          have h1 : (E1 != 0) = true := by simpa using hE
          have h2 : (E1 == E1) = true := by simp
          have h3 : (E1 != E1) = false := by simp
          clear hE Q1 Q2 Q3 Q4 OB HG
          go_wp2_with fail
          refine (SM.out _).mono ?_
          rintro e wq ⟨rfl, nq, rfl⟩
          replace KB := Lib.hid (below_drewN KB.out nq)
          clear SM
          go_wp2_with fail
          refine (alive_any _).mono ?_
          rintro e wq ⟨rfl, hq⟩
          have B9 := Lib.hid (KB.out.trans ((show Below _ _ wq from by first | exact hq | exact ((Below.refl _ _).drew).trans hq | exact (below_drewN (Below.refl _ _) _).trans hq).mono KB.out.size))
          clear hq
          go_wp2_with fail
          go_ret
          exact ⟨rfl, by first | exact B9.out | exact B9.out.drew | exact below_drewN B9.out _⟩
end Go.Proofs.YtacliakmhkebbaaDoor.numScaled
