/- The law PressGraham: its walk. -/
import Derived.Test.YthfnaegfjacjbaaSJ6
import Derived.Test.YthfnaegfjacjbaaPBA
namespace Go.Proofs.Ythfnaegfjacjbaa
open Go.RowKit Go.Proofs.Ythfnaegfjacjbaa.Prs Go.Proofs.Ythfnaegfjacjbaa.Stb
set_option linter.unusedVariables false
set_option linter.unusedSimpArgs false

theorem nv_uniq {E F : List Nat} {n : Nat} (h1 : E.length = n) (h2 : F.length = n) (h : ∀ i, i < n → nv E i = nv F i) : E = F := by
  apply List.ext_getElem (by omega)
  intro i a b
  have := h i (by omega)
  unfold nv at this
  simp [a, b] at this
  omega
theorem FinQ.good {T : List Int} {M : Nat} {E : List Nat} {z : Int} {ok : Bool} (h : FinQ T ((List.range T.length).map (nv E)) M z ok) (hl : E.length = T.length) (ho : Sea.Ok M E) : ok = true ∧ ∃ s', Sea.fin Sea.addS T (fun _ => 0) E = some s' ∧ z = Sea.mx s' M := by
  rcases h with ⟨_, _, h⟩ | ⟨rfl, F, s', ia, f, e⟩
  · refine absurd ⟨by simp, fun i hi => ?_⟩ h
    rw [gi_map hi]
    have := ho (E.getD i 0) (by have : i < E.length := by omega
                                simp [this])
    unfold nv; omega
  · have : E = F := nv_uniq hl ia.lenE (fun i hi => by rw [← ia.at_ i hi, gi_map hi])
    subst this
    exact ⟨rfl, s', f, e⟩
theorem gi_getD (T : List Int) (i : Nat) : T.getD i 0 = gi T i := List.getD_eq_getElem?_getD
/-- What Longest's assignment loads. -/
theorem LoA.load {T : List Int} {m : Nat} {A : List Nat} {g : Int} {o a : Nat → Nat} (h : LoA T m A g o a) (tok : TmOk T T.length) : ∃ s', Sea.fin Sea.addS T (fun _ => 0) A = some s' ∧ Sea.mx s' m = g ∧ Sea.Ok m A := by
  refine ⟨_, Sea.fin_ldf h.len (fun t ht => by obtain ⟨i, hi, e⟩ := mem_gi ht; have := tok i hi; omega), ?_, fun b hb => ?_⟩
  · rw [h.fin_]
    refine Sea.mx_congr fun b _ => ?_
    have e1 : Sea.ldf (fun i => A.getD i 0) (fun i => T.getD i 0) T.length b = Sea.ldf (fun i => A.getD i 0) (fun i => gi T i) T.length b := Sea.ldf_congr fun i _ _ => gi_getD T i
    rw [e1, ← Sea.ldf_ord h.ord (fun i => A.getD i 0) (fun i => gi T i) b, Int.zero_add]
    exact ldf_same fun i hi => h.at_ i hi
  · obtain ⟨j, hj, e⟩ := List.getElem_of_mem hb
    obtain ⟨k, k1, k2⟩ := h.ord.onto j (by rw [← h.len]; exact hj)
    have := h.at_ k k1
    rw [k2] at this
    simp [hj] at this
    rw [← e, this]
    exact h.lt k k1
/-- Graham's bound, as the program has it. -/
theorem LoA.bound {T : List Int} {m : Nat} {A E : List Nat} {f g : Int} {o a : Nat → Nat} (h : LoA T m A g o a) (tok : TmOk T T.length) (m1 : 1 ≤ m) (m4 : m ≤ 4) (b : Sea.BestS m T f E) : f ≤ g ∧ 3 * (m : Int) * g ≤ (4 * (m : Int) - 1) * f ∧ 0 ≤ f ∧ g ≤ T.length * 1073741824 := by
  obtain ⟨sA, fA, vA, okA⟩ := h.load tok
  obtain ⟨sE, fE, vE, -⟩ := b.fin_
  have f0 : 0 ≤ f := by rw [← vE]; exact Sea.mx_nonneg _ _
  have le : f ≤ g := by have := b.low A sA okA fA; rw [← vA]; exact this
  have tp : ∀ t ∈ T, 0 ≤ t := fun t ht => by obtain ⟨i, hi, e⟩ := mem_gi ht; have := tok i hi; omega
  have lE := Sea.fin_len fE
  have eE := Sea.fin_ldf (s := fun _ => 0) lE tp
  rw [fE] at eE
  have eE := Option.some.inj eE
  refine ⟨le, Sea.lpt (T := fun i => gi T i) (E := fun i => E.getD i 0) (o := o) (a := a) (n := T.length) m1 m4 (fun i hi => by have := tok i hi; omega) h.ord (fun i j ij jn => by have := h.srt i j ij jn; omega) h.lt (fun k hk b hb => h.min k hk b hb) (fun i hi => b.ok _ (by
    have : i < E.length := by omega
    simp [this])) f0 (fun c hc => ?_) ?_, f0, ?_⟩
  · have := Sea.mx_ge (s := sE) hc
    rw [eE] at this
    have e1 : Sea.ldf (fun i => E.getD i 0) (fun i => T.getD i 0) T.length c = Sea.ldf (fun i => E.getD i 0) (fun i => gi T i) T.length c := Sea.ldf_congr fun i _ _ => gi_getD T i
    rw [← eE] at this
    have h2 : sE c = 0 + Sea.ldf (fun i => E.getD i 0) (fun i => T.getD i 0) T.length c := by rw [eE]
    have vE : Sea.mx sE m = f := vE
    rw [e1] at h2
    omega
  · rw [h.fin_]
    rcases Sea.mx_at (fun b => Sea.ldf a (fun i => gi T (o i)) T.length b) m with h | ⟨b, hb, e⟩
    · exact .inl h
    · exact .inr ⟨b, hb, e⟩
  · rw [h.fin_, Sea.mx_le]
    exact ⟨by omega, fun b hb => (ldf_bd tok h.ord (Nat.le_refl _)).2⟩

set_option maxRecDepth 100000 in
set_option maxHeartbeats 16000000 in
theorem pressGraham_walk (p : Option Addr) (c : Nat) (T : List Int) (w : World) (r : NumR w p T) (ln : T.length ≤ 9223372036854775807) (m : Int) (g1 : -9223372036854775808 ≤ m ∧ m ≤ 9223372036854775807) (q : Option Addr) (d : Nat) (O : List Int) (ro : NumR w q O) (lo : O.length ≤ 9223372036854775807) :
    Calls Try.prog 12 #[.slice p T.length c, .int .i64 m, .slice q O.length d] w fun e w' => e = .returned (.bool true) ∧ Below w.heap.size w w' := by
  have AL := Lib.hid alive_any
  have R := Lib.hid r
  have RO := Lib.hid ro
  have C1 := Lib.hid (Share_any p c T m w r ln)
  have C2 := Lib.hid (fun W (st : Below w.heap.size w W) => Longest_any p c T m W (r.below st) ln)
  obtain ⟨n, hn⟩ : ∃ n, n = T.length := ⟨_, rfl⟩
  obtain ⟨l, hl⟩ : ∃ l, l = O.length := ⟨_, rfl⟩
  have C3 := Lib.hid (fun W E b M (st : Below w.heap.size w W) (h : NumR W (some ⟨b, 0, none⟩) ((List.range T.length).map (nv E))) (n12 : T.length ≤ 12) (tok : TmOk T T.length) (m4 : M ≤ 4) => finish_any p c T (some ⟨b, 0, none⟩) T.length ((List.range T.length).map (nv E)) M W (r.below st) h n12 tok m4 (by simp; omega))
  have C4 := Lib.hid (fun W M (st : Below w.heap.size w W) (n12 : T.length ≤ 12) (tok : TmOk T T.length) (m4 : M ≤ 4) => finish_any p c T q d O M W (r.below st) (ro.below st) n12 tok m4 lo)
  simp only [List.length_map, List.length_range] at C3
  rw [← hn] at ln C1 C2 ⊢
  have C3 := Lib.hid (show ∀ W E b (M : Nat), Below w.heap.size w W → NumR W (some ⟨b, 0, none⟩) ((List.range T.length).map (nv E)) → T.length ≤ 12 → TmOk T T.length → M ≤ 4 → Calls Try.prog 38 #[.slice p n c, .slice (some ⟨b, 0, none⟩) n n, .int .i64 M] W (FinR T ((List.range T.length).map (nv E)) M W) from by rw [hn]; exact C3.out)
  rw [← hl] at lo C4 ⊢
  have C4 := Lib.hid (show ∀ W (M : Nat), Below w.heap.size w W → T.length ≤ 12 → TmOk T T.length → M ≤ 4 → Calls Try.prog 38 #[.slice p n c, .slice q l d, .int .i64 M] W (FinR T O M W) from by rw [hn]; exact C4.out)
  have HN := Lib.hid (show n = T.length ∧ l = O.length from ⟨hn, hl⟩)
  clear hn hl r ro
  go_enter Try.func12, Try.ntmps12
  go_wp2_with fail
  refine C1.out.mono ?_
  rintro e w1 ⟨x, v1, L1, rfl, te, st, k1, k2⟩
  have Q1 := Lib.hid (show TErr T m x ∧ (x ≠ 0 → v1 = .slice none 0 0 ∧ L1 = 0) ∧ (x = 0 → ∃ b E, v1 = .slice (some ⟨b, 0, none⟩) T.length T.length ∧ NumR w1 (some ⟨b, 0, none⟩) ((List.range T.length).map (nv E)) ∧ E.length = T.length ∧ Sea.BestS m.toNat T L1 E) from ⟨te, k1, fun h => by obtain ⟨b, E, a1, a2, a3, a4, a5⟩ := k2 h; exact ⟨b, E, a1, a3, a4, a5⟩⟩)
  have KB := Lib.hid st
  clear te st k1 k2 C1
  go_wp2_with fail
  refine (C2.out _ KB.out).mono ?_
  rintro e w2 ⟨x', v2, L2, rfl, te, st, k1, k2⟩
  obtain rfl : x' = x := TErr.fn te Q1.out.1
  have Q2 := Lib.hid (show (x' ≠ 0 → v2 = .slice none 0 0 ∧ L2 = 0) ∧ (x' = 0 → ∃ b A o a, v2 = .slice (some ⟨b, 0, none⟩) T.length T.length ∧ NumR w2 (some ⟨b, 0, none⟩) ((List.range T.length).map (nv A)) ∧ LoA T m.toNat A L2 o a) from ⟨k1, fun h => by obtain ⟨b, A, o, a, a1, a2, a3, a4⟩ := k2 h; exact ⟨b, A, o, a, a1, a3, a4⟩⟩)
  have ST := Lib.hid st
  replace KB := Lib.hid (KB.out.trans (st.mono KB.out.size))
  clear te st k1 k2 C2
  by_cases x0 : x' = 0
  case neg =>
    obtain ⟨rfl, rfl⟩ := Q1.out.2.1 x0
    obtain ⟨rfl, rfl⟩ := Q2.out.1 x0
    have y1 : (x' != 0) = true := by simpa using x0
    have y2 : (x' == x') = true := by simp
    have y3 : decide (x' = 0) = false := decide_eq_false x0
    clear Q1 Q2 C3 C4 ST x0
    go_wp2_with fail
    refine (AL.out _).mono ?_
    rintro e w3 ⟨rfl, st⟩
    go_wp2_with fail
    go_ret
    exact ⟨rfl, KB.out.trans (st.mono KB.out.size)⟩
  subst x0
  obtain ⟨n12, m1, m4, tok⟩ := Q1.out.1.good
  have TOK := Lib.hid tok
  have N12 := Lib.hid n12
  obtain ⟨b1, E, rfl, nr1, lE, best⟩ := Q1.out.2.2 rfl
  obtain ⟨b2, A, o, a, rfl, nr2, loa⟩ := Q2.out.2 rfl
  obtain ⟨M, rfl⟩ := Int.eq_ofNat_of_zero_le (show 0 ≤ m by omega)
  rw [Int.toNat_natCast] at best loa
  have m1' : 1 ≤ M := by omega
  have m4' : M ≤ 4 := by omega
  have BE := Lib.hid best
  have LA := Lib.hid loa
  have LE := Lib.hid lE
  have NR1 := Lib.hid (nr1.below ST.out)
  have NR2 := Lib.hid nr2
  obtain ⟨f_le, f_lpt, f_0, g_top⟩ := loa.bound tok m1' m4' best
  rw [← HN.out.1]
  have n12' : n ≤ 12 := by rw [HN.out.1]; exact n12
  rw [← HN.out.1] at g_top
  have D1 := Lib.hid (fun W st h => C3.out W E b1 M st h n12 tok m4')
  have D2 := Lib.hid (fun W st h => C3.out W A b2 M st h n12 tok m4')
  have D4 := Lib.hid (fun W st => C4.out W M st n12 tok m4')
  clear Q1 Q2 C3 C4 ST tok n12 best loa lE nr1 nr2 g1 m1 m4
  go_wp2_with fail
  refine (D1.out _ KB.out NR1.out).mono ?_
  rintro e w3 ⟨z, ok, rfl, fq, st⟩
  obtain ⟨rfl, s1, hs1, hz1⟩ := fq.good LE.out BE.out.ok
  obtain rfl : z = L1 := by
    obtain ⟨s2, hs2, hv, _⟩ := BE.out.fin_
    rw [hs1] at hs2; cases hs2; rw [hz1]; exact hv
  replace NR1 := Lib.hid (NR1.out.below st)
  replace NR2 := Lib.hid (NR2.out.below st)
  replace KB := Lib.hid (KB.out.trans (st.mono KB.out.size))
  clear fq hs1 hz1 st D1
  go_wp2_with fail
  refine (D2.out _ KB.out NR2.out).mono ?_
  rintro e w4 ⟨z2, ok, rfl, fq, st⟩
  obtain ⟨s2, hs2, hv2, okA⟩ := LA.out.load TOK.out
  obtain ⟨rfl, s3, hs3, hz3⟩ := fq.good LA.out.len okA
  obtain rfl : z2 = L2 := by rw [hs2] at hs3; cases hs3; rw [hz3]; exact hv2
  replace NR1 := Lib.hid (NR1.out.below st)
  replace KB := Lib.hid (KB.out.trans (st.mono KB.out.size))
  clear fq hs2 hv2 okA hs3 hz3 st D2 NR2 LA
  have e1 : (z != z) = false := by simp
  have e2 : (z2 != z2) = false := by simp
  have e3 : decide (z2 < z) = false := decide_eq_false (by omega)
  have zt : z ≤ 12 * 1073741824 := by omega
  have zt2 : 0 ≤ z2 ∧ z2 ≤ 12 * 1073741824 := by omega
  obtain ⟨p1, hp1⟩ : ∃ p1, p1 = 3 * (M : Int) := ⟨_, rfl⟩
  obtain ⟨p2, hp2⟩ : ∃ p2, p2 = p1 * z2 := ⟨_, rfl⟩
  obtain ⟨p3, hp3⟩ : ∃ p3, p3 = 4 * (M : Int) := ⟨_, rfl⟩
  obtain ⟨p4, hp4⟩ : ∃ p4, p4 = p3 - 1 := ⟨_, rfl⟩
  obtain ⟨p5, hp5⟩ : ∃ p5, p5 = p4 * z := ⟨_, rfl⟩
  have pb : p2 ≤ p5 ∧ (0 ≤ p2 ∧ p2 ≤ 12 * (12 * 1073741824)) ∧ 0 ≤ p5 ∧ p5 ≤ 15 * (12 * 1073741824) := by
    rw [← hp1, ← hp3, ← hp4, ← hp2, ← hp5] at f_lpt
    refine ⟨f_lpt, ?_, ?_⟩
    · rw [hp2]
      exact ⟨Int.mul_nonneg (by omega) zt2.1, Int.le_trans (Int.mul_le_mul_of_nonneg_right (show p1 ≤ 12 by omega) zt2.1) (by omega)⟩
    · rw [hp5]
      exact ⟨Int.mul_nonneg (by omega) f_0, Int.le_trans (Int.mul_le_mul_of_nonneg_right (show p4 ≤ 15 by omega) f_0) (by omega)⟩
  have a1 : IntKind.i64.wrap (3 * (M : Int)) = p1 := wI hp1.symm (by omega) (by omega)
  have a2 : IntKind.i64.wrap (p1 * z2) = p2 := wI hp2.symm (by omega) (by omega)
  have a3 : IntKind.i64.wrap (4 * (M : Int)) = p3 := wI hp3.symm (by omega) (by omega)
  have a4 : IntKind.i64.wrap (p3 - 1) = p4 := wI hp4.symm (by omega) (by omega)
  have a5 : IntKind.i64.wrap (p4 * z) = p5 := wI hp5.symm (by omega) (by omega)
  have a6 : wrap64 (p1 * z2) = p2 := by rw [← hp2]; exact IntWalk.wrap64_in _ (by omega)
  have a7 : wrap64 (p4 * z) = p5 := by rw [← hp5]; exact IntWalk.wrap64_in _ (by omega)
  have e4 : decide (p5 < p2) = false := decide_eq_false (by omega)
  clear hp1 hp2 hp3 hp4 hp5 pb f_lpt
  go_upto_region 9 with fail
  clear a1 a2 a3 a4 a5 a6 a7 e1 e2 e3 e4 zt zt2 f_le g_top
  go_wp2_with fail
  refine (D4.out _ KB.out).mono ?_
  rintro e w5 ⟨z3, ok, rfl, fq, st⟩
  have FQ := Lib.hid fq
  replace NR1 := Lib.hid (NR1.out.below st)
  replace KB := Lib.hid (KB.out.trans (st.mono KB.out.size))
  clear fq st D4
  cases ok with
  | false =>
    go_wp2_with fail
    refine (AL.out _).mono ?_
    rintro e w6 ⟨rfl, st⟩
    go_wp2_with fail
    go_ret
    exact ⟨rfl, KB.out.trans (st.mono KB.out.size)⟩
  | true =>
    by_cases zz : z < z3
    · have d1 : decide (z < z3) = true := decide_eq_true zz
      go_wp2_with fail
      refine (AL.out _).mono ?_
      rintro e w6 ⟨rfl, st⟩
      go_wp2_with fail
      go_ret
      exact ⟨rfl, KB.out.trans (st.mono KB.out.size)⟩
    have d1 : decide (z < z3) = false := decide_eq_false zz
    obtain ⟨E2, sO, ia, fO, zO⟩ : ∃ E s', IsAt T O M E ∧ Sea.fin Sea.addS T (fun _ => 0) E = some s' ∧ z3 = Sea.mx s' M := by
      rcases FQ.out with ⟨h, _⟩ | ⟨_, h⟩
      · cases h
      · exact h
    have lowO := BE.out.low E2 sO ia.ok fO
    obtain rfl : z3 = z := by have : z ≤ Sea.mx sO M := lowO; omega
    have LX := Lib.hid (BE.out.first E2 sO ia.ok fO zO.symm)
    have IA := Lib.hid ia
    have HL := Lib.hid (show l = n from by rw [HN.out.1, HN.out.2]; exact ia.lenA)
    have z1 : (z3 == z3) = true := by simp
    clear zz lowO ia fO zO FQ
    obtain rfl := HL.out
    go_wp2_with fail
    go_loopw [19] (fun kv wr => ∃ i : Nat, i ≤ l ∧ kv = .int .i64 i ∧ Hid (∀ j, j < i → nv E j = nv E2 j) ∧ Hid (Below w5.heap.size w5 wr)) (fun kv _ => l - (intOf kv).toNat)
    case atStart => exact ⟨0, Nat.zero_le _, rfl, Lib.hid fun j h => by omega, Lib.hid (Below.refl _ _)⟩
    case round =>
      obtain ⟨i, hi', rfl, EQ, HB⟩ := hrel
      clear d1
      by_cases t1 : i < l
      · have i1 : (0 : Int) ≤ (i : Int) := by omega
        have i2 : (i : Int) < (l : Int) := by omega
        obtain ⟨y, rfl, ky, cy⟩ := (RO.out.below (KB.out.trans (HB.out.mono KB.out.size))) i (by have := HN.out; omega)
        obtain ⟨x, ex, kx, cx⟩ := (NR1.out.below HB.out) i (by simp; have := HN.out; omega)
        cases ex
        rw [add0q, gi_map (by have := HN.out; omega)] at cx
        rw [IA.out.at_ i (by have := HN.out; omega)] at cy
        clear kx ky
        by_cases ne : nv E i = nv E2 i
        · have EQ2 := Lib.hid (show ∀ j, j < i + 1 → nv E j = nv E2 j from fun j hj => by
            by_cases e : j = i
            · rw [e]; exact ne
            · exact EQ.out j (by omega))
          rw [← ne] at cy
          have n1 : (nv E i != nv E i) = false := by simp
          clear ne EQ
          generalize nv E i = u at *
          go_upto_region 15 with fail
          go_quiet (fail)
          go_wp2_with fail
          go_roundw
          case rel => exact ⟨i + 1, by omega, by go_num, EQ2, Lib.hid (below_drewN HB.out _)⟩
          case measure => simp [intOf]; omega
        · have LT := Lib.hid (show nv E i < nv E2 i from by
            have lE2 := IA.out.lenE
            have lE := LE.out
            have hN := HN.out.1
            have conv : ∀ j, j < l → (E[j]? = E2[j]? ↔ nv E j = nv E2 j) := fun j hj => by
              have a : j < E.length := by omega
              have b : j < E2.length := by omega
              unfold nv
              simp [a, b]
              omega
            have := Sea.lexle_part LX.out (k := i) (by omega) (by omega) (fun j hj => (conv j (by omega)).2 (EQ.out j hj)) (fun h => ne ((conv i t1).1 h))
            unfold nv; omega)
          have n1 : (nv E i != nv E2 i) = true := by simpa using ne
          have n2 : decide (nv E i < nv E2 i) = true := decide_eq_true LT.out
          clear ne EQ LT
          generalize nv E i = u at *
          generalize nv E2 i = v at *
          go_upto_region 15 with fail
          go_quiet (fail)
          have cx' := cx
          have cy' := cy
          have HB2 := Lib.hid (below_drewN HB.out nq)
          replace cx : (wr.drewN nq).cell? ⟨b1, i, none⟩ = some (.int .i64 u) := cx
          replace cy : (wr.drewN nq).cell? (y.add i) = some (.int .i64 v) := cy
          generalize wr.drewN nq = wx at *
          go_upto_region 16 with fail
          go_region_held3 (fun w' => w'.cell? ⟨b1, i, none⟩ = some (.int .i64 u) ∧ w'.cell? (y.add i) = some (.int .i64 v))
            (first | exact ⟨cx, cy⟩ | exact ⟨cellDr cx, cellDr cy⟩)
            (first | (go_at_call 15; (with_reducible refine (AL.out _).mono ?_); rintro e v1 ⟨rfl, st⟩; have st : Below wx.heap.size wx v1 := (by first | exact st | exact ((Below.refl _ _).drew).trans st | exact (below_drewN (Below.refl _ _) _).trans st); replace cx := cellGr st cx; replace cy := cellGr st cy; replace HB2 := Lib.hid (HB2.out.trans (st.mono HB2.out.size)); clear st))
          go_wp2_with fail
          go_ret
          exact ⟨rfl, KB.out.trans (HB2.out.mono KB.out.size)⟩
      · obtain rfl : i = l := by omega
        go_wp2_with fail
        refine (AL.out _).mono ?_
        rintro e w6 ⟨rfl, st⟩
        go_wp2_with fail
        go_ret
        exact ⟨rfl, KB.out.trans ((HB.out.trans (st.mono HB.out.size)).mono KB.out.size)⟩
end Go.Proofs.Ythfnaegfjacjbaa
