/- The law TopShed: its walk. -/
import Derived.Test.YthbgeikdamajlabMH3
import Derived.Test.YthbgeikdamajlabMH2
import Derived.Test.YthbgeikdamajlabMT3
import Derived.Test.YthbgeikdamajlabMTP
import Derived.Test.YthbgeikdamajlabMHW
import Derived.Laws.MakeOwn
namespace Go.Proofs.Ythbgeikdamajlab
open Go.RowKit Go.Proofs.Ythbgeikdamajlab.Prs Go.Proofs.Ythbgeikdamajlab.Stb
set_option linter.unusedVariables false
set_option linter.unusedSimpArgs false

theorem taskInfo : (Try.prog.info? 50).map (fun i => (i.zero, i.size, i.bytes)) = some (some (.agg #[.int .i64 0, .int .i64 0]), 2, 16) := by kernel_rfl
theorem dumpMade (u : Nat) : (madeCells (Value.agg #[.int .i64 0, .int .i64 0]).cells (u * 2)).toList = (List.range (u * 2)).map fun k => Value.int .i64 ((fun _ => 0) k) := by
  have e : (Value.agg #[.int .i64 0, .int .i64 0]).cells = #[.int .i64 0, .int .i64 0] := by rfl
  rw [e]
  apply List.ext_getElem
  · simp [madeCells]
  · intro i h1 h2
    simp only [madeCells, Array.getElem_toList, Array.getElem_map, Array.getElem_range, List.getElem_map, List.getElem_range]
    rcases Nat.mod_two_eq_zero_or_one i with h | h <;> simp [h]
theorem IR.of2 {W : World} {b g u : Nat} {t : TypeId} {f : Nat → Int} (h : W.ownsRow b t 2 (.slice (some ⟨g, 0, none⟩) u u) u ((List.range (u * 2)).map fun k => .int .i64 (f k))) : IR W g t (u * 2) f := by
  rcases h.2 with ⟨e, _⟩ | ⟨g', cap, cur, e, _, hg, hn, _, hs, ht⟩
  · cases e
  · simp at e
    obtain ⟨rfl, rfl⟩ := e
    unfold IR
    rw [hg]
    congr 2
    apply Array.ext'
    rw [← ht]
    rw [List.take_of_length_le (by simp [hs])]
theorem FlD_dmp {W : World} {g u : Nat} {t : TypeId} {f : Nat → Int} (h : IR W g t (u * 2) f) : DmpR W (some ⟨g, 0, none⟩) (FlD f u) := fun i hi => by
  rw [FlD_len] at hi
  refine ⟨_, rfl, h.lt, ?_, ?_⟩
  · rw [add0, FlD_p hi]; exact h.cell (by omega)
  · rw [add0, FlD_s hi]
    show W.cell? ⟨g, i * 2 + 1, none⟩ = _
    exact h.cell (by omega)
theorem shed_dok {f : Nat → Int} {E : List Nat} {n u : Nat} (h : ShI f E n) (n12 : n ≤ 12) : DOk (FlD f u) (FlD f u).length := fun i hi => by
  rw [FlD_len] at hi
  obtain ⟨a, b, c, d, _⟩ := h i
  rw [FlD_p hi, FlD_s hi]
  omega
theorem shI_zero (E : List Nat) : ShI (fun _ => 0) E 0 := fun b => ⟨Int.le_refl _, by simp, Int.le_refl _, by simp, fun ⟨j, hj, _⟩ => by omega⟩
/-- The tasks of the strapper. -/
def TaL (D : List (Int × Int)) (u : Nat) (S : Int) : List (Int × Int) := (List.range u).map fun i => (sd D i, S)
theorem TaL_len (D : List (Int × Int)) (u : Nat) (S : Int) : (TaL D u S).length = u := by simp [TaL]
theorem TaL_p {D : List (Int × Int)} {u i : Nat} {S : Int} (h : i < u) : pd (TaL D u S) i = sd D i := by simp [TaL, pd, h]
theorem TaL_s {D : List (Int × Int)} {u i : Nat} {S : Int} (h : i < u) : sd (TaL D u S) i = S := by simp [TaL, sd, h]
theorem TaL_take {D : List (Int × Int)} {u k : Nat} {S : Int} (h : k < u) : (TaL D u S).take (k + 1) = (TaL D u S).take k ++ [(sd D k, S)] := by
  rw [List.take_succ_eq_append_getElem (by rw [TaL_len]; exact h)]
  simp [TaL]
/-- What the walk wants of the makespan. -/
theorem shed_times {D : List (Int × Int)} {u : Nat} {O : List Int} {m z : Int} (lD : D.length = u) (u12 : u ≤ 12) (dk : ∀ i, i < u → 0 ≤ pd D i ∧ pd D i ≤ 12 * 97 ∧ 1 ≤ sd D i ∧ sd D i ≤ 12 * 89) (hO : IsOrd u O) (hm : m = mks (pd D) (sd D) (od O) u) (hz : 0 ≤ z ∧ z ≤ 255) :
    0 ≤ m ∧ m ≤ 30000 ∧ TkOk (TaL D u (m + z)) u ∧ kept (TaL D u (m + z)) (dueO (TaL D u (m + z)) u) u = dueO (TaL D u (m + z)) u ∧ left (dueO (TaL D u (m + z)) u) u = [] := by
  have oth : ∀ i, u ≤ i → pd D i = 0 ∧ sd D i = 0 := fun i hi => by simp [pd, sd, List.getElem?_eq_none (by omega : D.length ≤ i)]
  have nP : ∀ i, 0 ≤ pd D i := fun i => by
    by_cases h : i < u
    · exact (dk i h).1
    · rw [(oth i (by omega)).1]; exact Int.le_refl _
  have nS : ∀ i, 0 ≤ sd D i := fun i => by
    by_cases h : i < u
    · have := (dk i h).2.2.1; omega
    · rw [(oth i (by omega)).2]; exact Int.le_refl _
  have lo : sm (sd D) u ≤ m := by rw [hm]; exact mks_straps nP hO.ord
  have s0 : 0 ≤ sm (sd D) u := sm_nonneg fun k _ => nS k
  have hi : m ≤ sm (fun j => pd D (od O j)) u + sm (fun j => sd D (od O j)) u := by rw [hm]; exact mks_sum nP nS u
  have h1 : sm (fun j => pd D (od O j)) u ≤ u * 1164 := sm_top (fun k hk => by have := (dk _ (hO.ord.lt k hk)).2.1; omega) (by omega)
  have h2 : sm (fun j => sd D (od O j)) u ≤ u * 1068 := sm_top (fun k hk => by have := (dk _ (hO.ord.lt k hk)).2.2.2; omega) (by omega)
  have mb : m ≤ 30000 := by omega
  have ok : TkOk (TaL D u (m + z)) u := fun i hi => by
    rw [TaL_p hi, TaL_s hi]
    have := dk i hi
    omega
  have sa := shed_all (E := TaL D u (m + z)) (S := m + z) (by rw [TaL_len]; exact ok) (by
    rw [TaL_len, sm_congr (fun k hk => TaL_p hk)]
    show sm (sd D) u ≤ m + z
    omega) (fun i hi => TaL_s (by rw [TaL_len] at hi; exact hi))
  rw [TaL_len] at sa
  exact ⟨by omega, mb, ok, sa⟩

set_option maxRecDepth 100000 in
set_option maxHeartbeats 16000000 in
theorem topShed_walk (p : Option Addr) (c : Nat) (T : List Int) (w : World) (r : NumR w p T) (ln : T.length ≤ 9223372036854775807) (mo : Int) (g1 : -9223372036854775808 ≤ mo ∧ mo ≤ 9223372036854775807) (ea : Int) (g2 : -9223372036854775808 ≤ ea ∧ ea ≤ 9223372036854775807) (q : Option Addr) (d : Nat) (U : List Int) (ru : NumR w q U) (lu : U.length ≤ 9223372036854775807) (z : Int) (g4 : 0 ≤ z ∧ z ≤ 255) :
    Calls Try.prog 8 #[.slice p T.length c, .int .i64 mo, .int .i64 ea, .slice q U.length d, .int .u8 z] w fun e w' => e = .returned (.bool true) ∧ Below w.heap.size w w' := by
  obtain ⟨i0, hi, hz0, hz1, hz2⟩ := info_parts dumpInfo
  obtain ⟨j0, hj, hy0, hy1, hy2⟩ := info_parts taskInfo
  have AL := Lib.hid worked_any
  have R := Lib.hid r
  have RU := Lib.hid ru
  have C1 := Lib.hid (Pack_any p c T mo ea w r ln)
  have C5 := Lib.hid (fun (W : World) (g u : Nat) (D : List (Int × Int)) (lD : D.length = u) (u12 : u ≤ 12) (rd : DmpR W (some ⟨g, 0, none⟩) D) (st : Below w.heap.size w W) => Makespan_big (some ⟨g, 0, none⟩) u D q d U W rd (ru.below st) (by omega) lu)
  obtain ⟨n, hn⟩ : ∃ n, n = T.length := ⟨_, rfl⟩
  obtain ⟨l, hl⟩ : ∃ l, l = U.length := ⟨_, rfl⟩
  have HN := Lib.hid hn
  rw [← hn] at C1 ln ⊢
  rw [← hl] at C5 lu ⊢
  clear hn hl r ru
  go_enter Try.func8, Try.ntmps8
  go_wp2_with fail
  refine C1.out.mono ?_
  rintro e w1 ⟨x, v, L, rfl, pe, st, k1, k2⟩
  have KB := Lib.hid st
  by_cases x0 : x = 0
  case neg =>
    have x1 : (x == 0) = false := by simpa using x0
    have x2 : (x != 0) = true := by simpa using x0
    clear C1 C5 k1 k2 pe st x0
    go_wp2_with fail
    refine (AL.out _).mono ?_
    rintro e w6 ⟨rfl, st⟩
    go_wp2_with fail
    go_ret
    exact ⟨rfl, KB.out.trans (st.mono KB.out.size)⟩
  subst x0
  obtain ⟨n12, ⟨-, -, -, -, tok⟩, -⟩ := pe.good
  obtain ⟨b, E, hv, lb, nr, lE, best⟩ := k2 rfl
  obtain ⟨u, rfl, u12, eu, ue⟩ := pack_boxes best (fun t ht => by obtain ⟨i, hi, e⟩ := mem_gi ht; have := tok i hi; omega)
  rw [← HN.out] at hv n12 lE tok nr
  subst hv
  have TOK := Lib.hid tok
  have EE := Lib.hid (show (∀ i, i < n → E.getD i 0 < u) ∧ ∀ b, b < u → ∃ j, j < n ∧ E.getD j 0 = b from ⟨fun i hi => eu _ (by rw [List.getD_eq_getElem?_getD, List.getElem?_eq_getElem (by omega)]; exact List.getElem_mem _), fun b hb => by
    obtain ⟨j, hj, e⟩ := List.getElem_of_mem (ue b hb)
    exact ⟨j, by omega, by simp [hj, e]⟩⟩)
  have NR := Lib.hid nr
  have x1 : ((0 : Int) == 0) = true := by decide
  have x2 : ((0 : Int) != 0) = false := by decide
  clear C1 k1 k2 pe st eu ue nr lb best lE tok
  go_upto_region 5 with (first
    | (at_make; refine wpList_make_full _ rfl _ _ 44 rfl w1.heap.size 46 i0 (.agg #[.int .i64 0, .int .i64 0]) 2 Try.underlying44 hi hz0 hz1 .i64 .i64 _ _ u rfl rfl (by omega) (by omega) (by rw [hz2]; omega) (by unfold maxLen; omega) (Nat.le_refl _) ?_; intro w2 hown0 hgrow0))
  rw [dumpMade] at hown0
  have I0 := Lib.hid (IR.of2 hown0)
  have B2 := Lib.hid (show Below w1.heap.size w1 w2 from (Below.refl _ _).grown hgrow0 (Nat.le_refl _) (fun k e => by cases e))
  obtain ⟨g, hg⟩ : ∃ g, g = w1.heap.size := ⟨_, rfl⟩
  rw [← hg] at I0 ⊢
  have HG := Lib.hid hg
  clear hown0 hgrow0 hg x1 x2
  go_wp2_with fail
  go_loopw [16] (fun iv wr => ∃ (i : Nat) (f : Nat → Int), i ≤ n ∧ iv = .int .i64 i ∧ Hid (ShI f E i) ∧ Hid (IR wr g 46 (u * 2) f) ∧ Hid (Below w1.heap.size w1 wr)) (fun iv _ => n - (intOf iv).toNat)
  case atStart => exact ⟨0, fun _ => 0, Nat.zero_le _, rfl, Lib.hid (shI_zero E), I0, B2⟩
  case round =>
    clear I0 B2
    obtain ⟨i, f, hi', rfl, SI, IF, HB⟩ := hrel
    by_cases t1 : i < n
    · have i1 : (0 : Int) ≤ (i : Int) := by omega
      have i2 : (i : Int) < (n : Int) := by omega
      obtain ⟨e, he⟩ : ∃ e, e = E.getD i 0 := ⟨_, rfl⟩
      have HE := Lib.hid he.symm
      have eu : e < u := by rw [he]; exact EE.out.1 i t1
      have NC := Lib.hid (show ∀ W, Below w1.heap.size w1 W → W.cell? ⟨b, i, none⟩ = some (.int .i64 (e : Int)) from fun W B => by
        obtain ⟨y, ey, _, cy⟩ := (NR.out.below B) i (by simp; have := HN.out; omega)
        cases ey
        rw [add0, gi_map (by have := HN.out; omega)] at cy
        rw [he]; exact cy)
      obtain ⟨x, ex, kx, cx⟩ := (R.out.below (KB.out.trans (HB.out.mono KB.out.size))) i (by have := HN.out; omega)
      subst ex
      have TC := Lib.hid (show ∀ W, Below w1.heap.size w1 W → W.cell? (x.add i) = some (.int .i64 (gi T i)) from fun W B => by
        obtain ⟨y, ey, _, cy⟩ := (R.out.below (KB.out.trans (B.mono KB.out.size))) i (by have := HN.out; omega)
        cases ey
        exact cy)
      have tb := TOK.out i t1
      obtain ⟨t, ht⟩ : ∃ t, t = gi T i := ⟨_, rfl⟩
      rw [← ht] at cx TC tb
      have ta : 0 ≤ t.tmod 97 ∧ t.tmod 97 ≤ 96 := by rw [Int.tmod_eq_emod_of_nonneg (by omega)]; omega
      have tc : 0 ≤ t.tmod 89 ∧ t.tmod 89 ≤ 88 := by rw [Int.tmod_eq_emod_of_nonneg (by omega)]; omega
      obtain ⟨a, ha⟩ : ∃ a, t.tmod 97 = a := ⟨_, rfl⟩
      obtain ⟨cc, hcc⟩ : ∃ a, t.tmod 89 = a := ⟨_, rfl⟩
      rw [ha] at ta
      rw [hcc] at tc
      have HCC := Lib.hid hcc
      have S0 := SI.out e
      have cf := IF.out.cell (k := e * 2) (by omega)
      have ff := IF.out.frozen (e * 2)
      have cs0 := IF.out.cell (k := e * 2 + 1) (by omega)
      obtain ⟨P0, hP0⟩ : ∃ P0, P0 = f (e * 2) := ⟨_, rfl⟩
      obtain ⟨Q0, hQ0⟩ : ∃ Q0, Q0 = f (e * 2 + 1) := ⟨_, rfl⟩
      rw [← hP0] at cf S0
      rw [← hQ0] at cs0 S0
      have IF1 := Lib.hid (IF.out.set (e * 2) (P0 + (1 + a)))
      have HB1 := Lib.hid (show Below w1.heap.size w1 (wr.setCell ⟨g, e * 2, none⟩ (.int .i64 (P0 + (1 + a)))) from HB.out.setCell (by show w1.heap.size ≤ g; rw [HG.out]; exact Nat.le_refl _) _)
      have ST := Lib.hid (SI.out.step (e := e) (a := a) (c := cc) (f1 := upd f (e * 2) (P0 + (1 + a))) (f2 := upd (upd f (e * 2) (P0 + (1 + a))) (e * 2 + 1) (Q0 + (1 + cc))) HE.out ta tc (fun k => by unfold upd; rw [hP0]) (fun k => by
        show (if k = e * 2 + 1 then Q0 + (1 + cc) else upd f (e * 2) (P0 + (1 + a)) k) = _
        rw [show upd f (e * 2) (P0 + (1 + a)) (e * 2 + 1) = Q0 from by unfold upd; rw [if_neg (by omega)]; exact hQ0.symm]))
      have QC := Lib.hid (show upd f (e * 2) (P0 + (1 + a)) (e * 2 + 1) = Q0 from by unfold upd; rw [if_neg (by omega)]; exact hQ0.symm)
      have e1 : (0 : Int) ≤ (e : Int) := by omega
      have e2 : (e : Int) < (u : Int) := by omega
      have w97 : IntKind.i64.wrap (1 + a) = 1 + a := wI rfl (by omega) (by omega)
      have wP : IntKind.i64.wrap (P0 + (1 + a)) = P0 + (1 + a) := wI rfl (by omega) (by omega)
      have w89 : IntKind.i64.wrap (1 + cc) = 1 + cc := wI rfl (by omega) (by omega)
      have wQ : IntKind.i64.wrap (Q0 + (1 + cc)) = Q0 + (1 + cc) := wI rfl (by omega) (by omega)
      have cy := NC.out _ HB.out
      clear ht hP0 hQ0 he hcc kx SI S0
      go_upto_region 9 with fail
      go_cut [] from 45 to 61 (fun wx => Hid (IR wx g 46 (u * 2) (upd f (e * 2) (P0 + (1 + a)))) ∧ Hid (Below w1.heap.size w1 wx))
      case first =>
        clear HCC ST QC NC TC C5 AL EE HE w89 wQ tc cs0 IF HB
        go_region_law (fail)
        all_goals
          go_wp2_with fail
          go_meet
          exact ⟨(by first | exact IF1 | exact Lib.hid (IF1.out.keep rfl)), (by first | exact HB1 | exact Lib.hid HB1.out.drew | exact Lib.hid (below_drewN HB1.out _))⟩
      case rest =>
      clear IF1 HB1 cf ff cs0 cx cy ha w97 wP IF HB
      obtain ⟨IF1, HB1⟩ := hcut
      have ha := HCC.out
      have cx := TC.out _ HB1.out
      have cy := NC.out _ HB1.out
      have cs := IF1.out.cell (k := e * 2 + 1) (by omega)
      have fs := IF1.out.frozen (e * 2 + 1)
      rw [QC.out] at cs
      have IF2 := Lib.hid (IF1.out.set (e * 2 + 1) (Q0 + (1 + cc)))
      have HB2 := Lib.hid (show Below w1.heap.size w1 (wc.setCell ⟨g, e * 2 + 1, none⟩ (.int .i64 (Q0 + (1 + cc)))) from HB1.out.setCell (by show w1.heap.size ≤ g; rw [HG.out]; exact Nat.le_refl _) _)
      have ST2 := Lib.hid (show ShI (upd (upd f (e * 2) (P0 + (1 + a))) (e * 2 + 1) (Q0 + (1 + cc))) E (i + 1) from ST.out)
      clear ST QC NC TC HCC HE
      go_upto_region 10 with fail
      clear C5 AL EE IF1 HB1
      go_region_law (fail)
      all_goals
        go_wp2_with fail
        go_roundw
        case rel => exact ⟨i + 1, _, by omega, by go_num, ST2, (by first | exact IF2 | exact Lib.hid (IF2.out.keep rfl)), (by first | exact HB2 | exact Lib.hid HB2.out.drew | exact Lib.hid (below_drewN HB2.out _))⟩
        case measure => simp [intOf]; omega
    obtain rfl : i = n := by omega
    have RD := Lib.hid (FlD_dmp IF.out)
    have lD := FlD_len f u
    have DK := Lib.hid (show ∀ j, j < u → 0 ≤ pd (FlD f u) j ∧ pd (FlD f u) j ≤ 12 * 97 ∧ 1 ≤ sd (FlD f u) j ∧ sd (FlD f u) j ≤ 12 * 89 from fun j hj => by
      obtain ⟨k1, k2, k3, k4, k5⟩ := SI.out j
      have := k5 (EE.out.2 j hj)
      rw [FlD_p hj, FlD_s hj]
      omega)
    have DO := Lib.hid (shed_dok (u := u) SI.out n12)
    have KB2 := Lib.hid (KB.out.trans (HB.out.mono KB.out.size))
    obtain ⟨D, hD⟩ : ∃ D, D = FlD f u := ⟨_, rfl⟩
    rw [← hD] at RD lD DK DO
    have C4 := Lib.hid (Sequence_any (some ⟨g, 0, none⟩) u D wr RD.out (by omega))
    rw [lD] at C4
    have C5 := Lib.hid (fun W st rd => C5.out W g u D lD u12 rd st)
    rw [lD] at C5
    have LD := Lib.hid lD
    clear hD lD SI IF HB EE TOK NR KB n12
    go_wp2_with fail
    refine C4.out.mono ?_
    rintro e w4 ⟨y, v1, m, rfl, de, st4, -, s2⟩
    obtain rfl : y = 0 := de.fn (.inr (.inl ⟨by have := LD.out; omega, DO.out, rfl⟩))
    obtain ⟨b4, O, hv, -, -, hO, hm, rO⟩ := s2 rfl
    have lO : O.length = u := by rw [hO.1]; exact LD.out
    rw [lO] at hv
    subst hv
    have DB := Lib.hid (show ∀ i, 0 ≤ pd D i ∧ pd D i ≤ 1073741824 ∧ 0 ≤ sd D i ∧ sd D i ≤ 1073741824 from fun i => by
      by_cases h : i < u
      · have := DK.out i h; omega
      · simp [pd, sd, List.getElem?_eq_none (by have := LD.out; omega : D.length ≤ i)])
    have JN := Lib.hid (show ∀ V, IsOrd D.length V → m ≤ mks (pd D) (sd D) (od V) D.length from fun V hV => by rw [hm]; exact john DB.out hO hV rO)
    have TT := Lib.hid (shed_times (D := D) (u := u) (O := O) (m := m) (z := z) LD.out u12 DK.out (by rw [← LD.out]; exact hO) (by rw [hm, LD.out]) g4)
    have RD4 := Lib.hid (RD.out.below st4)
    have KB4 := Lib.hid (KB2.out.trans (st4.mono KB2.out.size))
    have C6 := Lib.hid (C5.out w4 KB4.out RD4.out)
    clear de st4 s2 hO hm rO lO C4 C5 RD KB2 DO DB DK
    go_wp2_with fail
    refine C6.out.mono ?_
    rintro e w5 ⟨y, k, rfl, mk, st5⟩
    have KM := Lib.hid (show y = 0 → m ≤ k from fun h => by
      subst h
      rw [mk.2.2 rfl]
      exact JN.out U (mk.1.good).2.2)
    have RD5 := Lib.hid (RD4.out.below st5)
    have KB5 := Lib.hid (KB4.out.trans (st5.mono KB4.out.size))
    clear mk st5 C6 RD4 KB4 JN
    go_upto_region 13 with fail
    go_cut [107] from 91 to 107 (fun bv wx => bv = .bool false ∧ wx = w5)
    case first =>
      have x1 : ((0 : Int) != 0) = false := by decide
      have x3 : ((u : Int) != (u : Int)) = false := by simp
      by_cases y0 : y = 0
      · have y1 : (y == 0) = true := by simpa using y0
        have km := KM.out y0
        have k3 : decide (k < m) = false := decide_eq_false (by omega)
        clear KM y0 km TT AL
        go_wp2_with fail
        go_meet
        exact ⟨rfl, rfl⟩
      · have y1 : (y == 0) = false := by simpa using y0
        clear KM y0 TT AL
        go_wp2_with fail
        go_meet
        exact ⟨rfl, rfl⟩
    case rest =>
    obtain ⟨rfl, rfl⟩ := hcut
    clear KM
    have TB := Lib.hid (And.intro TT.out.1 TT.out.2.1)
    obtain ⟨X, hX⟩ : ∃ X, X = TaL D u (m + z) := ⟨_, rfl⟩
    have XT := Lib.hid (show ∀ k, k < u → X.take (k + 1) = X.take k ++ [(sd D k, m + z)] from fun k hk => by rw [hX]; exact TaL_take hk)
    have XL := Lib.hid (show X.length = u by rw [hX]; exact TaL_len _ _ _)
    have TT := Lib.hid TT.out.2.2
    rw [← hX] at TT
    clear hX
    go_wp2_with fail
    go_loopw [15, 22] (fun tv kv wr => ∃ k : Nat, k ≤ u ∧ kv = .int .i64 k ∧ Hid (wr.ownsRow wc.heap.size 50 2 tv k (rowsV (X.take k))) ∧ Hid (Below wc.heap.size wc wr)) (fun _ kv _ => u - (intOf kv).toNat)
    case atStart => exact ⟨0, Nat.zero_le _, rfl, Lib.hid (World.ownsRow_nil _ _ _ _), Lib.hid (Below.refl _ _)⟩
    case round =>
      obtain ⟨k', hk', rfl, OW, HB⟩ := hrel
      by_cases t2 : k' < u
      · have i1 : (0 : Int) ≤ (k' : Int) := by omega
        have i2 : (k' : Int) < (u : Int) := by omega
        obtain ⟨y', ey, ky, -, cs⟩ := (RD5.out.below HB.out) k' (by have := LD.out; omega)
        cases ey
        rw [add0] at cs
        replace cs : wr.cell? ⟨g, k' * 2 + 1, none⟩ = some (.int .i64 (sd D k')) := cs
        have XS := Lib.hid (XT.out k' t2)
        have wz : IntKind.i64.wrap z = z := wI rfl (by omega) (by omega)
        have wS : IntKind.i64.wrap (m + z) = m + z := wI rfl (by have := TB.out; omega) (by have := TB.out; omega)
        have hbs : ∀ o, wc.heap.size ≤ (wr.alloc o).heap.size := fun o => by have := HB.out.size; simp; omega
        generalize sd D k' = s' at *
        clear ky TT XT AL
        go_wp2_with (first
          | (at_builtin; refine wpList_append_own _ rfl _ _ 22 rfl wc.heap.size 50 j0 (.agg #[.int .i64 0, .int .i64 0]) 2 16 Try.underlying22 hj hy0 hy1 hy2 rfl (by decide) _ _ _ rfl (World.ownsRow.alloc OW.out _) ⟨wr.heap.size, 0, none⟩ 1 1 [.int .i64 s', .int .i64 (m + z)] rfl rfl (World.news_of_block (cs := #[.int .i64 s', .int .i64 (m + z)]) (t := 50) (fr := (0, 0)) (heap_alloc_new _ _)) (by simp [Value.oneCell']) (by unfold maxLen; omega) (by omega) (hbs _) ?_))
        intro v' w7 hown' hgrow _
        have OW2 := Lib.hid (show w7.ownsRow wc.heap.size 50 2 v' (k' + 1) (rowsV (X.take (k' + 1))) from by rw [XS.out, rowsV_snoc]; exact hown')
        have HB2 := Lib.hid (show Below wc.heap.size wc w7 from (HB.out.alloc HB.out.size _).grown hgrow (hbs _) (fun k e => (World.ownsRow.lt OW.out k e).1))
        clear hown' hgrow hbs OW HB cs XS
        go_wp2_with fail
        go_roundw
        case rel => exact ⟨k' + 1, by omega, by go_num, OW2, HB2⟩
        case measure => simp [intOf]; omega
      obtain rfl : k' = u := by omega
      obtain ⟨q7, c7, hv, rx⟩ := ownDumps (M := X) (t := 50) (v := u15) (W := wr) (b := wc.heap.size) (by
        have := OW.out
        rw [List.take_of_length_le (by have := XL.out; omega)] at this
        rw [XL.out]; exact this)
      rw [XL.out] at hv
      subst hv
      have C7 := Lib.hid (OnTime_any q7 c7 X wr rx (by have := XL.out; omega))
      rw [XL.out] at C7
      have KB6 := Lib.hid (KB5.out.trans (HB.out.mono KB5.out.size))
      clear OW HB rx XT RD5 KB5
      go_wp2_with fail
      refine C7.out.mono ?_
      rintro e w8 ⟨y2, v3, v4, rfl, ke, st8, -, n2⟩
      obtain rfl : y2 = 0 := by
        rcases ke with ⟨a1, _⟩ | ⟨_, _, a1⟩ | ⟨_, a1, _⟩
        · have := XL.out; omega
        · exact a1
        · rw [XL.out] at a1; exact absurd TT.out.1 a1
      obtain ⟨q8, c8, q9, c9, h8, h9, -, -⟩ := n2 rfl
      rw [XL.out, TT.out.2.1] at h8 h9
      rw [TT.out.2.2] at h9
      rw [dueO_len] at h8
      simp only [List.length_nil] at h9
      subst h8
      subst h9
      have KB7 := Lib.hid (KB6.out.trans (st8.mono KB6.out.size))
      have x1 : ((0 : Int) == 0) = true := by decide
      have x3 : ((k' : Int) == (k' : Int)) = true := by simp
      clear ke st8 n2 C7 KB6 TT
      go_wp2_with fail
      refine (AL.out _).mono ?_
      rintro e w9 ⟨rfl, st⟩
      go_wp2_with fail
      go_ret
      exact ⟨rfl, KB7.out.trans (st.mono KB7.out.size)⟩
end Go.Proofs.Ythbgeikdamajlab
