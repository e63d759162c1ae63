/- Press: the reference's search, a step (SQ1 behind SQA). -/
import Derived.Test.YthfnaegfjacjbaaSQA
/- Press: the reference's search, a step. -/
namespace Go.Proofs.Ythfnaegfjacjbaa
open Go.RowKit Go.Proofs.Ythfnaegfjacjbaa.Prs Go.Proofs.Ythfnaegfjacjbaa.Stb
set_option linter.unusedVariables false
set_option linter.unusedSimpArgs false

set_option maxRecDepth 100000 in
set_option maxHeartbeats 16000000 in
theorem rput_step {base bs ra rs rk : Nat} (gl : RL base bs ra rs rk) {p : Option Addr} {c M : Nat} {mo ea sl : Int} {T : List Int} (hM : M ≤ 12) (hmo : 0 ≤ mo ∧ mo ≤ 12884901888) (hea : 0 ≤ ea ∧ ea ≤ 12) (hsl : 0 ≤ sl) (h12 : T.length ≤ 12) (ok : ThOk T T.length) (hp : ∀ x, p = some x → 0 < T.length → x.block < base)
    (t : Int) (ts : List Int) (k u : Nat) (O : Nat → Int) (s : Nat → Int × Int) (W : World) (hT : T.drop k = t :: ts) (h : RM bs ra rs rk p T.length c M mo ea sl W O s) (nr : NumR W p T) (hs : PB mo ea s) (cn : Sea.Cn s u) (hu : u ≤ k)
    (ih : ∀ (u : Nat) (O : Nat → Int) (s : Nat → Int × Int) (W : World), RM bs ra rs rk p T.length c M mo ea sl W O s → NumR W p T → PB mo ea s → Sea.Cn s u → u ≤ k + 1 →
      Calls Try.prog 76 #[.pointer (some ⟨bs, 0, none⟩), .int .i64 ((k : Int) + 1), .int .i64 u] W (RQ bs ra rs rk p T.length c M (k + 1) mo ea sl ts O s W)) :
    Calls Try.prog 76 #[.pointer (some ⟨bs, 0, none⟩), .int .i64 k, .int .i64 u] W (RQ bs ra rs rk p T.length c M k mo ea sl (t :: ts) O s W) := by
  have kn : k < T.length := by
    apply Classical.byContradiction; intro g
    rw [List.drop_of_length_le (by omega)] at hT; cases hT
  have tk : gi T k = t := by
    rw [List.drop_eq_getElem_cons kn] at hT
    have := (List.cons.inj hT).1
    simp [gi, kn, this]
  have t0 := ok k kn
  rw [tk] at t0
  obtain ⟨c0, -, -, -, -, -, -, c7⟩ := h.cells
  have H := Lib.hid h
  have GLh := Lib.hid gl
  have IH := Lib.hid ih
  have HS := Lib.hid hs
  have CN := Lib.hid cn
  obtain ⟨xa, hpx, -, -⟩ := nr k kn
  subst hpx
  have NB := Lib.hid (fun W' (f : Fm (RMod ra rs rk) W W') => nr.fm f (fun x e h0 => gl.mod (hp x e h0)))
  have TK := Lib.hid tk
  have XAB := Lib.hid (show xa.block < base from hp xa rfl (by omega))
  obtain ⟨n, hn⟩ : ∃ n, n = T.length := ⟨_, rfl⟩
  rw [← hn] at H IH kn h12 c0 ⊢
  have HN := Lib.hid hn
  have d2 : ((k : Int) == (n : Int)) = false := by simp; omega
  have d3 : decide (sl < 0) = false := decide_eq_false (by omega)
  have QE := Lib.hid (show ∀ W' O', RM bs ra rs rk (some xa) n c M mo ea sl W' O' s → (∀ j, j < k → O' j = O j) → Sea.NoF mo ea M (t :: ts) s → Fm (RMod ra rs rk) W W' → RQ bs ra rs rk (some xa) n c M k mo ea sl (t :: ts) O s W (.returned (.bool false)) W' from fun W' O' g e r f => ⟨false, O', s, rfl, g, f, e, fun _ => ⟨rfl, r⟩, fun h => (by cases h)⟩)
  clear h hT hp nr gl ih hs ok tk hn cn
  go_enter Try.func76, Try.ntmps76
  go_wp2_with fail
  go_loopw [7] (fun iv wr => ∃ (q : Nat) (O1 : Nat → Int), q ≤ u + 1 ∧ q ≤ M ∧ iv = .int .i64 q ∧ Hid (RM bs ra rs rk (some xa) n c M mo ea sl wr O1 s) ∧ Hid (∀ j, j < k → O1 j = O j) ∧ Hid (Sea.NoL mo ea M ts s t q) ∧ Hid (Fm (RMod ra rs rk) W wr)) (fun iv _ => u + 1 - (intOf iv).toNat)
  case atStart => exact ⟨0, O, Nat.zero_le _, Nat.zero_le _, rfl, H, Lib.hid fun _ _ => rfl, Lib.hid Sea.NoL.zero, Lib.hid (Fm.refl _ _)⟩
  case round =>
    clear H c0 c7 d2 d3
    obtain ⟨q, O1, hq, hqM, rfl, H, O1E, NL, FM⟩ := hrel
    by_cases t1 : q < u + 1
    case neg =>
      have e1 : decide ((q : Int) ≤ (u : Int)) = false := decide_eq_false (by omega)
      have QF := Lib.hid (QE.out wr O1 H.out O1E.out (NL.out.end_ CN.out (.inr (by omega))) FM.out)
      go_wp2_with fail
      go_ret
      exact QF.out
    have e1 : decide ((q : Int) ≤ (u : Int)) = true := decide_eq_true (by omega)
    obtain ⟨-, c1, -, -, -, -, -, -⟩ := H.out.cells
    by_cases t2 : q < M
    case neg =>
      have e2 : decide ((q : Int) < (M : Int)) = false := decide_eq_false (by omega)
      have QF := Lib.hid (QE.out wr O1 H.out O1E.out (NL.out.end_ CN.out (.inl (by omega))) FM.out)
      go_wp2_with fail
      go_ret
      exact QF.out
    have e2 : decide ((q : Int) < (M : Int)) = true := decide_eq_true (by omega)
    have qM : q < M := t2
    have i1 : (0 : Int) ≤ (q : Int) := by omega
    have i2 : (q : Int) < (M : Int) := by omega
    obtain ⟨⟨a, b⟩, hab⟩ : ∃ v, v = s q := ⟨_, rfl⟩
    have HAB := Lib.hid hab
    have sb := HS.out q (by omega)
    rw [← hab] at sb
    dsimp only at sb
    have k1 : (0 : Int) ≤ (k : Int) := by omega
    have k2 : (k : Int) < (n : Int) := by omega
    obtain ⟨y, hy⟩ : ∃ y, y = a + t := ⟨_, rfl⟩
    have wy : IntKind.i64.wrap (a + t) = y := wI hy.symm (by omega) (by omega)
    have HY := Lib.hid hy
    have yb : 1 ≤ y ∧ y ≤ 13958643712 := by omega
    clear hy
    go_upto_region 8 with fail
    clear c1 e1 e2
    obtain ⟨c0, -, c2, c3, -, c5, c6, -⟩ := H.out.cells
    obtain ⟨xb, exb, kx, cx⟩ := (NB.out _ FM.out) k (by have := HN.out; omega)
    cases exb
    rw [TK.out] at cx
    have cs := H.out.xs.cell qM
    have ck := H.out.xk.cell qM
    rw [← hab] at cs ck
    simp only [] at cs ck
    clear kx hab
    by_cases full : mo < y
    · have d3 : decide (mo < y) = true := decide_eq_true full
      have NL2 := Lib.hid (NL.out.bad (by
        rw [← HAB.out]
        have := HY.out
        exact if_neg (fun h => by have := h.2.2; dsimp only at this; omega)))
      clear full NL
      go_quiet (fail)
      go_wp2_with fail
      go_roundw
      case rel => exact ⟨q + 1, O1, by omega, by omega, by go_num, Lib.hid (H.out.call (below_drewN (Below.refl _ _) _)), O1E, NL2, Lib.hid (FM.out.trans (Fm.call (below_drewN (Below.refl _ _) _)))⟩
      case measure => simp [intOf] <;> omega
    have d3 : decide (mo < y) = false := decide_eq_false full
    by_cases many : ea ≤ b
    · have d4 : decide (ea ≤ b) = true := decide_eq_true many
      have NL2 := Lib.hid (NL.out.bad (by
        rw [← HAB.out]
        exact if_neg (fun h => by have := h.2.1; dsimp only at this; omega)))
      clear many full NL
      go_quiet (fail)
      go_wp2_with fail
      go_roundw
      case rel => exact ⟨q + 1, O1, by omega, by omega, by go_num, Lib.hid (H.out.call (below_drewN (Below.refl _ _) _)), O1E, NL2, Lib.hid (FM.out.trans (Fm.call (below_drewN (Below.refl _ _) _)))⟩
      case measure => simp [intOf] <;> omega
    have d4 : decide (ea ≤ b) = false := decide_eq_false many
    have AD := Lib.hid (show Sea.addP mo ea (s q) t = some (y, b + 1) from by
      rw [← HAB.out, HY.out]
      exact if_pos ⟨by dsimp only; omega, by dsimp only; omega, by dsimp only; have := HY.out; omega⟩)
    have YB := Lib.hid (show (0 ≤ y ∧ y ≤ mo) ∧ 0 ≤ b + 1 ∧ b + 1 ≤ ea from by omega)
    clear many full
    go_quiet (fail)
    have H1 := Lib.hid (H.out.call (below_drewN (Below.refl _ _) nq))
    have F1 := Lib.hid (FM.out.trans (Fm.call (below_drewN (Below.refl wr.heap.size wr) nq)))
    clear H FM c0 c2 c3 c5 c6 cx cs ck d3 d4
    generalize wr.drewN nq = w1 at *
    obtain ⟨-, -, -, -, c4, -, -, -⟩ := H1.out.cells
    have fo := H1.out.xa.frozen k
    have ci := H1.out.xa.cell (k := k) kn
    have H2 := Lib.hid (H1.out.setA GLh.out k q)
    have F2 := Lib.hid (F1.out.trans (Fm.set (M := RMod ra rs rk) ⟨ra, k, none⟩ (.int .i64 (q : Int)) (.inl rfl)))
    clear H1 F1
    go_upto_region 10 with fail
    clear c4 fo ci
    generalize w1.setCell ⟨ra, k, none⟩ (.int .i64 (q : Int)) = w2 at *
    obtain ⟨c0, -, -, -, -, c5, -, -⟩ := H2.out.cells
    obtain ⟨xb, exb, kx, cx⟩ := (NB.out _ F2.out) k (by have := HN.out; omega)
    cases exb
    rw [TK.out] at cx
    have cs := H2.out.xs.cell qM
    rw [← HAB.out] at cs
    simp only [] at cs
    have fs := H2.out.xs.frozen q
    have H3 := Lib.hid (H2.out.setS GLh.out q y)
    have F3 := Lib.hid (F2.out.trans (Fm.set (M := RMod ra rs rk) ⟨rs, q, none⟩ (.int .i64 y) (.inr (.inl rfl))))
    clear H2 F2 kx
    go_cut [] from 75 to 89 (fun wx => Hid (RM bs ra rs rk (some xa) n c M mo ea sl wx (upd O1 k q) (Sea.up s q (y, (s q).2))) ∧ Hid (Fm (RMod ra rs rk) W wx))
    case first =>
      go_region_law (fail)
      all_goals
        go_wp2_with fail
        go_meet
        exact ⟨(by first | exact H3 | exact Lib.hid (H3.out.call ((Below.refl _ _).drew)) | exact Lib.hid (H3.out.call (below_drewN (Below.refl _ _) _))), (by first | exact F3 | exact Lib.hid (F3.out.trans (Fm.call ((Below.refl _ _).drew))) | exact Lib.hid (F3.out.trans (Fm.call (below_drewN (Below.refl _ _) _))))⟩
    case rest =>
    obtain ⟨H4, F4⟩ := hcut
    clear H3 F3 c0 c5 cx cs fs wy
    obtain ⟨-, -, -, -, -, -, c6, -⟩ := H4.out.cells
    have ck := H4.out.xk.cell qM
    rw [Sea.up_same, ← HAB.out] at ck
    simp only [] at ck
    have fk := H4.out.xk.frozen q
    have wb : IntKind.i64.wrap (b + 1) = b + 1 := wI rfl (by omega) (by omega)
    have H5 := Lib.hid ((H4.out.setK GLh.out q (b + 1)).ext (s' := Sea.up s q (y, b + 1)) (fun _ _ => rfl) (fun j => by
      unfold Sea.up
      by_cases e : j = q
      · rw [if_pos e, if_pos e, if_pos rfl]
      · rw [if_neg e, if_neg e, if_neg e]))
    have F5 := Lib.hid (F4.out.trans (Fm.set (M := RMod ra rs rk) ⟨rk, q, none⟩ (.int .i64 (b + 1)) (.inr (.inr rfl))))
    clear H4 F4
    go_upto_region 12 with fail
    clear c6 ck fk wb
    generalize wc.setCell ⟨rk, q, none⟩ (.int .i64 (b + 1)) = w5 at *
    have wk : IntKind.i64.wrap ((k : Int) + 1) = (k : Int) + 1 := IntWalk.i64_in _ (by omega)
    have wq : IntKind.i64.wrap ((q : Int) + 1) = (q : Int) + 1 := IntWalk.i64_in _ (by omega)
    have SB := Lib.hid (HS.out.put q YB.out.1 YB.out.2)
    have CNP := Lib.hid (CN.out.put (b := q) (y := (y, b + 1)) (by omega) (by dsimp only; omega))
    by_cases hqu : q = u
    · have d5 : ((q : Int) == (u : Int)) = true := by simp; omega
      have wu : IntKind.i64.wrap ((u : Int) + 1) = (u : Int) + 1 := IntWalk.i64_in _ (by omega)
      have CI := Lib.hid (fun W' g h => IH.out (u + 1) (upd O1 k q) (Sea.up s q (y, b + 1)) W' g h SB.out (by have := CNP.out; rwa [show max u (q + 1) = u + 1 from by omega] at this) (by omega))
      rw [show ((u + 1 : Nat) : Int) = (u : Int) + 1 from by omega] at CI
      clear hqu IH
      go_wp2_with fail
      refine (CI.out _ H5.out (NB.out _ F5.out)).mono ?_
      rintro e v5 ⟨f, O3, s3, rfl, g6, f6, e6, no6, yes6⟩
      cases f with
      | true =>
        obtain ⟨E1, fst, at6⟩ := yes6 rfl
        have FF := Lib.hid (show RQ bs ra rs rk (some xa) n c M k mo ea sl (t :: ts) O s W (.returned (.bool true)) v5 from
          ⟨true, O3, s3, rfl, g6, F5.out.trans f6, fun j hj => by
            rw [e6 j (by omega)]
            show upd O1 k q j = O j
            unfold upd
            rw [if_neg (by omega)]; exact O1E.out j hj, fun h => (by cases h), fun _ => ⟨q :: E1, Sea.Fst.cons NL.out qM AD.out fst, fun j hj => by
              cases j with
              | zero =>
                rw [Nat.add_zero, e6 k (by omega)]
                show upd O1 k q k = nv (q :: E1) 0
                unfold upd nv
                rw [if_pos rfl]; rfl
              | succ j =>
                rw [show k + (j + 1) = k + 1 + j from by omega, at6 j (by omega)]
                unfold nv
                rfl⟩⟩)
        clear g6 f6 e6 no6 yes6 fst at6 CI H5 F5 QE NL
        go_wp2_with fail
        go_ret
        exact FF.out
      | false =>
        obtain ⟨rfl, no⟩ := no6 rfl
        have NL2 := Lib.hid (NL.out.call AD.out no)
        have H6 := Lib.hid g6
        have F6 := Lib.hid (F5.out.trans f6)
        have OE3 := Lib.hid (show ∀ j, j < k → O3 j = O j from fun j hj => by
          rw [e6 j (by omega)]
          show upd O1 k q j = O j
          unfold upd
          rw [if_neg (by omega)]; exact O1E.out j hj)
        clear g6 f6 e6 no6 yes6 no CI H5 F5 NL AD
        go_upto_region 17 with fail
        obtain ⟨c0, -, -, -, -, c5, -, -⟩ := H6.out.cells
        obtain ⟨xb, exb, ky, cx⟩ := (NB.out _ F6.out) k (by have := HN.out; omega)
        cases exb
        rw [TK.out] at cx
        have cs := H6.out.xs.cell qM
        rw [Sea.up_same] at cs
        simp only [] at cs
        have fs := H6.out.xs.frozen q
        have wz : IntKind.i64.wrap (y - t) = a := wI (by have := HY.out; omega) (by omega) (by omega)
        have H7 := Lib.hid (H6.out.setS GLh.out q a)
        have F7 := Lib.hid (F6.out.trans (Fm.set (M := RMod ra rs rk) ⟨rs, q, none⟩ (.int .i64 a) (.inr (.inl rfl))))
        clear H6 F6 ky
        go_cut [] from 111 to 125 (fun wx => Hid (RM bs ra rs rk (some xa) n c M mo ea sl wx O3 (Sea.up (Sea.up s q (y, b + 1)) q (a, (Sea.up s q (y, b + 1) q).2))) ∧ Hid (Fm (RMod ra rs rk) W wx))
        case first =>
          go_region_law (fail)
          all_goals
            go_wp2_with fail
            go_meet
            exact ⟨(by first | exact H7 | exact Lib.hid (H7.out.call ((Below.refl _ _).drew)) | exact Lib.hid (H7.out.call (below_drewN (Below.refl _ _) _))), (by first | exact F7 | exact Lib.hid (F7.out.trans (Fm.call ((Below.refl _ _).drew))) | exact Lib.hid (F7.out.trans (Fm.call (below_drewN (Below.refl _ _) _))))⟩
        case rest =>
        obtain ⟨H8, F8⟩ := hcut
        clear H7 F7 c0 c5 cx cs fs wz
        obtain ⟨-, -, -, -, -, -, c6, -⟩ := H8.out.cells
        have ck := H8.out.xk.cell qM
        rw [Sea.up_same, Sea.up_same] at ck
        simp only [] at ck
        have fk := H8.out.xk.frozen q
        have wk1 : IntKind.i64.wrap (b + 1 - 1) = b := wI (by omega) (by omega) (by omega)
        have wk2 : IntKind.i64.wrap b = b := wI rfl (by omega) (by omega)
        have H9 := Lib.hid ((H8.out.setK GLh.out q b).ext (s' := s) (fun _ _ => rfl) (fun j => by
          unfold Sea.up
          by_cases e : j = q
          · rw [if_pos e, e]; simp [← HAB.out]
          · rw [if_neg e, if_neg e, if_neg e]))
        have F9 := Lib.hid (F8.out.trans (Fm.set (M := RMod ra rs rk) ⟨rk, q, none⟩ (.int .i64 b) (.inr (.inr rfl))))
        clear H8 F8
        go_wp2_with fail
        go_roundw
        case rel => exact ⟨q + 1, O3, by omega, by omega, by go_num, H9, OE3, NL2, F9⟩
        case measure => simp [intOf] <;> omega
    · have d5 : ((q : Int) == (u : Int)) = false := by simp; omega
      have CI := Lib.hid (fun W' g h => IH.out u (upd O1 k q) (Sea.up s q (y, b + 1)) W' g h SB.out (by have := CNP.out; rwa [show max u (q + 1) = u from by omega] at this) (by omega))
      clear hqu IH
      go_wp2_with fail
      refine (CI.out _ H5.out (NB.out _ F5.out)).mono ?_
      rintro e v5 ⟨f, O3, s3, rfl, g6, f6, e6, no6, yes6⟩
      cases f with
      | true =>
        obtain ⟨E1, fst, at6⟩ := yes6 rfl
        have FF := Lib.hid (show RQ bs ra rs rk (some xa) n c M k mo ea sl (t :: ts) O s W (.returned (.bool true)) v5 from
          ⟨true, O3, s3, rfl, g6, F5.out.trans f6, fun j hj => by
            rw [e6 j (by omega)]
            show upd O1 k q j = O j
            unfold upd
            rw [if_neg (by omega)]; exact O1E.out j hj, fun h => (by cases h), fun _ => ⟨q :: E1, Sea.Fst.cons NL.out qM AD.out fst, fun j hj => by
              cases j with
              | zero =>
                rw [Nat.add_zero, e6 k (by omega)]
                show upd O1 k q k = nv (q :: E1) 0
                unfold upd nv
                rw [if_pos rfl]; rfl
              | succ j =>
                rw [show k + (j + 1) = k + 1 + j from by omega, at6 j (by omega)]
                unfold nv
                rfl⟩⟩)
        clear g6 f6 e6 no6 yes6 fst at6 CI H5 F5 QE NL
        go_wp2_with fail
        go_ret
        exact FF.out
      | false =>
        obtain ⟨rfl, no⟩ := no6 rfl
        have NL2 := Lib.hid (NL.out.call AD.out no)
        have H6 := Lib.hid g6
        have F6 := Lib.hid (F5.out.trans f6)
        have OE3 := Lib.hid (show ∀ j, j < k → O3 j = O j from fun j hj => by
          rw [e6 j (by omega)]
          show upd O1 k q j = O j
          unfold upd
          rw [if_neg (by omega)]; exact O1E.out j hj)
        clear g6 f6 e6 no6 yes6 no CI H5 F5 NL AD
        go_upto_region 17 with fail
        obtain ⟨c0, -, -, -, -, c5, -, -⟩ := H6.out.cells
        obtain ⟨xb, exb, ky, cx⟩ := (NB.out _ F6.out) k (by have := HN.out; omega)
        cases exb
        rw [TK.out] at cx
        have cs := H6.out.xs.cell qM
        rw [Sea.up_same] at cs
        simp only [] at cs
        have fs := H6.out.xs.frozen q
        have wz : IntKind.i64.wrap (y - t) = a := wI (by have := HY.out; omega) (by omega) (by omega)
        have H7 := Lib.hid (H6.out.setS GLh.out q a)
        have F7 := Lib.hid (F6.out.trans (Fm.set (M := RMod ra rs rk) ⟨rs, q, none⟩ (.int .i64 a) (.inr (.inl rfl))))
        clear H6 F6 ky
        go_cut [] from 111 to 125 (fun wx => Hid (RM bs ra rs rk (some xa) n c M mo ea sl wx O3 (Sea.up (Sea.up s q (y, b + 1)) q (a, (Sea.up s q (y, b + 1) q).2))) ∧ Hid (Fm (RMod ra rs rk) W wx))
        case first =>
          go_region_law (fail)
          all_goals
            go_wp2_with fail
            go_meet
            exact ⟨(by first | exact H7 | exact Lib.hid (H7.out.call ((Below.refl _ _).drew)) | exact Lib.hid (H7.out.call (below_drewN (Below.refl _ _) _))), (by first | exact F7 | exact Lib.hid (F7.out.trans (Fm.call ((Below.refl _ _).drew))) | exact Lib.hid (F7.out.trans (Fm.call (below_drewN (Below.refl _ _) _))))⟩
        case rest =>
        obtain ⟨H8, F8⟩ := hcut
        clear H7 F7 c0 c5 cx cs fs wz
        obtain ⟨-, -, -, -, -, -, c6, -⟩ := H8.out.cells
        have ck := H8.out.xk.cell qM
        rw [Sea.up_same, Sea.up_same] at ck
        simp only [] at ck
        have fk := H8.out.xk.frozen q
        have wk1 : IntKind.i64.wrap (b + 1 - 1) = b := wI (by omega) (by omega) (by omega)
        have wk2 : IntKind.i64.wrap b = b := wI rfl (by omega) (by omega)
        have H9 := Lib.hid ((H8.out.setK GLh.out q b).ext (s' := s) (fun _ _ => rfl) (fun j => by
          unfold Sea.up
          by_cases e : j = q
          · rw [if_pos e, e]; simp [← HAB.out]
          · rw [if_neg e, if_neg e, if_neg e]))
        have F9 := Lib.hid (F8.out.trans (Fm.set (M := RMod ra rs rk) ⟨rk, q, none⟩ (.int .i64 b) (.inr (.inr rfl))))
        clear H8 F8
        go_wp2_with fail
        go_roundw
        case rel => exact ⟨q + 1, O3, by omega, by omega, by go_num, H9, OE3, NL2, F9⟩
        case measure => simp [intOf] <;> omega
end Go.Proofs.Ythfnaegfjacjbaa
