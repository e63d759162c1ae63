/- The law ClassingAgree: its walk. -/
import Derived.Test.YtkhdpmicejmabaaVA7
import Derived.Test.YtkhdpmicejmabaaVA5
namespace Go.Proofs.Ytkhdpmicejmabaa
open Go.RowKit Go.Proofs.Ytkhdpmicejmabaa.Ct Go.Proofs.Ytkhdpmicejmabaa.Stb
set_option linter.unusedVariables false
set_option linter.unusedSimpArgs false

theorem TA.lift {w : World} {b lo lo' : Nat} {tol : Int} {t : Tst} (h : TA w b lo tol t) (u : t.U = []) : TA w b lo' tol t := by
  obtain ⟨c, p, d, o, k, r, e⟩ := h.mem
  exact ⟨h.ok, h.tl, c, p, d, o, k, r, fun x hx => (by rw [e.2 u] at hx; cases hx), e.2⟩
theorem TA.fmA {w w' : World} {M : Nat → Prop} {b lo : Nat} {tol : Int} {t : Tst} (h : TA w b lo tol t) (f : Fm M w w') (hb : ¬ M b) (q : ∀ k, lo ≤ k → k < w.heap.size → ¬ M k) : TA w' b lo tol t := by
  obtain ⟨c, p, d, o, k, r, e⟩ := h.mem
  refine ⟨h.ok, h.tl, c, p, d, o.fm f hb, k, ?_, e⟩
  intro i hi
  obtain ⟨x, hx, hb, hc⟩ := r i hi
  refine ⟨x, hx, Nat.lt_of_lt_of_le hb f.size, ?_⟩
  have : w'.heap[(x.add i).block]? = w.heap[(x.add i).block]? := by rw [addB]; exact f.block _ hb (q _ (e.1 x hx).1.2 hb)
  unfold World.cell? at *
  rw [this]; exact hc
theorem own_fm {w w' : World} {M : Nat → Prop} {base : Nat} {e : TypeId} {m : Nat} {v : Value} {n : Nat} {xs : List Value} (h : w.ownsRow base e m v n xs) (f : Fm M w w') (q : ∀ k, base ≤ k → ¬ M k) : w'.ownsRow base e m v n xs := by
  refine ⟨h.1, ?_⟩
  rcases h.2 with h0 | ⟨g, cap, cur, rfl, hbg, hg, r⟩
  · exact .inl h0
  · exact .inr ⟨g, cap, cur, rfl, hbg, by rw [f.block g (Array.getElem?_eq_some_iff.1 hg).1 (q g hbg)]; exact hg, r⟩
/-- The memory of the law between the subsamples. -/
structure AI (W0 w1 : World) (b : Nat) (tol : Int) (t : Tst) (pl : Option Addr) (cl : Nat) (w : World) : Prop where
  ta : TA w b 0 tol t
  row : w.ownsRow w1.heap.size 35 5 (.slice pl t.n cl) t.n (rowS t.S t.n)
  bl : Below W0.heap.size W0 w
  acc : Acc tol t
  l1 : W0.heap.size ≤ b
  l2 : b < w1.heap.size
  l3 : w1.heap.size ≤ w.heap.size
theorem AI.below {W0 w1 w w' : World} {b : Nat} {tol : Int} {t : Tst} {pl : Option Addr} {cl : Nat} (h : AI W0 w1 b tol t pl cl w) (st : Below w.heap.size w w') : AI W0 w1 b tol t pl cl w' :=
  ⟨h.ta.below st, own_belowD h.row st, h.bl.trans (st.mono h.bl.size), h.acc, h.l1, h.l2, Nat.le_trans h.l3 st.size⟩
/-- A Feed that changes nothing that counts. -/
theorem AI.stay {W0 w1 w w' : World} {b : Nat} {tol : Int} {t : Tst} {pl : Option Addr} {cl : Nat} (h : AI W0 w1 b tol t pl cl w) (ta : TA w' b 0 tol t) (f : Fm (fun k => k = b) w w') : AI W0 w1 b tol t pl cl w' :=
  ⟨ta, own_fm h.row f (fun k hk => by have := h.l2; show k ≠ b; omega), h.bl.trans (f.below (fun k hk => by have := h.l1; show k ≠ b; omega) h.bl.size), h.acc, h.l1, h.l2, Nat.le_trans h.l3 f.size⟩
theorem TA.low {w : World} {b lo lo' : Nat} {tol : Int} {t : Tst} (h : TA w b lo tol t) (l : lo' ≤ lo) : TA w b lo' tol t := by
  obtain ⟨c, p, d, o, k, r, e⟩ := h.mem
  exact ⟨h.ok, h.tl, c, p, d, o, k, r, fun x hx => ⟨⟨(e.1 x hx).1.1, Nat.le_trans l (e.1 x hx).1.2⟩, (e.1 x hx).2⟩, e.2⟩
theorem own_some {p : Option Addr} {n c k : Nat} (h : (Value.slice p n c).ownBlock = some k) : ∃ x, p = some x ∧ x.block = k := by
  cases p with
  | none => cases h
  | some x => cases h; exact ⟨x, rfl, rfl⟩
theorem near_eq (S : Nat → Sb) (tol : Int) (x y : Nat) : nearS (S x) (S y) tol = nearB S tol x y := rfl

set_option maxRecDepth 100000 in
set_option maxHeartbeats 16000000 in
theorem classingAgree_walk (tol : Int) (bt : -9223372036854775808 ≤ tol ∧ tol ≤ 9223372036854775807) (p : Option Addr) (c m : Nat) (A : Nat → Sb) (w : World) (r : SbR w p m A) (z : m ≤ 9223372036854775807) :
    Calls Try.prog 4 #[.int .i64 tol, .slice p m c] w fun e w' => e = .returned (.bool true) ∧ Below w.heap.size w w' := by
  clear bt
  have AL := Lib.hid alive_any
  have R := Lib.hid r
  clear r
  have CN := Lib.hid (NewTest_any tol w)
  obtain ⟨i0, hi, hz0, hz1, hz2⟩ := info_parts subInfo
  go_enter Try.func4, Try.ntmps4
  go_wp2_with fail
  refine CN.out.mono ?_
  rintro e w1 ⟨b1, HN⟩
  clear CN
  rcases HN with ⟨bad, rfl⟩ | ⟨t0, t1, b, lb, rfl, ta⟩
  · have B1 := Lib.hid b1
    clear b1 bad
    go_wp2_with fail
    refine (AL.out _).mono ?_
    rintro e w4 ⟨rfl, st⟩
    have B4 := Lib.hid (B1.out.trans (st.mono B1.out.size))
    clear st
    go_wp2_with fail
    go_ret
    exact ⟨rfl, B4.out⟩
  by_cases m40 : 40 < m
  · have d1 : decide ((40 : Int) < (m : Int)) = true := decide_eq_true (by omega)
    have B1 := Lib.hid b1
    clear m40 z b1 ta
    go_wp2_with fail
    refine (AL.out _).mono ?_
    rintro e w4 ⟨rfl, st⟩
    have B4 := Lib.hid (B1.out.trans (st.mono B1.out.size))
    clear st
    go_wp2_with fail
    go_ret
    exact ⟨rfl, B4.out⟩
  have d1 : decide ((40 : Int) < (m : Int)) = false := decide_eq_false (by omega)
  have bw1 : b < w1.heap.size := by obtain ⟨_, _, _, o, -⟩ := (ta 0).mem; exact o.lt
  have HI := Lib.hid (show AI w w1 b tol tst0 none 0 w1 from ⟨ta 0, World.ownsRow_nil _ _ _ _, b1, Acc.zero tol, lb, bw1, Nat.le_refl _⟩)
  have TL := Lib.hid (show 0 ≤ tol ∧ tol ≤ 10000 from ⟨t0, t1⟩)
  clear ta b1 bw1 lb t0 t1 m40
  go_wp2_with fail
  go_loopw [7, 8] (fun lv kv wr => ∃ (i : Nat) (t : Tst) (pl : Option Addr) (cl : Nat), i ≤ m ∧ kv = .int .i64 i ∧ lv = .slice pl t.n cl ∧ Hid (AI w w1 b tol t pl cl wr)) (fun _ kv _ => m - (intOf kv).toNat)
  case atStart => exact ⟨0, tst0, none, 0, Nat.zero_le _, rfl, rfl, HI⟩
  case round =>
    obtain ⟨i, t, pl, cl, hi', rfl, rfl, HM⟩ := hrel
    clear HI
    by_cases t1 : i < m
    · have i1 : (0 : Int) ≤ (i : Int) := by omega
      have i2 : (i : Int) < (m : Int) := by omega
      have T1 := Lib.hid t1
      have CS := Lib.hid (State_any b 0 tol t wr HM.out.ta)
      have CR := Lib.hid ((Result_any b 0 tol t wr HM.out.ta).mono fun _ _ h => RsQ.u h)
      go_wp2_with fail
      refine CS.out.mono ?_
      rintro e w2 ⟨rfl, rfl⟩
      go_wp2_with fail
      refine CR.out.mono ?_
      rintro e wa ⟨pa, ca, rfl, sa, na, oa⟩
      clear CS CR
      have HR := Lib.hid (show NmR (wa.alloc (Obj.cells #[.int .i64 (fz Sb.wl t), .int .i64 (fz Sb.veg t), .int .i64 (fz Sb.raw t), .slice pa (fl t) ca] 39)) pa (fl t) (gi t.U) ∧ OB (wa.alloc (Obj.cells #[.int .i64 (fz Sb.wl t), .int .i64 (fz Sb.veg t), .int .i64 (fz Sb.raw t), .slice pa (fl t) ca] 39)) wa.heap.size 39 4 (resC (fz Sb.wl t) (fz Sb.veg t) (fz Sb.raw t) (.slice pa (fl t) ca)) ∧ wr.heap.size ≤ wa.heap.size ∧ (0 < fl t → ∀ x, pa = some x → wr.heap.size ≤ x.block) ∧ AI w w1 b tol t pl cl (wa.alloc (Obj.cells #[.int .i64 (fz Sb.wl t), .int .i64 (fz Sb.veg t), .int .i64 (fz Sb.raw t), .slice pa (fl t) ca] 39)) from
        ⟨na.below ((Below.refl _ _).alloc (Nat.le_refl _) _), ob_new4 _ _ _ _ _ _, sa.size, fun h x e => by obtain ⟨g, e2, l, -⟩ := oa h; rw [e] at e2; cases e2; exact l, HM.out.below (sa.alloc sa.size _)⟩)
      have BR := Lib.hid (show b < wr.heap.size from Nat.lt_of_lt_of_le HM.out.l2 HM.out.l3)
      clear sa na oa HM
      go_upto_region 10 with fail
      generalize (wa.alloc (Obj.cells #[.int .i64 (fz Sb.wl t), .int .i64 (fz Sb.veg t), .int .i64 (fz Sb.raw t), .slice pa (fl t) ca] 39)) = wb at *
      generalize wa.heap.size = g10 at *
      obtain ⟨x, rfl, -, a0, a1, a2, a3, a4⟩ := (R.out.below HR.out.2.2.2.2.bl) i T1.out
      generalize hA : A i = sv at *
      have HA := Lib.hid hA
      clear hA
      by_cases sz : t.st = 0
      case neg =>
        have sz2 : (t.st == 0) = false := by simpa using sz
        have CF := Lib.hid (Feed_any b 0 tol t sv wb HR.out.2.2.2.2.ta (Nat.zero_le _))
        unfold sbV at CF
        have FE := Lib.hid (show fde t sv = 10 from by unfold fde; rw [if_pos sz])
        have FS := Lib.hid (show fds tol t sv = t from by unfold fds; rw [if_pos sz])
        go_wp2_with fail
        refine CF.out.mono ?_
        rintro e w4 ⟨rfl, ta, fm⟩
        rw [FE.out]
        rw [FS.out] at ta
        have HA4 := Lib.hid (HR.out.2.2.2.2.stay ta fm)
        have o4 := HR.out.2.1.fm fm (by have := HR.out.2.2.1; have := BR.out; show ¬ g10 = b; omega)
        have n4 : NmR w4 pa (fl t) (gi t.U) := by
          by_cases h0 : 0 < fl t
          · exact HR.out.1.fm fm (fun x hx => by have := HR.out.2.2.2.1 h0 x hx; have := BR.out; show ¬ x.block = b; omega)
          · exact fun i hi => absurd hi (by omega)
        have CR := Lib.hid ((Result_any b 0 tol t w4 HA4.out.ta).mono fun _ _ h => RsQ.u h)
        have FL8 := Lib.hid (fl_le HA4.out.ta.ok)
        have H4 := Lib.hid (And.intro o4 n4)
        clear ta fm HR o4 n4 CF a0 a1 a2 a3 a4 sz
        go_wp2_with fail
        refine CR.out.mono ?_
        rintro e wc ⟨pb, cb, rfl, sc, nc, -⟩
        have st5 : Below w4.heap.size w4 (wc.alloc (Obj.cells #[.int .i64 (fz Sb.wl t), .int .i64 (fz Sb.veg t), .int .i64 (fz Sb.raw t), .slice pb (fl t) cb] 39)) := sc.alloc sc.size _
        have oc := ob_new4 wc (fz Sb.wl t) (fz Sb.veg t) (fz Sb.raw t) (.slice pb (fl t) cb) 39
        have o5 := H4.out.1.below st5
        have CF := Lib.hid (found_true (fz Sb.wl t) (fz Sb.veg t) (fz Sb.raw t) pa pb (fl t) ca cb (gi t.U) _ (H4.out.2.below st5) (nc.below ((Below.refl _ _).alloc (Nat.le_refl _) _)) (by have := FL8.out; omega))
        have HA5 := Lib.hid (HA4.out.below st5)
        have CS := Lib.hid (State_any b 0 tol t _ HA5.out.ta)
        clear H4 HA4 sc nc st5 CR
        go_upto_region 13 with fail
        generalize (wc.alloc (Obj.cells #[.int .i64 (fz Sb.wl t), .int .i64 (fz Sb.veg t), .int .i64 (fz Sb.raw t), .slice pb (fl t) cb] 39)) = wd at *
        generalize wc.heap.size = g13 at *
        have u0 : wd.cell? ⟨g10, 0, none⟩ = some (.int .i64 (fz Sb.wl t)) := o5.cell (k := 0) (by decide)
        have u1 : wd.cell? ⟨g10, 1, none⟩ = some (.int .i64 (fz Sb.veg t)) := o5.cell (k := 1) (by decide)
        have u2 : wd.cell? ⟨g10, 2, none⟩ = some (.int .i64 (fz Sb.raw t)) := o5.cell (k := 2) (by decide)
        have u3 : wd.cell? ⟨g10, 3, none⟩ = some (.slice pa (fl t) ca) := o5.cell (k := 3) (by decide)
        have v0 : wd.cell? ⟨g13, 0, none⟩ = some (.int .i64 (fz Sb.wl t)) := oc.cell (k := 0) (by decide)
        have v1 : wd.cell? ⟨g13, 1, none⟩ = some (.int .i64 (fz Sb.veg t)) := oc.cell (k := 1) (by decide)
        have v2 : wd.cell? ⟨g13, 2, none⟩ = some (.int .i64 (fz Sb.raw t)) := oc.cell (k := 2) (by decide)
        have v3 : wd.cell? ⟨g13, 3, none⟩ = some (.slice pb (fl t) cb) := oc.cell (k := 3) (by decide)
        have ss : (t.st == t.st) = true := by simp
        clear o5 oc
        go_wp2_with fail
        refine CS.out.mono ?_
        rintro e we ⟨rfl, rfl⟩
        go_wp2_with fail
        refine CF.out.mono ?_
        rintro e we ⟨rfl, st⟩
        have HA6 := Lib.hid (HA5.out.below st)
        clear u0 u1 u2 u3 v0 v1 v2 v3 CF CS st HA5
        go_wp2_with fail
        go_roundw
        case rel => exact ⟨i + 1, t, pl, cl, by have := T1.out; omega, by go_num, rfl, HA6⟩
        case measure => have := T1.out; simp [intOf]; omega
      have tu : t.U = [] := by
        have := HR.out.2.2.2.2.ta.ok.u0 (by omega)
        exact this
      have CF := Lib.hid (Feed_any b wb.heap.size tol t sv wb (HR.out.2.2.2.2.ta.lift tu) (Nat.le_refl _))
      unfold sbV at CF
      by_cases ok : sv.ok = true
      case neg =>
        have FE := Lib.hid (show fde t sv = 2 from by unfold fde; rw [if_neg (by simp [sz]), if_neg ok])
        have FS := Lib.hid (show fds tol t sv = t from by unfold fds; rw [if_neg (by simp [sz]), if_neg ok])
        go_wp2_with fail
        refine CF.out.mono ?_
        rintro e w4 ⟨rfl, ta, fm⟩
        rw [FE.out]
        rw [FS.out] at ta
        have HA4 := Lib.hid (HR.out.2.2.2.2.stay (ta.lift tu) fm)
        rw [sz]
        clear ta fm HR CF a0 a1 a2 a3 a4 tu
        go_wp2_with fail
        go_roundw
        case rel => exact ⟨i + 1, t, pl, cl, by have := T1.out; omega, by go_num, rfl, HA4⟩
        case measure => have := T1.out; simp [intOf]; omega
      have FE := Lib.hid (show fde t sv = 0 from by unfold fde; rw [if_neg (by simp [sz]), if_pos ok])
      have FN := Lib.hid (show (fds tol t sv).n = t.n + 1 ∧ (fds tol t sv).S = pts t.S t.n sv from by
        unfold fds
        rw [if_neg (by simp [sz]), if_pos ok]
        split
        · exact ⟨rfl, rfl⟩
        · unfold dec
          split
          · exact ⟨rfl, rfl⟩
          · split <;> exact ⟨rfl, rfl⟩)
      have n8 := (HR.out.2.2.2.2.ta.ok.wait sz).1
      have AC := Lib.hid (HR.out.2.2.2.2.acc.fds HR.out.2.2.2.2.ta.ok sv)
      go_wp2_with fail
      refine CF.out.mono ?_
      rintro e w4 ⟨rfl, ta, fm⟩
      rw [FE.out, sz]
      obtain ⟨t2, ht2⟩ : ∃ t2, t2 = fds tol t sv := ⟨_, rfl⟩
      rw [← ht2] at ta AC FN
      have H4 := Lib.hid (show TA w4 b wb.heap.size tol t2 ∧ w4.ownsRow w1.heap.size 35 5 (.slice pl t.n cl) t.n (rowS t.S t.n) ∧ Below w.heap.size w w4 ∧ (∀ x, pl = some x → x.block < wb.heap.size) ∧ w1.heap.size ≤ w4.heap.size from
        ⟨ta, own_fm HR.out.2.2.2.2.row fm (fun k hk => by have := HR.out.2.2.2.2.l2; show k ≠ b; omega), HR.out.2.2.2.2.bl.trans (fm.below (fun k hk => by have := HR.out.2.2.2.2.l1; show k ≠ b; omega) HR.out.2.2.2.2.bl.size), fun x hx => (own_blk HR.out.2.2.2.2.row x hx).2, Nat.le_trans HR.out.2.2.2.2.l3 fm.size⟩)
      have LL := Lib.hid (show w.heap.size ≤ b ∧ b < w1.heap.size from ⟨HR.out.2.2.2.2.l1, HR.out.2.2.2.2.l2⟩)
      clear ta fm HR CF tu ok ht2 a0 a1 a2 a3 a4
      obtain ⟨x', e, -, a0, a1, a2, a3, a4⟩ := (R.out.below H4.out.2.2.1) i T1.out
      cases e
      rw [HA.out] at a0 a1 a2 a3 a4
      have hb1 : ∀ o, w1.heap.size ≤ (w4.alloc o).heap.size := fun o => by have := H4.out.2.2.2.2; simp; omega
      go_wp2_with (first
        | (at_builtin; refine wpList_append_own _ rfl _ _ 22 rfl w1.heap.size 35 i0 (.agg #[.int .i64 0, .int .i64 0, .int .i64 0, .int .i64 0, .int .i64 0]) 5 40 Try.underlying22 hi hz0 hz1 hz2 rfl (by decide) _ t.n (rowS t.S t.n) rfl (H4.out.2.1.alloc _) ⟨w4.heap.size, 0, none⟩ 1 1 [.int .i64 sv.raw, .int .i64 sv.dry, .int .i64 sv.ash, .int .i64 sv.gre, .int .i64 sv.veg] rfl rfl (five_cell sv) five_one (by unfold maxLen; omega) (by omega) (hb1 _) ?_))
      intro v' w5 hown' hgrow _
      rw [rowS_snoc] at hown'
      obtain ⟨pM, cM, rfl, sm⟩ := ownSubs hown'
      have HB9 : ∀ k, (Value.slice pl t.n cl).ownBlock = some k → w1.heap.size ≤ k := own_ltD H4.out.2.1
      have FG : Fm (fun k => (Value.slice pl t.n cl).ownBlock = some k) w4 w5 := (Fm.refl _ w4).grow hgrow (fun k hk => hk)
      have HA5 := Lib.hid (show AI w w1 b tol t2 pM cM w5 from by
        obtain ⟨e1, e2⟩ := FN.out
        refine ⟨(H4.out.1.fmA FG (fun hb => by have := HB9 b hb; have := LL.out; omega) (fun k hk _ hb => by obtain ⟨x, hx, e⟩ := own_some hb; have := H4.out.2.2.2.1 x hx; omega)).low (Nat.zero_le _), by rw [e1, e2]; exact hown', H4.out.2.2.1.trans (FG.below (base := w.heap.size) (fun k hk hb => by have := HB9 k hb; have := LL.out; omega) H4.out.2.2.1.size), AC.out, LL.out.1, LL.out.2, Nat.le_trans H4.out.2.2.2.2 FG.size⟩)
      have SM := Lib.hid (show SbR w5 pM t2.n t2.S from by rw [FN.out.1, FN.out.2]; exact sm)
      have N2 := Lib.hid (show t.n + 1 = t2.n from FN.out.1.symm)
      have G2 := Lib.hid HA5.out.ta.ok.good
      have TW := Lib.hid (show t2.n = 2 → (t2.st = 1 ↔ nearS (t2.S 0) (t2.S 1) tol = true) from fun h => by
        rw [AC.out.two h, first_near HA5.out.ta.ok.good TL.out.1, near_eq]; rfl)
      have m8 : t2.n ≤ 8 := HA5.out.ta.ok.n8
      rw [N2.out]
      clear hown' hgrow HB9 FG H4 a0 a1 a2 a3 a4 hb1 sm n8 sz AC
      have CS := Lib.hid (fun W (st : Below w5.heap.size w5 W) => State_any b 0 tol t2 W (HA5.out.ta.below st))
      by_cases e2 : t2.n = 2
      · have d2 : ((t2.n : Int) == 2) = true := by simp; omega
        have d8 : decide ((8 : Int) < (t2.n : Int)) = false := decide_eq_false (by omega)
        have l2 : 0 < t2.n ∧ 1 < t2.n := by omega
        obtain ⟨g, rfl⟩ : ∃ g, pM = some ⟨g, 0, none⟩ := by
          rcases HA5.out.row.2 with ⟨_, e⟩ | ⟨g, cap, cur, e, _⟩
          · omega
          · exact ⟨g, by injection e⟩
        have cc : ∀ j, j < 10 → w5.cell? ⟨g, j, none⟩ = some (sbC (t2.S (j / 5)) (j % 5)) := fun j hj => by
          have := SM.out.cellAt (j := j) (by omega)
          rwa [add0] at this
        have CNr := Lib.hid (fun W => near_any (t2.S 0) (t2.S 1) (G2.out 0) (G2.out 1) tol TL.out W)
        have E1 : (t2.st == 1) = nearS (t2.S 0) (t2.S 1) tol := by
          have := TW.out e2
          cases h : nearS (t2.S 0) (t2.S 1) tol
          · rw [h] at this; simpa using this
          · rw [h] at this; simpa using this
        have k0 := cc 0 (by decide); have k1 := cc 1 (by decide); have k2 := cc 2 (by decide); have k3 := cc 3 (by decide); have k4 := cc 4 (by decide)
        have k5 := cc 5 (by decide); have k6 := cc 6 (by decide); have k7 := cc 7 (by decide); have k8 := cc 8 (by decide); have k9 := cc 9 (by decide)
        unfold sbV at CNr
        replace k0 : w5.cell? ⟨g, 0, none⟩ = some (.int .i64 (t2.S 0).raw) := k0
        replace k1 : w5.cell? ⟨g, 1, none⟩ = some (.int .i64 (t2.S 0).dry) := k1
        replace k2 : w5.cell? ⟨g, 2, none⟩ = some (.int .i64 (t2.S 0).ash) := k2
        replace k3 : w5.cell? ⟨g, 3, none⟩ = some (.int .i64 (t2.S 0).gre) := k3
        replace k4 : w5.cell? ⟨g, 4, none⟩ = some (.int .i64 (t2.S 0).veg) := k4
        replace k5 : w5.cell? ⟨g, 5, none⟩ = some (.int .i64 (t2.S 1).raw) := k5
        replace k6 : w5.cell? ⟨g, 6, none⟩ = some (.int .i64 (t2.S 1).dry) := k6
        replace k7 : w5.cell? ⟨g, 7, none⟩ = some (.int .i64 (t2.S 1).ash) := k7
        replace k8 : w5.cell? ⟨g, 8, none⟩ = some (.int .i64 (t2.S 1).gre) := k8
        replace k9 : w5.cell? ⟨g, 9, none⟩ = some (.int .i64 (t2.S 1).veg) := k9
        generalize nearS (t2.S 0) (t2.S 1) tol = nb at *
        generalize t2.S 0 = s0 at *
        generalize t2.S 1 = s1 at *
        have l0 := l2.1
        have l1 := l2.2
        have l3 : (0 : Int) < (t2.n : Int) := by omega
        have l4 : (1 : Int) < (t2.n : Int) := by omega
        have nn : (nb == nb) = true := by simp
        clear e2 cc SM TW G2 l2
        go_upto_region 17 with fail
        go_region_held3 (fun w' => w'.cell? ⟨g, 0, none⟩ = some (.int .i64 s0.raw) ∧ w'.cell? ⟨g, 1, none⟩ = some (.int .i64 s0.dry) ∧ w'.cell? ⟨g, 2, none⟩ = some (.int .i64 s0.ash) ∧ w'.cell? ⟨g, 3, none⟩ = some (.int .i64 s0.gre) ∧ w'.cell? ⟨g, 4, none⟩ = some (.int .i64 s0.veg) ∧ w'.cell? ⟨g, 5, none⟩ = some (.int .i64 s1.raw) ∧ w'.cell? ⟨g, 6, none⟩ = some (.int .i64 s1.dry) ∧ w'.cell? ⟨g, 7, none⟩ = some (.int .i64 s1.ash) ∧ w'.cell? ⟨g, 8, none⟩ = some (.int .i64 s1.gre) ∧ w'.cell? ⟨g, 9, none⟩ = some (.int .i64 s1.veg)) (first | exact ⟨k0, k1, k2, k3, k4, k5, k6, k7, k8, k9⟩ | exact ⟨cellDr k0, cellDr k1, cellDr k2, cellDr k3, cellDr k4, cellDr k5, cellDr k6, cellDr k7, cellDr k8, cellDr k9⟩) (first
          | ((go_at_call 10; (first | (with_reducible refine (CS.out _ (Below.refl _ _)).mono ?_) | (with_reducible refine (CS.out _ (Below.refl _ _).drew).mono ?_)); rintro e w6 ⟨rfl, rfl⟩))
          | ((go_at_call 16; (with_reducible refine (CNr.out _).mono ?_); rintro e w6 ⟨rfl, q⟩; have st : Below w5.heap.size w5 w6 := (by first | exact q | exact (Below.refl _ _).drew.trans q); have k0 := cellGr st k0; have k1 := cellGr st k1; have k2 := cellGr st k2; have k3 := cellGr st k3; have k4 := cellGr st k4; have k5 := cellGr st k5; have k6 := cellGr st k6; have k7 := cellGr st k7; have k8 := cellGr st k8; have k9 := cellGr st k9; have ST := Lib.hid st; clear q st)))
        have HA6 := Lib.hid (HA5.out.below ST.out)
        clear HA5 CS CNr ST k0 k1 k2 k3 k4 k5 k6 k7 k8 k9
        generalize w6 = w7 at *
        go_wp2_with fail
        go_roundw
        case rel => exact ⟨i + 1, t2, _, cM, by have := T1.out; omega, by go_num, rfl, HA6⟩
        case measure => have := T1.out; simp [intOf]; omega
      · have d2 : ((t2.n : Int) == 2) = false := by simp; omega
        have d8 : decide ((8 : Int) < (t2.n : Int)) = false := decide_eq_false (by omega)
        clear e2
        go_wp2_with fail
        go_quiet (fail)
        have HA6 := Lib.hid (HA5.out.below (below_drewN (Below.refl _ _) nq))
        clear HA5 SM CS TW
        generalize w5.drewN nq = w6 at *
        go_wp2_with fail
        go_roundw
        case rel => exact ⟨i + 1, t2, pM, cM, by have := T1.out; omega, by go_num, rfl, HA6⟩
        case measure => have := T1.out; simp [intOf]; omega
    · obtain rfl : i = m := by omega
      have CS := Lib.hid (State_any b 0 tol t wr HM.out.ta)
      have st3 := HM.out.ta.ok.st
      by_cases s1 : t.st = 1
      case neg =>
        have s2 : (t.st == 1) = false := by simpa using s1
        have BB := Lib.hid HM.out.bl
        have EQ : (t.st == 2) = ((t.n : Int) == 8) := by
          rcases st3 with h | h | h
          · have := (HM.out.ta.ok.wait h).1
            have e8 : ((t.n : Int) == 8) = false := by simp; omega
            rw [h, e8]; rfl
          · exact absurd h s1
          · have := HM.out.acc.void h
            rw [h, this]; rfl
        clear HM st3 s1
        go_wp2_with fail
        refine CS.out.mono ?_
        rintro e w4 ⟨rfl, rfl⟩
        go_wp2_with fail
        refine CS.out.mono ?_
        rintro e w4 ⟨rfl, rfl⟩
        go_wp2_with fail
        refine (AL.out _).mono ?_
        rintro e w4 ⟨rfl, st⟩
        have B4 := Lib.hid (BB.out.trans (st.mono BB.out.size))
        clear st
        go_wp2_with fail
        go_ret
        exact ⟨rfl, B4.out⟩
      have CR := Lib.hid ((Result_any b 0 tol t wr HM.out.ta).mono fun _ _ h => RsQ.u h)
      obtain ⟨ft, n2, hu⟩ := HM.out.acc.good s1
      have OK := HM.out.ta.ok
      have n8 := OK.n8
      have fe : fl t = t.U.length := by unfold fl; rw [if_pos s1]
      have ee : er t = 0 := by unfold er; rw [if_pos s1]
      have lz : t.U.length = zs t.n := by rw [hu]; exact usd_len (ordB_ord OK.good t.n) (by have := bw_le t.S (ordB t.S t.n) (zs t.n) (t.n - zs t.n); unfold at' zs at *; omega)
      have PW := Lib.hid (show ∀ k j, k < j → j < t.U.length → gi t.U k < gi t.U j ∧ nearS (t.S (gi t.U k).toNat) (t.S (gi t.U j).toNat) tol = true from fun k j kj jl => by
        have srt : t.U.Pairwise (· < ·) := by rw [hu]; exact usd_srt _ _ _ _
        have lt : gi t.U k < gi t.U j := by
          rw [gi_lt (by omega), gi_lt jl]
          exact (List.pairwise_iff_getElem.1 srt) k j (by omega) jl kj
        have mk : gi t.U k ∈ usd (ordB t.S t.n) (at' t.n t.S) (zs t.n) t.n := by rw [← hu, gi_lt (show k < t.U.length by omega)]; exact List.getElem_mem _
        have mj : gi t.U j ∈ usd (ordB t.S t.n) (at' t.n t.S) (zs t.n) t.n := by rw [← hu, gi_lt jl]; exact List.getElem_mem _
        have := nearB_of OK.good TL.out.1 (used_near OK.good ft n2 mk mj (by omega))
        exact ⟨lt, this⟩)
      have UB := Lib.hid OK.u
      have GD := Lib.hid OK.good
      have HMM := Lib.hid HM.out
      have T0 := Lib.hid (show t.n < 2 * zs t.n ∧ zs t.n ≤ 8 from by unfold zs; omega)
      have FE := Lib.hid fe
      have EE := Lib.hid ee
      have LZ := Lib.hid lz
      clear ft n2 hu OK fe ee lz st3 HM
      go_wp2_with fail
      refine CS.out.mono ?_
      rintro e w4 ⟨rfl, rfl⟩
      rw [s1]
      clear CS s1
      go_wp2_with fail
      refine CR.out.mono ?_
      rintro e wa ⟨pa, ca, rfl, sa, na, -⟩
      rw [EE.out, FE.out, LZ.out]
      rw [FE.out, LZ.out] at na
      have o15 := ob_new4 wa (fz Sb.wl t) (fz Sb.veg t) (fz Sb.raw t) (.slice pa (zs t.n) ca) 39
      have sz := sa.alloc sa.size (Obj.cells #[.int .i64 (fz Sb.wl t), .int .i64 (fz Sb.veg t), .int .i64 (fz Sb.raw t), .slice pa (zs t.n) ca] 39)
      have HA := Lib.hid (show AI w w1 b tol t pl cl (wa.alloc (Obj.cells #[.int .i64 (fz Sb.wl t), .int .i64 (fz Sb.veg t), .int .i64 (fz Sb.raw t), .slice pa (zs t.n) ca] 39)) ∧ NmR (wa.alloc (Obj.cells #[.int .i64 (fz Sb.wl t), .int .i64 (fz Sb.veg t), .int .i64 (fz Sb.raw t), .slice pa (zs t.n) ca] 39)) pa (zs t.n) (gi t.U) ∧ OB (wa.alloc (Obj.cells #[.int .i64 (fz Sb.wl t), .int .i64 (fz Sb.veg t), .int .i64 (fz Sb.raw t), .slice pa (zs t.n) ca] 39)) wa.heap.size 39 4 (resC (fz Sb.wl t) (fz Sb.veg t) (fz Sb.raw t) (.slice pa (zs t.n) ca)) from ⟨HMM.out.below sz, na.below ((Below.refl _ _).alloc (Nat.le_refl _) _), o15⟩)
      clear sa na o15 sz CR HMM
      go_upto_region 22 with fail
      generalize (wa.alloc (Obj.cells #[.int .i64 (fz Sb.wl t), .int .i64 (fz Sb.veg t), .int .i64 (fz Sb.raw t), .slice pa (zs t.n) ca] 39)) = wz at *
      generalize wa.heap.size = g15 at *
      have u3 : wz.cell? ⟨g15, 3, none⟩ = some (.slice pa (zs t.n) ca) := HA.out.2.2.cell (k := 3) (by decide)
      obtain ⟨x2, x8⟩ := T0.out
      rw [LZ.out] at PW UB
      have w2z : IntKind.i64.wrap (2 * ((zs t.n : Nat) : Int)) = 2 * ((zs t.n : Nat) : Int) := hwI (by omega) (by omega)
      have dle : decide (2 * ((zs t.n : Nat) : Int) ≤ (t.n : Int)) = false := decide_eq_false (by omega)
      generalize zs t.n = z' at *
      go_wp2_with fail
      clear u3 dle w2z
      go_loopw [17] (fun kv wq => ∃ j : Nat, j ≤ z' ∧ kv = .int .i64 j ∧ Hid (Below wz.heap.size wz wq)) (fun kv _ => z' - (intOf kv).toNat)
      case atStart => exact ⟨0, Nat.zero_le _, rfl, Lib.hid (Below.refl _ _)⟩
      case round =>
        obtain ⟨j, hj, rfl, HB⟩ := hrel
        rename World => wq
        have u3 : wq.cell? ⟨g15, 3, none⟩ = some (.slice pa z' ca) := (HA.out.2.2.below HB.out).cell (k := 3) (by decide)
        by_cases t1 : j < z'
        · have j1 : (0 : Int) ≤ (j : Int) := by omega
          have j2 : (j : Int) < (z' : Int) := by omega
          have J2 := Lib.hid t1
          go_wp2_with fail
          clear u3
          go_loopw [18] (fun kv wv => ∃ k : Nat, k ≤ j ∧ kv = .int .i64 k ∧ Hid (Below wz.heap.size wz wv)) (fun kv _ => j - (intOf kv).toNat)
          case atStart => exact ⟨0, Nat.zero_le _, rfl, HB⟩
          case round =>
            obtain ⟨k, hk, rfl, HC⟩ := hrel
            clear HB
            rename World => wv
            by_cases t2 : k < j
            · have k1 : (0 : Int) ≤ (k : Int) := by omega
              have k2 : (k : Int) < (z' : Int) := by omega
              have k3 : (k : Int) < (j : Int) := by omega
              have u3 : wv.cell? ⟨g15, 3, none⟩ = some (.slice pa z' ca) := (HA.out.2.2.below HC.out).cell (k := 3) (by decide)
              obtain ⟨y, rfl, -, cu⟩ := (HA.out.2.1.below HC.out) k (by omega)
              obtain ⟨y', e, -, cv⟩ := (HA.out.2.1.below HC.out) j J2.out
              cases e
              obtain ⟨lt, nr⟩ := PW.out k j t2 J2.out
              have ub := UB.out k (by have := LZ.out; omega)
              have vb := UB.out j (by have := LZ.out; omega)
              obtain ⟨u, hu⟩ := Int.eq_ofNat_of_zero_le ub.1
              obtain ⟨v, hv⟩ := Int.eq_ofNat_of_zero_le vb.1
              rw [hu] at cu lt nr
              rw [hv] at cv lt nr
              have un : u < t.n := by omega
              have vn : v < t.n := by omega
              have HC2 := Lib.hid (HA.out.1.below HC.out)
              obtain ⟨pM, cM, e, sm⟩ := ownSubs HC2.out.row
              cases e
              obtain ⟨g, rfl⟩ : ∃ g, pl = some ⟨g, 0, none⟩ := by
                rcases HC2.out.row.2 with ⟨_, e⟩ | ⟨g, cap, cur, e, _⟩
                · omega
                · exact ⟨g, by injection e⟩
              have cc : ∀ j, j < t.n * 5 → wv.cell? ⟨g, j, none⟩ = some (sbC (t.S (j / 5)) (j % 5)) := fun j hj => by
                have := sm.cellAt hj
                rwa [add0] at this
              have c5 : ∀ u r, u < t.n → r < 5 → wv.cell? ⟨g, u * 5 + r, none⟩ = some (sbC (t.S u) r) := fun u r hu hr => by
                have := cc (u * 5 + r) (by omega)
                rwa [show (u * 5 + r) / 5 = u by omega, show (u * 5 + r) % 5 = r by omega] at this
              have CNr := Lib.hid (fun W => near_any (t.S u) (t.S v) (GD.out u) (GD.out v) tol TL.out W)
              have nr2 : nearS (t.S u) (t.S v) tol = true := nr
              rw [nr2] at CNr
              unfold sbV at CNr
              have a0 : wv.cell? ⟨g, u * 5, none⟩ = some (.int .i64 (t.S u).raw) := c5 u 0 un (by decide)
              have a1 : wv.cell? ⟨g, u * 5 + 1, none⟩ = some (.int .i64 (t.S u).dry) := c5 u 1 un (by decide)
              have a2 : wv.cell? ⟨g, u * 5 + 2, none⟩ = some (.int .i64 (t.S u).ash) := c5 u 2 un (by decide)
              have a3 : wv.cell? ⟨g, u * 5 + 3, none⟩ = some (.int .i64 (t.S u).gre) := c5 u 3 un (by decide)
              have a4 : wv.cell? ⟨g, u * 5 + 4, none⟩ = some (.int .i64 (t.S u).veg) := c5 u 4 un (by decide)
              have b0 : wv.cell? ⟨g, v * 5, none⟩ = some (.int .i64 (t.S v).raw) := c5 v 0 vn (by decide)
              have b1 : wv.cell? ⟨g, v * 5 + 1, none⟩ = some (.int .i64 (t.S v).dry) := c5 v 1 vn (by decide)
              have b2 : wv.cell? ⟨g, v * 5 + 2, none⟩ = some (.int .i64 (t.S v).ash) := c5 v 2 vn (by decide)
              have b3 : wv.cell? ⟨g, v * 5 + 3, none⟩ = some (.int .i64 (t.S v).gre) := c5 v 3 vn (by decide)
              have b4 : wv.cell? ⟨g, v * 5 + 4, none⟩ = some (.int .i64 (t.S v).veg) := c5 v 4 vn (by decide)
              have e1 : decide ((u : Int) < 0) = false := decide_eq_false (by omega)
              have e2 : decide ((t.n : Int) ≤ (v : Int)) = false := decide_eq_false (by omega)
              have e3 : decide ((v : Int) ≤ (u : Int)) = false := decide_eq_false (by omega)
              have f1 : ¬ t.n ≤ v := by omega
              have f2 : decide (t.n ≤ v) = false := decide_eq_false f1
              have f3 : ¬ v ≤ u := by omega
              have f4 : decide (v ≤ u) = false := decide_eq_false f3
              have f5 : ¬ (t.n : Int) ≤ (v : Int) := by omega
              have f6 : ¬ (v : Int) ≤ (u : Int) := by omega
              have u1 : (0 : Int) ≤ (u : Int) := by omega
              have u2 : (u : Int) < (t.n : Int) := by omega
              have v1 : (0 : Int) ≤ (v : Int) := by omega
              have v2 : (v : Int) < (t.n : Int) := by omega
              clear cc c5 sm HC2 nr nr2 lt ub vb hu hv un vn
              generalize t.S u = su at *
              generalize t.S v = sv at *
              go_wp2_with fail
              go_quiet (fail)
              have st : Below wv.heap.size wv (wv.drewN nq) := below_drewN (Below.refl _ wv) nq
              have a0 := cellGr st a0
              have b0 := cellGr st b0
              have a1 := cellGr st a1
              have b1 := cellGr st b1
              have a2 := cellGr st a2
              have b2 := cellGr st b2
              have a3 := cellGr st a3
              have b3 := cellGr st b3
              have a4 := cellGr st a4
              have b4 := cellGr st b4
              have HC := Lib.hid (HC.out.trans (st.mono HC.out.size))
              clear u3 cu cv st
              generalize wv.drewN nq = wn at *
              go_wp2_with fail
              go_region_held3 (fun w' => w'.cell? ⟨g, u * 5, none⟩ = some (.int .i64 su.raw) ∧ w'.cell? ⟨g, u * 5 + 1, none⟩ = some (.int .i64 su.dry) ∧ w'.cell? ⟨g, u * 5 + 2, none⟩ = some (.int .i64 su.ash) ∧ w'.cell? ⟨g, u * 5 + 3, none⟩ = some (.int .i64 su.gre) ∧ w'.cell? ⟨g, u * 5 + 4, none⟩ = some (.int .i64 su.veg) ∧ w'.cell? ⟨g, v * 5, none⟩ = some (.int .i64 sv.raw) ∧ w'.cell? ⟨g, v * 5 + 1, none⟩ = some (.int .i64 sv.dry) ∧ w'.cell? ⟨g, v * 5 + 2, none⟩ = some (.int .i64 sv.ash) ∧ w'.cell? ⟨g, v * 5 + 3, none⟩ = some (.int .i64 sv.gre) ∧ w'.cell? ⟨g, v * 5 + 4, none⟩ = some (.int .i64 sv.veg)) (first | exact ⟨a0, a1, a2, a3, a4, b0, b1, b2, b3, b4⟩ | exact ⟨cellDr a0, cellDr a1, cellDr a2, cellDr a3, cellDr a4, cellDr b0, cellDr b1, cellDr b2, cellDr b3, cellDr b4⟩) (first
                | ((go_at_call 16; (with_reducible refine (CNr.out _).mono ?_); rintro e w6 ⟨rfl, q⟩; have st : Below wn.heap.size wn w6 := (by first | exact q | exact (Below.refl _ _).drew.trans q); have a0 := cellGr st a0; have b0 := cellGr st b0; have a1 := cellGr st a1; have b1 := cellGr st b1; have a2 := cellGr st a2; have b2 := cellGr st b2; have a3 := cellGr st a3; have b3 := cellGr st b3; have a4 := cellGr st a4; have b4 := cellGr st b4; have ST := Lib.hid st; clear q st)))
              have HC := Lib.hid (HC.out.trans (ST.out.mono HC.out.size))
              clear a0 b0 a1 b1 a2 b2 a3 b3 a4 b4 CNr ST
              generalize w6 = w7 at *
              go_wp2_with fail
              go_roundw
              case rel => exact ⟨k + 1, by omega, by go_num, HC⟩
              case measure => simp [intOf]; omega
            · have d3 : decide ((k : Int) < (j : Int)) = false := decide_eq_false (by omega)
              go_wp2_with fail
              go_roundw
              case rel => exact ⟨j + 1, by have := J2.out; omega, by go_num, HC⟩
              case measure => have := J2.out; simp [intOf]; omega
        · have d3 : decide ((j : Int) < (z' : Int)) = false := decide_eq_false (by omega)
          have BB := Lib.hid (HA.out.1.bl.trans (HB.out.mono HA.out.1.bl.size))
          clear HB HA PW UB
          go_wp2_with fail
          refine (AL.out _).mono ?_
          rintro e w4 ⟨rfl, st⟩
          have B4 := Lib.hid (BB.out.trans (st.mono BB.out.size))
          clear st
          go_wp2_with fail
          go_ret
          exact ⟨rfl, B4.out⟩
end Go.Proofs.Ytkhdpmicejmabaa
