/- Press: the search of Pack, a step. -/
import Derived.Test.YthbgeikdamajlabSK1
import Derived.Test.YthbgeikdamajlabSJ2
namespace Go.Proofs.Ythbgeikdamajlab
open Go.RowKit Go.Proofs.Ythbgeikdamajlab.Prs Go.Proofs.Ythbgeikdamajlab.Stb
set_option linter.unusedVariables false
set_option linter.unusedSimpArgs false

theorem cellSt {W : World} {a p : Addr} {x v : Value} (ne : a.block ≠ p.block) (h : W.cell? a = some x) : (W.setCell p v).cell? a = some x := by
  rw [World.cell?_setCell_other _ _ _ _ (fun e => ne (by rw [e]))]; exact h
/-- Boxes that are none too full. -/
def PB (mo ea : Int) (s : Nat → Int × Int) : Prop := ∀ b, b < 12 → (0 ≤ (s b).1 ∧ (s b).1 ≤ mo) ∧ 0 ≤ (s b).2 ∧ (s b).2 ≤ ea
theorem PB.put {mo ea : Int} {s : Nat → Int × Int} (h : PB mo ea s) (q : Nat) {x y : Int} (h1 : 0 ≤ x ∧ x ≤ mo) (h2 : 0 ≤ y ∧ y ≤ ea) : PB mo ea (Sea.up s q (x, y)) := fun b hb => by
  unfold Sea.up
  split
  · exact ⟨h1, h2⟩
  · exact h b hb

set_option maxRecDepth 100000 in
set_option maxHeartbeats 16000000 in
theorem put_step {base bt bm be rb bb bl rt bo bx bg : Nat} (gl : PL base bt bm be rb bb bl rt bo bx bg) {p : Option Addr} {c : Nat} {mo ea : Int} {T : List Int} (hmo : 1 ≤ mo ∧ mo ≤ 1073741824) (hea : 1 ≤ ea ∧ ea ≤ 12) (h12 : T.length ≤ 12) (ok : ThOk T T.length) (hp : ∀ x, p = some x → 0 < T.length → x.block < base)
    (t : Int) (ts : List Int) (k u : Nat) (P : List Nat) (L : Int) (B : List Nat) (O : Nat → Int) (s : Nat → Int × Int) (W : World) (hT : T.drop k = t :: ts) (hP : P.length = k) (h : PM bt bm be rb bb bl rt bo bx bg p T.length c mo ea W L (nv B) O s) (nr : NumR W p T) (hO : ∀ j, j < k → O j = nv P j) (hs : PB mo ea s) (cn : Sea.Cn s u) (hu : u ≤ k) (hx : (u : Int) < L)
    (ih : ∀ (u : Nat) (P : List Nat) (L : Int) (B : List Nat) (O : Nat → Int) (s : Nat → Int × Int) (W : World), P.length = k + 1 → PM bt bm be rb bb bl rt bo bx bg p T.length c mo ea W L (nv B) O s → NumR W p T → (∀ j, j < k + 1 → O j = nv P j) → PB mo ea s → Sea.Cn s u → u ≤ k + 1 →
      Calls Try.prog 39 #[.int .i64 ((k : Int) + 1), .int .i64 u, .pointer (some ⟨bl, 0, none⟩), .pointer (some ⟨bt, 0, none⟩), .pointer (some ⟨bb, 0, none⟩), .pointer (some ⟨bo, 0, none⟩), .pointer (some ⟨bx, 0, none⟩), .pointer (some ⟨bm, 0, none⟩), .pointer (some ⟨be, 0, none⟩), .pointer (some ⟨bg, 0, none⟩)] W (PQ bt bm be rb bb bl rt bo bx bg p T.length c (k + 1) mo ea ts P L B O s W)) :
    Calls Try.prog 39 #[.int .i64 k, .int .i64 u, .pointer (some ⟨bl, 0, none⟩), .pointer (some ⟨bt, 0, none⟩), .pointer (some ⟨bb, 0, none⟩), .pointer (some ⟨bo, 0, none⟩), .pointer (some ⟨bx, 0, none⟩), .pointer (some ⟨bm, 0, none⟩), .pointer (some ⟨be, 0, none⟩), .pointer (some ⟨bg, 0, none⟩)] W
      (PQ bt bm be rb bb bl rt bo bx bg p T.length c k mo ea (t :: ts) P L B O s W) := by
  have kn : k < T.length := by
    apply Classical.byContradiction; intro g
    rw [List.drop_of_length_le (by omega)] at hT; cases hT
  have tk : gi T k = t := by
    rw [List.drop_eq_getElem_cons kn] at hT
    have := (List.cons.inj hT).1
    simp [gi, kn, this]
  have t0 := ok k kn
  rw [tk] at t0
  have cl := h.xl.cell
  have ct := h.xt.cell
  have H := Lib.hid h
  have GLh := Lib.hid gl
  have IH := Lib.hid ih
  have HX := Lib.hid hx
  have HS := Lib.hid hs
  have HO := Lib.hid hO
  have HP := Lib.hid hP
  have CN := Lib.hid cn
  have NB := Lib.hid (fun W' (f : Fm (PMod rb bl rt bx) W W') => nr.fm f (fun x e h0 => gl.mod (hp x e h0)))
  have TK := Lib.hid tk
  have XAB := Lib.hid (show ∀ x, p = some x → x.block < base from fun x e => hp x e (by omega))
  have d1 : decide (L ≤ (u : Int)) = false := decide_eq_false (by omega)
  obtain ⟨n, hn⟩ : ∃ n, n = T.length := ⟨_, rfl⟩
  rw [← hn] at H IH kn h12 ct ⊢
  have HN := Lib.hid hn
  have d2 : ((k : Int) == (n : Int)) = false := by simp; omega
  have wu : IntKind.i64.wrap ((u : Int) + 1) = ((u + 1 : Nat) : Int) := wN (by omega) (by omega)
  have QE := Lib.hid (show ∀ W' L' B' O', PM bt bm be rb bb bl rt bo bx bg p n c mo ea W' L' (nv B') O' s → (∀ j, j < k → O' j = O j) → Sea.Sr (Sea.addP mo ea) (Sea.cnt 12) (Sea.Can 12) 12 (· < u + 1) (t :: ts) s P L B L' B' → Fm (PMod rb bl rt bx) W W' → PQ bt bm be rb bb bl rt bo bx bg p n c k mo ea (t :: ts) P L B O s W (.returned (.tuple #[])) W' from fun W' L' B' O' g e r f => ⟨rfl, L', B', O', g, e, (sr_fill cn (11 - u) (u + 1) (by omega) (by omega) r).all, f⟩)
  clear h hx hO hT hP hp nr gl ih hs ok tk hn cn
  go_enter Try.func39, Try.ntmps39
  go_wp2_with fail
  go_loopw [27] (fun iv wr => ∃ (q : Nat) (L1 : Int) (B1 : List Nat) (O1 : Nat → Int), q ≤ u + 1 ∧ iv = .int .i64 q ∧ Hid (PM bt bm be rb bb bl rt bo bx bg p n c mo ea wr L1 (nv B1) O1 s) ∧ Hid (∀ j, j < k → O1 j = O j) ∧ Hid (Sea.Sr (Sea.addP mo ea) (Sea.cnt 12) (Sea.Can 12) 12 (· < q) (t :: ts) s P L B L1 B1) ∧ Hid (Fm (PMod rb bl rt bx) W wr)) (fun iv _ => u + 1 - (intOf iv).toNat)
  case atStart => exact ⟨0, L, B, O, Nat.zero_le _, rfl, H, Lib.hid fun _ _ => rfl, Lib.hid (Sea.Sr.start t), Lib.hid (Fm.refl _ _)⟩
  case round =>
    clear H cl ct d1 d2 wu
    obtain ⟨q, L1, B1, O1, hq, rfl, H, O1E, SR, FM⟩ := hrel
    by_cases t1 : q < u + 1
    · have i1 : (0 : Int) ≤ (q : Int) := by omega
      have i2 : (q : Int) < ((u + 1 : Nat) : Int) := by omega
      have i3 : (q : Int) < 12 := by omega
      have i4 : (q : Int) ≤ 12 := by omega
      have q12 : q < 12 := by omega
      obtain ⟨⟨a, b⟩, hab⟩ : ∃ v, v = s q := ⟨_, rfl⟩
      have HAB := Lib.hid hab
      have sb := HS.out q q12
      rw [← hab] at sb
      dsimp only at sb
      obtain ⟨c0, c1, -⟩ := (H.out.xs.boxes (m := 12) (Nat.le_refl _)) q q12
      rw [← hab] at c0 c1
      dsimp only at c0 c1
      clear hab
      have A1 := Lib.hid (show Below wr.heap.size wr (wr.alloc (Obj.cells #[Value.int .i64 a, Value.int .i64 b] 66)) from (Below.refl _ wr).alloc (Nat.le_refl _) _)
      have H1 := Lib.hid (H.out.call A1.out)
      have F1 := Lib.hid (FM.out.trans (Fm.call A1.out))
      have OB := Lib.hid (show (wr.alloc (Obj.cells #[Value.int .i64 a, Value.int .i64 b] 66)).heap[wr.heap.size]? = some (Obj.cells #[Value.int .i64 a, Value.int .i64 b] 66) from heap_alloc_new wr _)
      have OL := Lib.hid (show rb < wr.heap.size ∧ bl < wr.heap.size ∧ rt < wr.heap.size ∧ bx < wr.heap.size from ⟨H.out.xB.lt, H.out.xl.lt, H.out.xO.lt, H.out.xs.lt⟩)
      clear A1 H FM
      go_upto_region 8 with fail
      clear c0 c1
      generalize wr.alloc (Obj.cells #[Value.int .i64 a, Value.int .i64 b] 66) = w1 at *
      generalize wr.heap.size = ob at *
      have o0 : w1.cell? ⟨ob, 0, none⟩ = some (.int .i64 a) := by have := OB.out; simp [World.cell?, this]
      have o1 : w1.cell? ⟨ob, 1, none⟩ = some (.int .i64 b) := by have := OB.out; simp [World.cell?, this]
      have ct := H1.out.xt.cell
      have cm := H1.out.xm.cell
      have ce := H1.out.xe.cell
      obtain ⟨xa, hpx, kx, cx⟩ := (NB.out _ F1.out) k (by have := HN.out; omega)
      subst hpx
      rw [TK.out] at cx
      obtain ⟨y, hy⟩ : ∃ y, y = a + t := ⟨_, rfl⟩
      have wy : IntKind.i64.wrap (a + t) = y := wI hy.symm (by omega) (by omega)
      have HY := Lib.hid hy
      have k1 : (0 : Int) ≤ (k : Int) := by omega
      have k2 : (k : Int) < (n : Int) := by omega
      clear kx hy
      by_cases full : mo < y
      · have d3 : decide (mo < y) = true := decide_eq_true full
        have SR2 := Lib.hid (show Sea.Sr (Sea.addP mo ea) (Sea.cnt 12) (Sea.Can 12) 12 (· < q + 1) (t :: ts) s P L B L1 B1 from SR.out.bad (by
          rw [← HAB.out]
          have := HY.out
          exact if_neg (fun h => by have := h.2.2; dsimp only at this; omega)))
        clear full SR
        go_quiet (fail)
        go_wp2_with fail
        go_roundw
        case rel => exact ⟨q + 1, L1, B1, O1, by omega, by go_num, Lib.hid (H1.out.call (below_drewN (Below.refl _ _) _)), O1E, SR2, Lib.hid (F1.out.trans (Fm.call (below_drewN (Below.refl _ _) _)))⟩
        case measure => simp [intOf]; omega
      have d3 : decide (mo < y) = false := decide_eq_false full
      by_cases many : b = ea
      · have d4 : (b == ea) = true := by simpa using many
        have SR2 := Lib.hid (show Sea.Sr (Sea.addP mo ea) (Sea.cnt 12) (Sea.Can 12) 12 (· < q + 1) (t :: ts) s P L B L1 B1 from SR.out.bad (by
          rw [← HAB.out]
          exact if_neg (fun h => by have := h.2.1; dsimp only at this; omega)))
        clear many full SR
        go_quiet (fail)
        go_wp2_with fail
        go_roundw
        case rel => exact ⟨q + 1, L1, B1, O1, by omega, by go_num, Lib.hid (H1.out.call (below_drewN (Below.refl _ _) _)), O1E, SR2, Lib.hid (F1.out.trans (Fm.call (below_drewN (Below.refl _ _) _)))⟩
        case measure => simp [intOf]; omega
      have d4 : (b == ea) = false := by simpa using many
      have AD := Lib.hid (show Sea.addP mo ea (s q) t = some (y, b + 1) from by
        rw [← HAB.out, HY.out]
        exact if_pos ⟨by dsimp only; omega, by dsimp only; omega, by dsimp only; have := HY.out; omega⟩)
      have YB := Lib.hid (show (0 ≤ y ∧ y ≤ mo) ∧ 0 ≤ b + 1 ∧ b + 1 ≤ ea from by have := HY.out; omega)
      clear many full
      have CD := Lib.hid (fun W' (g : PM bt bm be rb bb bl rt bo bx bg (some xa) n c mo ea W' L1 (nv B1) O1 s) => containsB_any bx q 12 s a b W' (g.xs.boxes (n := 12) (by omega)) (by omega))
      obtain ⟨d, hd⟩ : ∃ d, d = hasBb s q (a, b) := ⟨_, rfl⟩
      rw [← hd] at CD
      have HD := Lib.hid hd
      clear hd
      cases d with
      | true =>
        have SR2 := Lib.hid (show Sea.Sr (Sea.addP mo ea) (Sea.cnt 12) (Sea.Can 12) 12 (· < q + 1) (t :: ts) s P L B L1 B1 from by
          obtain ⟨r, hr, er⟩ := hasBb_t.1 HD.out.symm
          exact SR.out.skip (fun a c s ha hc => Sea.cnt_tr s ha hc) hr q12 (by rw [er, HAB.out]))
        clear SR AD YB
        go_region_held3 (fun w' => w'.cell? ⟨ob, 0, none⟩ = some (.int .i64 a) ∧ w'.cell? ⟨ob, 1, none⟩ = some (.int .i64 b) ∧ w'.cell? ⟨bt, 0, none⟩ = some (.slice (some xa) n c) ∧ w'.cell? (xa.add k) = some (.int .i64 t) ∧ w'.cell? ⟨bm, 0, none⟩ = some (.int .i64 mo) ∧ w'.cell? ⟨be, 0, none⟩ = some (.int .i64 ea))
          (first | exact ⟨o0, o1, ct, cx, cm, ce⟩ | exact ⟨cellDr o0, cellDr o1, cellDr ct, cellDr cx, cellDr cm, cellDr ce⟩)
          (first | (go_at_call 40; (with_reducible refine (CD.out _ (by first | exact H1.out | exact H1.out.call ((Below.refl _ _).drew) | exact H1.out.call (below_drewN (Below.refl _ _) _))).mono ?_); rintro e v1 ⟨rfl, st⟩; have st : Below w1.heap.size w1 v1 := (by first | exact st | exact ((Below.refl _ _).drew).trans st | exact (below_drewN (Below.refl _ _) _).trans st); have H2 := Lib.hid (H1.out.call st); have F2 := Lib.hid (F1.out.trans (Fm.call st)); replace o0 := cellGr st o0; replace o1 := cellGr st o1; replace ct := cellGr st ct; replace cx := cellGr st cx; replace cm := cellGr st cm; replace ce := cellGr st ce; clear st))
        go_wp2_with fail
        go_roundw
        case rel => exact ⟨q + 1, L1, B1, O1, by omega, by go_num, H2, O1E, SR2, F2⟩
        case measure => simp [intOf]; omega
      | false =>
        go_region_held3 (fun w' => w'.cell? ⟨ob, 0, none⟩ = some (.int .i64 a) ∧ w'.cell? ⟨ob, 1, none⟩ = some (.int .i64 b) ∧ w'.cell? ⟨bt, 0, none⟩ = some (.slice (some xa) n c) ∧ w'.cell? (xa.add k) = some (.int .i64 t) ∧ w'.cell? ⟨bm, 0, none⟩ = some (.int .i64 mo) ∧ w'.cell? ⟨be, 0, none⟩ = some (.int .i64 ea))
          (first | exact ⟨o0, o1, ct, cx, cm, ce⟩ | exact ⟨cellDr o0, cellDr o1, cellDr ct, cellDr cx, cellDr cm, cellDr ce⟩)
          (first | (go_at_call 40; (with_reducible refine (CD.out _ (by first | exact H1.out | exact H1.out.call ((Below.refl _ _).drew) | exact H1.out.call (below_drewN (Below.refl _ _) _))).mono ?_); rintro e v1 ⟨rfl, st⟩; have st : Below w1.heap.size w1 v1 := (by first | exact st | exact ((Below.refl _ _).drew).trans st | exact (below_drewN (Below.refl _ _) _).trans st); have H2 := Lib.hid (H1.out.call st); have F2 := Lib.hid (F1.out.trans (Fm.call st)); have OB2 := Lib.hid ((st.block ob (Array.getElem?_eq_some_iff.1 OB.out).1).trans OB.out); replace o0 := cellGr st o0; replace o1 := cellGr st o1; replace ct := cellGr st ct; replace cx := cellGr st cx; replace cm := cellGr st cm; replace ce := cellGr st ce; clear st))
        clear H1 F1 OB CD HD o0 o1 ct cx cm ce
        have co := H2.out.xo.cell
        have fo := H2.out.xO.frozen k
        have ci := H2.out.xO.cell (k := k) kn
        have H3 := Lib.hid (H2.out.setO GLh.out k q)
        have F3 := Lib.hid (F2.out.trans (Fm.set (M := PMod rb bl rt bx) ⟨rt, k, none⟩ (.int .i64 (q : Int)) (.inr (.inr (.inl rfl)))))
        have OB3 := Lib.hid (show (v1.setCell ⟨rt, k, none⟩ (.int .i64 (q : Int))).heap[ob]? = some (Obj.cells #[Value.int .i64 a, Value.int .i64 b] 66) from (Below.heap_setCell _ _ _ _ (by have := OL.out; dsimp only; omega)).trans OB2.out)
        clear H2 F2 OB2
        go_upto_region 10 with fail
        clear co fo ci
        generalize v1.setCell ⟨rt, k, none⟩ (.int .i64 (q : Int)) = v2 at *
        have o0 : v2.cell? ⟨ob, 0, none⟩ = some (.int .i64 a) := by have := OB3.out; simp [World.cell?, this]
        have o1 : v2.cell? ⟨ob, 1, none⟩ = some (.int .i64 b) := by have := OB3.out; simp [World.cell?, this]
        have ct := H3.out.xt.cell
        obtain ⟨xb, exb, ky, cx⟩ := (NB.out _ F3.out) k (by have := HN.out; omega)
        cases exb
        rw [TK.out] at cx
        obtain ⟨c0, c1, -⟩ := (H3.out.xs.boxes (m := 12) (Nat.le_refl _)) q q12
        have f0 := H3.out.xs.frozen (q * 2)
        have f1 := H3.out.xs.frozen (q * 2 + 1)
        have wb : IntKind.i64.wrap (b + 1) = b + 1 := wI rfl (by omega) (by omega)
        clear ky
        have H4 := Lib.hid (H3.out.setS GLh.out q y (b + 1))
        have F4 := Lib.hid (F3.out.trans ((Fm.set (M := PMod rb bl rt bx) ⟨bx, q * 2, none⟩ (.int .i64 y) (.inr (.inr (.inr rfl)))).trans (Fm.set (M := PMod rb bl rt bx) ⟨bx, q * 2 + 1, none⟩ (.int .i64 (b + 1)) (.inr (.inr (.inr rfl))))))
        have OB4 := Lib.hid (show ((v2.setCell ⟨bx, q * 2, none⟩ (.int .i64 y)).setCell ⟨bx, q * 2 + 1, none⟩ (.int .i64 (b + 1))).heap[ob]? = some (Obj.cells #[Value.int .i64 a, Value.int .i64 b] 66) from ((Below.heap_setCell _ _ _ _ (by have := OL.out; dsimp only; omega)).trans (Below.heap_setCell _ _ _ _ (by have := OL.out; dsimp only; omega))).trans OB3.out)
        clear H3 F3 OB3
        have nb1 : ob ≠ bx := by have := OL.out; omega
        have nb2 : bt ≠ bx := GLh.out.ne.1.2.2.2
        have nb3 : (xa.add k).block ≠ bx := by
          rw [addB]
          have l := GLh.out.lo
          have := XAB.out _ rfl
          omega
        go_cut [] from 58 to 70 (fun wx => Hid (PM bt bm be rb bb bl rt bo bx bg (some xa) n c mo ea wx L1 (nv B1) (upd O1 k q) (Sea.up s q (y, b + 1))) ∧ Hid (Fm (PMod rb bl rt bx) W wx) ∧ Hid (wx.heap[ob]? = some (Obj.cells #[Value.int .i64 a, Value.int .i64 b] 66)))
        case first =>
          go_region_held3 (fun w' => w'.cell? ⟨ob, 0, none⟩ = some (.int .i64 a) ∧ w'.cell? ⟨ob, 1, none⟩ = some (.int .i64 b) ∧ w'.cell? ⟨bt, 0, none⟩ = some (.slice (some xa) n c) ∧ w'.cell? (xa.add k) = some (.int .i64 t))
            (first | exact ⟨o0, o1, ct, cx⟩ | exact ⟨cellDr o0, cellDr o1, cellDr ct, cellDr cx⟩ | exact ⟨cellSt nb1 (cellSt nb1 o0), cellSt nb1 (cellSt nb1 o1), cellSt nb2 (cellSt nb2 ct), cellSt nb3 (cellSt nb3 cx)⟩ | exact ⟨cellSt nb1 (cellSt nb1 (cellDr o0)), cellSt nb1 (cellSt nb1 (cellDr o1)), cellSt nb2 (cellSt nb2 (cellDr ct)), cellSt nb3 (cellSt nb3 (cellDr cx))⟩)
            (first | fail)
          go_wp2_with fail
          go_meet
          exact ⟨(by first | exact H4 | exact Lib.hid (H4.out.call ((Below.refl _ _).drew)) | exact Lib.hid (H4.out.call (below_drewN (Below.refl _ _) _))), (by first | exact F4 | exact Lib.hid (F4.out.trans (Fm.call ((Below.refl _ _).drew))) | exact Lib.hid (F4.out.trans (Fm.call (below_drewN (Below.refl _ _) _)))), (by first | exact OB4 | exact Lib.hid OB4.out)⟩
        case rest =>
          obtain ⟨H5, F5, OB5⟩ := hcut
          clear H4 F4 OB4 o0 o1 ct cx c0 c1 f0 f1 wy wb
          have cg := H5.out.xg.cell
          have wk : IntKind.i64.wrap ((k : Int) + 1) = (k : Int) + 1 := IntWalk.i64_in _ (by omega)
          have wq : IntKind.i64.wrap ((q : Int) + 1) = (q : Int) + 1 := IntWalk.i64_in _ (by omega)
          have PO := Lib.hid (show ∀ j, j < k + 1 → upd O1 k q j = nv (P ++ [q]) j from fun j hj => by
            have lp := HP.out
            unfold upd
            by_cases e : j = k
            · subst e; rw [if_pos rfl]; simp [nv, lp]
            · rw [if_neg e, O1E.out j (by omega), HO.out j (by omega)]
              unfold nv
              rw [List.getD_eq_getElem?_getD, List.getD_eq_getElem?_getD, List.getElem?_append_left (by omega)])
          have SB := Lib.hid (HS.out.put q YB.out.1 YB.out.2)
          have CNP := Lib.hid (CN.out.put (b := q) (y := (y, b + 1)) (by omega) (by dsimp only; omega))
          by_cases hqu : q = u
          · subst hqu
            have d3 : decide ((q : Int) < (q : Int) + 1) = true := decide_eq_true (by omega)
            have d5 : (q : Int) < (q : Int) + 1 := by omega
            have CI := Lib.hid (fun W' g h => IH.out (q + 1) (P ++ [q]) L1 B1 (upd O1 k q) (Sea.up s q (y, b + 1)) W' (by simp; exact HP.out) g h PO.out SB.out (by have := CNP.out; rwa [show max _ (q + 1) = q + 1 from by omega] at this) (by omega))
            rw [show ((q + 1 : Nat) : Int) = (q : Int) + 1 from by omega] at CI
            go_wp2_with fail
            refine (CI.out _ H5.out (NB.out _ F5.out)).mono ?_
            rintro e w4 ⟨rfl, L2, B2, O3, g4, e4, r4, f4⟩
            have H6 := Lib.hid g4
            have F6 := Lib.hid (F5.out.trans f4)
            have R4 := Lib.hid r4
            have OB6 := Lib.hid ((f4.block ob (Array.getElem?_eq_some_iff.1 OB5.out).1 (by have := OL.out; unfold PMod; omega)).trans OB5.out)
            have OE3 := Lib.hid (show ∀ j, j < k → O3 j = O j from fun j hj => by
              rw [e4 j (by omega), ← O1E.out j hj]
              exact if_neg (by omega))
            have SR3 := Lib.hid (show Sea.Sr (Sea.addP mo ea) (Sea.cnt 12) (Sea.Can 12) 12 (· < q + 1) (t :: ts) s P L B L2 B2 from SR.out.call AD.out q12 R4.out)
            clear g4 e4 r4 f4 CI H5 F5 OB5 cg R4
            have o0 : w4.cell? ⟨ob, 0, none⟩ = some (.int .i64 a) := by have := OB6.out; simp [World.cell?, this]
            have o1 : w4.cell? ⟨ob, 1, none⟩ = some (.int .i64 b) := by have := OB6.out; simp [World.cell?, this]
            obtain ⟨c0, c1, -⟩ := (H6.out.xs.boxes (m := 12) (Nat.le_refl _)) q q12
            have f0 := H6.out.xs.frozen (q * 2)
            have f1 := H6.out.xs.frozen (q * 2 + 1)
            have H7 := Lib.hid ((H6.out.setS GLh.out q a b).ext (s' := s) (fun _ _ => rfl) (fun _ _ => rfl) (fun j _ => by
              unfold Sea.up
              by_cases e : j = q
              · rw [if_pos e, e, HAB.out]
              · rw [if_neg e, if_neg e]))
            have F7 := Lib.hid (F6.out.trans ((Fm.set (M := PMod rb bl rt bx) ⟨bx, q * 2, none⟩ (.int .i64 a) (.inr (.inr (.inr rfl)))).trans (Fm.set (M := PMod rb bl rt bx) ⟨bx, q * 2 + 1, none⟩ (.int .i64 b) (.inr (.inr (.inr rfl))))))
            clear H6 F6 OB6 SR
            go_wp2_with fail
            go_roundw
            case rel => exact ⟨q + 1, L2, B2, O3, by omega, by go_num, H7, OE3, SR3, F7⟩
            case measure => simp [intOf] <;> omega
          · have d3 : decide ((u : Int) < (q : Int) + 1) = false := decide_eq_false (by omega)
            have d5 : ¬ (u : Int) < (q : Int) + 1 := by omega
            clear hqu
            have CI := Lib.hid (fun W' g h => IH.out (u) (P ++ [q]) L1 B1 (upd O1 k q) (Sea.up s q (y, b + 1)) W' (by simp; exact HP.out) g h PO.out SB.out (by have := CNP.out; rwa [show max u (q + 1) = u from by omega] at this) (by omega))
            skip
            go_wp2_with fail
            refine (CI.out _ H5.out (NB.out _ F5.out)).mono ?_
            rintro e w4 ⟨rfl, L2, B2, O3, g4, e4, r4, f4⟩
            have H6 := Lib.hid g4
            have F6 := Lib.hid (F5.out.trans f4)
            have R4 := Lib.hid r4
            have OB6 := Lib.hid ((f4.block ob (Array.getElem?_eq_some_iff.1 OB5.out).1 (by have := OL.out; unfold PMod; omega)).trans OB5.out)
            have OE3 := Lib.hid (show ∀ j, j < k → O3 j = O j from fun j hj => by
              rw [e4 j (by omega), ← O1E.out j hj]
              exact if_neg (by omega))
            have SR3 := Lib.hid (show Sea.Sr (Sea.addP mo ea) (Sea.cnt 12) (Sea.Can 12) 12 (· < q + 1) (t :: ts) s P L B L2 B2 from SR.out.call AD.out q12 R4.out)
            clear g4 e4 r4 f4 CI H5 F5 OB5 cg R4
            have o0 : w4.cell? ⟨ob, 0, none⟩ = some (.int .i64 a) := by have := OB6.out; simp [World.cell?, this]
            have o1 : w4.cell? ⟨ob, 1, none⟩ = some (.int .i64 b) := by have := OB6.out; simp [World.cell?, this]
            obtain ⟨c0, c1, -⟩ := (H6.out.xs.boxes (m := 12) (Nat.le_refl _)) q q12
            have f0 := H6.out.xs.frozen (q * 2)
            have f1 := H6.out.xs.frozen (q * 2 + 1)
            have H7 := Lib.hid ((H6.out.setS GLh.out q a b).ext (s' := s) (fun _ _ => rfl) (fun _ _ => rfl) (fun j _ => by
              unfold Sea.up
              by_cases e : j = q
              · rw [if_pos e, e, HAB.out]
              · rw [if_neg e, if_neg e]))
            have F7 := Lib.hid (F6.out.trans ((Fm.set (M := PMod rb bl rt bx) ⟨bx, q * 2, none⟩ (.int .i64 a) (.inr (.inr (.inr rfl)))).trans (Fm.set (M := PMod rb bl rt bx) ⟨bx, q * 2 + 1, none⟩ (.int .i64 b) (.inr (.inr (.inr rfl))))))
            clear H6 F6 OB6 SR
            go_wp2_with fail
            go_roundw
            case rel => exact ⟨q + 1, L2, B2, O3, by omega, by go_num, H7, OE3, SR3, F7⟩
            case measure => simp [intOf] <;> omega
    · obtain rfl : q = u + 1 := by omega
      have QF := Lib.hid (QE.out wr L1 B1 O1 H.out O1E.out SR.out FM.out)
      go_wp2_with fail
      go_end0
      exact QF.out
end Go.Proofs.Ythbgeikdamajlab
