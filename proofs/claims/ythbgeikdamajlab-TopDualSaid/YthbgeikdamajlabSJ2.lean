/- Press: the search of Share, a step. -/
import Derived.Test.YthbgeikdamajlabSJ1
namespace Go.Proofs.Ythbgeikdamajlab
open Go.RowKit Go.Proofs.Ythbgeikdamajlab.Prs Go.Proofs.Ythbgeikdamajlab.Stb
set_option linter.unusedVariables false
set_option linter.unusedSimpArgs false

theorem NumR.fm {M : Nat → Prop} {W W' : World} {p : Option Addr} {T : List Int} (r : NumR W p T) (f : Fm M W W') (hp : ∀ x, p = some x → 0 < T.length → ¬ M x.block) : NumR W' p T := fun i h => by
  obtain ⟨x, e, k, c⟩ := r i h
  refine ⟨x, e, Nat.lt_of_lt_of_le k f.size, ?_⟩
  rw [← c]
  exact World.cell?_of_block (w := W) (a := x.add i) (by rw [addB]; exact f.block _ k (hp x e (by omega)))
theorem GL.mod {bt bp rb bb bl rt bo bs bg q : Nat} (g : GL bt bp rb bb bl rt bo bs bg) (h : q < bt) : ¬ GMod rb bl rt bs q := by
  obtain ⟨a1, a2, a3, a4, a5, a6, a7, a8⟩ := g
  unfold GMod
  omega

/-- Has a bin before q the same? -/
def dupB (s : Nat → Int) (q : Nat) : Bool := decide (s q ∈ (List.range q).map s)
theorem dupB_t {s : Nat → Int} {q : Nat} (h : true = dupB s q) : ∃ r, r < q ∧ s r = s q := by
  obtain ⟨r, hr, er⟩ := List.mem_map.1 (of_decide_eq_true h.symm)
  exact ⟨r, List.mem_range.1 hr, er⟩

set_option maxRecDepth 100000 in
set_option maxHeartbeats 8000000 in
theorem give_step {bt bp rb bb bl rt bo bs bg : Nat} (gl : GL bt bp rb bb bl rt bo bs bg) {p : Option Addr} {c m : Nat} {T : List Int} (hm : 1 ≤ m) (hm4 : m ≤ 4) (h12 : T.length ≤ 12) (ok : TmOk T T.length) (hp : ∀ x, p = some x → 0 < T.length → x.block < bt)
    (t : Int) (ts : List Int) (k : Nat) (P : List Nat) (L : Int) (B : List Nat) (O s : Nat → Int) (W : World) (hT : T.drop k = t :: ts) (hP : P.length = k) (h : GM bt bp rb bb bl rt bo bs bg p T.length c m W L (nv B) O s) (nr : NumR W p T) (hO : ∀ j, j < k → O j = nv P j) (hs : ∀ b, b < m → 0 ≤ s b ∧ s b ≤ k * 1073741824) (hx : Sea.mx s m < L)
    (ih : ∀ (P : List Nat) (L : Int) (B : List Nat) (O s : Nat → Int) (W : World), P.length = k + 1 → GM bt bp rb bb bl rt bo bs bg p T.length c m W L (nv B) O s → NumR W p T → (∀ j, j < k + 1 → O j = nv P j) → (∀ b, b < m → 0 ≤ s b ∧ s b ≤ (k + 1 : Nat) * 1073741824) →
      Calls Try.prog 32 #[.int .i64 ((k : Int) + 1), .int .i64 (Sea.mx s m), .pointer (some ⟨bl, 0, none⟩), .pointer (some ⟨bt, 0, none⟩), .pointer (some ⟨bb, 0, none⟩), .pointer (some ⟨bo, 0, none⟩), .pointer (some ⟨bp, 0, none⟩), .pointer (some ⟨bs, 0, none⟩), .pointer (some ⟨bg, 0, none⟩)] W (GQ bt bp rb bb bl rt bo bs bg p T.length c m (k + 1) ts P L B O s W)) :
    Calls Try.prog 32 #[.int .i64 k, .int .i64 (Sea.mx s m), .pointer (some ⟨bl, 0, none⟩), .pointer (some ⟨bt, 0, none⟩), .pointer (some ⟨bb, 0, none⟩), .pointer (some ⟨bo, 0, none⟩), .pointer (some ⟨bp, 0, none⟩), .pointer (some ⟨bs, 0, none⟩), .pointer (some ⟨bg, 0, none⟩)] W
      (GQ bt bp rb bb bl rt bo bs bg p T.length c m k (t :: ts) P L B O s W) := by
  have kn : k < T.length := by
    apply Classical.byContradiction; intro g
    rw [List.drop_of_length_le (by omega)] at hT; cases hT
  have tk : gi T k = t := by
    rw [List.drop_eq_getElem_cons kn] at hT
    have := (List.cons.inj hT).1
    simp [gi, kn, this]
  have t0 := ok k kn
  rw [tk] at t0
  have cl := h.xl.cell
  have ct := h.xt.cell
  have cp := h.xp.cell
  have H := Lib.hid h
  have GLh := Lib.hid gl
  have IH := Lib.hid ih
  have HX := Lib.hid hx
  have HS := Lib.hid hs
  have HO := Lib.hid hO
  have HP := Lib.hid hP
  have NB := Lib.hid (fun W' (f : Fm (GMod rb bl rt bs) W W') => nr.fm f (fun x e h0 => gl.mod (hp x e h0)))
  have TK := Lib.hid tk
  have SQ := Lib.hid (fun (W' : World) (q : Nat) (hq : q < m) (L' : Int) (B' : Nat → Int) (O' : Nat → Int) (g : GM bt bp rb bb bl rt bo bs bg p T.length c m W' L' B' O' s) => contains_any (some ⟨bs, 0, none⟩) 4 ((List.range q).map s) (s q) W' (g.xs.num (by omega)) (by simp; omega))
  simp only [List.length_map, List.length_range] at SQ
  have SQ := Lib.hid (show ∀ (W' : World) (q : Nat) (hq : q < m) (L' : Int) (B' : Nat → Int) (O' : Nat → Int) (g : GM bt bp rb bb bl rt bo bs bg p T.length c m W' L' B' O' s), Calls Try.prog 33 #[.slice (some ⟨bs, 0, none⟩) q 4, .int .i64 (s q)] W' (fun e w' => e = .returned (.bool (dupB s q)) ∧ Below W'.heap.size W' w') from SQ.out)
  have d1 : decide (L ≤ Sea.mx s m) = false := decide_eq_false (by omega)
  have MXE := Lib.hid (show ∀ q y, q < m → s q ≤ y → Sea.mx (Sea.up s q y) m = max (Sea.mx s m) y from fun q y hq hy => Sea.mx_up hq hy)
  obtain ⟨n, hn⟩ : ∃ n, n = T.length := ⟨_, rfl⟩
  rw [← hn] at H IH SQ kn h12 ct ⊢
  have HN := Lib.hid hn
  have d2 : ((k : Int) == (n : Int)) = false := by simp; omega
  have QE := Lib.hid (show ∀ W' L' B' O', GM bt bp rb bb bl rt bo bs bg p n c m W' L' (nv B') O' s → (∀ j, j < k → O' j = O j) → Sea.Sr Sea.addS (fun s => Sea.mx s m) (fun _ => True) m (· < m) (t :: ts) s P L B L' B' → Fm (GMod rb bl rt bs) W W' → GQ bt bp rb bb bl rt bo bs bg p n c m k (t :: ts) P L B O s W (.returned (.tuple #[])) W' from fun W' L' B' O' g e r f => ⟨rfl, L', B', O', g, e, r.all, f⟩)
  clear h hx hO hT hP hp nr gl ih hs ok tk hn
  generalize Sea.mx s m = x at *
  go_enter Try.func32, Try.ntmps32
  go_wp2_with fail
  go_loopw [24] (fun iv wr => ∃ (q : Nat) (L1 : Int) (B1 : List Nat) (O1 : Nat → Int), q ≤ m ∧ iv = .int .i64 q ∧ Hid (GM bt bp rb bb bl rt bo bs bg p n c m wr L1 (nv B1) O1 s) ∧ Hid (∀ j, j < k → O1 j = O j) ∧ Hid (Sea.Sr Sea.addS (fun s => Sea.mx s m) (fun _ => True) m (· < q) (t :: ts) s P L B L1 B1) ∧ Hid (Fm (GMod rb bl rt bs) W wr)) (fun iv _ => m - (intOf iv).toNat)
  case atStart => exact ⟨0, L, B, O, Nat.zero_le _, rfl, H, Lib.hid fun _ _ => rfl, Lib.hid (Sea.Sr.start t), Lib.hid (Fm.refl _ _)⟩
  case round =>
    clear H cl ct cp d1 d2
    obtain ⟨q, L1, B1, O1, hq, rfl, H, O1E, SR, FM⟩ := hrel
    by_cases t1 : q < m
    · have i1 : (0 : Int) ≤ (q : Int) := by omega
      have i2 : (q : Int) < (m : Int) := by omega
      have i3 : (q : Int) < 4 := by omega
      have i4 : (q : Int) ≤ 4 := by omega
      have cs := H.out.xs.cell (k := q) (by omega)
      have C1 := Lib.hid (SQ.out wr q t1 L1 (nv B1) O1 H.out)
      have CD := Lib.hid (fun W' (g : GM bt bp rb bb bl rt bo bs bg p n c m W' L1 (nv B1) O1 s) => SQ.out W' q t1 L1 (nv B1) O1 g)
      obtain ⟨d, hd⟩ : ∃ d, d = dupB s q := ⟨_, rfl⟩
      rw [← hd] at CD
      have HD := Lib.hid hd
      clear hd
      cases d with
      | true =>
        have SR2 := Lib.hid (show Sea.Sr Sea.addS (fun s => Sea.mx s m) (fun _ => True) m (· < q + 1) (t :: ts) s P L B L1 B1 from by
          obtain ⟨r, hr, er⟩ := dupB_t HD.out
          exact SR.out.skip (fun a c s ha hc => Sea.mx_tr a c s ha hc) hr t1 er)
        go_upto_region 7 with fail
        go_region_held3 (fun w' => w'.cell? ⟨bs, q, none⟩ = some (.int .i64 (s q)))
          (first | exact cs | exact cellDr cs)
          (first | (go_at_call 33; (with_reducible refine (CD.out _ (by first | exact H.out | exact H.out.call ((Below.refl _ _).drew) | exact H.out.call (below_drewN (Below.refl _ _) _))).mono ?_); rintro e v1 ⟨rfl, st⟩; have st : Below wr.heap.size wr v1 := (by first | exact st | exact ((Below.refl _ _).drew).trans st | exact (below_drewN (Below.refl _ _) _).trans st); have H1 := Lib.hid (H.out.call st); have F1 := Lib.hid (FM.out.trans (Fm.call st)); replace cs := cellGr st cs; clear st))
        go_wp2_with fail
        go_roundw
        case rel => exact ⟨q + 1, L1, B1, O1, by omega, by go_num, H1, O1E, SR2, F1⟩
        case measure => simp [intOf]; omega
      | false =>
        go_upto_region 7 with fail
        go_region_held3 (fun w' => w'.cell? ⟨bs, q, none⟩ = some (.int .i64 (s q)))
          (first | exact cs | exact cellDr cs)
          (first | (go_at_call 33; (with_reducible refine (CD.out _ (by first | exact H.out | exact H.out.call ((Below.refl _ _).drew) | exact H.out.call (below_drewN (Below.refl _ _) _))).mono ?_); rintro e v1 ⟨rfl, st⟩; have st : Below wr.heap.size wr v1 := (by first | exact st | exact ((Below.refl _ _).drew).trans st | exact (below_drewN (Below.refl _ _) _).trans st); have H1 := Lib.hid (H.out.call st); have F1 := Lib.hid (FM.out.trans (Fm.call st)); replace cs := cellGr st cs; clear st))
        have co := H1.out.xo.cell
        have fo := H1.out.xO.frozen k
        have ci := H1.out.xO.cell (k := k) kn
        have k1 : (0 : Int) ≤ (k : Int) := by omega
        have k2 : (k : Int) < (n : Int) := by omega
        have H2 := Lib.hid (H1.out.setO GLh.out k q)
        have F2 := Lib.hid (F1.out.trans (Fm.set (M := GMod rb bl rt bs) ⟨rt, k, none⟩ (.int .i64 (q : Int)) (.inr (.inr (.inl rfl)))))
        clear H1 F1 H FM cs
        go_upto_region 9 with fail
        clear co fo ci
        generalize v1.setCell ⟨rt, k, none⟩ (.int .i64 (q : Int)) = v2 at *
        have cs := H2.out.xs.cell (k := q) (by omega)
        have fs := H2.out.xs.frozen q
        have ct := H2.out.xt.cell
        obtain ⟨xa, rfl, kx, cx⟩ := (NB.out _ F2.out) k (by have := HN.out; omega)
        rw [TK.out] at cx
        obtain ⟨y, hy⟩ : ∃ y, y = s q + t := ⟨_, rfl⟩
        have sq := HS.out q t1
        have wy : IntKind.i64.wrap (s q + t) = y := wI hy.symm (by omega) (by omega)
        have HY := Lib.hid hy
        have H3 := Lib.hid (H2.out.setS GLh.out q y)
        have F3 := Lib.hid (F2.out.trans (Fm.set (M := GMod rb bl rt bs) ⟨bs, q, none⟩ (.int .i64 y) (.inr (.inr (.inr rfl)))))
        clear hy H2 F2
        go_cut [] from 37 to 45 (fun wx => Hid (GM bt bp rb bb bl rt bo bs bg (some xa) n c m wx L1 (nv B1) (upd O1 k q) (upd s q y)) ∧ Hid (Fm (GMod rb bl rt bs) W wx))
        case first =>
          go_region_law (fail)
          all_goals
            go_wp2_with fail
            go_meet
            exact ⟨(by first | exact H3 | exact Lib.hid (H3.out.call ((Below.refl _ _).drew)) | exact Lib.hid (H3.out.call (below_drewN (Below.refl _ _) _))), (by first | exact F3 | exact Lib.hid (F3.out.trans (Fm.call ((Below.refl _ _).drew))) | exact Lib.hid (F3.out.trans (Fm.call (below_drewN (Below.refl _ _) _))))⟩
        case rest =>
          obtain ⟨H4, F4⟩ := hcut
          clear H3 F3 cs fs ct cx kx wy
          have cg := H4.out.xg.cell
          have cs := H4.out.xs.cell (k := q) (by omega)
          rw [show upd s q y q = y from if_pos rfl] at cs
          have wk : IntKind.i64.wrap ((k : Int) + 1) = (k : Int) + 1 := IntWalk.i64_in _ (by omega)
          have PO := Lib.hid (show ∀ j, j < k + 1 → upd O1 k q j = nv (P ++ [q]) j from fun j hj => by
            have lp := HP.out
            unfold upd
            by_cases e : j = k
            · subst e; rw [if_pos rfl]; simp [nv, lp]
            · rw [if_neg e, O1E.out j (by omega), HO.out j (by omega)]
              unfold nv
              rw [List.getD_eq_getElem?_getD, List.getD_eq_getElem?_getD, List.getElem?_append_left (by omega)])
          have SB := Lib.hid (show ∀ b, b < m → 0 ≤ upd s q y b ∧ upd s q y b ≤ (k + 1 : Nat) * 1073741824 from fun b hb => by
            have sb := HS.out b hb
            have := HY.out
            unfold upd
            split <;> omega)
          have MX := Lib.hid (show Sea.mx (upd s q y) m = max x y from MXE.out q y t1 (by have := HY.out; omega))
          have CI := fun W' g h => IH.out (P ++ [q]) L1 B1 (upd O1 k q) (upd s q y) W' (by simp; exact HP.out) g h PO.out SB.out
          by_cases hxy : x < y
          · have d3 : decide (x < y) = true := decide_eq_true hxy
            rw [MX.out, show max x y = y from by omega] at CI
            have CI := Lib.hid CI
            go_upto_region 10 with fail
            go_region_held3 (fun w' => w'.cell? ⟨bg, 0, none⟩ = some (.func (.func 32) #[] #[.pointer (some ⟨bl, 0, none⟩), .pointer (some ⟨bt, 0, none⟩), .pointer (some ⟨bb, 0, none⟩), .pointer (some ⟨bo, 0, none⟩), .pointer (some ⟨bp, 0, none⟩), .pointer (some ⟨bs, 0, none⟩), .pointer (some ⟨bg, 0, none⟩)]) ∧ w'.cell? ⟨bs, q, none⟩ = some (.int .i64 y))
              (first | exact ⟨cg, cs⟩ | exact ⟨cellDr cg, cellDr cs⟩)
              (first | (go_at_call 32; (with_reducible refine (CI.out _ (by first | exact H4.out | exact H4.out.call ((Below.refl _ _).drew) | exact H4.out.call (below_drewN (Below.refl _ _) _)) (by first | exact NB.out _ F4.out | exact NB.out _ (F4.out.trans (Fm.call ((Below.refl _ _).drew))) | exact NB.out _ (F4.out.trans (Fm.call (below_drewN (Below.refl _ _) _))))).mono ?_); rintro e w4 ⟨rfl, L2, B2, O3, g4, e4, r4, f4⟩; have H5 := Lib.hid g4; have F5 := Lib.hid (F4.out.trans ((show Fm (GMod rb bl rt bs) wc _ from by first | exact Fm.refl _ _ | exact Fm.call ((Below.refl _ _).drew) | exact Fm.call (below_drewN (Below.refl _ _) _)).trans f4)); have E4 := Lib.hid e4; have R4 := Lib.hid r4; replace cg := g4.xg.cell; replace cs := g4.xs.cell (k := q) (by omega); rw [show upd s q y q = y from if_pos rfl] at cs; clear g4 e4 r4 f4))
            clear cg CI
            go_upto_region 11 with fail
            have fs := H5.out.xs.frozen q
            have ct := H5.out.xt.cell
            obtain ⟨xb, exb, ky, cx⟩ := (NB.out _ F5.out) k (by have := HN.out; omega)
            cases exb
            rw [TK.out] at cx
            have wz : IntKind.i64.wrap (y - t) = s q := wI (by have := HY.out; omega) (by omega) (by omega)
            have H6 := Lib.hid ((H5.out.setS GLh.out q (s q)).ext (s' := s) (fun _ _ => rfl) (fun _ _ => rfl) (fun j _ => by
              unfold upd
              by_cases e : j = q
              · rw [if_pos e, e]
              · rw [if_neg e, if_neg e]))
            have F6 := Lib.hid (F5.out.trans (Fm.set (M := GMod rb bl rt bs) ⟨bs, q, none⟩ (.int .i64 (s q)) (.inr (.inr (.inr rfl)))))
            clear H5 F5
            have OE3 := Lib.hid (show ∀ j, j < k → O3 j = O j from fun j hj => by
              rw [E4.out j (by omega), ← O1E.out j hj]
              exact if_neg (by omega))
            clear E4
            have SR3 := Lib.hid (show Sea.Sr Sea.addS (fun s => Sea.mx s m) (fun _ => True) m (· < q + 1) (t :: ts) s P L B L2 B2 from SR.out.call (y := y) (by rw [HY.out]; exact Sea.addS_at (by omega)) t1 R4.out)
            clear SR R4
            go_region_law (fail)
            all_goals
              go_wp2_with fail
              go_roundw
              case rel => exact ⟨q + 1, L2, B2, O3, by omega, by go_num, (by first | exact H6 | exact Lib.hid (H6.out.call ((Below.refl _ _).drew)) | exact Lib.hid (H6.out.call (below_drewN (Below.refl _ _) _))), OE3, SR3, (by first | exact F6 | exact Lib.hid (F6.out.trans (Fm.call ((Below.refl _ _).drew))) | exact Lib.hid (F6.out.trans (Fm.call (below_drewN (Below.refl _ _) _))))⟩
              case measure => simp [intOf]; omega
          · have d3 : decide (x < y) = false := decide_eq_false hxy
            rw [MX.out, show max x y = x from by omega] at CI
            have CI := Lib.hid CI
            go_upto_region 10 with fail
            go_region_held3 (fun w' => w'.cell? ⟨bg, 0, none⟩ = some (.func (.func 32) #[] #[.pointer (some ⟨bl, 0, none⟩), .pointer (some ⟨bt, 0, none⟩), .pointer (some ⟨bb, 0, none⟩), .pointer (some ⟨bo, 0, none⟩), .pointer (some ⟨bp, 0, none⟩), .pointer (some ⟨bs, 0, none⟩), .pointer (some ⟨bg, 0, none⟩)]) ∧ w'.cell? ⟨bs, q, none⟩ = some (.int .i64 y))
              (first | exact ⟨cg, cs⟩ | exact ⟨cellDr cg, cellDr cs⟩)
              (first | (go_at_call 32; (with_reducible refine (CI.out _ (by first | exact H4.out | exact H4.out.call ((Below.refl _ _).drew) | exact H4.out.call (below_drewN (Below.refl _ _) _)) (by first | exact NB.out _ F4.out | exact NB.out _ (F4.out.trans (Fm.call ((Below.refl _ _).drew))) | exact NB.out _ (F4.out.trans (Fm.call (below_drewN (Below.refl _ _) _))))).mono ?_); rintro e w4 ⟨rfl, L2, B2, O3, g4, e4, r4, f4⟩; have H5 := Lib.hid g4; have F5 := Lib.hid (F4.out.trans ((show Fm (GMod rb bl rt bs) wc _ from by first | exact Fm.refl _ _ | exact Fm.call ((Below.refl _ _).drew) | exact Fm.call (below_drewN (Below.refl _ _) _)).trans f4)); have E4 := Lib.hid e4; have R4 := Lib.hid r4; replace cg := g4.xg.cell; replace cs := g4.xs.cell (k := q) (by omega); rw [show upd s q y q = y from if_pos rfl] at cs; clear g4 e4 r4 f4))
            clear cg CI
            go_upto_region 11 with fail
            have fs := H5.out.xs.frozen q
            have ct := H5.out.xt.cell
            obtain ⟨xb, exb, ky, cx⟩ := (NB.out _ F5.out) k (by have := HN.out; omega)
            cases exb
            rw [TK.out] at cx
            have wz : IntKind.i64.wrap (y - t) = s q := wI (by have := HY.out; omega) (by omega) (by omega)
            have H6 := Lib.hid ((H5.out.setS GLh.out q (s q)).ext (s' := s) (fun _ _ => rfl) (fun _ _ => rfl) (fun j _ => by
              unfold upd
              by_cases e : j = q
              · rw [if_pos e, e]
              · rw [if_neg e, if_neg e]))
            have F6 := Lib.hid (F5.out.trans (Fm.set (M := GMod rb bl rt bs) ⟨bs, q, none⟩ (.int .i64 (s q)) (.inr (.inr (.inr rfl)))))
            clear H5 F5
            have OE3 := Lib.hid (show ∀ j, j < k → O3 j = O j from fun j hj => by
              rw [E4.out j (by omega), ← O1E.out j hj]
              exact if_neg (by omega))
            clear E4
            have SR3 := Lib.hid (show Sea.Sr Sea.addS (fun s => Sea.mx s m) (fun _ => True) m (· < q + 1) (t :: ts) s P L B L2 B2 from SR.out.call (y := y) (by rw [HY.out]; exact Sea.addS_at (by omega)) t1 R4.out)
            clear SR R4
            go_region_law (fail)
            all_goals
              go_wp2_with fail
              go_roundw
              case rel => exact ⟨q + 1, L2, B2, O3, by omega, by go_num, (by first | exact H6 | exact Lib.hid (H6.out.call ((Below.refl _ _).drew)) | exact Lib.hid (H6.out.call (below_drewN (Below.refl _ _) _))), OE3, SR3, (by first | exact F6 | exact Lib.hid (F6.out.trans (Fm.call ((Below.refl _ _).drew))) | exact Lib.hid (F6.out.trans (Fm.call (below_drewN (Below.refl _ _) _))))⟩
              case measure => simp [intOf]; omega
    · obtain rfl : q = m := by omega
      have QF := Lib.hid (QE.out wr L1 B1 O1 H.out O1E.out SR.out FM.out)
      go_wp2_with fail
      go_end0
      exact QF.out
end Go.Proofs.Ythbgeikdamajlab
