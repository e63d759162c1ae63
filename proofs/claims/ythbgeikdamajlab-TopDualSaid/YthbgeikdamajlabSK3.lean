/- Press: Pack. -/
import Derived.Test.YthbgeikdamajlabSK2
import Derived.Test.YthbgeikdamajlabSJ3
namespace Go.Proofs.Ythbgeikdamajlab
open Go.RowKit Go.Proofs.Ythbgeikdamajlab.Prs Go.Proofs.Ythbgeikdamajlab.Stb
set_option linter.unusedVariables false
set_option linter.unusedSimpArgs false

theorem put_any {base bt bm be rb bb bl rt bo bx bg : Nat} (gl : PL base bt bm be rb bb bl rt bo bx bg) {p : Option Addr} {c : Nat} {mo ea : Int} {T : List Int} (hmo : 1 ≤ mo ∧ mo ≤ 1073741824) (hea : 1 ≤ ea ∧ ea ≤ 12) (h12 : T.length ≤ 12) (ok : ThOk T T.length) (hp : ∀ x, p = some x → 0 < T.length → x.block < base) :
    ∀ (ts : List Int) (k u : Nat) (P : List Nat) (L : Int) (B : List Nat) (O : Nat → Int) (s : Nat → Int × Int) (W : World), T.drop k = ts → k ≤ T.length → P.length = k → PM bt bm be rb bb bl rt bo bx bg p T.length c mo ea W L (nv B) O s → NumR W p T → (∀ j, j < k → O j = nv P j) → PB mo ea s → Sea.Cn s u → u ≤ k →
      Calls Try.prog 39 #[.int .i64 k, .int .i64 u, .pointer (some ⟨bl, 0, none⟩), .pointer (some ⟨bt, 0, none⟩), .pointer (some ⟨bb, 0, none⟩), .pointer (some ⟨bo, 0, none⟩), .pointer (some ⟨bx, 0, none⟩), .pointer (some ⟨bm, 0, none⟩), .pointer (some ⟨be, 0, none⟩), .pointer (some ⟨bg, 0, none⟩)] W (PQ bt bm be rb bb bl rt bo bx bg p T.length c k mo ea ts P L B O s W)
  | [], k, u, P, L, B, O, s, W, hT, hk, hP, h, nr, hO, hs, cn, hu => by
    by_cases hx : L ≤ u
    · exact put_prune h cn (by omega) hx
    · have e : k = T.length := by
        apply Classical.byContradiction; intro g
        have := List.drop_eq_nil_iff.1 hT
        omega
      subst e
      exact put_leaf gl h hP hO cn (by omega) (by omega)
  | t :: ts, k, u, P, L, B, O, s, W, hT, hk, hP, h, nr, hO, hs, cn, hu => by
    by_cases hx : L ≤ u
    · exact put_prune h cn (by omega) hx
    · have kn : k < T.length := by
        apply Classical.byContradiction; intro g
        rw [List.drop_of_length_le (by omega)] at hT; cases hT
      refine put_step gl hmo hea h12 ok hp t ts k u P L B O s W hT hP h nr hO hs cn hu (by omega) ?_
      intro u' P' L' B' O' s' W' hP' h' nr' hO' hs' cn' hu'
      have e : T.drop (k + 1) = ts := by
        rw [List.drop_eq_getElem_cons kn] at hT
        exact (List.cons.inj hT).2
      have := put_any gl hmo hea h12 ok hp ts (k + 1) u' P' L' B' O' s' W' e (by omega) hP' h' nr' hO' hs' cn' hu'
      exact this

/-- What Pack answers. -/
def PaQ (T : List Int) (mo ea : Int) (w : World) (e : Ending) (w' : World) : Prop := ∃ x v L, e = .returned (.tuple #[v, .int .i64 L, .int .i64 x]) ∧ PErr T mo ea x ∧ Below w.heap.size w w' ∧ (x ≠ 0 → v = .slice none 0 0 ∧ L = 0) ∧
  (x = 0 → ∃ b E, v = .slice (some ⟨b, 0, none⟩) T.length T.length ∧ w.heap.size ≤ b ∧ NumR w' (some ⟨b, 0, none⟩) ((List.range T.length).map (nv E)) ∧ E.length = T.length ∧ Sea.BestP mo ea 12 T L E)
/-- The row, its box and the box of the least, made in any order. -/
structure Mk4 (w wx : World) (n : Nat) (L : Int) (rb bb bl : Nat) : Prop where
  i1 : IR wx rb 3 n (fun _ => 0)
  i2 : BX wx bb 25 (.slice (some ⟨rb, 0, none⟩) n n)
  i3 : BX wx bl 3 (.int .i64 L)
  st : Below w.heap.size w wx
  lo : w.heap.size ≤ rb ∧ w.heap.size ≤ bb ∧ w.heap.size ≤ bl
  ne : bb ≠ rb ∧ bb ≠ bl ∧ rb ≠ bl

theorem kA {W : World} {o : Obj} {a : Addr} {v : Value} (h : W.drew.cell? a = some v) : (W.alloc o).drew.cell? a = some v :=
  (World.cell?_alloc_some W a o (by rw [show W.cell? a = some v from h]; rfl)).trans h
/-- Three made one behind the other. -/
theorem three (w : World) (o1 o2 o3 : Obj) : (((w.alloc o1).alloc o2).alloc o3).heap[w.heap.size]? = some o1 ∧ (((w.alloc o1).alloc o2).alloc o3).heap[w.heap.size + 1]? = some o2 ∧ (((w.alloc o1).alloc o2).alloc o3).heap[w.heap.size + 1 + 1]? = some o3 ∧ Below w.heap.size w (((w.alloc o1).alloc o2).alloc o3) ∧ (((w.alloc o1).alloc o2).alloc o3).heap.size = w.heap.size + 3 := by
  refine ⟨?_, ?_, ?_, (((Below.refl _ w).alloc (Nat.le_refl _) _).alloc (by simp) _).alloc (by simp; omega) _, by simp⟩
  · rw [Below.heap_alloc _ _ _ (by simp; omega), Below.heap_alloc _ _ _ (by simp), heap_alloc_new]
  · rw [Below.heap_alloc _ _ _ (by simp)]
    have := heap_alloc_new (w.alloc o1) o2
    simpa using this
  · have := heap_alloc_new ((w.alloc o1).alloc o2) o3
    simpa using this
theorem Mk4.of {w wx : World} {n : Nat} {L : Int} {rb bb bl : Nat} (i2 : wx.heap[bb]? = some (.cells #[.slice (some ⟨rb, 0, none⟩) n n] 25)) (i3 : wx.heap[bl]? = some (.cells #[.int .i64 L] 3)) (i1 : wx.heap[rb]? = some (.cells (madeCells #[Value.int .i64 0] n) 3)) (st : Below w.heap.size w wx) (lo : w.heap.size ≤ rb ∧ w.heap.size ≤ bb ∧ w.heap.size ≤ bl) (ne : bb ≠ rb ∧ bb ≠ bl ∧ rb ≠ bl) : Mk4 w wx n L rb bb bl :=
  ⟨by
    unfold IR
    rw [i1]
    have := made_ints n
    rw [Nat.mul_one, show (Value.int .i64 0).cells = #[.int .i64 0] from rfl] at this
    rw [← this], i2, i3, st, lo, ne⟩

set_option maxRecDepth 100000 in
set_option maxHeartbeats 8000000 in
theorem Pack_any (p : Option Addr) (c : Nat) (T : List Int) (mo ea : Int) (w : World) (r : NumR w p T) (ln : T.length ≤ 9223372036854775807) :
    Calls Try.prog 17 #[.slice p T.length c, .int .i64 mo, .int .i64 ea] w (PaQ T mo ea w) := by
  obtain ⟨i0, hi, hz0, hz1, hz2⟩ := info_parts intInfo
  have R := Lib.hid r
  have CT := Lib.hid (fun W (st : Below w.heap.size w W) => checkThings_any p c T mo ea W (r.below st) ln)
  have QE := Lib.hid (show ∀ x w', PErr T mo ea x → x ≠ 0 → Below w.heap.size w w' → PaQ T mo ea w (.returned (.tuple #[.slice none 0 0, .int .i64 0, .int .i64 x])) w' from fun x w' h g B => ⟨x, _, 0, rfl, h, B, fun _ => ⟨rfl, rfl⟩, fun e => absurd e g⟩)
  obtain ⟨n, hn⟩ : ∃ n, n = T.length := ⟨_, rfl⟩
  rw [← hn] at ln CT ⊢
  have HN := Lib.hid hn
  clear hn r
  have X0 := Lib.hid (show BX (((w.alloc (Obj.cells #[Value.slice p n c] 25)).alloc (Obj.cells #[Value.int .i64 mo] 3)).alloc (Obj.cells #[Value.int .i64 ea] 3)) w.heap.size 25 (.slice p n c) ∧ BX (((w.alloc (Obj.cells #[Value.slice p n c] 25)).alloc (Obj.cells #[Value.int .i64 mo] 3)).alloc (Obj.cells #[Value.int .i64 ea] 3)) (w.heap.size + 1) 3 (.int .i64 mo) ∧ BX (((w.alloc (Obj.cells #[Value.slice p n c] 25)).alloc (Obj.cells #[Value.int .i64 mo] 3)).alloc (Obj.cells #[Value.int .i64 ea] 3)) (w.heap.size + 1 + 1) 3 (.int .i64 ea) ∧ Below w.heap.size w (((w.alloc (Obj.cells #[Value.slice p n c] 25)).alloc (Obj.cells #[Value.int .i64 mo] 3)).alloc (Obj.cells #[Value.int .i64 ea] 3)) ∧ (((w.alloc (Obj.cells #[Value.slice p n c] 25)).alloc (Obj.cells #[Value.int .i64 mo] 3)).alloc (Obj.cells #[Value.int .i64 ea] 3)).heap.size = w.heap.size + 3 from by
    refine ⟨?_, ?_, ?_, (((Below.refl _ w).alloc (Nat.le_refl _) _).alloc (by simp) _).alloc (by simp; omega) _, by simp⟩
    · unfold BX
      rw [Below.heap_alloc _ _ _ (by simp; omega), heap_alloc2_old]
    · unfold BX
      rw [Below.heap_alloc _ _ _ (by simp), heap_alloc2_new]
    · unfold BX
      have := heap_alloc_new ((w.alloc (Obj.cells #[Value.slice p n c] 25)).alloc (Obj.cells #[Value.int .i64 mo] 3)) (Obj.cells #[Value.int .i64 ea] 3)
      simpa using this)
  go_enter Try.func17, Try.ntmps17
  go_upto_region 1 with fail
  generalize (((w.alloc (Obj.cells #[Value.slice p n c] 25)).alloc (Obj.cells #[Value.int .i64 mo] 3)).alloc (Obj.cells #[Value.int .i64 ea] 3)) = w1 at *
  have ct := X0.out.1.cell
  have cm := X0.out.2.1.cell
  have ce := X0.out.2.2.1.cell
  go_wp2_with fail
  refine (CT.out w1 X0.out.2.2.2.1).mono ?_
  rintro e w2 ⟨x, rfl, TE, st⟩
  have TE := Lib.hid TE
  have X1 := Lib.hid (show BX w2 w.heap.size 25 (.slice p n c) ∧ BX w2 (w.heap.size + 1) 3 (.int .i64 mo) ∧ BX w2 (w.heap.size + 1 + 1) 3 (.int .i64 ea) ∧ Below w.heap.size w w2 ∧ w.heap.size + 3 ≤ w2.heap.size from
    ⟨X0.out.1.keep (st.block _ X0.out.1.lt), X0.out.2.1.keep (st.block _ X0.out.2.1.lt), X0.out.2.2.1.keep (st.block _ X0.out.2.2.1.lt), X0.out.2.2.2.1.trans (st.mono X0.out.2.2.2.1.size), by have := st.size; have := X0.out.2.2.2.2; omega⟩)
  clear st X0 CT ct cm ce
  by_cases x0 : x = 0
  case neg =>
    have x1 : (x == 0) = false := by simpa using x0
    have x2 : decide (x = 0) = false := decide_eq_false x0
    have FF := Lib.hid (QE.out x w2 TE.out x0 X1.out.2.2.2.1)
    clear x0 QE
    go_wp2_with fail
    go_returns
    exact FF.out
  subst x0
  have ct := X1.out.1.cell
  obtain ⟨n12, ⟨mo1, mo2, ea1, ea2, tok⟩, fit⟩ := TE.out.good
  rw [← HN.out] at n12
  have TOK := Lib.hid tok
  have FIT := Lib.hid fit
  clear tok fit QE
  have wn : IntKind.i64.wrap ((n : Int) + 1) = (n : Int) + 1 := wI rfl (by omega) (by omega)
  obtain ⟨bt, hbt⟩ : ∃ b, b = w.heap.size := ⟨_, rfl⟩
  rw [← hbt] at X1 ct ⊢
  have HBT := Lib.hid hbt
  clear hbt
  have ltb : bt < w2.heap.size := X1.out.1.lt
  go_upto_region 4 with fail
  go_cut [10, 11] from 22 to 27 (fun bbv blv wx => ∃ rb bb bl, bbv = .pointer (some ⟨bb, 0, none⟩) ∧ blv = .pointer (some ⟨bl, 0, none⟩) ∧ Hid (Mk4 w2 wx n (n + 1) rb bb bl))
  case first =>
    have MK : ∀ W : World, (Instr.makeSlice 25 (.int .i64 (n : Int)) (.int .i64 (n : Int))).run Try.prog W = .ok (.slice (some ⟨W.heap.size, 0, none⟩) n n) (W.alloc (.cells (madeCells (Value.int .i64 0).cells (n * 1)) 3)) := fun W => by
      have := run_make (P := Try.prog) W 25 3 i0 (.int .i64 0) Try.underlying25 hi hz0 .i64 .i64 n n (by omega) (Int.le_refl _) (by rw [hz2]; omega) (by omega)
      rw [hz1] at this
      simpa using this
    go_region_held3 (fun w' => w'.cell? ⟨bt, 0, none⟩ = some (.slice p n c)) (first | exact ct | exact kA ct | exact kA (kA ct) | exact kA (kA (kA ct))) (fail)
    all_goals
      go_wp2_with fail
      go_meet
      refine' ⟨_, _, _, rfl, rfl, Lib.hid (Mk4.of ?i2 ?i3 ?i1 ?st ?lo ?ne)⟩
      case i2 => first | exact (three _ _ _ _).1 | exact (three _ _ _ _).2.1 | exact (three _ _ _ _).2.2.1
      case i3 => first | exact (three _ _ _ _).1 | exact (three _ _ _ _).2.1 | exact (three _ _ _ _).2.2.1
      case i1 => first | exact (three _ _ _ _).1 | exact (three _ _ _ _).2.1 | exact (three _ _ _ _).2.2.1
      case st => first | exact (three _ _ _ _).2.2.2.1.drew | exact below_drewN (three _ _ _ _).2.2.2.1 _
      case lo => omega
      case ne => omega
  case rest =>
    obtain ⟨rb, bb, bl, rfl, rfl, M4⟩ := hcut
    have X4 := Lib.hid (show BX wc bt 25 (.slice p n c) ∧ BX wc (bt + 1) 3 (.int .i64 mo) ∧ BX wc (bt + 1 + 1) 3 (.int .i64 ea) ∧ bt < wc.heap.size from
      ⟨X1.out.1.keep (M4.out.st.block _ X1.out.1.lt), X1.out.2.1.keep (M4.out.st.block _ X1.out.2.1.lt), X1.out.2.2.1.keep (M4.out.st.block _ X1.out.2.2.1.lt), Nat.lt_of_lt_of_le ltb M4.out.st.size⟩)
    have HS := Lib.hid (show bt + 3 ≤ w2.heap.size ∧ w2.heap.size ≤ rb ∧ w2.heap.size ≤ bb ∧ w2.heap.size ≤ bl ∧ rb < wc.heap.size ∧ bb < wc.heap.size ∧ bl < wc.heap.size ∧ (bb ≠ rb ∧ bb ≠ bl ∧ rb ≠ bl) from
      ⟨X1.out.2.2.2.2, M4.out.lo.1, M4.out.lo.2.1, M4.out.lo.2.2, M4.out.i1.lt, M4.out.i2.lt, M4.out.i3.lt, M4.out.ne⟩)
    have BX4 := Lib.hid (show Below bt w wc from X1.out.2.2.2.1.trans (M4.out.st.mono (by have := HS.out; omega)))
    clear ct ltb X1 wn
    have ct := X4.out.1.cell
    go_upto_region 6 with (first
      | (at_make; refine wpList_make_full _ rfl _ _ 25 rfl wc.heap.size 3 i0 (.int .i64 0) 1 Try.underlying25 hi hz0 hz1 .i64 .i64 _ _ n rfl rfl (by omega) (by omega) (by rw [hz2]; omega) (by unfold maxLen; omega) (Nat.le_refl _) ?_; intro w5 hown0 hgrow0))
    rw [made_ints] at hown0
    have I5 := Lib.hid (IR.of hown0)
    have B5 := Lib.hid (show Below wc.heap.size wc w5 from (Below.refl _ _).grown hgrow0 (Nat.le_refl _) (fun k e => by cases e))
    clear hown0 hgrow0
    go_upto_region 8 with fail
    have HZ := Lib.hid (show wc.heap.size < w5.heap.size from I5.out.lt)
    have K7 := Lib.hid (show (∀ q, q < w5.heap.size → (((w5.alloc (Obj.cells #[Value.slice (some ⟨wc.heap.size, 0, none⟩) n n] 25)).alloc (Obj.cells #[Value.int .i64 0, Value.int .i64 0, Value.int .i64 0, Value.int .i64 0, Value.int .i64 0, Value.int .i64 0, Value.int .i64 0, Value.int .i64 0, Value.int .i64 0, Value.int .i64 0, Value.int .i64 0, Value.int .i64 0, Value.int .i64 0, Value.int .i64 0, Value.int .i64 0, Value.int .i64 0, Value.int .i64 0, Value.int .i64 0, Value.int .i64 0, Value.int .i64 0, Value.int .i64 0, Value.int .i64 0, Value.int .i64 0, Value.int .i64 0] 67)).alloc (Obj.cells #[Value.nilFunc] 61)).heap[q]? = w5.heap[q]?) ∧ BX (((w5.alloc (Obj.cells #[Value.slice (some ⟨wc.heap.size, 0, none⟩) n n] 25)).alloc (Obj.cells #[Value.int .i64 0, Value.int .i64 0, Value.int .i64 0, Value.int .i64 0, Value.int .i64 0, Value.int .i64 0, Value.int .i64 0, Value.int .i64 0, Value.int .i64 0, Value.int .i64 0, Value.int .i64 0, Value.int .i64 0, Value.int .i64 0, Value.int .i64 0, Value.int .i64 0, Value.int .i64 0, Value.int .i64 0, Value.int .i64 0, Value.int .i64 0, Value.int .i64 0, Value.int .i64 0, Value.int .i64 0, Value.int .i64 0, Value.int .i64 0] 67)).alloc (Obj.cells #[Value.nilFunc] 61)) w5.heap.size 25 (.slice (some ⟨wc.heap.size, 0, none⟩) n n) ∧ IR (((w5.alloc (Obj.cells #[Value.slice (some ⟨wc.heap.size, 0, none⟩) n n] 25)).alloc (Obj.cells #[Value.int .i64 0, Value.int .i64 0, Value.int .i64 0, Value.int .i64 0, Value.int .i64 0, Value.int .i64 0, Value.int .i64 0, Value.int .i64 0, Value.int .i64 0, Value.int .i64 0, Value.int .i64 0, Value.int .i64 0, Value.int .i64 0, Value.int .i64 0, Value.int .i64 0, Value.int .i64 0, Value.int .i64 0, Value.int .i64 0, Value.int .i64 0, Value.int .i64 0, Value.int .i64 0, Value.int .i64 0, Value.int .i64 0, Value.int .i64 0] 67)).alloc (Obj.cells #[Value.nilFunc] 61)) (w5.heap.size + 1) 67 24 (flat fun _ => (0, 0)) ∧ BX (((w5.alloc (Obj.cells #[Value.slice (some ⟨wc.heap.size, 0, none⟩) n n] 25)).alloc (Obj.cells #[Value.int .i64 0, Value.int .i64 0, Value.int .i64 0, Value.int .i64 0, Value.int .i64 0, Value.int .i64 0, Value.int .i64 0, Value.int .i64 0, Value.int .i64 0, Value.int .i64 0, Value.int .i64 0, Value.int .i64 0, Value.int .i64 0, Value.int .i64 0, Value.int .i64 0, Value.int .i64 0, Value.int .i64 0, Value.int .i64 0, Value.int .i64 0, Value.int .i64 0, Value.int .i64 0, Value.int .i64 0, Value.int .i64 0, Value.int .i64 0] 67)).alloc (Obj.cells #[Value.nilFunc] 61)) (w5.heap.size + 1 + 1) 61 .nilFunc ∧ Below w5.heap.size w5 (((w5.alloc (Obj.cells #[Value.slice (some ⟨wc.heap.size, 0, none⟩) n n] 25)).alloc (Obj.cells #[Value.int .i64 0, Value.int .i64 0, Value.int .i64 0, Value.int .i64 0, Value.int .i64 0, Value.int .i64 0, Value.int .i64 0, Value.int .i64 0, Value.int .i64 0, Value.int .i64 0, Value.int .i64 0, Value.int .i64 0, Value.int .i64 0, Value.int .i64 0, Value.int .i64 0, Value.int .i64 0, Value.int .i64 0, Value.int .i64 0, Value.int .i64 0, Value.int .i64 0, Value.int .i64 0, Value.int .i64 0, Value.int .i64 0, Value.int .i64 0] 67)).alloc (Obj.cells #[Value.nilFunc] 61)) ∧ (((w5.alloc (Obj.cells #[Value.slice (some ⟨wc.heap.size, 0, none⟩) n n] 25)).alloc (Obj.cells #[Value.int .i64 0, Value.int .i64 0, Value.int .i64 0, Value.int .i64 0, Value.int .i64 0, Value.int .i64 0, Value.int .i64 0, Value.int .i64 0, Value.int .i64 0, Value.int .i64 0, Value.int .i64 0, Value.int .i64 0, Value.int .i64 0, Value.int .i64 0, Value.int .i64 0, Value.int .i64 0, Value.int .i64 0, Value.int .i64 0, Value.int .i64 0, Value.int .i64 0, Value.int .i64 0, Value.int .i64 0, Value.int .i64 0, Value.int .i64 0] 67)).alloc (Obj.cells #[Value.nilFunc] 61)).heap.size = w5.heap.size + 3 from by
      obtain ⟨t1, t2, t3, t4, t5⟩ := three w5 (Obj.cells #[Value.slice (some ⟨wc.heap.size, 0, none⟩) n n] 25) (Obj.cells #[Value.int .i64 0, Value.int .i64 0, Value.int .i64 0, Value.int .i64 0, Value.int .i64 0, Value.int .i64 0, Value.int .i64 0, Value.int .i64 0, Value.int .i64 0, Value.int .i64 0, Value.int .i64 0, Value.int .i64 0, Value.int .i64 0, Value.int .i64 0, Value.int .i64 0, Value.int .i64 0, Value.int .i64 0, Value.int .i64 0, Value.int .i64 0, Value.int .i64 0, Value.int .i64 0, Value.int .i64 0, Value.int .i64 0, Value.int .i64 0] 67) (Obj.cells #[Value.nilFunc] 61)
      exact ⟨fun q hq => t4.block q hq, t1, t2, t3, t4, t5⟩)
    generalize (((w5.alloc (Obj.cells #[Value.slice (some ⟨wc.heap.size, 0, none⟩) n n] 25)).alloc (Obj.cells #[Value.int .i64 0, Value.int .i64 0, Value.int .i64 0, Value.int .i64 0, Value.int .i64 0, Value.int .i64 0, Value.int .i64 0, Value.int .i64 0, Value.int .i64 0, Value.int .i64 0, Value.int .i64 0, Value.int .i64 0, Value.int .i64 0, Value.int .i64 0, Value.int .i64 0, Value.int .i64 0, Value.int .i64 0, Value.int .i64 0, Value.int .i64 0, Value.int .i64 0, Value.int .i64 0, Value.int .i64 0, Value.int .i64 0, Value.int .i64 0] 67)).alloc (Obj.cells #[Value.nilFunc] 61)) = w7 at *
    have X7 := Lib.hid (show BX w7 bt 25 (.slice p n c) ∧ BX w7 (bt + 1) 3 (.int .i64 mo) ∧ BX w7 (bt + 1 + 1) 3 (.int .i64 ea) ∧ IR w7 rb 3 n (fun _ => 0) ∧ BX w7 bb 25 (.slice (some ⟨rb, 0, none⟩) n n) ∧ BX w7 bl 3 (.int .i64 (n + 1)) ∧ IR w7 wc.heap.size 3 n (fun _ => 0) from by
      have k : ∀ q, q < wc.heap.size → w7.heap[q]? = wc.heap[q]? := fun q hq => (K7.out.1 q (Nat.lt_trans hq HZ.out)).trans (B5.out.block q hq)
      exact ⟨X4.out.1.keep (k _ X4.out.1.lt), X4.out.2.1.keep (k _ X4.out.2.1.lt), X4.out.2.2.1.keep (k _ X4.out.2.2.1.lt), M4.out.i1.keep (k _ M4.out.i1.lt), M4.out.i2.keep (k _ M4.out.i2.lt), M4.out.i3.keep (k _ M4.out.i3.lt), I5.out.keep (K7.out.1 _ I5.out.lt)⟩)
    have B7 := Lib.hid (show Below bt w w7 from by
      have h2 := HS.out
      have h3 := HZ.out
      exact (BX4.out.trans (B5.out.mono (by omega))).trans (K7.out.2.2.2.2.1.mono (by omega)))
    clear X4 ct I5 B5 BX4 M4
    obtain ⟨rt, hrt⟩ : ∃ b, b = wc.heap.size := ⟨_, rfl⟩
    obtain ⟨bo, hbo⟩ : ∃ b, b = w5.heap.size := ⟨_, rfl⟩
    rw [← hrt] at HS HZ X7 K7 ⊢
    rw [← hbo] at HZ K7 ⊢
    clear hrt hbo
    have GLh := Lib.hid (show PL bt bt (bt + 1) (bt + 1 + 1) rb bb bl rt bo (bo + 1) (bo + 1 + 1) from by
      obtain ⟨h1, h2, h3, h4, h5, h6, h7, h8, h9, h10⟩ := HS.out
      have hz := HZ.out
      refine ⟨⟨⟨?_, ?_, ?_, ?_⟩, ⟨?_, ?_, ?_, ?_⟩, ⟨?_, ?_, ?_, ?_⟩, ⟨?_, ?_, ?_, ?_⟩, ⟨?_, ?_, ?_, ?_⟩, ⟨?_, ?_, ?_, ?_⟩, ⟨?_, ?_, ?_⟩, ⟨?_, ?_⟩, ?_⟩, ?_, ?_, ?_, ?_⟩ <;> omega)
    obtain ⟨F, hF⟩ : ∃ F, F = Value.func (.func 39) #[] #[.pointer (some ⟨bl, 0, none⟩), .pointer (some ⟨bt, 0, none⟩), .pointer (some ⟨bb, 0, none⟩), .pointer (some ⟨bo, 0, none⟩), .pointer (some ⟨bo + 1, 0, none⟩), .pointer (some ⟨bt + 1, 0, none⟩), .pointer (some ⟨bt + 1 + 1, 0, none⟩), .pointer (some ⟨bo + 1 + 1, 0, none⟩)] := ⟨_, rfl⟩
    have st8 : (store ⟨bo + 1 + 1, 0, none⟩ (Value.func (.func 39) #[] #[.pointer (some ⟨bl, 0, none⟩), .pointer (some ⟨bt, 0, none⟩), .pointer (some ⟨bb, 0, none⟩), .pointer (some ⟨bo, 0, none⟩), .pointer (some ⟨bo + 1, 0, none⟩), .pointer (some ⟨bt + 1, 0, none⟩), .pointer (some ⟨bt + 1 + 1, 0, none⟩), .pointer (some ⟨bo + 1 + 1, 0, none⟩)]) .plain).run Try.prog w7 = .ok () (w7.setCell ⟨bo + 1 + 1, 0, none⟩ F) := by
      rw [← hF]
      exact store_one' (by rw [hF]; rfl) w7 _ (by rw [K7.out.2.2.2.1.cell]; rfl) K7.out.2.2.2.1.frozen
    have G8 := Lib.hid (show PM bt (bt + 1) (bt + 1 + 1) rb bb bl rt bo (bo + 1) (bo + 1 + 1) p n c mo ea (w7.setCell ⟨bo + 1 + 1, 0, none⟩ F) (n + 1) (nv []) (fun _ => 0) (fun _ => (0, 0)) from by
      obtain ⟨h1, h2, h3, h4, h5, h6, h7, h8, h9, h10⟩ := HS.out
      have hz := HZ.out
      have k : ∀ q, q ≠ bo + 1 + 1 → (w7.setCell ⟨bo + 1 + 1, 0, none⟩ F).heap[q]? = w7.heap[q]? := fun q hq => Below.heap_setCell _ _ _ _ hq
      obtain ⟨x1, x2, x3, x4, x5, x6, x7⟩ := X7.out
      obtain ⟨-, y1, y2, y3, -, -⟩ := K7.out
      exact ⟨x1.keep (k _ (by omega)), x2.keep (k _ (by omega)), x3.keep (k _ (by omega)), (x4.keep (k _ (by omega))).ext (fun _ _ => rfl), x5.keep (k _ (by omega)), x6.keep (k _ (by omega)), x7.keep (k _ (by omega)), y1.keep (k _ (by omega)), y2.keep (k _ (by omega)), by rw [← hF]; exact y3.set F⟩)
    have B8 := Lib.hid (show Below bt w (w7.setCell ⟨bo + 1 + 1, 0, none⟩ F) from B7.out.setCell (by have h2 := HS.out; have h3 := HZ.out; show bt ≤ bo + 1 + 1; omega) _)
    have Z8 : bt < (w7.setCell ⟨bo + 1 + 1, 0, none⟩ F).heap.size := G8.out.xt.lt
    clear X7 K7 B7
    go_upto_region 9 with fail
    clear st8
    rw [← hF]
    generalize w7.setCell ⟨bo + 1 + 1, 0, none⟩ F = w8 at *
    have cg := G8.out.xg.cell
    have hp := Lib.hid (show ∀ x, p = some x → 0 < T.length → x.block < bt from fun x e h0 => by
      obtain ⟨y, e', k, _⟩ := R.out 0 h0
      rw [e] at e'; cases e'; rw [HBT.out]; exact k)
    have RT := Lib.hid (R.out.below (by rw [HBT.out] at B8; exact B8.out))
    have CN0 := Lib.hid (show Sea.Cn (fun _ => ((0 : Int), (0 : Int))) 0 from ⟨fun b hb => by omega, fun _ _ => rfl⟩)
    have PB0 := Lib.hid (show PB mo ea (fun _ => ((0 : Int), (0 : Int))) from fun b _ => ⟨⟨Int.le_refl _, by dsimp only; omega⟩, Int.le_refl _, by dsimp only; omega⟩)
    have GC := Lib.hid (put_any GLh.out ⟨mo1, mo2⟩ ⟨ea1, ea2⟩ (by rw [← HN.out]; exact n12) TOK.out hp.out T 0 0 [] (n + 1) [] (fun _ => 0) (fun _ => (0, 0)) w8 rfl (Nat.zero_le _) rfl (by rw [← HN.out]; exact G8.out) RT.out (fun j hj => by omega) PB0.out CN0.out (Nat.le_refl _))
    rw [← HN.out] at GC
    have SX := Lib.hid (Sea.pack_ex (ts := T) (M := 12) (most := mo) (each := ea) (by rw [← HN.out]; exact n12) (fun t ht => by obtain ⟨i, hi, e⟩ := mem_gi ht; rw [← e]; exact FIT.out i hi) ea1)
    rw [← HN.out] at SX
    clear hF RT hp G8 CN0 PB0
    go_wp2_with fail
    refine (GC.out).mono ?_
    rintro e w9 ⟨rfl, L, E, O', g9, -, sr, f9⟩
    have G9 := Lib.hid g9
    have BS := Lib.hid (show Sea.BestP mo ea 12 T L E from sr.best SX.out)
    have B9 := Lib.hid (show Below w.heap.size w w9 from by
      rw [← HBT.out]
      exact B8.out.trans ⟨f9.os, f9.tape, f9.output, f9.size, fun k hk => f9.block k (by omega) (GLh.out.mod hk)⟩)
    have FF := Lib.hid (show ∀ k, PaQ T mo ea w (.returned (.tuple #[.slice (some ⟨rb, 0, none⟩) n n, .int .i64 L, .int .i64 0])) (w9.drewN k) from fun k =>
      ⟨0, _, L, rfl, TE.out, below_drewN B9.out _, fun h => absurd rfl h, fun _ => ⟨rb, E, by rw [HN.out], by rw [← HBT.out]; have := HS.out; omega, by rw [← HN.out]; exact (show IR (w9.drewN k) rb 3 n (nv E) from G9.out.xB).num (Nat.le_refl _), by
        obtain ⟨s', fs, _⟩ := BS.out.fin_
        exact Sea.fin_len fs, BS.out⟩⟩)
    have cb := G9.out.xb.cell
    have cl := G9.out.xl.cell
    clear g9 sr f9 GC SX BS cg B8 Z8
    go_wp2_with fail
    go_quiet (fail)
    go_wp2_with fail
    go_returns
    exact FF.out _
end Go.Proofs.Ythbgeikdamajlab
