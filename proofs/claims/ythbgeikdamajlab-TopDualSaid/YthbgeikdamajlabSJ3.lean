/- Press: Share. -/
import Derived.Test.YthbgeikdamajlabSJ2
namespace Go.Proofs.Ythbgeikdamajlab
open Go.RowKit Go.Proofs.Ythbgeikdamajlab.Prs Go.Proofs.Ythbgeikdamajlab.Stb
set_option linter.unusedVariables false
set_option linter.unusedSimpArgs false

theorem give_any {bt bp rb bb bl rt bo bs bg : Nat} (gl : GL bt bp rb bb bl rt bo bs bg) {p : Option Addr} {c m : Nat} {T : List Int} (hm : 1 ≤ m) (hm4 : m ≤ 4) (h12 : T.length ≤ 12) (ok : TmOk T T.length) (hp : ∀ x, p = some x → 0 < T.length → x.block < bt) :
    ∀ (ts : List Int) (k : Nat) (P : List Nat) (L : Int) (B : List Nat) (O s : Nat → Int) (W : World), T.drop k = ts → k ≤ T.length → P.length = k → GM bt bp rb bb bl rt bo bs bg p T.length c m W L (nv B) O s → NumR W p T → (∀ j, j < k → O j = nv P j) → (∀ b, b < m → 0 ≤ s b ∧ s b ≤ k * 1073741824) →
      Calls Try.prog 32 #[.int .i64 k, .int .i64 (Sea.mx s m), .pointer (some ⟨bl, 0, none⟩), .pointer (some ⟨bt, 0, none⟩), .pointer (some ⟨bb, 0, none⟩), .pointer (some ⟨bo, 0, none⟩), .pointer (some ⟨bp, 0, none⟩), .pointer (some ⟨bs, 0, none⟩), .pointer (some ⟨bg, 0, none⟩)] W (GQ bt bp rb bb bl rt bo bs bg p T.length c m k ts P L B O s W)
  | [], k, P, L, B, O, s, W, hT, hk, hP, h, nr, hO, hs => by
    by_cases hx : L ≤ Sea.mx s m
    · exact give_prune h hx
    · have e : k = T.length := by
        apply Classical.byContradiction; intro g
        have := List.drop_eq_nil_iff.1 hT
        omega
      subst e
      exact give_leaf gl h hP hO (by omega)
  | t :: ts, k, P, L, B, O, s, W, hT, hk, hP, h, nr, hO, hs => by
    by_cases hx : L ≤ Sea.mx s m
    · exact give_prune h hx
    · have kn : k < T.length := by
        apply Classical.byContradiction; intro g
        rw [List.drop_of_length_le (by omega)] at hT; cases hT
      refine give_step gl hm hm4 h12 ok hp t ts k P L B O s W hT hP h nr hO hs (by omega) ?_
      intro P' L' B' O' s' W' hP' h' nr' hO' hs'
      have e : T.drop (k + 1) = ts := by
        rw [List.drop_eq_getElem_cons kn] at hT
        exact (List.cons.inj hT).2
      have := give_any gl hm hm4 h12 ok hp ts (k + 1) P' L' B' O' s' W' e (by omega) hP' h' nr' hO' hs'
      exact this

theorem store_one' {v : Value} (hv : v.oneCell' = true) (W : World) (a : Addr) (h1 : (W.cell? a).isSome = true) (h2 : W.frozen? a = false) : (store a v .plain).run Try.prog W = .ok () (W.setCell a v) := by
  rw [run_store _ _ _ _ _ hv]
  cases h : W.cell? a with
  | none => rw [h] at h1; cases h1
  | some x => simp [h2]
/-- What Share answers. -/
def ShQ (T : List Int) (m : Int) (w : World) (e : Ending) (w' : World) : Prop := ∃ x v L, e = .returned (.tuple #[v, .int .i64 L, .int .i64 x]) ∧ TErr T m x ∧ Below w.heap.size w w' ∧ (x ≠ 0 → v = .slice none 0 0 ∧ L = 0) ∧
  (x = 0 → ∃ b E, v = .slice (some ⟨b, 0, none⟩) T.length T.length ∧ w.heap.size ≤ b ∧ NumR w' (some ⟨b, 0, none⟩) ((List.range T.length).map (nv E)) ∧ E.length = T.length ∧ Sea.BestS m.toNat T L E)

set_option maxRecDepth 100000 in
set_option maxHeartbeats 8000000 in
theorem Share_any (p : Option Addr) (c : Nat) (T : List Int) (m : Int) (w : World) (r : NumR w p T) (ln : T.length ≤ 9223372036854775807) :
    Calls Try.prog 14 #[.slice p T.length c, .int .i64 m] w (ShQ T m w) := by
  obtain ⟨i0, hi, hz0, hz1, hz2⟩ := info_parts intInfo
  have R := Lib.hid r
  have CT := Lib.hid (fun W (st : Below w.heap.size w W) => checkTimes_any p c T m W (r.below st) ln)
  have QE := Lib.hid (show ∀ x w', TErr T m x → x ≠ 0 → Below w.heap.size w w' → ShQ T m w (.returned (.tuple #[.slice none 0 0, .int .i64 0, .int .i64 x])) w' from fun x w' h g B => ⟨x, _, 0, rfl, h, B, fun _ => ⟨rfl, rfl⟩, fun e => absurd e g⟩)
  obtain ⟨n, hn⟩ : ∃ n, n = T.length := ⟨_, rfl⟩
  rw [← hn] at ln CT ⊢
  have HN := Lib.hid hn
  clear hn r
  have X0 := Lib.hid (show BX ((w.alloc (Obj.cells #[Value.slice p n c] 25)).alloc (Obj.cells #[Value.int .i64 m] 3)) w.heap.size 25 (.slice p n c) ∧ BX ((w.alloc (Obj.cells #[Value.slice p n c] 25)).alloc (Obj.cells #[Value.int .i64 m] 3)) (w.heap.size + 1) 3 (.int .i64 m) ∧ Below w.heap.size w ((w.alloc (Obj.cells #[Value.slice p n c] 25)).alloc (Obj.cells #[Value.int .i64 m] 3)) ∧ ((w.alloc (Obj.cells #[Value.slice p n c] 25)).alloc (Obj.cells #[Value.int .i64 m] 3)).heap.size = w.heap.size + 2 from
    ⟨heap_alloc2_old w _ _, heap_alloc2_new w _ _, ((Below.refl _ w).alloc (Nat.le_refl _) _).alloc (by simp) _, by simp⟩)
  go_enter Try.func14, Try.ntmps14
  go_upto_region 1 with fail
  generalize (w.alloc (Obj.cells #[Value.slice p n c] 25)).alloc (Obj.cells #[Value.int .i64 m] 3) = w1 at *
  have ct := X0.out.1.cell
  have cp := X0.out.2.1.cell
  go_wp2_with fail
  refine (CT.out w1 X0.out.2.2.1).mono ?_
  rintro e w2 ⟨x, rfl, TE, st⟩
  have TE := Lib.hid TE
  have X1 := Lib.hid (show BX w2 w.heap.size 25 (.slice p n c) ∧ BX w2 (w.heap.size + 1) 3 (.int .i64 m) ∧ Below w.heap.size w w2 ∧ w.heap.size + 2 ≤ w2.heap.size from
    ⟨X0.out.1.keep (st.block _ X0.out.1.lt), X0.out.2.1.keep (st.block _ X0.out.2.1.lt), X0.out.2.2.1.trans (st.mono X0.out.2.2.1.size), by have := st.size; have := X0.out.2.2.2; omega⟩)
  clear st X0 CT ct cp
  by_cases x0 : x = 0
  case neg =>
    have x1 : (x == 0) = false := by simpa using x0
    have x2 : decide (x = 0) = false := decide_eq_false x0
    have FF := Lib.hid (QE.out x w2 TE.out x0 X1.out.2.2.1)
    clear x0 QE
    go_wp2_with fail
    go_returns
    exact FF.out
  subst x0
  have ct := X1.out.1.cell
  obtain ⟨n12, m1, m4, tok⟩ := TE.out.good
  rw [← HN.out] at n12
  have TOK := Lib.hid tok
  clear tok QE
  go_upto_region 5 with (first
    | (at_make; refine wpList_make_full _ rfl _ _ 25 rfl w2.heap.size 3 i0 (.int .i64 0) 1 Try.underlying25 hi hz0 hz1 .i64 .i64 _ _ n rfl rfl (by omega) (by omega) (by rw [hz2]; omega) (by unfold maxLen; omega) (Nat.le_refl _) ?_; intro w3 hown0 hgrow0))
  rw [made_ints] at hown0
  have I3 := Lib.hid (IR.of hown0)
  have B3 := Lib.hid (show Below w2.heap.size w2 w3 from (Below.refl _ _).grown hgrow0 (Nat.le_refl _) (fun k e => by cases e))
  clear hown0 hgrow0
  have X4 := Lib.hid (show (BX ((w3.alloc (Obj.cells #[Value.slice (some ⟨w2.heap.size, 0, none⟩) n n] 25)).alloc (Obj.cells #[Value.int .i64 9223372036854775807] 3)) w.heap.size 25 (.slice p n c) ∧ BX ((w3.alloc (Obj.cells #[Value.slice (some ⟨w2.heap.size, 0, none⟩) n n] 25)).alloc (Obj.cells #[Value.int .i64 9223372036854775807] 3)) (w.heap.size + 1) 3 (.int .i64 m) ∧ IR ((w3.alloc (Obj.cells #[Value.slice (some ⟨w2.heap.size, 0, none⟩) n n] 25)).alloc (Obj.cells #[Value.int .i64 9223372036854775807] 3)) w2.heap.size 3 n (fun _ => 0) ∧ BX ((w3.alloc (Obj.cells #[Value.slice (some ⟨w2.heap.size, 0, none⟩) n n] 25)).alloc (Obj.cells #[Value.int .i64 9223372036854775807] 3)) w3.heap.size 25 (.slice (some ⟨w2.heap.size, 0, none⟩) n n) ∧ BX ((w3.alloc (Obj.cells #[Value.slice (some ⟨w2.heap.size, 0, none⟩) n n] 25)).alloc (Obj.cells #[Value.int .i64 9223372036854775807] 3)) (w3.heap.size + 1) 3 (.int .i64 9223372036854775807)) ∧ Below w2.heap.size w2 ((w3.alloc (Obj.cells #[Value.slice (some ⟨w2.heap.size, 0, none⟩) n n] 25)).alloc (Obj.cells #[Value.int .i64 9223372036854775807] 3)) ∧ ((w3.alloc (Obj.cells #[Value.slice (some ⟨w2.heap.size, 0, none⟩) n n] 25)).alloc (Obj.cells #[Value.int .i64 9223372036854775807] 3)).heap.size = w3.heap.size + 2 from by
    have k : ∀ q, q < w2.heap.size → ((w3.alloc (Obj.cells #[Value.slice (some ⟨w2.heap.size, 0, none⟩) n n] 25)).alloc (Obj.cells #[Value.int .i64 9223372036854775807] 3)).heap[q]? = w2.heap[q]? := fun q hq => by
      have := B3.out.size
      rw [Below.heap_alloc _ _ _ (by simp; omega), Below.heap_alloc _ _ _ (by omega)]
      exact B3.out.block q hq
    refine ⟨⟨X1.out.1.keep (k _ X1.out.1.lt), X1.out.2.1.keep (k _ X1.out.2.1.lt), I3.out.keep ?_, heap_alloc2_old w3 _ _, heap_alloc2_new w3 _ _⟩, (B3.out.alloc B3.out.size _).alloc (by have := B3.out.size; simp; omega) _, by simp⟩
    have := I3.out.lt
    rw [Below.heap_alloc _ _ _ (by simp; omega), Below.heap_alloc _ _ _ this])
  have HS := Lib.hid (show w2.heap.size < w3.heap.size ∧ w.heap.size + 2 ≤ w2.heap.size from ⟨I3.out.lt, X1.out.2.2.2⟩)
  clear ct I3
  generalize ((w3.alloc (Obj.cells #[Value.slice (some ⟨w2.heap.size, 0, none⟩) n n] 25)).alloc (Obj.cells #[Value.int .i64 9223372036854775807] 3)) = w4 at *
  have ct := X4.out.1.1.cell
  go_upto_region 6 with (first
    | (at_make; refine wpList_make_full _ rfl _ _ 25 rfl w4.heap.size 3 i0 (.int .i64 0) 1 Try.underlying25 hi hz0 hz1 .i64 .i64 _ _ n rfl rfl (by omega) (by omega) (by rw [hz2]; omega) (by unfold maxLen; omega) (Nat.le_refl _) ?_; intro w5 hown0 hgrow0))
  rw [made_ints] at hown0
  have I5 := Lib.hid (IR.of hown0)
  have B5 := Lib.hid (show Below w4.heap.size w4 w5 from (Below.refl _ _).grown hgrow0 (Nat.le_refl _) (fun k e => by cases e))
  clear hown0 hgrow0
  go_upto_region 8 with fail
  have HZ := Lib.hid (show w4.heap.size = w3.heap.size + 2 ∧ w4.heap.size < w5.heap.size from ⟨X4.out.2.2, I5.out.lt⟩)
  have K7 := Lib.hid (show (∀ q, q < w5.heap.size → (((w5.alloc (Obj.cells #[Value.slice (some ⟨w4.heap.size, 0, none⟩) n n] 25)).alloc (Obj.cells #[Value.int .i64 0, Value.int .i64 0, Value.int .i64 0, Value.int .i64 0] 60)).alloc (Obj.cells #[Value.nilFunc] 61)).heap[q]? = w5.heap[q]?) ∧ BX (((w5.alloc (Obj.cells #[Value.slice (some ⟨w4.heap.size, 0, none⟩) n n] 25)).alloc (Obj.cells #[Value.int .i64 0, Value.int .i64 0, Value.int .i64 0, Value.int .i64 0] 60)).alloc (Obj.cells #[Value.nilFunc] 61)) w5.heap.size 25 (.slice (some ⟨w4.heap.size, 0, none⟩) n n) ∧ IR (((w5.alloc (Obj.cells #[Value.slice (some ⟨w4.heap.size, 0, none⟩) n n] 25)).alloc (Obj.cells #[Value.int .i64 0, Value.int .i64 0, Value.int .i64 0, Value.int .i64 0] 60)).alloc (Obj.cells #[Value.nilFunc] 61)) (w5.heap.size + 1) 60 4 (fun _ => 0) ∧ BX (((w5.alloc (Obj.cells #[Value.slice (some ⟨w4.heap.size, 0, none⟩) n n] 25)).alloc (Obj.cells #[Value.int .i64 0, Value.int .i64 0, Value.int .i64 0, Value.int .i64 0] 60)).alloc (Obj.cells #[Value.nilFunc] 61)) (w5.heap.size + 1 + 1) 61 .nilFunc ∧ Below w5.heap.size w5 (((w5.alloc (Obj.cells #[Value.slice (some ⟨w4.heap.size, 0, none⟩) n n] 25)).alloc (Obj.cells #[Value.int .i64 0, Value.int .i64 0, Value.int .i64 0, Value.int .i64 0] 60)).alloc (Obj.cells #[Value.nilFunc] 61)) ∧ (((w5.alloc (Obj.cells #[Value.slice (some ⟨w4.heap.size, 0, none⟩) n n] 25)).alloc (Obj.cells #[Value.int .i64 0, Value.int .i64 0, Value.int .i64 0, Value.int .i64 0] 60)).alloc (Obj.cells #[Value.nilFunc] 61)).heap.size = w5.heap.size + 3 from by
    refine ⟨fun q hq => ?_, ?_, ?_, ?_, (((Below.refl _ _).alloc (Nat.le_refl _) _).alloc (by simp) _).alloc (by simp; omega) _, by simp⟩
    · rw [Below.heap_alloc _ _ _ (by simp; omega), Below.heap_alloc _ _ _ (by simp; omega), Below.heap_alloc _ _ _ (by omega)]
    · unfold BX
      rw [Below.heap_alloc _ _ _ (by simp; omega), Below.heap_alloc _ _ _ (by simp), heap_alloc_new]
    · unfold IR
      rw [Below.heap_alloc _ _ _ (by simp), heap_alloc2_new]; rfl
    · unfold BX
      have := heap_alloc_new ((w5.alloc (Obj.cells #[Value.slice (some ⟨w4.heap.size, 0, none⟩) n n] 25)).alloc (Obj.cells #[Value.int .i64 0, Value.int .i64 0, Value.int .i64 0, Value.int .i64 0] 60)) (Obj.cells #[Value.nilFunc] 61)
      simpa using this)
  generalize (((w5.alloc (Obj.cells #[Value.slice (some ⟨w4.heap.size, 0, none⟩) n n] 25)).alloc (Obj.cells #[Value.int .i64 0, Value.int .i64 0, Value.int .i64 0, Value.int .i64 0] 60)).alloc (Obj.cells #[Value.nilFunc] 61)) = w7 at *
  have X7 := Lib.hid (show BX w7 w.heap.size 25 (.slice p n c) ∧ BX w7 (w.heap.size + 1) 3 (.int .i64 m) ∧ IR w7 w2.heap.size 3 n (fun _ => 0) ∧ BX w7 w3.heap.size 25 (.slice (some ⟨w2.heap.size, 0, none⟩) n n) ∧ BX w7 (w3.heap.size + 1) 3 (.int .i64 9223372036854775807) ∧ IR w7 w4.heap.size 3 n (fun _ => 0) from by
    have k : ∀ q, q < w4.heap.size → w7.heap[q]? = w4.heap[q]? := fun q hq => (K7.out.1 q (Nat.lt_trans hq HZ.out.2)).trans (B5.out.block q hq)
    exact ⟨X4.out.1.1.keep (k _ X4.out.1.1.lt), X4.out.1.2.1.keep (k _ X4.out.1.2.1.lt), X4.out.1.2.2.1.keep (k _ X4.out.1.2.2.1.lt), X4.out.1.2.2.2.1.keep (k _ X4.out.1.2.2.2.1.lt), X4.out.1.2.2.2.2.keep (k _ X4.out.1.2.2.2.2.lt), I5.out.keep (K7.out.1 _ I5.out.lt)⟩)
  have B7 := Lib.hid (show Below w.heap.size w w7 from by
    have a := X1.out.2.2.1
    have h2 := HS.out
    have h3 := HZ.out
    exact ((a.trans (X4.out.2.1.mono (by omega))).trans (B5.out.mono (by omega))).trans (K7.out.2.2.2.2.1.mono (by omega)))
  clear X1 B3 X4 ct I5 B5
  obtain ⟨bb, hbb⟩ : ∃ b, b = w3.heap.size := ⟨_, rfl⟩
  obtain ⟨rb, hrb⟩ : ∃ b, b = w2.heap.size := ⟨_, rfl⟩
  obtain ⟨rt, hrt⟩ : ∃ b, b = w4.heap.size := ⟨_, rfl⟩
  obtain ⟨bo, hbo⟩ : ∃ b, b = w5.heap.size := ⟨_, rfl⟩
  obtain ⟨bt, hbt⟩ : ∃ b, b = w.heap.size := ⟨_, rfl⟩
  rw [← hbb] at HS HZ X7 ⊢
  rw [← hrb] at HS X7 ⊢
  rw [← hrt] at HZ X7 K7 ⊢
  rw [← hbo] at HZ K7 ⊢
  rw [← hbt] at HS X7 B7 ⊢
  have HBT := Lib.hid hbt
  clear hbb hrb hrt hbo hbt
  have GLh := Lib.hid (show GL bt (bt + 1) rb bb (bb + 1) rt bo (bo + 1) (bo + 1 + 1) from by
    have h2 := HS.out
    have h3 := HZ.out
    exact ⟨by omega, by omega, by omega, by omega, by omega, by omega, by omega, by omega⟩)
  obtain ⟨F, hF⟩ : ∃ F, F = Value.func (.func 32) #[] #[.pointer (some ⟨bb + 1, 0, none⟩), .pointer (some ⟨bt, 0, none⟩), .pointer (some ⟨bb, 0, none⟩), .pointer (some ⟨bo, 0, none⟩), .pointer (some ⟨bt + 1, 0, none⟩), .pointer (some ⟨bo + 1, 0, none⟩), .pointer (some ⟨bo + 1 + 1, 0, none⟩)] := ⟨_, rfl⟩
  have st8 : (store ⟨bo + 1 + 1, 0, none⟩ (Value.func (.func 32) #[] #[.pointer (some ⟨bb + 1, 0, none⟩), .pointer (some ⟨bt, 0, none⟩), .pointer (some ⟨bb, 0, none⟩), .pointer (some ⟨bo, 0, none⟩), .pointer (some ⟨bt + 1, 0, none⟩), .pointer (some ⟨bo + 1, 0, none⟩), .pointer (some ⟨bo + 1 + 1, 0, none⟩)]) .plain).run Try.prog w7 = .ok () (w7.setCell ⟨bo + 1 + 1, 0, none⟩ F) := by
    rw [← hF]
    exact store_one' (by rw [hF]; rfl) w7 _ (by rw [K7.out.2.2.2.1.cell]; rfl) K7.out.2.2.2.1.frozen
  have G8 := Lib.hid (show GM bt (bt + 1) rb bb (bb + 1) rt bo (bo + 1) (bo + 1 + 1) p n c m (w7.setCell ⟨bo + 1 + 1, 0, none⟩ F) 9223372036854775807 (nv []) (fun _ => 0) (fun _ => 0) from by
    have h2 := HS.out
    have h3 := HZ.out
    have k : ∀ q, q ≠ bo + 1 + 1 → (w7.setCell ⟨bo + 1 + 1, 0, none⟩ F).heap[q]? = w7.heap[q]? := fun q hq => Below.heap_setCell _ _ _ _ hq
    obtain ⟨x1, x2, x3, x4, x5, x6⟩ := X7.out
    obtain ⟨-, y1, y2, y3, -, -⟩ := K7.out
    exact ⟨x1.keep (k _ (by omega)), x2.keep (k _ (by omega)), (x3.keep (k _ (by omega))).ext (fun _ _ => rfl), x4.keep (k _ (by omega)), x5.keep (k _ (by omega)), x6.keep (k _ (by omega)), y1.keep (k _ (by omega)), y2.keep (k _ (by omega)), by rw [← hF]; exact y3.set F⟩)
  have B8 := Lib.hid (show Below bt w (w7.setCell ⟨bo + 1 + 1, 0, none⟩ F) from B7.out.setCell (by have h2 := HS.out; have h3 := HZ.out; show bt ≤ bo + 1 + 1; omega) _)
  have Z8 : bt < (w7.setCell ⟨bo + 1 + 1, 0, none⟩ F).heap.size := G8.out.xt.lt
  clear X7 K7 B7
  go_upto_region 9 with fail
  clear st8
  rw [← hF]
  generalize w7.setCell ⟨bo + 1 + 1, 0, none⟩ F = w8 at *
  have cg := G8.out.xg.cell
  have mx0 : Sea.mx (fun _ => 0) m.toNat = 0 := Int.le_antisymm (Sea.mx_le.2 ⟨Int.le_refl _, fun _ _ => Int.le_refl _⟩) (Sea.mx_nonneg _ _)
  have mN : (m.toNat : Int) = m := by omega
  have hp := Lib.hid (show ∀ x, p = some x → 0 < T.length → x.block < bt from fun x e h0 => by
    obtain ⟨y, e', k, _⟩ := R.out 0 h0
    rw [e] at e'; cases e'; rw [HBT.out]; exact k)
  have RT := Lib.hid (R.out.below (by rw [HBT.out] at B8; exact B8.out))
  have GC := Lib.hid (give_any (m := m.toNat) GLh.out (by omega) (by omega) (by rw [← HN.out]; exact n12) TOK.out hp.out T 0 [] 9223372036854775807 [] (fun _ => 0) (fun _ => 0) w8 rfl (Nat.zero_le _) rfl (by rw [mN, ← HN.out]; exact G8.out) RT.out (fun j hj => by omega) (fun b _ => by simp))
  rw [mx0, ← HN.out] at GC
  have SX := Lib.hid (Sea.share_ex (ts := T) (m := m.toNat) (by rw [← HN.out]; exact n12) (fun t ht => by obtain ⟨i, hi, e⟩ := mem_gi ht; rw [← e]; exact TOK.out i hi) (by omega))
  clear hF RT hp G8 mx0
  go_wp2_with fail
  refine (GC.out).mono ?_
  rintro e w9 ⟨rfl, L, E, O', g9, -, sr, f9⟩
  rw [mN] at g9
  have G9 := Lib.hid g9
  have BS := Lib.hid (show Sea.BestS m.toNat T L E from sr.best SX.out)
  have B9 := Lib.hid (show Below w.heap.size w w9 from by
    rw [← HBT.out]
    exact B8.out.trans ⟨f9.os, f9.tape, f9.output, f9.size, fun k hk => f9.block k (by omega) (GLh.out.mod hk)⟩)
  have FF := Lib.hid (show ∀ k, ShQ T m w (.returned (.tuple #[.slice (some ⟨rb, 0, none⟩) n n, .int .i64 L, .int .i64 0])) (w9.drewN k) from fun k =>
    ⟨0, _, L, rfl, TE.out, below_drewN B9.out _, fun h => absurd rfl h, fun _ => ⟨rb, E, by rw [HN.out], by rw [← HBT.out]; have := HS.out; omega, by rw [← HN.out]; exact (show IR (w9.drewN k) rb 3 n (nv E) from G9.out.xB).num (Nat.le_refl _), by
      obtain ⟨s', fs, _⟩ := BS.out.fin_
      exact Sea.fin_len fs, BS.out⟩⟩)
  have cb := G9.out.xb.cell
  have cl := G9.out.xl.cell
  clear g9 sr f9 GC SX BS cg B8 Z8
  go_wp2_with fail
  go_quiet (fail)
  go_wp2_with fail
  go_returns
  exact FF.out _
end Go.Proofs.Ythbgeikdamajlab
