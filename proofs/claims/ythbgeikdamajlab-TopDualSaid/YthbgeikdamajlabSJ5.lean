/- Press: Longest. -/
import Derived.Test.YthbgeikdamajlabSJ4
namespace Go.Proofs.Ythbgeikdamajlab
open Go.RowKit Go.Proofs.Ythbgeikdamajlab.Prs Go.Proofs.Ythbgeikdamajlab.Stb
set_option linter.unusedVariables false
set_option linter.unusedSimpArgs false

/-- The longest first, each to the press that is free first. -/
structure LoA (T : List Int) (m : Nat) (A : List Nat) (g : Int) (o a : Nat → Nat) : Prop where
  ord : Ord T.length o
  srt : ∀ i j, i < j → j < T.length → gi T (o j) < gi T (o i) ∨ (gi T (o j) = gi T (o i) ∧ o i < o j)
  lt : ∀ k, k < T.length → a k < m
  min : ∀ k, k < T.length → ∀ b, b < m → Sea.ldf a (fun i => gi T (o i)) k (a k) ≤ Sea.ldf a (fun i => gi T (o i)) k b
  first : ∀ k, k < T.length → ∀ b, b < a k → Sea.ldf a (fun i => gi T (o i)) k (a k) < Sea.ldf a (fun i => gi T (o i)) k b
  len : A.length = T.length
  at_ : ∀ k, k < T.length → A.getD (o k) 0 = a k
  fin_ : g = Sea.mx (fun b => Sea.ldf a (fun i => gi T (o i)) T.length b) m
/-- What Longest answers. -/
def LoQ (T : List Int) (m : Int) (w : World) (e : Ending) (w' : World) : Prop := ∃ x v L, e = .returned (.tuple #[v, .int .i64 L, .int .i64 x]) ∧ TErr T m x ∧ Below w.heap.size w w' ∧ (x ≠ 0 → v = .slice none 0 0 ∧ L = 0) ∧
  (x = 0 → ∃ b A o a, v = .slice (some ⟨b, 0, none⟩) T.length T.length ∧ w.heap.size ≤ b ∧ NumR w' (some ⟨b, 0, none⟩) ((List.range T.length).map (nv A)) ∧ LoA T m.toNat A L o a)
theorem add0q (g i : Nat) : (Addr.mk g 0 none).add i = ⟨g, i, none⟩ := by
  unfold Addr.add
  split
  · next h => subst h; rfl
  · simp
/-- What stands before the k-th work is given. -/
structure LoK (T : List Int) (m k : Nat) (o a : Nat → Nat) (F : Nat → Int) : Prop where
  lt : ∀ i, i < k → a i < m
  min : ∀ i, i < k → ∀ b, b < m → Sea.ldf a (fun i => gi T (o i)) i (a i) ≤ Sea.ldf a (fun i => gi T (o i)) i b
  first : ∀ i, i < k → ∀ b, b < a i → Sea.ldf a (fun i => gi T (o i)) i (a i) < Sea.ldf a (fun i => gi T (o i)) i b
  at_ : ∀ i, i < k → F (o i) = a i
theorem ldf_same {a a' : Nat → Nat} {w : Nat → Int} {k b : Nat} (h : ∀ i, i < k → a i = a' i) : Sea.ldf a w k b = Sea.ldf a' w k b := sm_congr fun i hi => by rw [h i hi]
theorem LoK.next {T : List Int} {m n k f : Nat} {o a : Nat → Nat} {F : Nat → Int} (h : LoK T m k o a F) (ho : Ord n o) (kn : k < n) (fm : f < m) (h1 : ∀ b, b < m → Sea.ldf a (fun i => gi T (o i)) k f ≤ Sea.ldf a (fun i => gi T (o i)) k b) (h2 : ∀ b, b < f → Sea.ldf a (fun i => gi T (o i)) k f < Sea.ldf a (fun i => gi T (o i)) k b) :
    LoK T m (k + 1) o (fun i => if i = k then f else a i) (upd F (o k) f) := by
  have same : ∀ i, i ≤ k → ∀ b, Sea.ldf (fun i => if i = k then f else a i) (fun i => gi T (o i)) i b = Sea.ldf a (fun i => gi T (o i)) i b := fun i hi b => ldf_same fun j hj => if_neg (by omega)
  refine ⟨fun i hi => ?_, fun i hi b hb => ?_, fun i hi b hb => ?_, fun i hi => ?_⟩
  · show (if i = k then f else a i) < m
    split
    · exact fm
    · exact h.lt i (by omega)
  · rw [same i (by omega), same i (by omega)]
    by_cases e : i = k
    · subst e; rw [if_pos rfl]; exact h1 b hb
    · rw [if_neg e]; exact h.min i (by omega) b hb
  · rw [same i (by omega), same i (by omega)]
    by_cases e : i = k
    · subst e; rw [if_pos rfl] at hb ⊢; exact h2 b hb
    · rw [if_neg e] at hb ⊢; exact h.first i (by omega) b hb
  · unfold upd
    by_cases e : i = k
    · subst e; rw [if_pos rfl, if_pos rfl]
    · rw [if_neg (fun g => e (ho.inj i k (by omega) kn g)), if_neg e]; exact h.at_ i (by omega)
theorem ldf_bd {T : List Int} {o a : Nat → Nat} {n k b : Nat} (ok : ∀ i, i < n → 1 ≤ gi T i ∧ gi T i ≤ 1073741824) (ho : Ord n o) (hk : k ≤ n) : 0 ≤ Sea.ldf a (fun i => gi T (o i)) k b ∧ Sea.ldf a (fun i => gi T (o i)) k b ≤ k * 1073741824 := by
  have h : ∀ i, i < k → 1 ≤ gi T (o i) ∧ gi T (o i) ≤ 1073741824 := fun i hi => ok _ (ho.lt i (by omega))
  refine ⟨Sea.ldf_nonneg fun i hi => by have := h i hi; omega, sm_top (fun i hi => by
    have := h i hi
    show (if a i = b then gi T (o i) else 0) ≤ _
    split <;> omega) (by omega)⟩

set_option maxRecDepth 100000 in
set_option maxHeartbeats 8000000 in
theorem Longest_any (p : Option Addr) (c : Nat) (T : List Int) (m : Int) (w : World) (r : NumR w p T) (ln : T.length ≤ 9223372036854775807) :
    Calls Try.prog 15 #[.slice p T.length c, .int .i64 m] w (LoQ T m w) := by
  obtain ⟨i0, hi, hz0, hz1, hz2⟩ := info_parts intInfo
  have R := Lib.hid r
  have CT := Lib.hid (fun W (st : Below w.heap.size w W) => checkTimes_any p c T m W (r.below st) ln)
  have QE := Lib.hid (show ∀ x w', TErr T m x → x ≠ 0 → Below w.heap.size w w' → LoQ T m w (.returned (.tuple #[.slice none 0 0, .int .i64 0, .int .i64 x])) w' from fun x w' h g B => ⟨x, _, 0, rfl, h, B, fun _ => ⟨rfl, rfl⟩, fun e => absurd e g⟩)
  have CS := Lib.hid (fun (W : World) (X : Nat) (l12 : T.length ≤ 12) (rW : NumR W p T) (cx : W.cell? ⟨X, 0, none⟩ = some (.slice p T.length c)) => sorted_any T.length 34 (.pointer (some ⟨X, 0, none⟩)) (fun x => 0 ≤ x ∧ x < T.length) (LoRl T) (lcD T) (KpT X p c T W.heap.size) W
    ⟨fun x y w' h hx hy => longLess_any X p c T W.heap.size x y w' h hx hy (by omega), fun x y _ _ h => lc_neg T x y h, fun A B sz bl h => h.keep sz bl, rl_tot T _, fun args W' => by rfl⟩ (KpT.begin cx rW) (by omega) (fun k hk => ⟨by omega, by omega⟩))
  obtain ⟨n, hn⟩ : ∃ n, n = T.length := ⟨_, rfl⟩
  rw [← hn] at ln CT CS ⊢
  have HN := Lib.hid hn
  clear hn r
  have X0 := Lib.hid (show BX (w.alloc (Obj.cells #[Value.slice p n c] 25)) w.heap.size 25 (.slice p n c) ∧ Below w.heap.size w (w.alloc (Obj.cells #[Value.slice p n c] 25)) from
    ⟨heap_alloc_new w _, (Below.refl _ w).alloc (Nat.le_refl _) _⟩)
  go_enter Try.func15, Try.ntmps15
  go_upto_region 1 with fail
  generalize w.alloc (Obj.cells #[Value.slice p n c] 25) = w1 at *
  have ct := X0.out.1.cell
  go_wp2_with fail
  refine (CT.out w1 X0.out.2).mono ?_
  rintro e w2 ⟨x, rfl, TE, st⟩
  have TE := Lib.hid TE
  have X1 := Lib.hid (show BX w2 w.heap.size 25 (.slice p n c) ∧ Below w.heap.size w w2 from ⟨X0.out.1.keep (st.block _ X0.out.1.lt), X0.out.2.trans (st.mono X0.out.2.size)⟩)
  clear st X0 CT ct
  by_cases x0 : x = 0
  case neg =>
    have x1 : (x == 0) = false := by simpa using x0
    have x2 : decide (x = 0) = false := decide_eq_false x0
    have FF := Lib.hid (QE.out x w2 TE.out x0 X1.out.2)
    clear x0 QE
    go_wp2_with fail
    go_returns
    exact FF.out
  subst x0
  have ct := X1.out.1.cell
  obtain ⟨n12, m1, m4, tok⟩ := TE.out.good
  rw [← HN.out] at n12 tok
  have TOK := Lib.hid tok
  obtain ⟨M, rfl⟩ := Int.eq_ofNat_of_zero_le (show 0 ≤ m by omega)
  have m1' : 1 ≤ M := by omega
  have m4' : M ≤ 4 := by omega
  clear tok QE m1 m4
  go_upto_region 5 with (first
    | (at_make; refine wpList_make_full _ rfl _ _ 25 rfl w2.heap.size 3 i0 (.int .i64 0) 1 Try.underlying25 hi hz0 hz1 .i64 .i64 _ _ n rfl rfl (by omega) (by omega) (by rw [hz2]; omega) (by unfold maxLen; omega) (Nat.le_refl _) ?_; intro w3 hown0 hgrow0))
  rw [made_ints] at hown0
  have I3 := Lib.hid (IR.of hown0)
  have B3 := Lib.hid (show Below w2.heap.size w2 w3 from (Below.refl _ _).grown hgrow0 (Nat.le_refl _) (fun k e => by cases e))
  clear hown0 hgrow0 ct
  go_upto_region 6 with (first
    | (at_make; refine wpList_make_full _ rfl _ _ 25 rfl w3.heap.size 3 i0 (.int .i64 0) 1 Try.underlying25 hi hz0 hz1 .i64 .i64 _ _ M rfl rfl (by omega) (by omega) (by rw [hz2]; omega) (by unfold maxLen; omega) (Nat.le_refl _) ?_; intro w4 hown0 hgrow0))
  rw [made_ints] at hown0
  have I4 := Lib.hid (IR.of hown0)
  have B4 := Lib.hid (show Below w3.heap.size w3 w4 from (Below.refl _ _).grown hgrow0 (Nat.le_refl _) (fun k e => by cases e))
  clear hown0 hgrow0
  have X4 := Lib.hid (show (BX w4 w.heap.size 25 (.slice p n c) ∧ IR w4 w2.heap.size 3 n (fun _ => 0) ∧ IR w4 w3.heap.size 3 M (fun _ => 0)) ∧ Below w.heap.size w w4 ∧ w.heap.size < w2.heap.size ∧ w2.heap.size < w3.heap.size ∧ w3.heap.size < w4.heap.size from by
    have l1 := X1.out.1.lt
    have l2 := I3.out.lt
    refine ⟨⟨(X1.out.1.keep (B3.out.block _ l1)).keep (B4.out.block _ (by omega)), I3.out.keep (B4.out.block _ l2), I4.out⟩, (X1.out.2.trans (B3.out.mono (by omega))).trans (B4.out.mono (by omega)), l1, l2, I4.out.lt⟩)
  clear X1 I3 B3 I4 B4
  obtain ⟨bt, hbt⟩ : ∃ b, b = w.heap.size := ⟨_, rfl⟩
  obtain ⟨rt, hrt⟩ : ∃ b, b = w2.heap.size := ⟨_, rfl⟩
  obtain ⟨rs, hrs⟩ : ∃ b, b = w3.heap.size := ⟨_, rfl⟩
  rw [← hbt] at X4 ⊢
  rw [← hrt] at X4 ⊢
  rw [← hrs] at X4 ⊢
  have HBT := Lib.hid hbt
  clear hbt hrt hrs
  have ct := X4.out.1.1.cell
  have RT := Lib.hid (R.out.below (by have := X4.out.2.1; rw [HBT.out] at this; exact this))
  have CC := Lib.hid (CS.out w4 bt n12 RT.out ct)
  clear CS
  go_wp2_with fail
  refine CC.out.mono ?_
  rintro e w5 ⟨ro, g, rfl, hnum, hp, hs, hb, st5⟩
  have IO := Lib.hid (sort_ord hp)
  have SR := Lib.hid (show ∀ i j, i < j → j < n → LoRl T (gi ((List.range n).map g) i) (gi ((List.range n).map g) j) from fun i j ij jn => by
    rw [gi_map (by omega), gi_map jn]
    exact hs i j (Nat.zero_le _) ij jn)
  have hl : ((List.range n).map g).length = n := by simp
  generalize (List.range n).map g = O at *
  have LO := Lib.hid hl
  have NO := Lib.hid hnum
  have X5 := Lib.hid (show (BX w5 bt 25 (.slice p n c) ∧ IR w5 rt 3 n (fun _ => 0) ∧ IR w5 rs 3 M (fun _ => 0)) ∧ Below bt w w5 ∧ NumR w5 p T ∧ bt < rt ∧ rt < rs ∧ rs < ro from by
    obtain ⟨⟨x1, x2, x3⟩, x4, l1, l2, l3⟩ := X4.out
    exact ⟨⟨x1.keep (st5.block _ x1.lt), x2.keep (st5.block _ x2.lt), x3.keep (st5.block _ x3.lt)⟩, x4.trans (st5.mono (by omega)), RT.out.below st5, l1, l2, by omega⟩)
  have OO := Lib.hid (show Ord n (od O) from IO.out.ord)
  have KF := Lib.hid (show ∀ W, Fm (fun q => q = rt ∨ q = rs) w5 W → BX W bt 25 (.slice p n c) ∧ NumR W p T ∧ NumR W (some ⟨ro, 0, none⟩) O ∧ Below bt w W from fun W f => by
    obtain ⟨⟨x1, x2, x3⟩, x4, x5, l1, l2, l3⟩ := X5.out
    refine ⟨x1.keep (f.block _ x1.lt (by omega)), x5.fm f (fun x e h0 => ?_), NO.out.fm f (fun x e h0 => by cases e; dsimp only; omega), x4.trans ⟨f.os, f.tape, f.output, f.size, fun k hk => f.block k (by have := x1.lt; omega) (by omega)⟩⟩
    obtain ⟨y, e', k, _⟩ := R.out 0 h0
    rw [e] at e'; cases e'
    rw [← HBT.out] at k
    omega)
  clear hnum hp hs hb st5 CC RT X4 ct hl
  go_wp2_with fail
  go_loopw [29] (fun kv wr => ∃ (k : Nat) (a : Nat → Nat) (F : Nat → Int), k ≤ n ∧ kv = .int .i64 k ∧ Hid (IR wr rt 3 n F) ∧ Hid (IR wr rs 3 M (fun b => Sea.ldf a (fun i => gi T (od O i)) k b)) ∧ Hid (LoK T M k (od O) a F) ∧ Hid (Fm (fun q => q = rt ∨ q = rs) w5 wr)) (fun kv _ => n - (intOf kv).toNat)
  case atStart => exact ⟨0, fun _ => 0, fun _ => 0, Nat.zero_le _, rfl, Lib.hid X5.out.1.2.1, Lib.hid (X5.out.1.2.2.ext fun _ _ => rfl), Lib.hid ⟨fun i h => by omega, fun i h => by omega, fun i h => by omega, fun i h => by omega⟩, Lib.hid (Fm.refl _ _)⟩
  case round =>
    obtain ⟨k, a, F, hk, rfl, IF, IS, LK, FM⟩ := hrel
    by_cases t1 : k < n
    · have i1 : (0 : Int) ≤ (k : Int) := by omega
      have i2 : (k : Int) < (n : Int) := by omega
      obtain ⟨y, ey, ky, cy⟩ := (KF.out _ FM.out).2.2.1 k (by rw [LO.out]; exact t1)
      cases ey
      obtain ⟨u, hu⟩ : ∃ u, u = od O k := ⟨_, rfl⟩
      have eu : gi O k = (u : Int) := by have := IO.out.2.1 k t1; rw [hu]; unfold od; omega
      have un : u < n := by rw [hu]; exact OO.out.lt k t1
      rw [eu, add0q] at cy
      have HU := Lib.hid hu
      have MN := Lib.hid (fun W (h : NumR W (some ⟨rs, 0, none⟩) ((List.range M).map fun b => Sea.ldf a (fun i => gi T (od O i)) k b)) => min_any (some ⟨rs, 0, none⟩) M _ W h (by simp; omega) (by simp; omega))
      have IX := Lib.hid (fun W v (h : NumR W (some ⟨rs, 0, none⟩) ((List.range M).map fun b => Sea.ldf a (fun i => gi T (od O i)) k b)) => indexF_any (some ⟨rs, 0, none⟩) M _ v W h (by simp; omega))
      simp only [List.length_map, List.length_range] at MN IX
      have BD := Lib.hid (fun b => ldf_bd (T := T) (a := a) (b := b) (k := k) TOK.out OO.out (by omega))
      clear eu hu
      have NS := Lib.hid (IS.out.num (Nat.le_refl M))
      go_wp2_with fail
      refine (MN.out wr NS.out).mono ?_
      rintro e w6 ⟨v, rfl, ⟨q0, q1, q2⟩, vle, st6⟩
      have VE := Lib.hid (show ∃ q, q < M ∧ gi ((List.range M).map fun b => Sea.ldf a (fun i => gi T (od O i)) k b) q = v from ⟨q0, q1, q2⟩)
      have VL := Lib.hid vle
      have FM6 := Lib.hid (FM.out.trans (Fm.call st6))
      have NS6 := Lib.hid (NS.out.below st6)
      have IF6 := Lib.hid (IF.out.keep (st6.block _ IF.out.lt))
      have IS6 := Lib.hid (IS.out.keep (st6.block _ IS.out.lt))
      clear q0 q1 q2 vle st6 MN NS IF IS FM cy ky
      go_wp2_with fail
      refine (IX.out w6 v NS6.out).mono ?_
      rintro e w7 ⟨x, rfl, hx, st7⟩
      obtain ⟨f, rfl, fm, fe, ff⟩ : ∃ f : Nat, x = f ∧ f < M ∧ gi ((List.range M).map fun b => Sea.ldf a (fun i => gi T (od O i)) k b) f = v ∧ ∀ j, j < f → gi ((List.range M).map fun b => Sea.ldf a (fun i => gi T (od O i)) k b) j ≠ v := by
        rcases hx with ⟨_, h⟩ | h
        · obtain ⟨q0, q1, q2⟩ := VE.out
          exact absurd (by rw [← q2]; exact gi_mem (by simpa using q1)) h
        · exact h
      have MIN := Lib.hid (show (∀ b, b < M → Sea.ldf a (fun i => gi T (od O i)) k f ≤ Sea.ldf a (fun i => gi T (od O i)) k b) ∧ ∀ b, b < f → Sea.ldf a (fun i => gi T (od O i)) k f < Sea.ldf a (fun i => gi T (od O i)) k b from by
        rw [gi_map fm] at fe
        have ge : ∀ b, b < M → v ≤ Sea.ldf a (fun i => gi T (od O i)) k b := fun b hb => by have := VL.out b hb; rwa [gi_map hb] at this
        refine ⟨fun b hb => by rw [fe]; exact ge b hb, fun b hb => ?_⟩
        have h1 := ff b hb
        rw [gi_map (by omega)] at h1
        have h2 := ge b (by omega)
        omega)
      have FM7 := Lib.hid (FM6.out.trans (Fm.call st7))
      have IF7 := Lib.hid (IF6.out.keep (st7.block _ IF6.out.lt))
      have IS7 := Lib.hid (IS6.out.keep (st7.block _ IS6.out.lt))
      have FMN := Lib.hid fm
      clear hx fe ff st7 IX VE VL NS6 IF6 IS6 FM6
      have u1 : (0 : Int) ≤ (u : Int) := by omega
      have u2 : (u : Int) < (n : Int) := by omega
      have f1 : (0 : Int) ≤ (f : Int) := by omega
      have f2 : (f : Int) < (M : Int) := by omega
      have cF := IF7.out.cell un
      have fF := IF7.out.frozen u
      have IF8 := Lib.hid (IF7.out.set u f)
      have IS8 := Lib.hid (show IR (w7.setCell ⟨rt, u, none⟩ (.int .i64 (f : Int))) rs 3 M (fun b => Sea.ldf a (fun i => gi T (od O i)) k b) from IS7.out.keep (Below.heap_setCell _ _ _ _ (by have := X5.out; dsimp only; omega)))
      have FM8 := Lib.hid (FM7.out.trans (Fm.set (M := fun q => q = rt ∨ q = rs) ⟨rt, u, none⟩ (.int .i64 (f : Int)) (.inl rfl)))
      clear IF7 IS7 FM7
      go_upto_region 11 with fail
      clear cF fF
      generalize w7.setCell ⟨rt, u, none⟩ (.int .i64 (f : Int)) = w8 at *
      have ct := (KF.out _ FM8.out).1.cell
      obtain ⟨xa, exa, kx, cx⟩ := (KF.out _ FM8.out).2.1 u (by have := HN.out; omega)
      subst exa
      have cs := IS8.out.cell fm
      have fs := IS8.out.frozen f
      obtain ⟨t, ht⟩ : ∃ t, t = gi T u := ⟨_, rfl⟩
      rw [← ht] at cx
      have tb := TOK.out u un
      rw [← ht] at tb
      have HTe := Lib.hid ht
      have bd := BD.out f
      obtain ⟨S0, hS0⟩ : ∃ S0, S0 = Sea.ldf a (fun i => gi T (od O i)) k f := ⟨_, rfl⟩
      rw [← hS0] at cs bd
      have HS0 := Lib.hid hS0
      have wy : IntKind.i64.wrap (S0 + t) = S0 + t := wI rfl (by omega) (by omega)
      have LK2 := Lib.hid (show LoK T M (k + 1) (od O) (fun i => if i = k then f else a i) (upd F u f) from by rw [HU.out]; exact LK.out.next OO.out t1 FMN.out MIN.out.1 MIN.out.2)
      have IS9 := Lib.hid (show IR (w8.setCell ⟨rs, f, none⟩ (.int .i64 (S0 + t))) rs 3 M (fun b => Sea.ldf (fun i => if i = k then f else a i) (fun i => gi T (od O i)) (k + 1) b) from (IS8.out.set f (S0 + t)).ext fun b hb => by
        rw [Sea.ldf_succ, ldf_same (a' := a) (fun i hi => if_neg (by omega)), if_pos rfl]
        unfold upd
        by_cases e : b = f
        · subst e; rw [if_pos rfl, if_pos rfl, HS0.out, HTe.out, HU.out]
        · rw [if_neg e, if_neg (fun g => e g.symm)]; exact (Int.add_zero _).symm)
      have IF9 := Lib.hid (show IR (w8.setCell ⟨rs, f, none⟩ (.int .i64 (S0 + t))) rt 3 n (upd F u f) from IF8.out.keep (Below.heap_setCell _ _ _ _ (by have := X5.out; dsimp only; omega)))
      have FM9 := Lib.hid (FM8.out.trans (Fm.set (M := fun q => q = rt ∨ q = rs) ⟨rs, f, none⟩ (.int .i64 (S0 + t)) (.inr rfl)))
      clear IF8 IS8 FM8 LK MIN ht hS0 HU HS0 HTe BD bd tb kx
      go_region_law (fail)
      all_goals
        go_wp2_with fail
        go_roundw
        case rel => exact ⟨k + 1, _, _, by omega, by go_num, (by first | exact IF9 | exact Lib.hid (IF9.out.keep rfl)), (by first | exact IS9 | exact Lib.hid (IS9.out.keep rfl)), LK2, (by first | exact FM9 | exact Lib.hid (FM9.out.trans (Fm.call ((Below.refl _ _).drew))))⟩
        case measure => simp [intOf]; omega
    · obtain rfl : k = n := by omega
      have MX := Lib.hid (max_any (some ⟨rs, 0, none⟩) M ((List.range M).map fun b => Sea.ldf a (fun i => gi T (od O i)) k b) wr (IS.out.num (Nat.le_refl M)) (by simp; omega) (by simp; omega))
      simp only [List.length_map, List.length_range] at MX
      go_wp2_with fail
      refine MX.out.mono ?_
      rintro e w6 ⟨v, rfl, ⟨q0, q1, q2⟩, vle, st6⟩
      have VM := Lib.hid (show v = Sea.mx (fun b => Sea.ldf a (fun i => gi T (od O i)) k b) M from by
        rw [gi_map q1] at q2
        apply Int.le_antisymm
        · rw [← q2]; exact Sea.mx_ge q1
        · rw [Sea.mx_le]
          refine ⟨by rw [← q2]; exact (ldf_bd TOK.out OO.out (Nat.le_refl k)).1, fun b hb => ?_⟩
          have := vle b hb
          rwa [gi_map hb] at this)
      have FF := Lib.hid (show LoQ T M w (.returned (.tuple #[.slice (some ⟨rt, 0, none⟩) k k, .int .i64 v, .int .i64 0])) w6 from by
        have x := X5.out
        have ga : ∀ j, j < k → ((F j).toNat : Int) = F j := fun j hj => by
          obtain ⟨i, h1, h2⟩ := OO.out.onto j hj
          have := LK.out.at_ i h1
          rw [h2] at this; omega
        refine ⟨0, _, v, rfl, TE.out, by rw [← HBT.out]; exact (KF.out _ (FM.out.trans (Fm.call st6))).2.2.2, fun h => absurd rfl h, fun _ => ⟨rt, (List.range k).map fun j => (F j).toNat, od O, a, by rw [HN.out], by rw [← HBT.out]; omega, ?_, ?_⟩⟩
        · rw [← HN.out]
          have := (IF.out.keep (st6.block _ IF.out.lt)).num (Nat.le_refl k)
          rwa [List.map_congr_left (g := nv ((List.range k).map fun j => (F j).toNat)) (fun j hj => by
            have hj := List.mem_range.1 hj
            rw [← ga j hj]; simp [nv, hj])] at this
        · have lk := LK.out
          have hN := HN.out
          refine ⟨by rw [← hN]; exact OO.out, fun i j ij jn => ?_, by rw [← hN]; exact lk.lt, by rw [← hN]; exact lk.min, by rw [← hN]; exact lk.first, by simp [← hN], fun i hi => ?_, by rw [← hN]; exact VM.out⟩
          · rw [← hN] at jn
            have := SR.out i j ij jn
            rw [rl_key] at this
            have b1 := IO.out.2.1 i (by omega)
            have b2 := IO.out.2.1 j jn
            unfold od
            omega
          · rw [← hN] at hi
            have := lk.at_ i hi
            have l := OO.out.lt i hi
            simp [l, this])
      clear q0 q1 q2 vle st6 MX VM
      go_wp2_with fail
      go_returns
      exact FF.out
end Go.Proofs.Ythbgeikdamajlab
