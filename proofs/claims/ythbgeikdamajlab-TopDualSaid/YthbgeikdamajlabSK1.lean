/- Press: the search of Pack: its memory, its ends. -/
import Derived.Test.YthbgeikdamajlabSK0
namespace Go.Proofs.Ythbgeikdamajlab
open Go.RowKit Go.Proofs.Ythbgeikdamajlab.Prs Go.Proofs.Ythbgeikdamajlab.Stb
set_option linter.unusedVariables false
set_option linter.unusedSimpArgs false

/-- The blocks of the search of Pack. -/
structure PL (base bt bm be rb bb bl rt bo bx bg : Nat) : Prop where
  ne : (bt ≠ rb ∧ bt ≠ bl ∧ bt ≠ rt ∧ bt ≠ bx) ∧ (bm ≠ rb ∧ bm ≠ bl ∧ bm ≠ rt ∧ bm ≠ bx) ∧ (be ≠ rb ∧ be ≠ bl ∧ be ≠ rt ∧ be ≠ bx) ∧ (bb ≠ rb ∧ bb ≠ bl ∧ bb ≠ rt ∧ bb ≠ bx) ∧ (bo ≠ rb ∧ bo ≠ bl ∧ bo ≠ rt ∧ bo ≠ bx) ∧ (bg ≠ rb ∧ bg ≠ bl ∧ bg ≠ rt ∧ bg ≠ bx) ∧ (rb ≠ bl ∧ rb ≠ rt ∧ rb ≠ bx) ∧ (bl ≠ rt ∧ bl ≠ bx) ∧ rt ≠ bx
  lo : base ≤ rb ∧ base ≤ bl ∧ base ≤ rt ∧ base ≤ bx
def PMod (rb bl rt bx : Nat) (k : Nat) : Prop := k = rb ∨ k = bl ∨ k = rt ∨ k = bx
theorem PL.mod {base bt bm be rb bb bl rt bo bx bg q : Nat} (g : PL base bt bm be rb bb bl rt bo bx bg) (h : q < base) : ¬ PMod rb bl rt bx q := by
  have := g.lo
  unfold PMod
  omega
/-- The memory of the search of Pack. -/
structure PM (bt bm be rb bb bl rt bo bx bg : Nat) (p : Option Addr) (n c : Nat) (mo ea : Int) (W : World) (L : Int) (B O : Nat → Int) (s : Nat → Int × Int) : Prop where
  xt : BX W bt 25 (.slice p n c)
  xm : BX W bm 3 (.int .i64 mo)
  xe : BX W be 3 (.int .i64 ea)
  xB : IR W rb 3 n B
  xb : BX W bb 25 (.slice (some ⟨rb, 0, none⟩) n n)
  xl : BX W bl 3 (.int .i64 L)
  xO : IR W rt 3 n O
  xo : BX W bo 25 (.slice (some ⟨rt, 0, none⟩) n n)
  xs : IR W bx 67 24 (flat s)
  xg : BX W bg 61 (.func (.func 39) #[] #[.pointer (some ⟨bl, 0, none⟩), .pointer (some ⟨bt, 0, none⟩), .pointer (some ⟨bb, 0, none⟩), .pointer (some ⟨bo, 0, none⟩), .pointer (some ⟨bx, 0, none⟩), .pointer (some ⟨bm, 0, none⟩), .pointer (some ⟨be, 0, none⟩), .pointer (some ⟨bg, 0, none⟩)])
section
variable {base bt bm be rb bb bl rt bo bx bg : Nat} {p : Option Addr} {n c : Nat} {mo ea : Int} {W W' : World} {L : Int} {B O : Nat → Int} {s : Nat → Int × Int}
theorem PM.setL (h : PM bt bm be rb bb bl rt bo bx bg p n c mo ea W L B O s) (g : PL base bt bm be rb bb bl rt bo bx bg) (x : Int) : PM bt bm be rb bb bl rt bo bx bg p n c mo ea (W.setCell ⟨bl, 0, none⟩ (.int .i64 x)) x B O s := by
  obtain ⟨⟨t1, t2, t3, t4⟩, ⟨m1, m2, m3, m4⟩, ⟨e1, e2, e3, e4⟩, ⟨b1, b2, b3, b4⟩, ⟨o1, o2, o3, o4⟩, ⟨g1, g2, g3, g4⟩, ⟨r1, r2, r3⟩, ⟨l1, l2⟩, rx⟩ := g.ne
  have k : ∀ q, q ≠ bl → (W.setCell ⟨bl, 0, none⟩ (.int .i64 x)).heap[q]? = W.heap[q]? := fun q hq => Below.heap_setCell _ _ _ _ hq
  exact ⟨h.xt.keep (k _ t2), h.xm.keep (k _ m2), h.xe.keep (k _ e2), h.xB.keep (k _ r1), h.xb.keep (k _ b2), h.xl.set _, h.xO.keep (k _ (Ne.symm l1)), h.xo.keep (k _ o2), h.xs.keep (k _ (Ne.symm l2)), h.xg.keep (k _ g2)⟩
theorem PM.setO (h : PM bt bm be rb bb bl rt bo bx bg p n c mo ea W L B O s) (g : PL base bt bm be rb bb bl rt bo bx bg) (j : Nat) (x : Int) : PM bt bm be rb bb bl rt bo bx bg p n c mo ea (W.setCell ⟨rt, j, none⟩ (.int .i64 x)) L B (upd O j x) s := by
  obtain ⟨⟨t1, t2, t3, t4⟩, ⟨m1, m2, m3, m4⟩, ⟨e1, e2, e3, e4⟩, ⟨b1, b2, b3, b4⟩, ⟨o1, o2, o3, o4⟩, ⟨g1, g2, g3, g4⟩, ⟨r1, r2, r3⟩, ⟨l1, l2⟩, rx⟩ := g.ne
  have k : ∀ q, q ≠ rt → (W.setCell ⟨rt, j, none⟩ (.int .i64 x)).heap[q]? = W.heap[q]? := fun q hq => Below.heap_setCell _ _ _ _ hq
  exact ⟨h.xt.keep (k _ t3), h.xm.keep (k _ m3), h.xe.keep (k _ e3), h.xB.keep (k _ r2), h.xb.keep (k _ b3), h.xl.keep (k _ l1), h.xO.set _ _, h.xo.keep (k _ o3), h.xs.keep (k _ (Ne.symm rx)), h.xg.keep (k _ g3)⟩
theorem PM.setS (h : PM bt bm be rb bb bl rt bo bx bg p n c mo ea W L B O s) (g : PL base bt bm be rb bb bl rt bo bx bg) (j : Nat) (x y : Int) : PM bt bm be rb bb bl rt bo bx bg p n c mo ea ((W.setCell ⟨bx, j * 2, none⟩ (.int .i64 x)).setCell ⟨bx, j * 2 + 1, none⟩ (.int .i64 y)) L B O (Sea.up s j (x, y)) := by
  obtain ⟨⟨t1, t2, t3, t4⟩, ⟨m1, m2, m3, m4⟩, ⟨e1, e2, e3, e4⟩, ⟨b1, b2, b3, b4⟩, ⟨o1, o2, o3, o4⟩, ⟨g1, g2, g3, g4⟩, ⟨r1, r2, r3⟩, ⟨l1, l2⟩, rx⟩ := g.ne
  have k : ∀ q, q ≠ bx → ((W.setCell ⟨bx, j * 2, none⟩ (.int .i64 x)).setCell ⟨bx, j * 2 + 1, none⟩ (.int .i64 y)).heap[q]? = W.heap[q]? := fun q hq => (Below.heap_setCell _ _ _ _ hq).trans (Below.heap_setCell _ _ _ _ hq)
  exact ⟨h.xt.keep (k _ t4), h.xm.keep (k _ m4), h.xe.keep (k _ e4), h.xB.keep (k _ r3), h.xb.keep (k _ b4), h.xl.keep (k _ l2), h.xO.keep (k _ rx), h.xo.keep (k _ o4), by rw [← flat_up]; exact (h.xs.set _ _).set _ _, h.xg.keep (k _ g4)⟩
theorem PM.copy (h : PM bt bm be rb bb bl rt bo bx bg p n c mo ea W L B O s) (g : PL base bt bm be rb bb bl rt bo bx bg) (i : IR W' rb 3 n O) (f : Fm (fun k => k = rb) W W') : PM bt bm be rb bb bl rt bo bx bg p n c mo ea W' L O O s := by
  obtain ⟨⟨t1, t2, t3, t4⟩, ⟨m1, m2, m3, m4⟩, ⟨e1, e2, e3, e4⟩, ⟨b1, b2, b3, b4⟩, ⟨o1, o2, o3, o4⟩, ⟨g1, g2, g3, g4⟩, ⟨r1, r2, r3⟩, ⟨l1, l2⟩, rx⟩ := g.ne
  exact ⟨h.xt.keep (f.block _ h.xt.lt t1), h.xm.keep (f.block _ h.xm.lt m1), h.xe.keep (f.block _ h.xe.lt e1), i, h.xb.keep (f.block _ h.xb.lt b1), h.xl.keep (f.block _ h.xl.lt (Ne.symm r1)), h.xO.keep (f.block _ h.xO.lt (Ne.symm r2)), h.xo.keep (f.block _ h.xo.lt o1), h.xs.keep (f.block _ h.xs.lt (Ne.symm r3)), h.xg.keep (f.block _ h.xg.lt g1)⟩
theorem PM.call (h : PM bt bm be rb bb bl rt bo bx bg p n c mo ea W L B O s) (f : Below W.heap.size W W') : PM bt bm be rb bb bl rt bo bx bg p n c mo ea W' L B O s :=
  ⟨h.xt.keep (f.block _ h.xt.lt), h.xm.keep (f.block _ h.xm.lt), h.xe.keep (f.block _ h.xe.lt), h.xB.keep (f.block _ h.xB.lt), h.xb.keep (f.block _ h.xb.lt), h.xl.keep (f.block _ h.xl.lt), h.xO.keep (f.block _ h.xO.lt), h.xo.keep (f.block _ h.xo.lt), h.xs.keep (f.block _ h.xs.lt), h.xg.keep (f.block _ h.xg.lt)⟩
theorem PM.ext {B' O' : Nat → Int} {s' : Nat → Int × Int} (h : PM bt bm be rb bb bl rt bo bx bg p n c mo ea W L B O s) (e1 : ∀ k, k < n → B k = B' k) (e2 : ∀ k, k < n → O k = O' k) (e3 : ∀ k, k < 12 → s k = s' k) : PM bt bm be rb bb bl rt bo bx bg p n c mo ea W L B' O' s' :=
  ⟨h.xt, h.xm, h.xe, h.xB.ext e1, h.xb, h.xl, h.xO.ext e2, h.xo, h.xs.ext (fun k hk => by unfold flat; rw [e3 _ (by omega)]), h.xg⟩
end
/-- What the search of Pack leaves. -/
def PQ (bt bm be rb bb bl rt bo bx bg : Nat) (p : Option Addr) (n c k : Nat) (mo ea : Int) (ts : List Int) (P : List Nat) (L : Int) (B : List Nat) (O : Nat → Int) (s : Nat → Int × Int) (W : World) (e : Ending) (W' : World) : Prop :=
  e = .returned (.tuple #[]) ∧ ∃ (L' : Int) (B' : List Nat) (O' : Nat → Int), PM bt bm be rb bb bl rt bo bx bg p n c mo ea W' L' (nv B') O' s ∧ (∀ j, j < k → O' j = O j) ∧ Sea.Sr (Sea.addP mo ea) (Sea.cnt 12) (Sea.Can 12) 12 (fun _ => True) ts s P L B L' B' ∧ Fm (PMod rb bl rt bx) W W'

set_option maxRecDepth 100000 in
set_option maxHeartbeats 8000000 in
theorem put_prune {bt bm be rb bb bl rt bo bx bg : Nat} {p : Option Addr} {n c k u : Nat} {mo ea : Int} {ts : List Int} {P : List Nat} {L : Int} {B : List Nat} {O : Nat → Int} {s : Nat → Int × Int} {W : World} (h : PM bt bm be rb bb bl rt bo bx bg p n c mo ea W L (nv B) O s) (cn : Sea.Cn s u) (hu : u ≤ 12) (hx : L ≤ u) :
    Calls Try.prog 39 #[.int .i64 k, .int .i64 u, .pointer (some ⟨bl, 0, none⟩), .pointer (some ⟨bt, 0, none⟩), .pointer (some ⟨bb, 0, none⟩), .pointer (some ⟨bo, 0, none⟩), .pointer (some ⟨bx, 0, none⟩), .pointer (some ⟨bm, 0, none⟩), .pointer (some ⟨be, 0, none⟩), .pointer (some ⟨bg, 0, none⟩)] W
      (PQ bt bm be rb bb bl rt bo bx bg p n c k mo ea ts P L B O s W) := by
  have cl := h.xl.cell
  have Q := Lib.hid (show ∀ j : Nat, PQ bt bm be rb bb bl rt bo bx bg p n c k mo ea ts P L B O s W (.returned (.tuple #[])) W from fun _ => ⟨rfl, L, B, O, h, fun _ _ => rfl, Sea.Sr.prune (fun s b y t e hb => Sea.cnt_mono s b y t e hb) (by rw [cn.cnt hu]; exact hx), Fm.refl _ _⟩)
  have d1 : decide (L ≤ (u : Int)) = true := decide_eq_true hx
  clear h hx cn
  go_enter Try.func39, Try.ntmps39
  go_wp2_with fail
  go_end0
  exact Q.out 0

set_option maxRecDepth 100000 in
set_option maxHeartbeats 8000000 in
theorem put_leaf {base bt bm be rb bb bl rt bo bx bg : Nat} (gl : PL base bt bm be rb bb bl rt bo bx bg) {p : Option Addr} {n c u : Nat} {mo ea : Int} {P : List Nat} {L : Int} {B : List Nat} {O : Nat → Int} {s : Nat → Int × Int} {W : World} (h : PM bt bm be rb bb bl rt bo bx bg p n c mo ea W L (nv B) O s) (hP : P.length = n) (hO : ∀ j, j < n → O j = nv P j) (cn : Sea.Cn s u) (hu : u ≤ 12) (hx : (u : Int) < L) :
    Calls Try.prog 39 #[.int .i64 n, .int .i64 u, .pointer (some ⟨bl, 0, none⟩), .pointer (some ⟨bt, 0, none⟩), .pointer (some ⟨bb, 0, none⟩), .pointer (some ⟨bo, 0, none⟩), .pointer (some ⟨bx, 0, none⟩), .pointer (some ⟨bm, 0, none⟩), .pointer (some ⟨be, 0, none⟩), .pointer (some ⟨bg, 0, none⟩)] W
      (PQ bt bm be rb bb bl rt bo bx bg p n c n mo ea [] P L B O s W) := by
  have cl := h.xl.cell
  have ct := h.xt.cell
  have cb := h.xb.cell
  have co := h.xo.cell
  have H := Lib.hid h
  have HO := Lib.hid hO
  have d1 : decide (L ≤ (u : Int)) = false := decide_eq_false (by omega)
  have d2 : ((n : Int) == (n : Int)) = true := by simp
  have Q := Lib.hid (show ∀ W', PM bt bm be rb bb bl rt bo bx bg p n c mo ea W' u O O s → Fm (PMod rb bl rt bx) W W' → PQ bt bm be rb bb bl rt bo bx bg p n c n mo ea [] P L B O s W (.returned (.tuple #[])) W' from fun W' g f => by
    have lf := Sea.Sr.leaf (add := Sea.addP mo ea) (val := Sea.cnt 12) (Fs := Sea.Can 12) (M := 12) (s := s) (P := P) (B := B) (L := L) (by rw [cn.cnt hu]; exact hx) ⟨u, hu, cn⟩
    rw [cn.cnt hu] at lf
    exact ⟨rfl, _, P, O, g.ext HO.out (fun _ _ => rfl) (fun _ _ => rfl), fun _ _ => rfl, lf, f⟩)
  clear h hx hO cn
  go_enter Try.func39, Try.ntmps39
  go_wp2_with (first
    | (refine wpList_copy_ir rfl _ _ 25 25 rfl 3 Try.underlying25 intSize rb rt n 3 3 (nv B) O rfl rfl H.out.xB H.out.xO ?_))
  intro w1 i1 f1
  have H1 := Lib.hid (H.out.copy gl i1 f1)
  replace cl := H1.out.xl.cell
  have fl := H1.out.xl.frozen
  have H2 := Lib.hid (H1.out.setL gl u)
  have F2 := Lib.hid (show Fm (PMod rb bl rt bx) W (w1.setCell ⟨bl, 0, none⟩ (.int .i64 u)) from
    (show Fm (PMod rb bl rt bx) W w1 from ⟨f1.os, f1.tape, f1.output, f1.size, fun k hk hm => f1.block k hk (fun e => hm (.inl e))⟩).trans (Fm.set _ _ (.inr (.inl rfl))))
  clear i1 f1 ct cb co
  go_wp2_with fail
  go_end0
  exact Q.out _ H2.out F2.out
/-- Bins behind the first empty one are like it. -/
theorem sr_fill {mo ea : Int} {ts : List Int} {t : Int} {s : Nat → Int × Int} {u : Nat} {P B B1 : List Nat} {L L1 : Int} (cn : Sea.Cn s u) : ∀ (d q : Nat), q + d = 12 → u < q → Sea.Sr (Sea.addP mo ea) (Sea.cnt 12) (Sea.Can 12) 12 (· < q) (t :: ts) s P L B L1 B1 → Sea.Sr (Sea.addP mo ea) (Sea.cnt 12) (Sea.Can 12) 12 (· < 12) (t :: ts) s P L B L1 B1
  | 0, q, h, _, r => by
    have e : q = 12 := by omega
    subst e; exact r
  | d + 1, q, h, hu, r => sr_fill cn d (q + 1) (by omega) (by omega) (r.skip (fun a c s ha hc => Sea.cnt_tr s ha hc) hu (by omega) (by rw [cn.hi u (Nat.le_refl u), cn.hi q (by omega)]))
end Go.Proofs.Ythbgeikdamajlab
