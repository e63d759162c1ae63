/- Press: Share. -/
import Derived.Test.YthbgeikdamajlabMT1
import Derived.Deep.RegionLaw
/- Press: the search of Share. -/
namespace Go.Proofs.Ythbgeikdamajlab
open Go.RowKit Go.Proofs.Ythbgeikdamajlab.Prs Go.Proofs.Ythbgeikdamajlab.Stb
set_option linter.unusedVariables false
set_option linter.unusedSimpArgs false

theorem wpList_copy_ir {Pg : Program} {w : World} {ops : Array Oper} {rest : List Oper} {o : Oper} {a : Act} {Q : Exit → Act → World → Prop} (hgd : o.guard = none) (d s : Operand) (dT sT : TypeId)
    (ho : o.op = .call { callee := .builtin .copy, args := #[d, s], argTypes := #[dT, sT] }) (elem : TypeId) (hu : Pg.underlying dT = some (.slice elem)) (hsz : (Pg.info? elem).map (·.size) = some 1)
    (g h n : Nat) (t t' : TypeId) (f f' : Nat → Int) (hd : a.eval d = .slice (some ⟨g, 0, none⟩) n n) (hs : a.eval s = .slice (some ⟨h, 0, none⟩) n n) (ig : IR w g t n f) (ih : IR w h t' n f')
    (hK : ∀ w', IR w' g t n f' → Fm (fun k => k = g) w w' → wpList Pg ops Q rest (a.put o.dst (goInt n)) w') : wpList Pg ops Q (o :: rest) a w := by
  obtain ⟨cs, hcs⟩ : ∃ cs, cs = (List.range n).map fun k => Value.int .i64 (f' k) := ⟨_, rfl⟩
  have len : cs.length = n := by rw [hcs]; simp
  have add : ∀ j, (Addr.mk h 0 none).add j = ⟨h, j, none⟩ := fun j => by
    unfold Addr.add
    split
    · next h => subst h; rfl
    · simp
  refine wpList_copy_own hgd d s dT sT ho elem hu hsz g 0 n n ⟨h, 0, none⟩ n n hd hs _ t ig cs (by rw [len]; simp) ?_ (by simp [len]) ?_ ?_
  · intro j v hj
    have hl : j < n := by rw [← len]; exact (List.getElem?_eq_some_iff.1 hj).1
    rw [add, ih.cell hl]
    rw [hcs] at hj
    simpa [hl] using hj
  · intro v hv
    rw [hcs] at hv
    obtain ⟨k, _, rfl⟩ := List.mem_map.1 hv
    rfl
  · rw [len]
    refine hK _ ?_ (Fm.setRow g _ rfl)
    unfold IR
    rw [setRow_heap w g _ _ t (0, 0) ig]
    congr 2
    simp [len, hcs]
theorem intSize : (Try.prog.info? 3).map (·.size) = some 1 := by kernel_rfl

/-- The blocks of a search, in the order in which they were made. -/
structure GL (bt bp rb bb bl rt bo bs bg : Nat) : Prop where
  a1 : bt < bp
  a2 : bp < rb
  a3 : rb < bb
  a4 : bb < bl
  a5 : bl < rt
  a6 : rt < bo
  a7 : bo < bs
  a8 : bs < bg
def GMod (rb bl rt bs : Nat) (k : Nat) : Prop := k = rb ∨ k = bl ∨ k = rt ∨ k = bs
/-- The search's memory. -/
structure GM (bt bp rb bb bl rt bo bs bg : Nat) (p : Option Addr) (n c : Nat) (m : Int) (W : World) (L : Int) (B O s : Nat → Int) : Prop where
  xt : BX W bt 25 (.slice p n c)
  xp : BX W bp 3 (.int .i64 m)
  xB : IR W rb 3 n B
  xb : BX W bb 25 (.slice (some ⟨rb, 0, none⟩) n n)
  xl : BX W bl 3 (.int .i64 L)
  xO : IR W rt 3 n O
  xo : BX W bo 25 (.slice (some ⟨rt, 0, none⟩) n n)
  xs : IR W bs 60 4 s
  xg : BX W bg 61 (.func (.func 32) #[] #[.pointer (some ⟨bl, 0, none⟩), .pointer (some ⟨bt, 0, none⟩), .pointer (some ⟨bb, 0, none⟩), .pointer (some ⟨bo, 0, none⟩), .pointer (some ⟨bp, 0, none⟩), .pointer (some ⟨bs, 0, none⟩), .pointer (some ⟨bg, 0, none⟩)])
section
variable {bt bp rb bb bl rt bo bs bg : Nat} {p : Option Addr} {n c : Nat} {m : Int} {W W' : World} {L : Int} {B O s : Nat → Int}
theorem GM.setL (h : GM bt bp rb bb bl rt bo bs bg p n c m W L B O s) (g : GL bt bp rb bb bl rt bo bs bg) (x : Int) : GM bt bp rb bb bl rt bo bs bg p n c m (W.setCell ⟨bl, 0, none⟩ (.int .i64 x)) x B O s := by
  obtain ⟨a1, a2, a3, a4, a5, a6, a7, a8⟩ := g
  have k : ∀ q, q ≠ bl → (W.setCell ⟨bl, 0, none⟩ (.int .i64 x)).heap[q]? = W.heap[q]? := fun q hq => Below.heap_setCell _ _ _ _ hq
  exact ⟨h.xt.keep (k _ (by omega)), h.xp.keep (k _ (by omega)), h.xB.keep (k _ (by omega)), h.xb.keep (k _ (by omega)), h.xl.set _, h.xO.keep (k _ (by omega)), h.xo.keep (k _ (by omega)), h.xs.keep (k _ (by omega)), h.xg.keep (k _ (by omega))⟩
theorem GM.setO (h : GM bt bp rb bb bl rt bo bs bg p n c m W L B O s) (g : GL bt bp rb bb bl rt bo bs bg) (j : Nat) (x : Int) : GM bt bp rb bb bl rt bo bs bg p n c m (W.setCell ⟨rt, j, none⟩ (.int .i64 x)) L B (upd O j x) s := by
  obtain ⟨a1, a2, a3, a4, a5, a6, a7, a8⟩ := g
  have k : ∀ q, q ≠ rt → (W.setCell ⟨rt, j, none⟩ (.int .i64 x)).heap[q]? = W.heap[q]? := fun q hq => Below.heap_setCell _ _ _ _ hq
  exact ⟨h.xt.keep (k _ (by omega)), h.xp.keep (k _ (by omega)), h.xB.keep (k _ (by omega)), h.xb.keep (k _ (by omega)), h.xl.keep (k _ (by omega)), h.xO.set _ _, h.xo.keep (k _ (by omega)), h.xs.keep (k _ (by omega)), h.xg.keep (k _ (by omega))⟩
theorem GM.setS (h : GM bt bp rb bb bl rt bo bs bg p n c m W L B O s) (g : GL bt bp rb bb bl rt bo bs bg) (j : Nat) (x : Int) : GM bt bp rb bb bl rt bo bs bg p n c m (W.setCell ⟨bs, j, none⟩ (.int .i64 x)) L B O (upd s j x) := by
  obtain ⟨a1, a2, a3, a4, a5, a6, a7, a8⟩ := g
  have k : ∀ q, q ≠ bs → (W.setCell ⟨bs, j, none⟩ (.int .i64 x)).heap[q]? = W.heap[q]? := fun q hq => Below.heap_setCell _ _ _ _ hq
  exact ⟨h.xt.keep (k _ (by omega)), h.xp.keep (k _ (by omega)), h.xB.keep (k _ (by omega)), h.xb.keep (k _ (by omega)), h.xl.keep (k _ (by omega)), h.xO.keep (k _ (by omega)), h.xo.keep (k _ (by omega)), h.xs.set _ _, h.xg.keep (k _ (by omega))⟩
theorem GM.copy (h : GM bt bp rb bb bl rt bo bs bg p n c m W L B O s) (g : GL bt bp rb bb bl rt bo bs bg) (i : IR W' rb 3 n O) (f : Fm (fun k => k = rb) W W') : GM bt bp rb bb bl rt bo bs bg p n c m W' L O O s := by
  obtain ⟨a1, a2, a3, a4, a5, a6, a7, a8⟩ := g
  exact ⟨h.xt.keep (f.block _ h.xt.lt (by omega)), h.xp.keep (f.block _ h.xp.lt (by omega)), i, h.xb.keep (f.block _ h.xb.lt (by omega)), h.xl.keep (f.block _ h.xl.lt (by omega)), h.xO.keep (f.block _ h.xO.lt (by omega)), h.xo.keep (f.block _ h.xo.lt (by omega)), h.xs.keep (f.block _ h.xs.lt (by omega)), h.xg.keep (f.block _ h.xg.lt (by omega))⟩
theorem GM.call (h : GM bt bp rb bb bl rt bo bs bg p n c m W L B O s) (f : Below W.heap.size W W') : GM bt bp rb bb bl rt bo bs bg p n c m W' L B O s :=
  ⟨h.xt.keep (f.block _ h.xt.lt), h.xp.keep (f.block _ h.xp.lt), h.xB.keep (f.block _ h.xB.lt), h.xb.keep (f.block _ h.xb.lt), h.xl.keep (f.block _ h.xl.lt), h.xO.keep (f.block _ h.xO.lt), h.xo.keep (f.block _ h.xo.lt), h.xs.keep (f.block _ h.xs.lt), h.xg.keep (f.block _ h.xg.lt)⟩
theorem GM.ext {B' O' s' : Nat → Int} (h : GM bt bp rb bb bl rt bo bs bg p n c m W L B O s) (e1 : ∀ k, k < n → B k = B' k) (e2 : ∀ k, k < n → O k = O' k) (e3 : ∀ k, k < 4 → s k = s' k) : GM bt bp rb bb bl rt bo bs bg p n c m W L B' O' s' :=
  ⟨h.xt, h.xp, h.xB.ext e1, h.xb, h.xl, h.xO.ext e2, h.xo, h.xs.ext e3, h.xg⟩
end
/-- A list of numbers as a row's values. -/
def nv (B : List Nat) (j : Nat) : Int := (B.getD j 0 : Nat)
/-- What a search leaves. -/
def GQ (bt bp rb bb bl rt bo bs bg : Nat) (p : Option Addr) (n c m k : Nat) (ts : List Int) (P : List Nat) (L : Int) (B : List Nat) (O s : Nat → Int) (W : World) (e : Ending) (W' : World) : Prop :=
  e = .returned (.tuple #[]) ∧ ∃ (L' : Int) (B' : List Nat) (O' : Nat → Int), GM bt bp rb bb bl rt bo bs bg p n c m W' L' (nv B') O' s ∧ (∀ j, j < k → O' j = O j) ∧ Sea.Sr Sea.addS (fun s => Sea.mx s m) (fun _ => True) m (fun _ => True) ts s P L B L' B' ∧ Fm (GMod rb bl rt bs) W W'

set_option maxRecDepth 100000 in
set_option maxHeartbeats 8000000 in
theorem give_prune {bt bp rb bb bl rt bo bs bg : Nat} {p : Option Addr} {n c m k : Nat} {ts : List Int} {P : List Nat} {L : Int} {B : List Nat} {O s : Nat → Int} {W : World} (h : GM bt bp rb bb bl rt bo bs bg p n c m W L (nv B) O s) (hx : L ≤ Sea.mx s m) :
    Calls Try.prog 32 #[.int .i64 k, .int .i64 (Sea.mx s m), .pointer (some ⟨bl, 0, none⟩), .pointer (some ⟨bt, 0, none⟩), .pointer (some ⟨bb, 0, none⟩), .pointer (some ⟨bo, 0, none⟩), .pointer (some ⟨bp, 0, none⟩), .pointer (some ⟨bs, 0, none⟩), .pointer (some ⟨bg, 0, none⟩)] W
      (GQ bt bp rb bb bl rt bo bs bg p n c m k ts P L B O s W) := by
  have cl := h.xl.cell
  have Q := Lib.hid (show ∀ j : Nat, GQ bt bp rb bb bl rt bo bs bg p n c m k ts P L B O s W (.returned (.tuple #[])) W from fun _ => ⟨rfl, L, B, O, h, fun _ _ => rfl, Sea.Sr.prune (Sea.addS_mono m) hx, Fm.refl _ _⟩)
  have d1 : decide (L ≤ Sea.mx s m) = true := decide_eq_true hx
  clear h hx
  generalize Sea.mx s m = x at *
  go_enter Try.func32, Try.ntmps32
  go_wp2_with fail
  go_end0
  exact Q.out 0

set_option maxRecDepth 100000 in
set_option maxHeartbeats 8000000 in
theorem give_leaf {bt bp rb bb bl rt bo bs bg : Nat} (gl : GL bt bp rb bb bl rt bo bs bg) {p : Option Addr} {n c m : Nat} {P : List Nat} {L : Int} {B : List Nat} {O s : Nat → Int} {W : World} (h : GM bt bp rb bb bl rt bo bs bg p n c m W L (nv B) O s) (hP : P.length = n) (hO : ∀ j, j < n → O j = nv P j) (hx : Sea.mx s m < L) :
    Calls Try.prog 32 #[.int .i64 n, .int .i64 (Sea.mx s m), .pointer (some ⟨bl, 0, none⟩), .pointer (some ⟨bt, 0, none⟩), .pointer (some ⟨bb, 0, none⟩), .pointer (some ⟨bo, 0, none⟩), .pointer (some ⟨bp, 0, none⟩), .pointer (some ⟨bs, 0, none⟩), .pointer (some ⟨bg, 0, none⟩)] W
      (GQ bt bp rb bb bl rt bo bs bg p n c m n [] P L B O s W) := by
  have cl := h.xl.cell
  have ct := h.xt.cell
  have cb := h.xb.cell
  have co := h.xo.cell
  have H := Lib.hid h
  have HX := Lib.hid hx
  have HO := Lib.hid hO
  have d1 : decide (L ≤ Sea.mx s m) = false := decide_eq_false (by omega)
  have d2 : ((n : Int) == (n : Int)) = true := by simp
  clear h hx hO
  have Q := Lib.hid (show ∀ W', GM bt bp rb bb bl rt bo bs bg p n c m W' (Sea.mx s m) O O s → Fm (GMod rb bl rt bs) W W' → GQ bt bp rb bb bl rt bo bs bg p n c m n [] P L B O s W (.returned (.tuple #[])) W' from fun W' g f =>
    ⟨rfl, _, P, O, g.ext HO.out (fun _ _ => rfl) (fun _ _ => rfl), fun _ _ => rfl, Sea.Sr.leaf HX.out trivial, f⟩)
  generalize Sea.mx s m = x at *
  go_enter Try.func32, Try.ntmps32
  go_wp2_with (first
    | (refine wpList_copy_ir rfl _ _ 25 25 rfl 3 Try.underlying25 intSize rb rt n 3 3 (nv B) O rfl rfl H.out.xB H.out.xO ?_))
  intro w1 i1 f1
  have H1 := Lib.hid (H.out.copy gl i1 f1)
  have F1 := Lib.hid f1
  replace cl := H1.out.xl.cell
  have fl := H1.out.xl.frozen
  have H2 := Lib.hid (H1.out.setL gl x)
  have F2 := Lib.hid (show Fm (GMod rb bl rt bs) W (w1.setCell ⟨bl, 0, none⟩ (.int .i64 x)) from
    (show Fm (GMod rb bl rt bs) W w1 from ⟨f1.os, f1.tape, f1.output, f1.size, fun k hk hm => f1.block k hk (fun e => hm (.inl e))⟩).trans (Fm.set _ _ (.inr (.inl rfl))))
  clear i1 f1 ct cb co
  go_wp2_with fail
  go_end0
  exact Q.out _ H2.out F2.out
end Go.Proofs.Ythbgeikdamajlab

/- Press: the search of Share, a step. -/
namespace Go.Proofs.Ythbgeikdamajlab
open Go.RowKit Go.Proofs.Ythbgeikdamajlab.Prs Go.Proofs.Ythbgeikdamajlab.Stb
set_option linter.unusedVariables false
set_option linter.unusedSimpArgs false

theorem NumR.fm {M : Nat → Prop} {W W' : World} {p : Option Addr} {T : List Int} (r : NumR W p T) (f : Fm M W W') (hp : ∀ x, p = some x → 0 < T.length → ¬ M x.block) : NumR W' p T := fun i h => by
  obtain ⟨x, e, k, c⟩ := r i h
  refine ⟨x, e, Nat.lt_of_lt_of_le k f.size, ?_⟩
  rw [← c]
  exact World.cell?_of_block (w := W) (a := x.add i) (by rw [addB]; exact f.block _ k (hp x e (by omega)))
theorem GL.mod {bt bp rb bb bl rt bo bs bg q : Nat} (g : GL bt bp rb bb bl rt bo bs bg) (h : q < bt) : ¬ GMod rb bl rt bs q := by
  obtain ⟨a1, a2, a3, a4, a5, a6, a7, a8⟩ := g
  unfold GMod
  omega

/-- Has a bin before q the same? -/
def dupB (s : Nat → Int) (q : Nat) : Bool := decide (s q ∈ (List.range q).map s)
theorem dupB_t {s : Nat → Int} {q : Nat} (h : true = dupB s q) : ∃ r, r < q ∧ s r = s q := by
  obtain ⟨r, hr, er⟩ := List.mem_map.1 (of_decide_eq_true h.symm)
  exact ⟨r, List.mem_range.1 hr, er⟩

set_option maxRecDepth 100000 in
set_option maxHeartbeats 8000000 in
theorem give_step {bt bp rb bb bl rt bo bs bg : Nat} (gl : GL bt bp rb bb bl rt bo bs bg) {p : Option Addr} {c m : Nat} {T : List Int} (hm : 1 ≤ m) (hm4 : m ≤ 4) (h12 : T.length ≤ 12) (ok : TmOk T T.length) (hp : ∀ x, p = some x → 0 < T.length → x.block < bt)
    (t : Int) (ts : List Int) (k : Nat) (P : List Nat) (L : Int) (B : List Nat) (O s : Nat → Int) (W : World) (hT : T.drop k = t :: ts) (hP : P.length = k) (h : GM bt bp rb bb bl rt bo bs bg p T.length c m W L (nv B) O s) (nr : NumR W p T) (hO : ∀ j, j < k → O j = nv P j) (hs : ∀ b, b < m → 0 ≤ s b ∧ s b ≤ k * 1073741824) (hx : Sea.mx s m < L)
    (ih : ∀ (P : List Nat) (L : Int) (B : List Nat) (O s : Nat → Int) (W : World), P.length = k + 1 → GM bt bp rb bb bl rt bo bs bg p T.length c m W L (nv B) O s → NumR W p T → (∀ j, j < k + 1 → O j = nv P j) → (∀ b, b < m → 0 ≤ s b ∧ s b ≤ (k + 1 : Nat) * 1073741824) →
      Calls Try.prog 32 #[.int .i64 ((k : Int) + 1), .int .i64 (Sea.mx s m), .pointer (some ⟨bl, 0, none⟩), .pointer (some ⟨bt, 0, none⟩), .pointer (some ⟨bb, 0, none⟩), .pointer (some ⟨bo, 0, none⟩), .pointer (some ⟨bp, 0, none⟩), .pointer (some ⟨bs, 0, none⟩), .pointer (some ⟨bg, 0, none⟩)] W (GQ bt bp rb bb bl rt bo bs bg p T.length c m (k + 1) ts P L B O s W)) :
    Calls Try.prog 32 #[.int .i64 k, .int .i64 (Sea.mx s m), .pointer (some ⟨bl, 0, none⟩), .pointer (some ⟨bt, 0, none⟩), .pointer (some ⟨bb, 0, none⟩), .pointer (some ⟨bo, 0, none⟩), .pointer (some ⟨bp, 0, none⟩), .pointer (some ⟨bs, 0, none⟩), .pointer (some ⟨bg, 0, none⟩)] W
      (GQ bt bp rb bb bl rt bo bs bg p T.length c m k (t :: ts) P L B O s W) := by
  have kn : k < T.length := by
    apply Classical.byContradiction; intro g
    rw [List.drop_of_length_le (by omega)] at hT; cases hT
  have tk : gi T k = t := by
    rw [List.drop_eq_getElem_cons kn] at hT
    have := (List.cons.inj hT).1
    simp [gi, kn, this]
  have t0 := ok k kn
  rw [tk] at t0
  have cl := h.xl.cell
  have ct := h.xt.cell
  have cp := h.xp.cell
  have H := Lib.hid h
  have GLh := Lib.hid gl
  have IH := Lib.hid ih
  have HX := Lib.hid hx
  have HS := Lib.hid hs
  have HO := Lib.hid hO
  have HP := Lib.hid hP
  have NB := Lib.hid (fun W' (f : Fm (GMod rb bl rt bs) W W') => nr.fm f (fun x e h0 => gl.mod (hp x e h0)))
  have TK := Lib.hid tk
  have SQ := Lib.hid (fun (W' : World) (q : Nat) (hq : q < m) (L' : Int) (B' : Nat → Int) (O' : Nat → Int) (g : GM bt bp rb bb bl rt bo bs bg p T.length c m W' L' B' O' s) => contains_any (some ⟨bs, 0, none⟩) 4 ((List.range q).map s) (s q) W' (g.xs.num (by omega)) (by simp; omega))
  simp only [List.length_map, List.length_range] at SQ
  have SQ := Lib.hid (show ∀ (W' : World) (q : Nat) (hq : q < m) (L' : Int) (B' : Nat → Int) (O' : Nat → Int) (g : GM bt bp rb bb bl rt bo bs bg p T.length c m W' L' B' O' s), Calls Try.prog 33 #[.slice (some ⟨bs, 0, none⟩) q 4, .int .i64 (s q)] W' (fun e w' => e = .returned (.bool (dupB s q)) ∧ Below W'.heap.size W' w') from SQ.out)
  have d1 : decide (L ≤ Sea.mx s m) = false := decide_eq_false (by omega)
  have MXE := Lib.hid (show ∀ q y, q < m → s q ≤ y → Sea.mx (Sea.up s q y) m = max (Sea.mx s m) y from fun q y hq hy => Sea.mx_up hq hy)
  obtain ⟨n, hn⟩ : ∃ n, n = T.length := ⟨_, rfl⟩
  rw [← hn] at H IH SQ kn h12 ct ⊢
  have HN := Lib.hid hn
  have d2 : ((k : Int) == (n : Int)) = false := by simp; omega
  have QE := Lib.hid (show ∀ W' L' B' O', GM bt bp rb bb bl rt bo bs bg p n c m W' L' (nv B') O' s → (∀ j, j < k → O' j = O j) → Sea.Sr Sea.addS (fun s => Sea.mx s m) (fun _ => True) m (· < m) (t :: ts) s P L B L' B' → Fm (GMod rb bl rt bs) W W' → GQ bt bp rb bb bl rt bo bs bg p n c m k (t :: ts) P L B O s W (.returned (.tuple #[])) W' from fun W' L' B' O' g e r f => ⟨rfl, L', B', O', g, e, r.all, f⟩)
  clear h hx hO hT hP hp nr gl ih hs ok tk hn
  generalize Sea.mx s m = x at *
  go_enter Try.func32, Try.ntmps32
  go_wp2_with fail
  go_loopw [24] (fun iv wr => ∃ (q : Nat) (L1 : Int) (B1 : List Nat) (O1 : Nat → Int), q ≤ m ∧ iv = .int .i64 q ∧ Hid (GM bt bp rb bb bl rt bo bs bg p n c m wr L1 (nv B1) O1 s) ∧ Hid (∀ j, j < k → O1 j = O j) ∧ Hid (Sea.Sr Sea.addS (fun s => Sea.mx s m) (fun _ => True) m (· < q) (t :: ts) s P L B L1 B1) ∧ Hid (Fm (GMod rb bl rt bs) W wr)) (fun iv _ => m - (intOf iv).toNat)
  case atStart => exact ⟨0, L, B, O, Nat.zero_le _, rfl, H, Lib.hid fun _ _ => rfl, Lib.hid (Sea.Sr.start t), Lib.hid (Fm.refl _ _)⟩
  case round =>
    clear H cl ct cp d1 d2
    obtain ⟨q, L1, B1, O1, hq, rfl, H, O1E, SR, FM⟩ := hrel
    by_cases t1 : q < m
    · have i1 : (0 : Int) ≤ (q : Int) := by omega
      have i2 : (q : Int) < (m : Int) := by omega
      have i3 : (q : Int) < 4 := by omega
      have i4 : (q : Int) ≤ 4 := by omega
      have cs := H.out.xs.cell (k := q) (by omega)
      have C1 := Lib.hid (SQ.out wr q t1 L1 (nv B1) O1 H.out)
      have CD := Lib.hid (fun W' (g : GM bt bp rb bb bl rt bo bs bg p n c m W' L1 (nv B1) O1 s) => SQ.out W' q t1 L1 (nv B1) O1 g)
      obtain ⟨d, hd⟩ : ∃ d, d = dupB s q := ⟨_, rfl⟩
      rw [← hd] at CD
      have HD := Lib.hid hd
      clear hd
      cases d with
      | true =>
        have SR2 := Lib.hid (show Sea.Sr Sea.addS (fun s => Sea.mx s m) (fun _ => True) m (· < q + 1) (t :: ts) s P L B L1 B1 from by
          obtain ⟨r, hr, er⟩ := dupB_t HD.out
          exact SR.out.skip (fun a c s ha hc => Sea.mx_tr a c s ha hc) hr t1 er)
        go_upto_region 7 with fail
        go_region_held3 (fun w' => w'.cell? ⟨bs, q, none⟩ = some (.int .i64 (s q)))
          (first | exact cs | exact cellDr cs)
          (first | (go_at_call 33; (with_reducible refine (CD.out _ (by first | exact H.out | exact H.out.call ((Below.refl _ _).drew) | exact H.out.call (below_drewN (Below.refl _ _) _))).mono ?_); rintro e v1 ⟨rfl, st⟩; have st : Below wr.heap.size wr v1 := (by first | exact st | exact ((Below.refl _ _).drew).trans st | exact (below_drewN (Below.refl _ _) _).trans st); have H1 := Lib.hid (H.out.call st); have F1 := Lib.hid (FM.out.trans (Fm.call st)); replace cs := cellGr st cs; clear st))
        go_wp2_with fail
        go_roundw
        case rel => exact ⟨q + 1, L1, B1, O1, by omega, by go_num, H1, O1E, SR2, F1⟩
        case measure => simp [intOf]; omega
      | false =>
        go_upto_region 7 with fail
        go_region_held3 (fun w' => w'.cell? ⟨bs, q, none⟩ = some (.int .i64 (s q)))
          (first | exact cs | exact cellDr cs)
          (first | (go_at_call 33; (with_reducible refine (CD.out _ (by first | exact H.out | exact H.out.call ((Below.refl _ _).drew) | exact H.out.call (below_drewN (Below.refl _ _) _))).mono ?_); rintro e v1 ⟨rfl, st⟩; have st : Below wr.heap.size wr v1 := (by first | exact st | exact ((Below.refl _ _).drew).trans st | exact (below_drewN (Below.refl _ _) _).trans st); have H1 := Lib.hid (H.out.call st); have F1 := Lib.hid (FM.out.trans (Fm.call st)); replace cs := cellGr st cs; clear st))
        have co := H1.out.xo.cell
        have fo := H1.out.xO.frozen k
        have ci := H1.out.xO.cell (k := k) kn
        have k1 : (0 : Int) ≤ (k : Int) := by omega
        have k2 : (k : Int) < (n : Int) := by omega
        have H2 := Lib.hid (H1.out.setO GLh.out k q)
        have F2 := Lib.hid (F1.out.trans (Fm.set (M := GMod rb bl rt bs) ⟨rt, k, none⟩ (.int .i64 (q : Int)) (.inr (.inr (.inl rfl)))))
        clear H1 F1 H FM cs
        go_upto_region 9 with fail
        clear co fo ci
        generalize v1.setCell ⟨rt, k, none⟩ (.int .i64 (q : Int)) = v2 at *
        have cs := H2.out.xs.cell (k := q) (by omega)
        have fs := H2.out.xs.frozen q
        have ct := H2.out.xt.cell
        obtain ⟨xa, rfl, kx, cx⟩ := (NB.out _ F2.out) k (by have := HN.out; omega)
        rw [TK.out] at cx
        obtain ⟨y, hy⟩ : ∃ y, y = s q + t := ⟨_, rfl⟩
        have sq := HS.out q t1
        have wy : IntKind.i64.wrap (s q + t) = y := wI hy.symm (by omega) (by omega)
        have HY := Lib.hid hy
        have H3 := Lib.hid (H2.out.setS GLh.out q y)
        have F3 := Lib.hid (F2.out.trans (Fm.set (M := GMod rb bl rt bs) ⟨bs, q, none⟩ (.int .i64 y) (.inr (.inr (.inr rfl)))))
        clear hy H2 F2
        go_cut [] from 37 to 45 (fun wx => Hid (GM bt bp rb bb bl rt bo bs bg (some xa) n c m wx L1 (nv B1) (upd O1 k q) (upd s q y)) ∧ Hid (Fm (GMod rb bl rt bs) W wx))
        case first =>
          go_region_law (fail)
          all_goals
            go_wp2_with fail
            go_meet
            exact ⟨(by first | exact H3 | exact Lib.hid (H3.out.call ((Below.refl _ _).drew)) | exact Lib.hid (H3.out.call (below_drewN (Below.refl _ _) _))), (by first | exact F3 | exact Lib.hid (F3.out.trans (Fm.call ((Below.refl _ _).drew))) | exact Lib.hid (F3.out.trans (Fm.call (below_drewN (Below.refl _ _) _))))⟩
        case rest =>
          obtain ⟨H4, F4⟩ := hcut
          clear H3 F3 cs fs ct cx kx wy
          have cg := H4.out.xg.cell
          have cs := H4.out.xs.cell (k := q) (by omega)
          rw [show upd s q y q = y from if_pos rfl] at cs
          have wk : IntKind.i64.wrap ((k : Int) + 1) = (k : Int) + 1 := IntWalk.i64_in _ (by omega)
          have PO := Lib.hid (show ∀ j, j < k + 1 → upd O1 k q j = nv (P ++ [q]) j from fun j hj => by
            have lp := HP.out
            unfold upd
            by_cases e : j = k
            · subst e; rw [if_pos rfl]; simp [nv, lp]
            · rw [if_neg e, O1E.out j (by omega), HO.out j (by omega)]
              unfold nv
              rw [List.getD_eq_getElem?_getD, List.getD_eq_getElem?_getD, List.getElem?_append_left (by omega)])
          have SB := Lib.hid (show ∀ b, b < m → 0 ≤ upd s q y b ∧ upd s q y b ≤ (k + 1 : Nat) * 1073741824 from fun b hb => by
            have sb := HS.out b hb
            have := HY.out
            unfold upd
            split <;> omega)
          have MX := Lib.hid (show Sea.mx (upd s q y) m = max x y from MXE.out q y t1 (by have := HY.out; omega))
          have CI := fun W' g h => IH.out (P ++ [q]) L1 B1 (upd O1 k q) (upd s q y) W' (by simp; exact HP.out) g h PO.out SB.out
          by_cases hxy : x < y
          · have d3 : decide (x < y) = true := decide_eq_true hxy
            rw [MX.out, show max x y = y from by omega] at CI
            have CI := Lib.hid CI
            go_upto_region 10 with fail
            go_region_held3 (fun w' => w'.cell? ⟨bg, 0, none⟩ = some (.func (.func 32) #[] #[.pointer (some ⟨bl, 0, none⟩), .pointer (some ⟨bt, 0, none⟩), .pointer (some ⟨bb, 0, none⟩), .pointer (some ⟨bo, 0, none⟩), .pointer (some ⟨bp, 0, none⟩), .pointer (some ⟨bs, 0, none⟩), .pointer (some ⟨bg, 0, none⟩)]) ∧ w'.cell? ⟨bs, q, none⟩ = some (.int .i64 y))
              (first | exact ⟨cg, cs⟩ | exact ⟨cellDr cg, cellDr cs⟩)
              (first | (go_at_call 32; (with_reducible refine (CI.out _ (by first | exact H4.out | exact H4.out.call ((Below.refl _ _).drew) | exact H4.out.call (below_drewN (Below.refl _ _) _)) (by first | exact NB.out _ F4.out | exact NB.out _ (F4.out.trans (Fm.call ((Below.refl _ _).drew))) | exact NB.out _ (F4.out.trans (Fm.call (below_drewN (Below.refl _ _) _))))).mono ?_); rintro e w4 ⟨rfl, L2, B2, O3, g4, e4, r4, f4⟩; have H5 := Lib.hid g4; have F5 := Lib.hid (F4.out.trans ((show Fm (GMod rb bl rt bs) wc _ from by first | exact Fm.refl _ _ | exact Fm.call ((Below.refl _ _).drew) | exact Fm.call (below_drewN (Below.refl _ _) _)).trans f4)); have E4 := Lib.hid e4; have R4 := Lib.hid r4; replace cg := g4.xg.cell; replace cs := g4.xs.cell (k := q) (by omega); rw [show upd s q y q = y from if_pos rfl] at cs; clear g4 e4 r4 f4))
            clear cg CI
            go_upto_region 11 with fail
            have fs := H5.out.xs.frozen q
            have ct := H5.out.xt.cell
            obtain ⟨xb, exb, ky, cx⟩ := (NB.out _ F5.out) k (by have := HN.out; omega)
            cases exb
            rw [TK.out] at cx
            have wz : IntKind.i64.wrap (y - t) = s q := wI (by have := HY.out; omega) (by omega) (by omega)
            have H6 := Lib.hid ((H5.out.setS GLh.out q (s q)).ext (s' := s) (fun _ _ => rfl) (fun _ _ => rfl) (fun j _ => by
              unfold upd
              by_cases e : j = q
              · rw [if_pos e, e]
              · rw [if_neg e, if_neg e]))
            have F6 := Lib.hid (F5.out.trans (Fm.set (M := GMod rb bl rt bs) ⟨bs, q, none⟩ (.int .i64 (s q)) (.inr (.inr (.inr rfl)))))
            clear H5 F5
            have OE3 := Lib.hid (show ∀ j, j < k → O3 j = O j from fun j hj => by
              rw [E4.out j (by omega), ← O1E.out j hj]
              exact if_neg (by omega))
            clear E4
            have SR3 := Lib.hid (show Sea.Sr Sea.addS (fun s => Sea.mx s m) (fun _ => True) m (· < q + 1) (t :: ts) s P L B L2 B2 from SR.out.call (y := y) (by rw [HY.out]; exact Sea.addS_at (by omega)) t1 R4.out)
            clear SR R4
            go_region_law (fail)
            all_goals
              go_wp2_with fail
              go_roundw
              case rel => exact ⟨q + 1, L2, B2, O3, by omega, by go_num, (by first | exact H6 | exact Lib.hid (H6.out.call ((Below.refl _ _).drew)) | exact Lib.hid (H6.out.call (below_drewN (Below.refl _ _) _))), OE3, SR3, (by first | exact F6 | exact Lib.hid (F6.out.trans (Fm.call ((Below.refl _ _).drew))) | exact Lib.hid (F6.out.trans (Fm.call (below_drewN (Below.refl _ _) _))))⟩
              case measure => simp [intOf]; omega
          · have d3 : decide (x < y) = false := decide_eq_false hxy
            rw [MX.out, show max x y = x from by omega] at CI
            have CI := Lib.hid CI
            go_upto_region 10 with fail
            go_region_held3 (fun w' => w'.cell? ⟨bg, 0, none⟩ = some (.func (.func 32) #[] #[.pointer (some ⟨bl, 0, none⟩), .pointer (some ⟨bt, 0, none⟩), .pointer (some ⟨bb, 0, none⟩), .pointer (some ⟨bo, 0, none⟩), .pointer (some ⟨bp, 0, none⟩), .pointer (some ⟨bs, 0, none⟩), .pointer (some ⟨bg, 0, none⟩)]) ∧ w'.cell? ⟨bs, q, none⟩ = some (.int .i64 y))
              (first | exact ⟨cg, cs⟩ | exact ⟨cellDr cg, cellDr cs⟩)
              (first | (go_at_call 32; (with_reducible refine (CI.out _ (by first | exact H4.out | exact H4.out.call ((Below.refl _ _).drew) | exact H4.out.call (below_drewN (Below.refl _ _) _)) (by first | exact NB.out _ F4.out | exact NB.out _ (F4.out.trans (Fm.call ((Below.refl _ _).drew))) | exact NB.out _ (F4.out.trans (Fm.call (below_drewN (Below.refl _ _) _))))).mono ?_); rintro e w4 ⟨rfl, L2, B2, O3, g4, e4, r4, f4⟩; have H5 := Lib.hid g4; have F5 := Lib.hid (F4.out.trans ((show Fm (GMod rb bl rt bs) wc _ from by first | exact Fm.refl _ _ | exact Fm.call ((Below.refl _ _).drew) | exact Fm.call (below_drewN (Below.refl _ _) _)).trans f4)); have E4 := Lib.hid e4; have R4 := Lib.hid r4; replace cg := g4.xg.cell; replace cs := g4.xs.cell (k := q) (by omega); rw [show upd s q y q = y from if_pos rfl] at cs; clear g4 e4 r4 f4))
            clear cg CI
            go_upto_region 11 with fail
            have fs := H5.out.xs.frozen q
            have ct := H5.out.xt.cell
            obtain ⟨xb, exb, ky, cx⟩ := (NB.out _ F5.out) k (by have := HN.out; omega)
            cases exb
            rw [TK.out] at cx
            have wz : IntKind.i64.wrap (y - t) = s q := wI (by have := HY.out; omega) (by omega) (by omega)
            have H6 := Lib.hid ((H5.out.setS GLh.out q (s q)).ext (s' := s) (fun _ _ => rfl) (fun _ _ => rfl) (fun j _ => by
              unfold upd
              by_cases e : j = q
              · rw [if_pos e, e]
              · rw [if_neg e, if_neg e]))
            have F6 := Lib.hid (F5.out.trans (Fm.set (M := GMod rb bl rt bs) ⟨bs, q, none⟩ (.int .i64 (s q)) (.inr (.inr (.inr rfl)))))
            clear H5 F5
            have OE3 := Lib.hid (show ∀ j, j < k → O3 j = O j from fun j hj => by
              rw [E4.out j (by omega), ← O1E.out j hj]
              exact if_neg (by omega))
            clear E4
            have SR3 := Lib.hid (show Sea.Sr Sea.addS (fun s => Sea.mx s m) (fun _ => True) m (· < q + 1) (t :: ts) s P L B L2 B2 from SR.out.call (y := y) (by rw [HY.out]; exact Sea.addS_at (by omega)) t1 R4.out)
            clear SR R4
            go_region_law (fail)
            all_goals
              go_wp2_with fail
              go_roundw
              case rel => exact ⟨q + 1, L2, B2, O3, by omega, by go_num, (by first | exact H6 | exact Lib.hid (H6.out.call ((Below.refl _ _).drew)) | exact Lib.hid (H6.out.call (below_drewN (Below.refl _ _) _))), OE3, SR3, (by first | exact F6 | exact Lib.hid (F6.out.trans (Fm.call ((Below.refl _ _).drew))) | exact Lib.hid (F6.out.trans (Fm.call (below_drewN (Below.refl _ _) _))))⟩
              case measure => simp [intOf]; omega
    · obtain rfl : q = m := by omega
      have QF := Lib.hid (QE.out wr L1 B1 O1 H.out O1E.out SR.out FM.out)
      go_wp2_with fail
      go_end0
      exact QF.out
end Go.Proofs.Ythbgeikdamajlab

/- Press: Share. -/
namespace Go.Proofs.Ythbgeikdamajlab
open Go.RowKit Go.Proofs.Ythbgeikdamajlab.Prs Go.Proofs.Ythbgeikdamajlab.Stb
set_option linter.unusedVariables false
set_option linter.unusedSimpArgs false

theorem give_any {bt bp rb bb bl rt bo bs bg : Nat} (gl : GL bt bp rb bb bl rt bo bs bg) {p : Option Addr} {c m : Nat} {T : List Int} (hm : 1 ≤ m) (hm4 : m ≤ 4) (h12 : T.length ≤ 12) (ok : TmOk T T.length) (hp : ∀ x, p = some x → 0 < T.length → x.block < bt) :
    ∀ (ts : List Int) (k : Nat) (P : List Nat) (L : Int) (B : List Nat) (O s : Nat → Int) (W : World), T.drop k = ts → k ≤ T.length → P.length = k → GM bt bp rb bb bl rt bo bs bg p T.length c m W L (nv B) O s → NumR W p T → (∀ j, j < k → O j = nv P j) → (∀ b, b < m → 0 ≤ s b ∧ s b ≤ k * 1073741824) →
      Calls Try.prog 32 #[.int .i64 k, .int .i64 (Sea.mx s m), .pointer (some ⟨bl, 0, none⟩), .pointer (some ⟨bt, 0, none⟩), .pointer (some ⟨bb, 0, none⟩), .pointer (some ⟨bo, 0, none⟩), .pointer (some ⟨bp, 0, none⟩), .pointer (some ⟨bs, 0, none⟩), .pointer (some ⟨bg, 0, none⟩)] W (GQ bt bp rb bb bl rt bo bs bg p T.length c m k ts P L B O s W)
  | [], k, P, L, B, O, s, W, hT, hk, hP, h, nr, hO, hs => by
    by_cases hx : L ≤ Sea.mx s m
    · exact give_prune h hx
    · have e : k = T.length := by
        apply Classical.byContradiction; intro g
        have := List.drop_eq_nil_iff.1 hT
        omega
      subst e
      exact give_leaf gl h hP hO (by omega)
  | t :: ts, k, P, L, B, O, s, W, hT, hk, hP, h, nr, hO, hs => by
    by_cases hx : L ≤ Sea.mx s m
    · exact give_prune h hx
    · have kn : k < T.length := by
        apply Classical.byContradiction; intro g
        rw [List.drop_of_length_le (by omega)] at hT; cases hT
      refine give_step gl hm hm4 h12 ok hp t ts k P L B O s W hT hP h nr hO hs (by omega) ?_
      intro P' L' B' O' s' W' hP' h' nr' hO' hs'
      have e : T.drop (k + 1) = ts := by
        rw [List.drop_eq_getElem_cons kn] at hT
        exact (List.cons.inj hT).2
      have := give_any gl hm hm4 h12 ok hp ts (k + 1) P' L' B' O' s' W' e (by omega) hP' h' nr' hO' hs'
      exact this

theorem store_one' {v : Value} (hv : v.oneCell' = true) (W : World) (a : Addr) (h1 : (W.cell? a).isSome = true) (h2 : W.frozen? a = false) : (store a v .plain).run Try.prog W = .ok () (W.setCell a v) := by
  rw [run_store _ _ _ _ _ hv]
  cases h : W.cell? a with
  | none => rw [h] at h1; cases h1
  | some x => simp [h2]
/-- What Share answers. -/
def ShQ (T : List Int) (m : Int) (w : World) (e : Ending) (w' : World) : Prop := ∃ x v L, e = .returned (.tuple #[v, .int .i64 L, .int .i64 x]) ∧ TErr T m x ∧ Below w.heap.size w w' ∧ (x ≠ 0 → v = .slice none 0 0 ∧ L = 0) ∧
  (x = 0 → ∃ b E, v = .slice (some ⟨b, 0, none⟩) T.length T.length ∧ w.heap.size ≤ b ∧ NumR w' (some ⟨b, 0, none⟩) ((List.range T.length).map (nv E)) ∧ E.length = T.length ∧ Sea.BestS m.toNat T L E)

set_option maxRecDepth 100000 in
set_option maxHeartbeats 8000000 in
theorem Share_any (p : Option Addr) (c : Nat) (T : List Int) (m : Int) (w : World) (r : NumR w p T) (ln : T.length ≤ 9223372036854775807) :
    Calls Try.prog 14 #[.slice p T.length c, .int .i64 m] w (ShQ T m w) := by
  obtain ⟨i0, hi, hz0, hz1, hz2⟩ := info_parts intInfo
  have R := Lib.hid r
  have CT := Lib.hid (fun W (st : Below w.heap.size w W) => checkTimes_any p c T m W (r.below st) ln)
  have QE := Lib.hid (show ∀ x w', TErr T m x → x ≠ 0 → Below w.heap.size w w' → ShQ T m w (.returned (.tuple #[.slice none 0 0, .int .i64 0, .int .i64 x])) w' from fun x w' h g B => ⟨x, _, 0, rfl, h, B, fun _ => ⟨rfl, rfl⟩, fun e => absurd e g⟩)
  obtain ⟨n, hn⟩ : ∃ n, n = T.length := ⟨_, rfl⟩
  rw [← hn] at ln CT ⊢
  have HN := Lib.hid hn
  clear hn r
  have X0 := Lib.hid (show BX ((w.alloc (Obj.cells #[Value.slice p n c] 25)).alloc (Obj.cells #[Value.int .i64 m] 3)) w.heap.size 25 (.slice p n c) ∧ BX ((w.alloc (Obj.cells #[Value.slice p n c] 25)).alloc (Obj.cells #[Value.int .i64 m] 3)) (w.heap.size + 1) 3 (.int .i64 m) ∧ Below w.heap.size w ((w.alloc (Obj.cells #[Value.slice p n c] 25)).alloc (Obj.cells #[Value.int .i64 m] 3)) ∧ ((w.alloc (Obj.cells #[Value.slice p n c] 25)).alloc (Obj.cells #[Value.int .i64 m] 3)).heap.size = w.heap.size + 2 from
    ⟨heap_alloc2_old w _ _, heap_alloc2_new w _ _, ((Below.refl _ w).alloc (Nat.le_refl _) _).alloc (by simp) _, by simp⟩)
  go_enter Try.func14, Try.ntmps14
  go_upto_region 1 with fail
  generalize (w.alloc (Obj.cells #[Value.slice p n c] 25)).alloc (Obj.cells #[Value.int .i64 m] 3) = w1 at *
  have ct := X0.out.1.cell
  have cp := X0.out.2.1.cell
  go_wp2_with fail
  refine (CT.out w1 X0.out.2.2.1).mono ?_
  rintro e w2 ⟨x, rfl, TE, st⟩
  have TE := Lib.hid TE
  have X1 := Lib.hid (show BX w2 w.heap.size 25 (.slice p n c) ∧ BX w2 (w.heap.size + 1) 3 (.int .i64 m) ∧ Below w.heap.size w w2 ∧ w.heap.size + 2 ≤ w2.heap.size from
    ⟨X0.out.1.keep (st.block _ X0.out.1.lt), X0.out.2.1.keep (st.block _ X0.out.2.1.lt), X0.out.2.2.1.trans (st.mono X0.out.2.2.1.size), by have := st.size; have := X0.out.2.2.2; omega⟩)
  clear st X0 CT ct cp
  by_cases x0 : x = 0
  case neg =>
    have x1 : (x == 0) = false := by simpa using x0
    have x2 : decide (x = 0) = false := decide_eq_false x0
    have FF := Lib.hid (QE.out x w2 TE.out x0 X1.out.2.2.1)
    clear x0 QE
    go_wp2_with fail
    go_returns
    exact FF.out
  subst x0
  have ct := X1.out.1.cell
  obtain ⟨n12, m1, m4, tok⟩ := TE.out.good
  rw [← HN.out] at n12
  have TOK := Lib.hid tok
  clear tok QE
  go_upto_region 5 with (first
    | (at_make; refine wpList_make_full _ rfl _ _ 25 rfl w2.heap.size 3 i0 (.int .i64 0) 1 Try.underlying25 hi hz0 hz1 .i64 .i64 _ _ n rfl rfl (by omega) (by omega) (by rw [hz2]; omega) (by unfold maxLen; omega) (Nat.le_refl _) ?_; intro w3 hown0 hgrow0))
  rw [made_ints] at hown0
  have I3 := Lib.hid (IR.of hown0)
  have B3 := Lib.hid (show Below w2.heap.size w2 w3 from (Below.refl _ _).grown hgrow0 (Nat.le_refl _) (fun k e => by cases e))
  clear hown0 hgrow0
  have X4 := Lib.hid (show (BX ((w3.alloc (Obj.cells #[Value.slice (some ⟨w2.heap.size, 0, none⟩) n n] 25)).alloc (Obj.cells #[Value.int .i64 9223372036854775807] 3)) w.heap.size 25 (.slice p n c) ∧ BX ((w3.alloc (Obj.cells #[Value.slice (some ⟨w2.heap.size, 0, none⟩) n n] 25)).alloc (Obj.cells #[Value.int .i64 9223372036854775807] 3)) (w.heap.size + 1) 3 (.int .i64 m) ∧ IR ((w3.alloc (Obj.cells #[Value.slice (some ⟨w2.heap.size, 0, none⟩) n n] 25)).alloc (Obj.cells #[Value.int .i64 9223372036854775807] 3)) w2.heap.size 3 n (fun _ => 0) ∧ BX ((w3.alloc (Obj.cells #[Value.slice (some ⟨w2.heap.size, 0, none⟩) n n] 25)).alloc (Obj.cells #[Value.int .i64 9223372036854775807] 3)) w3.heap.size 25 (.slice (some ⟨w2.heap.size, 0, none⟩) n n) ∧ BX ((w3.alloc (Obj.cells #[Value.slice (some ⟨w2.heap.size, 0, none⟩) n n] 25)).alloc (Obj.cells #[Value.int .i64 9223372036854775807] 3)) (w3.heap.size + 1) 3 (.int .i64 9223372036854775807)) ∧ Below w2.heap.size w2 ((w3.alloc (Obj.cells #[Value.slice (some ⟨w2.heap.size, 0, none⟩) n n] 25)).alloc (Obj.cells #[Value.int .i64 9223372036854775807] 3)) ∧ ((w3.alloc (Obj.cells #[Value.slice (some ⟨w2.heap.size, 0, none⟩) n n] 25)).alloc (Obj.cells #[Value.int .i64 9223372036854775807] 3)).heap.size = w3.heap.size + 2 from by
    have k : ∀ q, q < w2.heap.size → ((w3.alloc (Obj.cells #[Value.slice (some ⟨w2.heap.size, 0, none⟩) n n] 25)).alloc (Obj.cells #[Value.int .i64 9223372036854775807] 3)).heap[q]? = w2.heap[q]? := fun q hq => by
      have := B3.out.size
      rw [Below.heap_alloc _ _ _ (by simp; omega), Below.heap_alloc _ _ _ (by omega)]
      exact B3.out.block q hq
    refine ⟨⟨X1.out.1.keep (k _ X1.out.1.lt), X1.out.2.1.keep (k _ X1.out.2.1.lt), I3.out.keep ?_, heap_alloc2_old w3 _ _, heap_alloc2_new w3 _ _⟩, (B3.out.alloc B3.out.size _).alloc (by have := B3.out.size; simp; omega) _, by simp⟩
    have := I3.out.lt
    rw [Below.heap_alloc _ _ _ (by simp; omega), Below.heap_alloc _ _ _ this])
  have HS := Lib.hid (show w2.heap.size < w3.heap.size ∧ w.heap.size + 2 ≤ w2.heap.size from ⟨I3.out.lt, X1.out.2.2.2⟩)
  clear ct I3
  generalize ((w3.alloc (Obj.cells #[Value.slice (some ⟨w2.heap.size, 0, none⟩) n n] 25)).alloc (Obj.cells #[Value.int .i64 9223372036854775807] 3)) = w4 at *
  have ct := X4.out.1.1.cell
  go_upto_region 6 with (first
    | (at_make; refine wpList_make_full _ rfl _ _ 25 rfl w4.heap.size 3 i0 (.int .i64 0) 1 Try.underlying25 hi hz0 hz1 .i64 .i64 _ _ n rfl rfl (by omega) (by omega) (by rw [hz2]; omega) (by unfold maxLen; omega) (Nat.le_refl _) ?_; intro w5 hown0 hgrow0))
  rw [made_ints] at hown0
  have I5 := Lib.hid (IR.of hown0)
  have B5 := Lib.hid (show Below w4.heap.size w4 w5 from (Below.refl _ _).grown hgrow0 (Nat.le_refl _) (fun k e => by cases e))
  clear hown0 hgrow0
  go_upto_region 8 with fail
  have HZ := Lib.hid (show w4.heap.size = w3.heap.size + 2 ∧ w4.heap.size < w5.heap.size from ⟨X4.out.2.2, I5.out.lt⟩)
  have K7 := Lib.hid (show (∀ q, q < w5.heap.size → (((w5.alloc (Obj.cells #[Value.slice (some ⟨w4.heap.size, 0, none⟩) n n] 25)).alloc (Obj.cells #[Value.int .i64 0, Value.int .i64 0, Value.int .i64 0, Value.int .i64 0] 60)).alloc (Obj.cells #[Value.nilFunc] 61)).heap[q]? = w5.heap[q]?) ∧ BX (((w5.alloc (Obj.cells #[Value.slice (some ⟨w4.heap.size, 0, none⟩) n n] 25)).alloc (Obj.cells #[Value.int .i64 0, Value.int .i64 0, Value.int .i64 0, Value.int .i64 0] 60)).alloc (Obj.cells #[Value.nilFunc] 61)) w5.heap.size 25 (.slice (some ⟨w4.heap.size, 0, none⟩) n n) ∧ IR (((w5.alloc (Obj.cells #[Value.slice (some ⟨w4.heap.size, 0, none⟩) n n] 25)).alloc (Obj.cells #[Value.int .i64 0, Value.int .i64 0, Value.int .i64 0, Value.int .i64 0] 60)).alloc (Obj.cells #[Value.nilFunc] 61)) (w5.heap.size + 1) 60 4 (fun _ => 0) ∧ BX (((w5.alloc (Obj.cells #[Value.slice (some ⟨w4.heap.size, 0, none⟩) n n] 25)).alloc (Obj.cells #[Value.int .i64 0, Value.int .i64 0, Value.int .i64 0, Value.int .i64 0] 60)).alloc (Obj.cells #[Value.nilFunc] 61)) (w5.heap.size + 1 + 1) 61 .nilFunc ∧ Below w5.heap.size w5 (((w5.alloc (Obj.cells #[Value.slice (some ⟨w4.heap.size, 0, none⟩) n n] 25)).alloc (Obj.cells #[Value.int .i64 0, Value.int .i64 0, Value.int .i64 0, Value.int .i64 0] 60)).alloc (Obj.cells #[Value.nilFunc] 61)) ∧ (((w5.alloc (Obj.cells #[Value.slice (some ⟨w4.heap.size, 0, none⟩) n n] 25)).alloc (Obj.cells #[Value.int .i64 0, Value.int .i64 0, Value.int .i64 0, Value.int .i64 0] 60)).alloc (Obj.cells #[Value.nilFunc] 61)).heap.size = w5.heap.size + 3 from by
    refine ⟨fun q hq => ?_, ?_, ?_, ?_, (((Below.refl _ _).alloc (Nat.le_refl _) _).alloc (by simp) _).alloc (by simp; omega) _, by simp⟩
    · rw [Below.heap_alloc _ _ _ (by simp; omega), Below.heap_alloc _ _ _ (by simp; omega), Below.heap_alloc _ _ _ (by omega)]
    · unfold BX
      rw [Below.heap_alloc _ _ _ (by simp; omega), Below.heap_alloc _ _ _ (by simp), heap_alloc_new]
    · unfold IR
      rw [Below.heap_alloc _ _ _ (by simp), heap_alloc2_new]; rfl
    · unfold BX
      have := heap_alloc_new ((w5.alloc (Obj.cells #[Value.slice (some ⟨w4.heap.size, 0, none⟩) n n] 25)).alloc (Obj.cells #[Value.int .i64 0, Value.int .i64 0, Value.int .i64 0, Value.int .i64 0] 60)) (Obj.cells #[Value.nilFunc] 61)
      simpa using this)
  generalize (((w5.alloc (Obj.cells #[Value.slice (some ⟨w4.heap.size, 0, none⟩) n n] 25)).alloc (Obj.cells #[Value.int .i64 0, Value.int .i64 0, Value.int .i64 0, Value.int .i64 0] 60)).alloc (Obj.cells #[Value.nilFunc] 61)) = w7 at *
  have X7 := Lib.hid (show BX w7 w.heap.size 25 (.slice p n c) ∧ BX w7 (w.heap.size + 1) 3 (.int .i64 m) ∧ IR w7 w2.heap.size 3 n (fun _ => 0) ∧ BX w7 w3.heap.size 25 (.slice (some ⟨w2.heap.size, 0, none⟩) n n) ∧ BX w7 (w3.heap.size + 1) 3 (.int .i64 9223372036854775807) ∧ IR w7 w4.heap.size 3 n (fun _ => 0) from by
    have k : ∀ q, q < w4.heap.size → w7.heap[q]? = w4.heap[q]? := fun q hq => (K7.out.1 q (Nat.lt_trans hq HZ.out.2)).trans (B5.out.block q hq)
    exact ⟨X4.out.1.1.keep (k _ X4.out.1.1.lt), X4.out.1.2.1.keep (k _ X4.out.1.2.1.lt), X4.out.1.2.2.1.keep (k _ X4.out.1.2.2.1.lt), X4.out.1.2.2.2.1.keep (k _ X4.out.1.2.2.2.1.lt), X4.out.1.2.2.2.2.keep (k _ X4.out.1.2.2.2.2.lt), I5.out.keep (K7.out.1 _ I5.out.lt)⟩)
  have B7 := Lib.hid (show Below w.heap.size w w7 from by
    have a := X1.out.2.2.1
    have h2 := HS.out
    have h3 := HZ.out
    exact ((a.trans (X4.out.2.1.mono (by omega))).trans (B5.out.mono (by omega))).trans (K7.out.2.2.2.2.1.mono (by omega)))
  clear X1 B3 X4 ct I5 B5
  obtain ⟨bb, hbb⟩ : ∃ b, b = w3.heap.size := ⟨_, rfl⟩
  obtain ⟨rb, hrb⟩ : ∃ b, b = w2.heap.size := ⟨_, rfl⟩
  obtain ⟨rt, hrt⟩ : ∃ b, b = w4.heap.size := ⟨_, rfl⟩
  obtain ⟨bo, hbo⟩ : ∃ b, b = w5.heap.size := ⟨_, rfl⟩
  obtain ⟨bt, hbt⟩ : ∃ b, b = w.heap.size := ⟨_, rfl⟩
  rw [← hbb] at HS HZ X7 ⊢
  rw [← hrb] at HS X7 ⊢
  rw [← hrt] at HZ X7 K7 ⊢
  rw [← hbo] at HZ K7 ⊢
  rw [← hbt] at HS X7 B7 ⊢
  have HBT := Lib.hid hbt
  clear hbb hrb hrt hbo hbt
  have GLh := Lib.hid (show GL bt (bt + 1) rb bb (bb + 1) rt bo (bo + 1) (bo + 1 + 1) from by
    have h2 := HS.out
    have h3 := HZ.out
    exact ⟨by omega, by omega, by omega, by omega, by omega, by omega, by omega, by omega⟩)
  obtain ⟨F, hF⟩ : ∃ F, F = Value.func (.func 32) #[] #[.pointer (some ⟨bb + 1, 0, none⟩), .pointer (some ⟨bt, 0, none⟩), .pointer (some ⟨bb, 0, none⟩), .pointer (some ⟨bo, 0, none⟩), .pointer (some ⟨bt + 1, 0, none⟩), .pointer (some ⟨bo + 1, 0, none⟩), .pointer (some ⟨bo + 1 + 1, 0, none⟩)] := ⟨_, rfl⟩
  have st8 : (store ⟨bo + 1 + 1, 0, none⟩ (Value.func (.func 32) #[] #[.pointer (some ⟨bb + 1, 0, none⟩), .pointer (some ⟨bt, 0, none⟩), .pointer (some ⟨bb, 0, none⟩), .pointer (some ⟨bo, 0, none⟩), .pointer (some ⟨bt + 1, 0, none⟩), .pointer (some ⟨bo + 1, 0, none⟩), .pointer (some ⟨bo + 1 + 1, 0, none⟩)]) .plain).run Try.prog w7 = .ok () (w7.setCell ⟨bo + 1 + 1, 0, none⟩ F) := by
    rw [← hF]
    exact store_one' (by rw [hF]; rfl) w7 _ (by rw [K7.out.2.2.2.1.cell]; rfl) K7.out.2.2.2.1.frozen
  have G8 := Lib.hid (show GM bt (bt + 1) rb bb (bb + 1) rt bo (bo + 1) (bo + 1 + 1) p n c m (w7.setCell ⟨bo + 1 + 1, 0, none⟩ F) 9223372036854775807 (nv []) (fun _ => 0) (fun _ => 0) from by
    have h2 := HS.out
    have h3 := HZ.out
    have k : ∀ q, q ≠ bo + 1 + 1 → (w7.setCell ⟨bo + 1 + 1, 0, none⟩ F).heap[q]? = w7.heap[q]? := fun q hq => Below.heap_setCell _ _ _ _ hq
    obtain ⟨x1, x2, x3, x4, x5, x6⟩ := X7.out
    obtain ⟨-, y1, y2, y3, -, -⟩ := K7.out
    exact ⟨x1.keep (k _ (by omega)), x2.keep (k _ (by omega)), (x3.keep (k _ (by omega))).ext (fun _ _ => rfl), x4.keep (k _ (by omega)), x5.keep (k _ (by omega)), x6.keep (k _ (by omega)), y1.keep (k _ (by omega)), y2.keep (k _ (by omega)), by rw [← hF]; exact y3.set F⟩)
  have B8 := Lib.hid (show Below bt w (w7.setCell ⟨bo + 1 + 1, 0, none⟩ F) from B7.out.setCell (by have h2 := HS.out; have h3 := HZ.out; show bt ≤ bo + 1 + 1; omega) _)
  have Z8 : bt < (w7.setCell ⟨bo + 1 + 1, 0, none⟩ F).heap.size := G8.out.xt.lt
  clear X7 K7 B7
  go_upto_region 9 with fail
  clear st8
  rw [← hF]
  generalize w7.setCell ⟨bo + 1 + 1, 0, none⟩ F = w8 at *
  have cg := G8.out.xg.cell
  have mx0 : Sea.mx (fun _ => 0) m.toNat = 0 := Int.le_antisymm (Sea.mx_le.2 ⟨Int.le_refl _, fun _ _ => Int.le_refl _⟩) (Sea.mx_nonneg _ _)
  have mN : (m.toNat : Int) = m := by omega
  have hp := Lib.hid (show ∀ x, p = some x → 0 < T.length → x.block < bt from fun x e h0 => by
    obtain ⟨y, e', k, _⟩ := R.out 0 h0
    rw [e] at e'; cases e'; rw [HBT.out]; exact k)
  have RT := Lib.hid (R.out.below (by rw [HBT.out] at B8; exact B8.out))
  have GC := Lib.hid (give_any (m := m.toNat) GLh.out (by omega) (by omega) (by rw [← HN.out]; exact n12) TOK.out hp.out T 0 [] 9223372036854775807 [] (fun _ => 0) (fun _ => 0) w8 rfl (Nat.zero_le _) rfl (by rw [mN, ← HN.out]; exact G8.out) RT.out (fun j hj => by omega) (fun b _ => by simp))
  rw [mx0, ← HN.out] at GC
  have SX := Lib.hid (Sea.share_ex (ts := T) (m := m.toNat) (by rw [← HN.out]; exact n12) (fun t ht => by obtain ⟨i, hi, e⟩ := mem_gi ht; rw [← e]; exact TOK.out i hi) (by omega))
  clear hF RT hp G8 mx0
  go_wp2_with fail
  refine (GC.out).mono ?_
  rintro e w9 ⟨rfl, L, E, O', g9, -, sr, f9⟩
  rw [mN] at g9
  have G9 := Lib.hid g9
  have BS := Lib.hid (show Sea.BestS m.toNat T L E from sr.best SX.out)
  have B9 := Lib.hid (show Below w.heap.size w w9 from by
    rw [← HBT.out]
    exact B8.out.trans ⟨f9.os, f9.tape, f9.output, f9.size, fun k hk => f9.block k (by omega) (GLh.out.mod hk)⟩)
  have FF := Lib.hid (show ∀ k, ShQ T m w (.returned (.tuple #[.slice (some ⟨rb, 0, none⟩) n n, .int .i64 L, .int .i64 0])) (w9.drewN k) from fun k =>
    ⟨0, _, L, rfl, TE.out, below_drewN B9.out _, fun h => absurd rfl h, fun _ => ⟨rb, E, by rw [HN.out], by rw [← HBT.out]; have := HS.out; omega, by rw [← HN.out]; exact (show IR (w9.drewN k) rb 3 n (nv E) from G9.out.xB).num (Nat.le_refl _), by
      obtain ⟨s', fs, _⟩ := BS.out.fin_
      exact Sea.fin_len fs, BS.out⟩⟩)
  have cb := G9.out.xb.cell
  have cl := G9.out.xl.cell
  clear g9 sr f9 GC SX BS cg B8 Z8
  go_wp2_with fail
  go_quiet (fail)
  go_wp2_with fail
  go_returns
  exact FF.out _
end Go.Proofs.Ythbgeikdamajlab
