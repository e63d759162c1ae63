/- Press: the search of Share. -/
import Derived.Test.YthbgeikdamajlabSJ0
import Derived.Deep.RegionLaw
namespace Go.Proofs.Ythbgeikdamajlab
open Go.RowKit Go.Proofs.Ythbgeikdamajlab.Prs Go.Proofs.Ythbgeikdamajlab.Stb
set_option linter.unusedVariables false
set_option linter.unusedSimpArgs false

theorem wpList_copy_ir {Pg : Program} {w : World} {ops : Array Oper} {rest : List Oper} {o : Oper} {a : Act} {Q : Exit → Act → World → Prop} (hgd : o.guard = none) (d s : Operand) (dT sT : TypeId)
    (ho : o.op = .call { callee := .builtin .copy, args := #[d, s], argTypes := #[dT, sT] }) (elem : TypeId) (hu : Pg.underlying dT = some (.slice elem)) (hsz : (Pg.info? elem).map (·.size) = some 1)
    (g h n : Nat) (t t' : TypeId) (f f' : Nat → Int) (hd : a.eval d = .slice (some ⟨g, 0, none⟩) n n) (hs : a.eval s = .slice (some ⟨h, 0, none⟩) n n) (ig : IR w g t n f) (ih : IR w h t' n f')
    (hK : ∀ w', IR w' g t n f' → Fm (fun k => k = g) w w' → wpList Pg ops Q rest (a.put o.dst (goInt n)) w') : wpList Pg ops Q (o :: rest) a w := by
  obtain ⟨cs, hcs⟩ : ∃ cs, cs = (List.range n).map fun k => Value.int .i64 (f' k) := ⟨_, rfl⟩
  have len : cs.length = n := by rw [hcs]; simp
  have add : ∀ j, (Addr.mk h 0 none).add j = ⟨h, j, none⟩ := fun j => by
    unfold Addr.add
    split
    · next h => subst h; rfl
    · simp
  refine wpList_copy_own hgd d s dT sT ho elem hu hsz g 0 n n ⟨h, 0, none⟩ n n hd hs _ t ig cs (by rw [len]; simp) ?_ (by simp [len]) ?_ ?_
  · intro j v hj
    have hl : j < n := by rw [← len]; exact (List.getElem?_eq_some_iff.1 hj).1
    rw [add, ih.cell hl]
    rw [hcs] at hj
    simpa [hl] using hj
  · intro v hv
    rw [hcs] at hv
    obtain ⟨k, _, rfl⟩ := List.mem_map.1 hv
    rfl
  · rw [len]
    refine hK _ ?_ (Fm.setRow g _ rfl)
    unfold IR
    rw [setRow_heap w g _ _ t (0, 0) ig]
    congr 2
    simp [len, hcs]
theorem intSize : (Try.prog.info? 3).map (·.size) = some 1 := by kernel_rfl

/-- The blocks of a search, in the order in which they were made. -/
structure GL (bt bp rb bb bl rt bo bs bg : Nat) : Prop where
  a1 : bt < bp
  a2 : bp < rb
  a3 : rb < bb
  a4 : bb < bl
  a5 : bl < rt
  a6 : rt < bo
  a7 : bo < bs
  a8 : bs < bg
def GMod (rb bl rt bs : Nat) (k : Nat) : Prop := k = rb ∨ k = bl ∨ k = rt ∨ k = bs
/-- The search's memory. -/
structure GM (bt bp rb bb bl rt bo bs bg : Nat) (p : Option Addr) (n c : Nat) (m : Int) (W : World) (L : Int) (B O s : Nat → Int) : Prop where
  xt : BX W bt 25 (.slice p n c)
  xp : BX W bp 3 (.int .i64 m)
  xB : IR W rb 3 n B
  xb : BX W bb 25 (.slice (some ⟨rb, 0, none⟩) n n)
  xl : BX W bl 3 (.int .i64 L)
  xO : IR W rt 3 n O
  xo : BX W bo 25 (.slice (some ⟨rt, 0, none⟩) n n)
  xs : IR W bs 60 4 s
  xg : BX W bg 61 (.func (.func 32) #[] #[.pointer (some ⟨bl, 0, none⟩), .pointer (some ⟨bt, 0, none⟩), .pointer (some ⟨bb, 0, none⟩), .pointer (some ⟨bo, 0, none⟩), .pointer (some ⟨bp, 0, none⟩), .pointer (some ⟨bs, 0, none⟩), .pointer (some ⟨bg, 0, none⟩)])
section
variable {bt bp rb bb bl rt bo bs bg : Nat} {p : Option Addr} {n c : Nat} {m : Int} {W W' : World} {L : Int} {B O s : Nat → Int}
theorem GM.setL (h : GM bt bp rb bb bl rt bo bs bg p n c m W L B O s) (g : GL bt bp rb bb bl rt bo bs bg) (x : Int) : GM bt bp rb bb bl rt bo bs bg p n c m (W.setCell ⟨bl, 0, none⟩ (.int .i64 x)) x B O s := by
  obtain ⟨a1, a2, a3, a4, a5, a6, a7, a8⟩ := g
  have k : ∀ q, q ≠ bl → (W.setCell ⟨bl, 0, none⟩ (.int .i64 x)).heap[q]? = W.heap[q]? := fun q hq => Below.heap_setCell _ _ _ _ hq
  exact ⟨h.xt.keep (k _ (by omega)), h.xp.keep (k _ (by omega)), h.xB.keep (k _ (by omega)), h.xb.keep (k _ (by omega)), h.xl.set _, h.xO.keep (k _ (by omega)), h.xo.keep (k _ (by omega)), h.xs.keep (k _ (by omega)), h.xg.keep (k _ (by omega))⟩
theorem GM.setO (h : GM bt bp rb bb bl rt bo bs bg p n c m W L B O s) (g : GL bt bp rb bb bl rt bo bs bg) (j : Nat) (x : Int) : GM bt bp rb bb bl rt bo bs bg p n c m (W.setCell ⟨rt, j, none⟩ (.int .i64 x)) L B (upd O j x) s := by
  obtain ⟨a1, a2, a3, a4, a5, a6, a7, a8⟩ := g
  have k : ∀ q, q ≠ rt → (W.setCell ⟨rt, j, none⟩ (.int .i64 x)).heap[q]? = W.heap[q]? := fun q hq => Below.heap_setCell _ _ _ _ hq
  exact ⟨h.xt.keep (k _ (by omega)), h.xp.keep (k _ (by omega)), h.xB.keep (k _ (by omega)), h.xb.keep (k _ (by omega)), h.xl.keep (k _ (by omega)), h.xO.set _ _, h.xo.keep (k _ (by omega)), h.xs.keep (k _ (by omega)), h.xg.keep (k _ (by omega))⟩
theorem GM.setS (h : GM bt bp rb bb bl rt bo bs bg p n c m W L B O s) (g : GL bt bp rb bb bl rt bo bs bg) (j : Nat) (x : Int) : GM bt bp rb bb bl rt bo bs bg p n c m (W.setCell ⟨bs, j, none⟩ (.int .i64 x)) L B O (upd s j x) := by
  obtain ⟨a1, a2, a3, a4, a5, a6, a7, a8⟩ := g
  have k : ∀ q, q ≠ bs → (W.setCell ⟨bs, j, none⟩ (.int .i64 x)).heap[q]? = W.heap[q]? := fun q hq => Below.heap_setCell _ _ _ _ hq
  exact ⟨h.xt.keep (k _ (by omega)), h.xp.keep (k _ (by omega)), h.xB.keep (k _ (by omega)), h.xb.keep (k _ (by omega)), h.xl.keep (k _ (by omega)), h.xO.keep (k _ (by omega)), h.xo.keep (k _ (by omega)), h.xs.set _ _, h.xg.keep (k _ (by omega))⟩
theorem GM.copy (h : GM bt bp rb bb bl rt bo bs bg p n c m W L B O s) (g : GL bt bp rb bb bl rt bo bs bg) (i : IR W' rb 3 n O) (f : Fm (fun k => k = rb) W W') : GM bt bp rb bb bl rt bo bs bg p n c m W' L O O s := by
  obtain ⟨a1, a2, a3, a4, a5, a6, a7, a8⟩ := g
  exact ⟨h.xt.keep (f.block _ h.xt.lt (by omega)), h.xp.keep (f.block _ h.xp.lt (by omega)), i, h.xb.keep (f.block _ h.xb.lt (by omega)), h.xl.keep (f.block _ h.xl.lt (by omega)), h.xO.keep (f.block _ h.xO.lt (by omega)), h.xo.keep (f.block _ h.xo.lt (by omega)), h.xs.keep (f.block _ h.xs.lt (by omega)), h.xg.keep (f.block _ h.xg.lt (by omega))⟩
theorem GM.call (h : GM bt bp rb bb bl rt bo bs bg p n c m W L B O s) (f : Below W.heap.size W W') : GM bt bp rb bb bl rt bo bs bg p n c m W' L B O s :=
  ⟨h.xt.keep (f.block _ h.xt.lt), h.xp.keep (f.block _ h.xp.lt), h.xB.keep (f.block _ h.xB.lt), h.xb.keep (f.block _ h.xb.lt), h.xl.keep (f.block _ h.xl.lt), h.xO.keep (f.block _ h.xO.lt), h.xo.keep (f.block _ h.xo.lt), h.xs.keep (f.block _ h.xs.lt), h.xg.keep (f.block _ h.xg.lt)⟩
theorem GM.ext {B' O' s' : Nat → Int} (h : GM bt bp rb bb bl rt bo bs bg p n c m W L B O s) (e1 : ∀ k, k < n → B k = B' k) (e2 : ∀ k, k < n → O k = O' k) (e3 : ∀ k, k < 4 → s k = s' k) : GM bt bp rb bb bl rt bo bs bg p n c m W L B' O' s' :=
  ⟨h.xt, h.xp, h.xB.ext e1, h.xb, h.xl, h.xO.ext e2, h.xo, h.xs.ext e3, h.xg⟩
end
/-- A list of numbers as a row's values. -/
def nv (B : List Nat) (j : Nat) : Int := (B.getD j 0 : Nat)
/-- What a search leaves. -/
def GQ (bt bp rb bb bl rt bo bs bg : Nat) (p : Option Addr) (n c m k : Nat) (ts : List Int) (P : List Nat) (L : Int) (B : List Nat) (O s : Nat → Int) (W : World) (e : Ending) (W' : World) : Prop :=
  e = .returned (.tuple #[]) ∧ ∃ (L' : Int) (B' : List Nat) (O' : Nat → Int), GM bt bp rb bb bl rt bo bs bg p n c m W' L' (nv B') O' s ∧ (∀ j, j < k → O' j = O j) ∧ Sea.Sr Sea.addS (fun s => Sea.mx s m) (fun _ => True) m (fun _ => True) ts s P L B L' B' ∧ Fm (GMod rb bl rt bs) W W'

set_option maxRecDepth 100000 in
set_option maxHeartbeats 8000000 in
theorem give_prune {bt bp rb bb bl rt bo bs bg : Nat} {p : Option Addr} {n c m k : Nat} {ts : List Int} {P : List Nat} {L : Int} {B : List Nat} {O s : Nat → Int} {W : World} (h : GM bt bp rb bb bl rt bo bs bg p n c m W L (nv B) O s) (hx : L ≤ Sea.mx s m) :
    Calls Try.prog 32 #[.int .i64 k, .int .i64 (Sea.mx s m), .pointer (some ⟨bl, 0, none⟩), .pointer (some ⟨bt, 0, none⟩), .pointer (some ⟨bb, 0, none⟩), .pointer (some ⟨bo, 0, none⟩), .pointer (some ⟨bp, 0, none⟩), .pointer (some ⟨bs, 0, none⟩), .pointer (some ⟨bg, 0, none⟩)] W
      (GQ bt bp rb bb bl rt bo bs bg p n c m k ts P L B O s W) := by
  have cl := h.xl.cell
  have Q := Lib.hid (show ∀ j : Nat, GQ bt bp rb bb bl rt bo bs bg p n c m k ts P L B O s W (.returned (.tuple #[])) W from fun _ => ⟨rfl, L, B, O, h, fun _ _ => rfl, Sea.Sr.prune (Sea.addS_mono m) hx, Fm.refl _ _⟩)
  have d1 : decide (L ≤ Sea.mx s m) = true := decide_eq_true hx
  clear h hx
  generalize Sea.mx s m = x at *
  go_enter Try.func32, Try.ntmps32
  go_wp2_with fail
  go_end0
  exact Q.out 0

set_option maxRecDepth 100000 in
set_option maxHeartbeats 8000000 in
theorem give_leaf {bt bp rb bb bl rt bo bs bg : Nat} (gl : GL bt bp rb bb bl rt bo bs bg) {p : Option Addr} {n c m : Nat} {P : List Nat} {L : Int} {B : List Nat} {O s : Nat → Int} {W : World} (h : GM bt bp rb bb bl rt bo bs bg p n c m W L (nv B) O s) (hP : P.length = n) (hO : ∀ j, j < n → O j = nv P j) (hx : Sea.mx s m < L) :
    Calls Try.prog 32 #[.int .i64 n, .int .i64 (Sea.mx s m), .pointer (some ⟨bl, 0, none⟩), .pointer (some ⟨bt, 0, none⟩), .pointer (some ⟨bb, 0, none⟩), .pointer (some ⟨bo, 0, none⟩), .pointer (some ⟨bp, 0, none⟩), .pointer (some ⟨bs, 0, none⟩), .pointer (some ⟨bg, 0, none⟩)] W
      (GQ bt bp rb bb bl rt bo bs bg p n c m n [] P L B O s W) := by
  have cl := h.xl.cell
  have ct := h.xt.cell
  have cb := h.xb.cell
  have co := h.xo.cell
  have H := Lib.hid h
  have HX := Lib.hid hx
  have HO := Lib.hid hO
  have d1 : decide (L ≤ Sea.mx s m) = false := decide_eq_false (by omega)
  have d2 : ((n : Int) == (n : Int)) = true := by simp
  clear h hx hO
  have Q := Lib.hid (show ∀ W', GM bt bp rb bb bl rt bo bs bg p n c m W' (Sea.mx s m) O O s → Fm (GMod rb bl rt bs) W W' → GQ bt bp rb bb bl rt bo bs bg p n c m n [] P L B O s W (.returned (.tuple #[])) W' from fun W' g f =>
    ⟨rfl, _, P, O, g.ext HO.out (fun _ _ => rfl) (fun _ _ => rfl), fun _ _ => rfl, Sea.Sr.leaf HX.out trivial, f⟩)
  generalize Sea.mx s m = x at *
  go_enter Try.func32, Try.ntmps32
  go_wp2_with (first
    | (refine wpList_copy_ir rfl _ _ 25 25 rfl 3 Try.underlying25 intSize rb rt n 3 3 (nv B) O rfl rfl H.out.xB H.out.xO ?_))
  intro w1 i1 f1
  have H1 := Lib.hid (H.out.copy gl i1 f1)
  have F1 := Lib.hid f1
  replace cl := H1.out.xl.cell
  have fl := H1.out.xl.frozen
  have H2 := Lib.hid (H1.out.setL gl x)
  have F2 := Lib.hid (show Fm (GMod rb bl rt bs) W (w1.setCell ⟨bl, 0, none⟩ (.int .i64 x)) from
    (show Fm (GMod rb bl rt bs) W w1 from ⟨f1.os, f1.tape, f1.output, f1.size, fun k hk hm => f1.block k hk (fun e => hm (.inl e))⟩).trans (Fm.set _ _ (.inr (.inl rfl))))
  clear i1 f1 ct cb co
  go_wp2_with fail
  go_end0
  exact Q.out _ H2.out F2.out
end Go.Proofs.Ythbgeikdamajlab
