/- Flow: the program's search for a blend: its memory; a leaf. -/
import Derived.Test.YtapffmaihkimkaaFP3
import Derived.Test.YtapffmaihkimkaaShelf
namespace Go.Proofs.Ytapffmaihkimkaa
open Go.RowKit
set_option linter.unusedVariables false
set_option linter.unusedSimpArgs false

theorem NmR.fm {M : Nat → Prop} {W W' : World} {p : Option Addr} {n : Nat} {T : Nat → Int} (r : NmR W p n T) (f : Fm M W W') (hp : ∀ x, p = some x → 0 < n → ¬ M x.block) : NmR W' p n T := fun i h => by
  obtain ⟨x, e, k, c⟩ := r i h
  refine ⟨x, e, Nat.lt_of_lt_of_le k f.size, ?_⟩
  rw [← c]
  exact World.cell?_of_block (w := W) (a := x.add i) (by rw [addB]; exact f.block _ k (hp x e (by omega)))
theorem clone_any (g n : Nat) (t : TypeId) (O : Nat → Int) (w : World) (h : IR w g t n O) (n1 : 1 ≤ n) (ln : n ≤ 1000) :
    Calls Try.prog 14 #[.slice (some ⟨g, 0, none⟩) n n] w fun e w' => ∃ a c, e = .returned (.slice (some ⟨a, 0, none⟩) n c) ∧ w.heap.size ≤ a ∧ NmR w' (some ⟨a, 0, none⟩) n O ∧ Below w.heap.size w w' := by
  refine (Try.slices_Clone_int g 0 n n ((List.range n).map O) w (by simp) (by omega) (fun j hj => ?_)).mono ?_
  · have hj' : j < n := by simpa using hj
    rw [Nat.zero_add, h.cell hj']
    simp [List.getD_eq_getElem?_getD, hj']
  · rintro e w' ⟨v, rfl, own, _, st⟩
    rcases own.2 with ⟨_, e⟩ | ⟨a, cap, cur, rfl, ha, hg, hn, _, hs, ht⟩
    · omega
    · refine ⟨a, cap, rfl, ha, fun i hi => ⟨⟨a, 0, none⟩, rfl, (Array.getElem?_eq_some_iff.1 hg).1, ?_⟩, st⟩
      rw [add0]
      have e : (cur.toList.take (n * 1))[i]? = some (Value.int .i64 (O i)) := by rw [ht]; simp [hi]
      rw [List.getElem?_take, if_pos (by omega)] at e
      simp only [World.cell?, hg]
      simpa using e
/-- A list of numbers as a row's values. -/
def nm (ys : List Int) (j : Nat) : Int := ys.getD j 0
/-- The boxes and rows of the search, in the order in which they were made. -/
structure XL (b1 b2 b3 b4 b5 b6 b7 b8 b9 b10 b11 : Nat) : Prop where
  a1 : b1 < b2
  a2 : b2 < b3
  a3 : b3 < b4
  a4 : b4 < b5
  a5 : b5 < b6
  a6 : b6 < b7
  a7 : b7 < b8
  a8 : b8 < b9
  a9 : b9 < b10
  a10 : b10 < b11
def XMod (b7 b8 b9 k : Nat) : Prop := k = b7 ∨ k = b8 ∨ k = b9
/-- The search's memory. -/
structure XM (b1 b2 b3 b4 b5 b6 b7 b8 b9 b10 b11 : Nat) (p : Option Addr) (n c : Nat) (b l h : Int) (f : Nat → Int) (W : World) (v : Value) (L : Int) (O : Nat → Int) : Prop where
  x1 : BX W b1 22 (.slice p n c)
  x2 : BX W b2 3 (.int .i64 b)
  x3 : BX W b3 3 (.int .i64 l)
  x4 : BX W b4 3 (.int .i64 h)
  x5 : IR W b5 3 (n + 1) f
  x6 : BX W b6 24 (.slice (some ⟨b5, 0, none⟩) (n + 1) (n + 1))
  x7 : BX W b7 24 v
  x8 : BX W b8 3 (.int .i64 L)
  x9 : IR W b9 3 n O
  x10 : BX W b10 24 (.slice (some ⟨b9, 0, none⟩) n n)
  x11 : BX W b11 45 (.func (.func 13) #[] #[.pointer (some ⟨b1, 0, none⟩), .pointer (some ⟨b3, 0, none⟩), .pointer (some ⟨b2, 0, none⟩), .pointer (some ⟨b4, 0, none⟩), .pointer (some ⟨b7, 0, none⟩), .pointer (some ⟨b8, 0, none⟩), .pointer (some ⟨b10, 0, none⟩), .pointer (some ⟨b6, 0, none⟩), .pointer (some ⟨b11, 0, none⟩)])
section
variable {b1 b2 b3 b4 b5 b6 b7 b8 b9 b10 b11 : Nat} {p : Option Addr} {n c : Nat} {b l h : Int} {f : Nat → Int} {W W' : World} {v : Value} {L : Int} {O : Nat → Int}
theorem XM.call (x : XM b1 b2 b3 b4 b5 b6 b7 b8 b9 b10 b11 p n c b l h f W v L O) (st : Below W.heap.size W W') : XM b1 b2 b3 b4 b5 b6 b7 b8 b9 b10 b11 p n c b l h f W' v L O :=
  ⟨x.x1.keep (st.block _ x.x1.lt), x.x2.keep (st.block _ x.x2.lt), x.x3.keep (st.block _ x.x3.lt), x.x4.keep (st.block _ x.x4.lt), x.x5.keep (st.block _ x.x5.lt), x.x6.keep (st.block _ x.x6.lt), x.x7.keep (st.block _ x.x7.lt), x.x8.keep (st.block _ x.x8.lt), x.x9.keep (st.block _ x.x9.lt), x.x10.keep (st.block _ x.x10.lt), x.x11.keep (st.block _ x.x11.lt)⟩
theorem XM.setV (x : XM b1 b2 b3 b4 b5 b6 b7 b8 b9 b10 b11 p n c b l h f W v L O) (xl : XL b1 b2 b3 b4 b5 b6 b7 b8 b9 b10 b11) (u : Value) : XM b1 b2 b3 b4 b5 b6 b7 b8 b9 b10 b11 p n c b l h f (W.setCell ⟨b7, 0, none⟩ u) u L O := by
  obtain ⟨a1, a2, a3, a4, a5, a6, a7, a8, a9, a10⟩ := xl
  have k : ∀ q, q ≠ b7 → (W.setCell ⟨b7, 0, none⟩ u).heap[q]? = W.heap[q]? := fun q hq => Below.heap_setCell _ _ _ _ hq
  exact ⟨x.x1.keep (k _ (by omega)), x.x2.keep (k _ (by omega)), x.x3.keep (k _ (by omega)), x.x4.keep (k _ (by omega)), x.x5.keep (k _ (by omega)), x.x6.keep (k _ (by omega)), x.x7.set _, x.x8.keep (k _ (by omega)), x.x9.keep (k _ (by omega)), x.x10.keep (k _ (by omega)), x.x11.keep (k _ (by omega))⟩
theorem XM.setL (x : XM b1 b2 b3 b4 b5 b6 b7 b8 b9 b10 b11 p n c b l h f W v L O) (xl : XL b1 b2 b3 b4 b5 b6 b7 b8 b9 b10 b11) (u : Int) : XM b1 b2 b3 b4 b5 b6 b7 b8 b9 b10 b11 p n c b l h f (W.setCell ⟨b8, 0, none⟩ (.int .i64 u)) v u O := by
  obtain ⟨a1, a2, a3, a4, a5, a6, a7, a8, a9, a10⟩ := xl
  have k : ∀ q, q ≠ b8 → (W.setCell ⟨b8, 0, none⟩ (.int .i64 u)).heap[q]? = W.heap[q]? := fun q hq => Below.heap_setCell _ _ _ _ hq
  exact ⟨x.x1.keep (k _ (by omega)), x.x2.keep (k _ (by omega)), x.x3.keep (k _ (by omega)), x.x4.keep (k _ (by omega)), x.x5.keep (k _ (by omega)), x.x6.keep (k _ (by omega)), x.x7.keep (k _ (by omega)), x.x8.set _, x.x9.keep (k _ (by omega)), x.x10.keep (k _ (by omega)), x.x11.keep (k _ (by omega))⟩
theorem XM.setO (x : XM b1 b2 b3 b4 b5 b6 b7 b8 b9 b10 b11 p n c b l h f W v L O) (xl : XL b1 b2 b3 b4 b5 b6 b7 b8 b9 b10 b11) (j : Nat) (u : Int) : XM b1 b2 b3 b4 b5 b6 b7 b8 b9 b10 b11 p n c b l h f (W.setCell ⟨b9, j, none⟩ (.int .i64 u)) v L (upd O j u) := by
  obtain ⟨a1, a2, a3, a4, a5, a6, a7, a8, a9, a10⟩ := xl
  have k : ∀ q, q ≠ b9 → (W.setCell ⟨b9, j, none⟩ (.int .i64 u)).heap[q]? = W.heap[q]? := fun q hq => Below.heap_setCell _ _ _ _ hq
  exact ⟨x.x1.keep (k _ (by omega)), x.x2.keep (k _ (by omega)), x.x3.keep (k _ (by omega)), x.x4.keep (k _ (by omega)), x.x5.keep (k _ (by omega)), x.x6.keep (k _ (by omega)), x.x7.keep (k _ (by omega)), x.x8.keep (k _ (by omega)), x.x9.set _ _, x.x10.keep (k _ (by omega)), x.x11.keep (k _ (by omega))⟩
theorem XL.mod (xl : XL b1 b2 b3 b4 b5 b6 b7 b8 b9 b10 b11) {q : Nat} (h : q < b1 ∨ b11 < q) : ¬ XMod b7 b8 b9 q := by
  obtain ⟨a1, a2, a3, a4, a5, a6, a7, a8, a9, a10⟩ := xl
  unfold XMod
  omega
end
/-- The best so far, in memory. -/
def BestIs (W : World) (g0 n : Nat) (v : Value) (L : Int) (s : Bl.Best) : Prop := (s = none ∧ v = .slice none 0 0 ∧ L = 0) ∨ ∃ ys g c, s = some (ys, L) ∧ v = .slice (some ⟨g, 0, none⟩) n c ∧ g0 < g ∧ ys.length = n ∧ NmR W (some ⟨g, 0, none⟩) n (nm ys)
theorem BestIs.fm {M : Nat → Prop} {W W' : World} {g0 n : Nat} {v : Value} {L : Int} {s : Bl.Best} (h : BestIs W g0 n v L s) (f : Fm M W W') (hm : ∀ g, g0 < g → ¬ M g) : BestIs W' g0 n v L s := by
  rcases h with h | ⟨ys, g, c, h1, h2, h3, h4, h5⟩
  · exact .inl h
  · exact .inr ⟨ys, g, c, h1, h2, h3, h4, h5.fm f (fun x e _ => by cases e; exact hm _ h3)⟩
/-- What the search leaves. -/
def XQ (b1 b2 b3 b4 b5 b6 b7 b8 b9 b10 b11 : Nat) (p : Option Addr) (n c : Nat) (b l h : Int) (f : Nat → Int) (k : Nat) (s' : Bl.Best) (O : Nat → Int) (W : World) (e : Ending) (W' : World) : Prop :=
  e = .returned (.tuple #[]) ∧ ∃ (v' : Value) (L' : Int) (O' : Nat → Int), XM b1 b2 b3 b4 b5 b6 b7 b8 b9 b10 b11 p n c b l h f W' v' L' O' ∧ BestIs W' b11 n v' L' s' ∧ (∀ j, j < k → O' j = O j) ∧ Fm (XMod b7 b8 b9) W W'
theorem XQ.mono {b1 b2 b3 b4 b5 b6 b7 b8 b9 b10 b11 : Nat} {p : Option Addr} {n c : Nat} {b l h : Int} {f : Nat → Int} {k k' : Nat} {s' : Bl.Best} {O : Nat → Int} {W : World} {e : Ending} {W' : World} (q : XQ b1 b2 b3 b4 b5 b6 b7 b8 b9 b10 b11 p n c b l h f k s' O W e W') (hk : k' ≤ k) : XQ b1 b2 b3 b4 b5 b6 b7 b8 b9 b10 b11 p n c b l h f k' s' O W e W' := by
  obtain ⟨h1, v', L', O', h2, h3, h4, h5⟩ := q
  exact ⟨h1, v', L', O', h2, h3, fun j hj => h4 j (by omega), h5⟩

set_option maxRecDepth 100000 in
set_option maxHeartbeats 8000000 in
theorem bleaf {b1 b2 b3 b4 b5 b6 b7 b8 b9 b10 b11 : Nat} (xl : XL b1 b2 b3 b4 b5 b6 b7 b8 b9 b10 b11) {p : Option Addr} {n c : Nat} {b l h : Int} {f : Nat → Int} {W : World} {v : Value} {L : Int} {O : Nat → Int} (left : Int) (n1 : left = 0 → 1 ≤ n) (n6 : n ≤ 6) (bb : 1 ≤ b ∧ b ≤ 24) (bl : 0 ≤ l ∧ l ≤ 10000) (bh : 0 ≤ h ∧ h ≤ 10000) (mi pr : Nat → Int) (ys : List Int) (hy : ys.length = n) (s : Bl.Best) (x : XM b1 b2 b3 b4 b5 b6 b7 b8 b9 b10 b11 p n c b l h f W v L O) (hb : BestIs W b11 n v L s) (hO : ∀ j, j < n → O j = nm ys j) :
    Calls Try.prog 13 #[.int .i64 n, .int .i64 left, .int .i64 (Bl.dot mi 0 ys), .int .i64 (Bl.dot pr 0 ys), .pointer (some ⟨b1, 0, none⟩), .pointer (some ⟨b3, 0, none⟩), .pointer (some ⟨b2, 0, none⟩), .pointer (some ⟨b4, 0, none⟩), .pointer (some ⟨b7, 0, none⟩), .pointer (some ⟨b8, 0, none⟩), .pointer (some ⟨b10, 0, none⟩), .pointer (some ⟨b6, 0, none⟩), .pointer (some ⟨b11, 0, none⟩)] W (XQ b1 b2 b3 b4 b5 b6 b7 b8 b9 b10 b11 p n c b l h f n (Bl.fin mi pr (l * b) (h * b) left ys s) O W) := by
  have q22 : ∀ (w : World) (a : Option Addr) (n c n' c' : Nat), (binOp .eql 24 (.slice a n c) (.slice none n' c')).run Try.prog w = .ok (.bool a.isNone) w := fun w a n c n' c' => Lib.run_eql_slice_nil w _ _ a n c n' c' Try.underlying24
  have c1 := x.x1.cell
  have c2 := x.x2.cell
  have c3 := x.x3.cell
  have c4 := x.x4.cell
  have c7 := x.x7.cell
  have c8 := x.x8.cell
  have c10 := x.x10.cell
  have g7 := x.x7.frozen
  have g8 := x.x8.frozen
  have d2 : ((n : Int) == (n : Int)) = true := by simp
  have wl : IntKind.i64.wrap (l * b) = l * b := hwI (by have := Int.mul_nonneg bl.1 (show 0 ≤ b by omega); omega) (by have := Int.mul_le_mul bl.2 bb.2 (by omega) (by omega); omega)
  have wh : IntKind.i64.wrap (h * b) = h * b := hwI (by have := Int.mul_nonneg bh.1 (show 0 ≤ b by omega); omega) (by have := Int.mul_le_mul bh.2 bb.2 (by omega) (by omega); omega)
  have NO := Lib.hid (show ¬ (left = 0 ∧ l * b ≤ Bl.dot mi 0 ys ∧ Bl.dot mi 0 ys ≤ h * b ∧ (∀ b, s = some b → Bl.dot pr 0 ys < b.2)) → XQ b1 b2 b3 b4 b5 b6 b7 b8 b9 b10 b11 p n c b l h f n (Bl.fin mi pr (l * b) (h * b) left ys s) O W (.returned (.tuple #[])) W from fun g => ⟨rfl, v, L, O, x, by rw [Bl.fin_keep g]; exact hb, fun _ _ => rfl, Fm.refl _ _⟩)
  have YES := Lib.hid (show (left = 0 ∧ l * b ≤ Bl.dot mi 0 ys ∧ Bl.dot mi 0 ys ≤ h * b ∧ (∀ b, s = some b → Bl.dot pr 0 ys < b.2)) → ∀ W' a cc, b11 < a → NmR W' (some ⟨a, 0, none⟩) n O → XM b1 b2 b3 b4 b5 b6 b7 b8 b9 b10 b11 p n c b l h f W' (.slice (some ⟨a, 0, none⟩) n cc) (Bl.dot pr 0 ys) O → Fm (XMod b7 b8 b9) W W' → XQ b1 b2 b3 b4 b5 b6 b7 b8 b9 b10 b11 p n c b l h f n (Bl.fin mi pr (l * b) (h * b) left ys s) O W (.returned (.tuple #[])) W' from fun g W' a cc ha hr hx hf => ⟨rfl, _, _, O, hx, by rw [Bl.fin_some g.1 g.2.1 g.2.2.1 g.2.2.2]; exact .inr ⟨ys, a, cc, rfl, rfl, ha, hy, fun i hi => by rw [← hO i hi]; exact hr i hi⟩, fun _ _ => rfl, hf⟩)
  have ST := Lib.hid (show (∀ W1 a cc, Below W.heap.size W W1 → W.heap.size ≤ a → NmR W1 (some ⟨a, 0, none⟩) n O → b11 < a ∧ NmR ((W1.setCell ⟨b7, 0, none⟩ (.slice (some ⟨a, 0, none⟩) n cc)).setCell ⟨b8, 0, none⟩ (.int .i64 (Bl.dot pr 0 ys))) (some ⟨a, 0, none⟩) n O ∧ XM b1 b2 b3 b4 b5 b6 b7 b8 b9 b10 b11 p n c b l h f ((W1.setCell ⟨b7, 0, none⟩ (.slice (some ⟨a, 0, none⟩) n cc)).setCell ⟨b8, 0, none⟩ (.int .i64 (Bl.dot pr 0 ys))) (.slice (some ⟨a, 0, none⟩) n cc) (Bl.dot pr 0 ys) O ∧ Fm (XMod b7 b8 b9) W ((W1.setCell ⟨b7, 0, none⟩ (.slice (some ⟨a, 0, none⟩) n cc)).setCell ⟨b8, 0, none⟩ (.int .i64 (Bl.dot pr 0 ys)))) from fun W1 a cc st ha hr => by
    have l11 := x.x11.lt
    have F2 := (Fm.set (M := XMod b7 b8 b9) (w := W1) ⟨b7, 0, none⟩ (.slice (some ⟨a, 0, none⟩) n cc) (.inl rfl)).trans (Fm.set (M := XMod b7 b8 b9) ⟨b8, 0, none⟩ (.int .i64 (Bl.dot pr 0 ys)) (.inr (.inl rfl)))
    exact ⟨by omega, hr.fm F2 (fun x e _ => by cases e; exact xl.mod (.inr (by show b11 < a; omega))), ((x.call st).setV xl _).setL xl _, (Fm.call st).trans F2⟩)
  have CL := Lib.hid (fun e0 : left = 0 => clone_any b9 n 3 O W x.x9 (n1 e0) (by omega))
  have K7 := Lib.hid (show ∀ W1, Below W.heap.size W W1 → W1.cell? ⟨b7, 0, none⟩ = some v ∧ W1.frozen? ⟨b7, 0, none⟩ = false ∧ W1.cell? ⟨b8, 0, none⟩ = some (.int .i64 L) ∧ W1.frozen? ⟨b8, 0, none⟩ = false from fun W1 st => ⟨(x.call st).x7.cell, (x.call st).x7.frozen, (x.call st).x8.cell, (x.call st).x8.frozen⟩)
  have N87 := Lib.hid (show b8 ≠ b7 from by have := xl.a7; omega)
  have SB := Lib.hid (show (s = none ∧ v = .slice none 0 0 ∧ L = 0) ∨ ∃ zs g cc, s = some (zs, L) ∧ v = .slice (some ⟨g, 0, none⟩) n cc from by
    rcases hb with h | ⟨zs, g, cc, h1, h2, _⟩
    · exact .inl h
    · exact .inr ⟨zs, g, cc, h1, h2⟩)
  clear x hb hO hy xl n1 bb bl bh
  generalize XQ b1 b2 b3 b4 b5 b6 b7 b8 b9 b10 b11 p n c b l h f n (Bl.fin mi pr (l * b) (h * b) left ys s) O W = Q at *
  generalize Bl.dot mi 0 ys = M at *
  generalize Bl.dot pr 0 ys = C at *
  by_cases t1 : left = 0
  case neg =>
    have e1 : (left == 0) = false := by simpa using t1
    have FF := Lib.hid (NO.out (fun g => t1 g.1))
    clear NO YES ST CL K7 SB t1
    go_enter Try.func13, Try.ntmps13
    go_wp2_with fail
    go_end0
    exact FF.out
  have e1 : (left == 0) = true := by simpa using t1
  by_cases t2 : l * b ≤ M
  case neg =>
    have e2 : decide (l * b ≤ M) = false := decide_eq_false t2
    have FF := Lib.hid (NO.out (fun g => t2 g.2.1))
    clear NO YES ST CL K7 SB t1 t2
    go_enter Try.func13, Try.ntmps13
    go_wp2_with fail
    go_end0
    exact FF.out
  have e2 : decide (l * b ≤ M) = true := decide_eq_true t2
  by_cases t3 : M ≤ h * b
  case neg =>
    have e3 : decide (M ≤ h * b) = false := decide_eq_false t3
    have FF := Lib.hid (NO.out (fun g => t3 g.2.2.1))
    clear NO YES ST CL K7 SB t1 t2 t3
    go_enter Try.func13, Try.ntmps13
    go_wp2_with fail
    go_end0
    exact FF.out
  have e3 : decide (M ≤ h * b) = true := decide_eq_true t3
  rcases SB.out with ⟨hs, rfl, rfl⟩ | ⟨zs, g, cc, hs, rfl⟩
  · have GO := Lib.hid (YES.out ⟨t1, t2, t3, fun b e => by rw [hs] at e; cases e⟩)
    have EL := Lib.hid t1
    clear NO YES SB t1 t2 t3 hs
    go_enter Try.func13, Try.ntmps13
    go_wp2_with fail
    refine (CL.out EL.out).mono ?_
    rintro e u1 ⟨a, cq, rfl, ha, hr, st⟩
    obtain ⟨k7, f7, k8, f8⟩ := K7.out u1 st
    have RR := Lib.hid (ST.out u1 a cq st ha hr)
    have n87 := N87.out
    have n78 : b7 ≠ b8 := fun e => n87 e.symm
    clear ST CL K7 st ha hr c7 c8 g7 g8 c1 c2 c3 c4 c10
    go_wp2_with fail
    go_end0
    exact GO.out _ a cq RR.out.1 RR.out.2.1 RR.out.2.2.1 RR.out.2.2.2
  · by_cases t4 : C < L
    case neg =>
      have e4 : decide (C < L) = false := decide_eq_false t4
      have FF := Lib.hid (NO.out (fun g => t4 (g.2.2.2 _ hs)))
      clear NO YES ST CL K7 SB t1 t2 t3 t4 hs
      go_enter Try.func13, Try.ntmps13
      go_wp2_with fail
      go_end0
      exact FF.out
    have e4 : decide (C < L) = true := decide_eq_true t4
    have GO := Lib.hid (YES.out ⟨t1, t2, t3, fun b e => by rw [hs] at e; cases e; exact t4⟩)
    have EL := Lib.hid t1
    clear NO YES SB t1 t2 t3 t4 hs
    go_enter Try.func13, Try.ntmps13
    go_wp2_with fail
    refine (CL.out EL.out).mono ?_
    rintro e u1 ⟨a, cq, rfl, ha, hr, st⟩
    obtain ⟨k7, f7, k8, f8⟩ := K7.out u1 st
    have RR := Lib.hid (ST.out u1 a cq st ha hr)
    have n87 := N87.out
    have n78 : b7 ≠ b8 := fun e => n87 e.symm
    clear ST CL K7 st ha hr c7 c8 g7 g8 c1 c2 c3 c4 c10
    go_wp2_with fail
    go_end0
    exact GO.out _ a cq RR.out.1 RR.out.2.1 RR.out.2.2.1 RR.out.2.2.2

end Go.Proofs.Ytapffmaihkimkaa
