/- Flow: the reference's search for a blend: its memory; a leaf. -/
import Derived.Test.YtapffmaihkimkaaFP6
namespace Go.Proofs.Ytapffmaihkimkaa
open Go.RowKit
set_option linter.unusedVariables false
set_option linter.unusedSimpArgs false

/-- A sum so far. -/
def psum (w O : Nat → Int) : Nat → Int
  | 0 => 0
  | k + 1 => psum w O k + O k * w k
theorem psum_take (w : Nat → Int) (ys : List Int) : ∀ k, k ≤ ys.length → psum w (nm ys) k = Bl.dot w 0 (ys.take k)
  | 0, _ => rfl
  | k + 1, h => by
    have e : ys.take (k + 1) = ys.take k ++ [ys[k]] := (List.take_append_getElem (by omega)).symm
    rw [e, Bl.dot_snoc, ← psum_take w ys k (by omega)]
    have l : (ys.take k).length = k := by rw [List.length_take]; omega
    rw [l, Nat.zero_add]
    show psum w (nm ys) k + nm ys k * w k = _
    have : nm ys k = ys[k] := by unfold nm; rw [List.getD_eq_getElem?_getD, List.getElem?_eq_getElem (by omega)]; rfl
    rw [this]
theorem psum_ext {w O O' : Nat → Int} : ∀ {k : Nat}, (∀ j, j < k → O j = O' j) → psum w O k = psum w O' k
  | 0, _ => rfl
  | k + 1, h => by
    show psum w O k + O k * w k = psum w O' k + O' k * w k
    rw [psum_ext (k := k) fun j hj => h j (by omega), h k (by omega)]
theorem psum_dot {w O : Nat → Int} {ys : List Int} {n : Nat} (hy : ys.length = n) (h : ∀ j, j < n → O j = nm ys j) : psum w O n = Bl.dot w 0 ys := by
  rw [psum_ext h, psum_take w ys n (by omega), ← hy, List.take_length]
theorem psum_pos {w O : Nat → Int} {m : Int} : ∀ {k : Nat}, (∀ j, j < k → (0 ≤ O j ∧ O j ≤ 24) ∧ 0 ≤ w j ∧ w j ≤ m) → 0 ≤ psum w O k ∧ psum w O k ≤ k * (24 * m)
  | 0, _ => ⟨Int.le_refl _, by show (0 : Int) ≤ _; simp⟩
  | k + 1, h => by
    have h1 := psum_pos (k := k) fun j hj => h j (by omega)
    obtain ⟨⟨a, b⟩, c, d⟩ := h k (by omega)
    have h2 := Int.mul_nonneg a c
    have h3 := Int.mul_le_mul b d c (by omega)
    have e : ((k + 1 : Nat) : Int) * (24 * m) = k * (24 * m) + 24 * m := by rw [Int.natCast_add, Int.add_mul]; simp
    rw [e]
    show 0 ≤ psum w O k + O k * w k ∧ psum w O k + O k * w k ≤ _
    omega
theorem own_nm {w1 : World} {base n : Nat} {t : TypeId} {v : Value} {O : Nat → Int} (own : w1.ownsRow base t 1 v n ((List.range n).map fun k => Value.int .i64 (O k))) (n1 : 1 ≤ n) : ∃ a cc, v = .slice (some ⟨a, 0, none⟩) n cc ∧ base ≤ a ∧ NmR w1 (some ⟨a, 0, none⟩) n O := by
  rcases own.2 with ⟨_, e⟩ | ⟨a, cap, cur, rfl, ha, hg, hn, _, hs, ht⟩
  · omega
  · refine ⟨a, cap, rfl, ha, fun i hi => ⟨⟨a, 0, none⟩, rfl, (Array.getElem?_eq_some_iff.1 hg).1, ?_⟩⟩
    rw [add0]
    have e : (cur.toList.take (n * 1))[i]? = some (Value.int .i64 (O i)) := by rw [ht]; simp [hi]
    rw [List.getElem?_take, if_pos (by omega)] at e
    simp only [World.cell?, hg]
    simpa using e
/-- The reference's memory. -/
structure RB (bs br n : Nat) (W : World) (v : Value) (L : Int) (O : Nat → Int) : Prop where
  box : W.heap[bs]? = some (.cells #[v, .int .i64 L] 50 (0, 0))
  row : IR W br 3 n O
def RMod (bs br k : Nat) : Prop := k = bs ∨ k = br
section
variable {bs br n : Nat} {W W' : World} {v : Value} {L : Int} {O : Nat → Int}
theorem RB.lt (x : RB bs br n W v L O) : bs < W.heap.size := (Array.getElem?_eq_some_iff.1 x.box).1
theorem RB.call (x : RB bs br n W v L O) (st : Below W.heap.size W W') : RB bs br n W' v L O := ⟨(st.block _ x.lt).trans x.box, x.row.keep (st.block _ x.row.lt)⟩
theorem RB.cell0 (x : RB bs br n W v L O) : W.cell? ⟨bs, 0, none⟩ = some v := by have := x.box; simp [World.cell?, this]
theorem RB.cell1 (x : RB bs br n W v L O) : W.cell? ⟨bs, 1, none⟩ = some (.int .i64 L) := by have := x.box; simp [World.cell?, this]
theorem RB.frozen (x : RB bs br n W v L O) (k : Nat) : W.frozen? ⟨bs, k, none⟩ = false := by have := x.box; simp [World.frozen?, this]
theorem RB.set0 (x : RB bs br n W v L O) (h : bs < br) (u : Value) : RB bs br n (W.setCell ⟨bs, 0, none⟩ u) u L O := by
  refine ⟨?_, x.row.keep (Below.heap_setCell _ _ _ _ (by show br ≠ bs; omega))⟩
  rw [heap_setCell_same W bs 0 _ _ u x.box]; rfl
theorem RB.set1 (x : RB bs br n W v L O) (h : bs < br) (u : Int) : RB bs br n (W.setCell ⟨bs, 1, none⟩ (.int .i64 u)) v u O := by
  refine ⟨?_, x.row.keep (Below.heap_setCell _ _ _ _ (by show br ≠ bs; omega))⟩
  rw [heap_setCell_same W bs 1 _ _ (.int .i64 u) x.box]; rfl
theorem RB.setO (x : RB bs br n W v L O) (h : bs < br) (j : Nat) (u : Int) : RB bs br n (W.setCell ⟨br, j, none⟩ (.int .i64 u)) v L (upd O j u) :=
  ⟨(Below.heap_setCell _ _ _ _ (by show bs ≠ br; omega)).trans x.box, x.row.set _ _⟩
end
/-- The best so far, in the reference's memory. -/
def RBest (W : World) (g0 n : Nat) (v : Value) (L : Int) (s : Bl.Best) : Prop := (s = none ∧ v = .slice none 0 0 ∧ L = -1) ∨ ∃ ys g c, s = some (ys, L) ∧ 0 ≤ L ∧ v = .slice (some ⟨g, 0, none⟩) n c ∧ g0 < g ∧ ys.length = n ∧ NmR W (some ⟨g, 0, none⟩) n (nm ys)
theorem RBest.fm {M : Nat → Prop} {W W' : World} {g0 n : Nat} {v : Value} {L : Int} {s : Bl.Best} (h : RBest W g0 n v L s) (f : Fm M W W') (hm : ∀ g, g0 < g → ¬ M g) : RBest W' g0 n v L s := by
  rcases h with h | ⟨ys, g, c, h1, h2, h3, h4, h5, h6⟩
  · exact .inl h
  · exact .inr ⟨ys, g, c, h1, h2, h3, h4, h5, h6.fm f (fun x e _ => by cases e; exact hm _ h4)⟩
/-- What the search leaves. -/
def RQ (bs br n : Nat) (k : Nat) (s' : Bl.Best) (O : Nat → Int) (W : World) (e : Ending) (W' : World) : Prop :=
  e = .returned (.tuple #[]) ∧ ∃ (v' : Value) (L' : Int) (O' : Nat → Int), RB bs br n W' v' L' O' ∧ RBest W' br n v' L' s' ∧ (∀ j, j < k → O' j = O j) ∧ Fm (RMod bs br) W W'

set_option maxRecDepth 100000 in
set_option maxHeartbeats 8000000 in
theorem rbleaf {bs br : Nat} (lt : bs < br) {p : Option Addr} {n c : Nat} {lo hi left : Int} {W : World} {v : Value} {L : Int} {O : Nat → Int} (n1 : left = 0 → 1 ≤ n) (n6 : n ≤ 6) (A : Nat → Pa) (ok : ∀ i, i < n → paOk (A i)) (ys : List Int) (hy : ys.length = n) (s : Bl.Best) (x : RB bs br n W v L O) (hb : RBest W br n v L s) (pa : PaR W p n A) (hO : ∀ j, j < n → O j = nm ys j) (hO2 : ∀ j, j < n → 0 ≤ O j ∧ O j ≤ 24) :
    Calls Try.prog 17 #[.pointer (some ⟨bs, 0, none⟩), .slice p n c, .slice (some ⟨br, 0, none⟩) n n, .int .i64 n, .int .i64 left, .int .i64 lo, .int .i64 hi] W (RQ bs br n n (Bl.fin (fun j => (A j).mi) (fun j => (A j).pr) lo hi left ys s) O W) := by
  obtain ⟨i0, hi', hz0, hz1, hz2⟩ := info_parts intInfo
  have d2 : ((n : Int) == (n : Int)) = true := by simp
  have PM := Lib.hid (fun k (hk : k ≤ n) => psum_pos (w := fun j => (A j).mi) (O := O) (m := 10000) (k := k) fun j hj => ⟨hO2 j (by omega), (ok j (by omega)).2.2.1⟩)
  have PP := Lib.hid (fun k (hk : k ≤ n) => psum_pos (w := fun j => (A j).pr) (O := O) (m := 16384) (k := k) fun j hj => ⟨hO2 j (by omega), (ok j (by omega)).2.1⟩)
  have DM := Lib.hid (psum_dot (w := fun j => (A j).mi) hy hO)
  have DP := Lib.hid (psum_dot (w := fun j => (A j).pr) hy hO)
  have MB := Lib.hid (fun k (hk : k < n) => (show (0 ≤ O k * (A k).mi ∧ O k * (A k).mi ≤ 240000) ∧ 0 ≤ O k * (A k).pr ∧ O k * (A k).pr ≤ 393216 from by
    obtain ⟨a, b⟩ := hO2 k hk
    obtain ⟨-, ⟨c, d⟩, ⟨e, f⟩, -⟩ := ok k hk
    exact ⟨⟨Int.mul_nonneg a e, Int.mul_le_mul b f e (by omega)⟩, Int.mul_nonneg a c, Int.mul_le_mul b d c (by omega)⟩))
  have X := Lib.hid x
  have R := Lib.hid pa
  have N1 := Lib.hid n1
  have LT := Lib.hid lt
  have NO := Lib.hid (show ¬ (left = 0 ∧ lo ≤ Bl.dot (fun j => (A j).mi) 0 ys ∧ Bl.dot (fun j => (A j).mi) 0 ys ≤ hi ∧ (∀ b, s = some b → Bl.dot (fun j => (A j).pr) 0 ys < b.2)) → ∀ W', Below W.heap.size W W' → RQ bs br n n (Bl.fin (fun j => (A j).mi) (fun j => (A j).pr) lo hi left ys s) O W (.returned (.tuple #[])) W' from fun g W' st => ⟨rfl, v, L, O, x.call st, by rw [Bl.fin_keep g]; exact hb.fm (M := fun _ => False) (Fm.call st) (fun _ _ h => h), fun _ _ => rfl, Fm.call st⟩)
  have YES := Lib.hid (show (left = 0 ∧ lo ≤ Bl.dot (fun j => (A j).mi) 0 ys ∧ Bl.dot (fun j => (A j).mi) 0 ys ≤ hi ∧ (∀ b, s = some b → Bl.dot (fun j => (A j).pr) 0 ys < b.2)) → ∀ W' a cc, br < a → NmR W' (some ⟨a, 0, none⟩) n O → 0 ≤ Bl.dot (fun j => (A j).pr) 0 ys → RB bs br n W' (.slice (some ⟨a, 0, none⟩) n cc) (Bl.dot (fun j => (A j).pr) 0 ys) O → Fm (RMod bs br) W W' → RQ bs br n n (Bl.fin (fun j => (A j).mi) (fun j => (A j).pr) lo hi left ys s) O W (.returned (.tuple #[])) W' from fun g W' a cc ha hr h0 hx hf => ⟨rfl, _, _, O, hx, by rw [Bl.fin_some g.1 g.2.1 g.2.2.1 g.2.2.2]; exact .inr ⟨ys, a, cc, rfl, h0, rfl, ha, hy, fun i hi => by rw [← hO i hi]; exact hr i hi⟩, fun _ _ => rfl, hf⟩)
  have STq := Lib.hid (show True from trivial)
  have SB := Lib.hid (show (s = none ∧ v = .slice none 0 0 ∧ L = -1) ∨ ∃ zs g cc, s = some (zs, L) ∧ 0 ≤ L ∧ v = .slice (some ⟨g, 0, none⟩) n cc from by
    rcases hb with h | ⟨zs, g, cc, h1, h2, h3, _⟩
    · exact .inl h
    · exact .inr ⟨zs, g, cc, h1, h2, h3⟩)
  rw [← DM.out, ← DP.out] at NO YES
  have lr := x.row.lt
  have LR := Lib.hid lr
  clear x hb hO hO2 hy lt n1 pa ok DM DP lr
  generalize RQ bs br n n (Bl.fin (fun j => (A j).mi) (fun j => (A j).pr) lo hi left ys s) O W = Q at *
  go_enter Try.func17, Try.ntmps17
  go_wp2_with fail
  go_loopw [14, 15, 16] (fun sv cv iv wr => ∃ (i : Nat) (sm sp : Int), i ≤ n ∧ iv = .int .i64 i ∧ sv = .int .i64 sm ∧ cv = .int .i64 sp ∧ Hid (sm = psum (fun j => (A j).mi) O i) ∧ Hid (sp = psum (fun j => (A j).pr) O i) ∧ Hid (Below W.heap.size W wr)) (fun _ _ iv _ => n - (intOf iv).toNat)
  case atStart => exact ⟨0, 0, 0, Nat.zero_le _, rfl, rfl, rfl, Lib.hid rfl, Lib.hid rfl, Lib.hid (Below.refl _ _)⟩
  case round =>
    obtain ⟨i, sm, sp, hi2, rfl, rfl, rfl, SM, SP, HB⟩ := hrel
    have bm := PM.out i hi2
    have bp := PP.out i hi2
    rw [← SM.out] at bm
    rw [← SP.out] at bp
    by_cases t1 : i < n
    · have i1 : (0 : Int) ≤ (i : Int) := by omega
      have i2 : (i : Int) < (n : Int) := by omega
      obtain ⟨xa, rfl, -, -, a1, a2, -, -⟩ := (R.out.below HB.out) i t1
      have cr := (X.out.call HB.out).row.cell t1
      obtain ⟨⟨m1, m2⟩, m3, m4⟩ := MB.out i t1
      have SM2 := Lib.hid (show sm + O i * (A i).mi = psum (fun j => (A j).mi) O (i + 1) from by rw [SM.out]; rfl)
      have SP2 := Lib.hid (show sp + O i * (A i).pr = psum (fun j => (A j).pr) O (i + 1) from by rw [SP.out]; rfl)
      generalize O i = y at *
      generalize (A i).mi = v2 at *
      generalize (A i).pr = v1 at *
      have ww1 : IntKind.i64.wrap (y * v2) = y * v2 := hwI (by omega) (by omega)
      have ww2 : IntKind.i64.wrap (sm + y * v2) = sm + y * v2 := hwI (by omega) (by omega)
      have ww3 : IntKind.i64.wrap (y * v1) = y * v1 := hwI (by omega) (by omega)
      have ww4 : IntKind.i64.wrap (sp + y * v1) = sp + y * v1 := hwI (by omega) (by omega)
      clear m1 m2 m3 m4 bm bp SM SP MB
      go_upto_region 5 with fail
      go_quiet (fail)
      go_upto_region 6 with fail
      go_quiet (fail)
      go_wp2_with fail
      go_roundw
      case rel => exact ⟨i + 1, _, _, by omega, by go_num, rfl, rfl, SM2, SP2, (by first | exact Lib.hid (below_drewN (below_drewN HB.out _) _) | exact Lib.hid (below_drewN HB.out _))⟩
      case measure => simp [intOf]; omega
    · obtain rfl : i = n := by omega
      rw [← SM.out, ← SP.out] at NO YES
      have c0 := (X.out.call HB.out).cell0
      have c1 := (X.out.call HB.out).cell1
      have f0 := (X.out.call HB.out).frozen 0
      have f1 := (X.out.call HB.out).frozen 1
      have BP := Lib.hid bp.1
      clear SM SP PM PP MB bm bp
      by_cases t1 : left = 0
      case neg =>
        have e1 : (left == 0) = false := by simpa using t1
        have FF := Lib.hid (NO.out (fun g => t1 g.1))
        clear NO YES STq SB t1
        go_wp2_with fail
        go_end0
        exact FF.out _ HB.out
      have e1 : (left == 0) = true := by simpa using t1
      by_cases t2 : lo ≤ sm
      case neg =>
        have e2 : decide (lo ≤ sm) = false := decide_eq_false t2
        have FF := Lib.hid (NO.out (fun g => t2 g.2.1))
        clear NO YES STq SB t1 t2
        go_wp2_with fail
        go_end0
        exact FF.out _ HB.out
      have e2 : decide (lo ≤ sm) = true := decide_eq_true t2
      by_cases t3 : sm ≤ hi
      case neg =>
        have e3 : decide (sm ≤ hi) = false := decide_eq_false t3
        have FF := Lib.hid (NO.out (fun g => t3 g.2.2.1))
        clear NO YES STq SB t1 t2 t3
        go_wp2_with fail
        go_end0
        exact FF.out _ HB.out
      have e3 : decide (sm ≤ hi) = true := decide_eq_true t3
      rcases SB.out with ⟨hs, rfl, rfl⟩ | ⟨zs, g, cc, hs, l0, rfl⟩
      · have e5 : decide ((-1 : Int) < 0) = true := by decide
        have GO := Lib.hid (YES.out ⟨t1, t2, t3, fun b e => by rw [hs] at e; cases e⟩)
        have N1' := Lib.hid (N1.out t1)
        clear NO YES SB STq N1 t1 t2 t3 hs
        go_wp2_with (at_builtin; refine wpList_append_own _ rfl _ _ 24 rfl wr.heap.size 3 i0 (.int .i64 0) 1 8 Try.underlying24 hi' hz0 hz1 hz2 rfl (by decide) _ _ _ rfl (show wr.ownsRow wr.heap.size 3 1 (.slice none 0 0) 0 [] from ⟨rfl, .inl ⟨rfl, rfl⟩⟩) ⟨br, 0, none⟩ i i ((List.range i).map fun k => .int .i64 (O k)) rfl ?qc1 ?qc2 ?qc3 ?qc4 ?qc5 ?qc6 ?_)
        case qc1 => simp
        case qc2 =>
          intro q u hq
          have hq' : q < i := by
            have := (List.getElem?_eq_some_iff.1 hq).1
            simpa using this
          rw [add0, (X.out.call HB.out).row.cell hq']
          simpa [hq'] using hq
        case qc3 =>
          intro u hu
          obtain ⟨x, _, rfl⟩ := List.mem_map.1 hu
          rfl
        case qc4 => unfold maxLen; omega
        case qc5 => omega
        case qc6 => simp
        intro v' w1 hown hgrow hnil
        have B1 := Lib.hid (show Below wr.heap.size wr w1 from (Below.refl _ _).grown hgrow (Nat.le_refl _) (fun k e => by cases e))
        obtain ⟨a, cq, rfl, ha, hr⟩ := own_nm hown N1'.out
        have X1 := Lib.hid ((X.out.call HB.out).call B1.out)
        have F2 := Lib.hid ((Fm.set (M := RMod bs br) (w := w1) ⟨bs, 0, none⟩ (.slice (some ⟨a, 0, none⟩) i cq) (.inl rfl)).trans (Fm.set (M := RMod bs br) ⟨bs, 1, none⟩ (.int .i64 sp) (.inl rfl)))
        have X3 := Lib.hid (((X1.out.set0 LT.out (.slice (some ⟨a, 0, none⟩) i cq)).set1 LT.out sp))
        have la : br < a := Nat.lt_of_lt_of_le (X.out.call HB.out).row.lt ha
        have FF := Lib.hid (GO.out _ a cq la (hr.fm F2.out (fun x e _ => by cases e; have l2 := LT.out; intro h; rcases h with h | h <;> (have h : a = _ := h; omega))) BP.out X3.out ((Fm.call HB.out).trans ((Fm.call B1.out).trans F2.out)))
        have c0 := X1.out.cell0
        have c1 := X1.out.cell1
        have f0 := X1.out.frozen 0
        have f1 := X1.out.frozen 1
        clear GO X3 F2 X1 hown hgrow hnil hr la
        go_wp2_with fail
        go_end0
        exact FF.out
      · have e5 : decide (L < 0) = false := decide_eq_false (by omega)
        by_cases t4 : sp < L
        case neg =>
          have e4 : decide (sp < L) = false := decide_eq_false t4
          have FF := Lib.hid (NO.out (fun g => t4 (g.2.2.2 _ hs)))
          clear NO YES STq SB t1 t2 t3 t4 hs
          go_wp2_with fail
          go_end0
          exact FF.out _ HB.out
        have e4 : decide (sp < L) = true := decide_eq_true t4
        have GO := Lib.hid (YES.out ⟨t1, t2, t3, fun b e => by rw [hs] at e; cases e; exact t4⟩)
        have N1' := Lib.hid (N1.out t1)
        clear NO YES SB STq N1 t1 t2 t3 hs
        go_wp2_with (at_builtin; refine wpList_append_own _ rfl _ _ 24 rfl wr.heap.size 3 i0 (.int .i64 0) 1 8 Try.underlying24 hi' hz0 hz1 hz2 rfl (by decide) _ _ _ rfl (show wr.ownsRow wr.heap.size 3 1 (.slice none 0 0) 0 [] from ⟨rfl, .inl ⟨rfl, rfl⟩⟩) ⟨br, 0, none⟩ i i ((List.range i).map fun k => .int .i64 (O k)) rfl ?qc1 ?qc2 ?qc3 ?qc4 ?qc5 ?qc6 ?_)
        case qc1 => simp
        case qc2 =>
          intro q u hq
          have hq' : q < i := by
            have := (List.getElem?_eq_some_iff.1 hq).1
            simpa using this
          rw [add0, (X.out.call HB.out).row.cell hq']
          simpa [hq'] using hq
        case qc3 =>
          intro u hu
          obtain ⟨x, _, rfl⟩ := List.mem_map.1 hu
          rfl
        case qc4 => unfold maxLen; omega
        case qc5 => omega
        case qc6 => simp
        intro v' w1 hown hgrow hnil
        have B1 := Lib.hid (show Below wr.heap.size wr w1 from (Below.refl _ _).grown hgrow (Nat.le_refl _) (fun k e => by cases e))
        obtain ⟨a, cq, rfl, ha, hr⟩ := own_nm hown N1'.out
        have X1 := Lib.hid ((X.out.call HB.out).call B1.out)
        have F2 := Lib.hid ((Fm.set (M := RMod bs br) (w := w1) ⟨bs, 0, none⟩ (.slice (some ⟨a, 0, none⟩) i cq) (.inl rfl)).trans (Fm.set (M := RMod bs br) ⟨bs, 1, none⟩ (.int .i64 sp) (.inl rfl)))
        have X3 := Lib.hid (((X1.out.set0 LT.out (.slice (some ⟨a, 0, none⟩) i cq)).set1 LT.out sp))
        have la : br < a := Nat.lt_of_lt_of_le (X.out.call HB.out).row.lt ha
        have FF := Lib.hid (GO.out _ a cq la (hr.fm F2.out (fun x e _ => by cases e; have l2 := LT.out; intro h; rcases h with h | h <;> (have h : a = _ := h; omega))) BP.out X3.out ((Fm.call HB.out).trans ((Fm.call B1.out).trans F2.out)))
        have c0 := X1.out.cell0
        have c1 := X1.out.cell1
        have f0 := X1.out.frozen 0
        have f1 := X1.out.frozen 1
        clear GO X3 F2 X1 hown hgrow hnil hr la
        go_wp2_with fail
        go_end0
        exact FF.out

end Go.Proofs.Ytapffmaihkimkaa
