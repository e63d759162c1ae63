/- The law FlowBalances: its walk. -/
import Derived.Test.YtbcfafihkdddeaaFNE
import Derived.Test.YtbcfafihkdddeaaFLA
namespace Go.Proofs.Ytbcfafihkdddeaa
open Go.RowKit
set_option linter.unusedVariables false
set_option linter.unusedSimpArgs false

/-- Two rows that read the same. -/
def Pair (w : World) (v1 v2 : Value) : Prop := ∃ (p1 p2 : Option Addr) (c1 c2 nn : Nat) (F : Nat → Int), v1 = .slice p1 nn c1 ∧ v2 = .slice p2 nn c2 ∧ NmR w p1 nn F ∧ NmR w p2 nn F ∧ nn ≤ 1000000
theorem Pair.nil (w : World) : Pair w (.slice none 0 0) (.slice none 0 0) := ⟨none, none, 0, 0, 0, fun _ => 0, rfl, rfl, fun i h => by omega, fun i h => by omega, by omega⟩
theorem bal_pair {n : Int} {m k : Nat} {A : Nat → Ar} {M : Nat → Int} {w4 w5 w6 : World} {x1 x2 : Int} {v1 v2 : Value} (a1 : AErr n m A k M x1) (a2 : AErr n m A k M x2) (z1 : x1 ≠ 0 → v1 = .slice none 0 0) (z2 : x2 ≠ 0 → v2 = .slice none 0 0) (y1 : x1 = 0 → ∃ b, v1 = .slice (some ⟨b, 0, none⟩) n.toNat n.toNat ∧ w4.heap.size ≤ b ∧ IR w5 b 3 n.toNat (balS A M m)) (y2 : x2 = 0 → ∃ b, v2 = .slice (some ⟨b, 0, none⟩) n.toNat n.toNat ∧ w5.heap.size ≤ b ∧ IR w6 b 3 n.toNat (balS A M m)) (st : Below w5.heap.size w5 w6) : x2 = x1 ∧ Pair w6 v1 v2 := by
  obtain rfl := AErr.det a1 a2
  refine ⟨rfl, ?_⟩
  by_cases c : x2 = 0
  · obtain ⟨b1, rfl, _, i1⟩ := y1 c
    obtain ⟨b2, rfl, _, i2⟩ := y2 c
    subst c
    have := a1.good
    exact ⟨_, _, _, _, _, _, rfl, rfl, (i1.keep (st.block _ i1.lt)).nm (Nat.le_refl _), i2.nm (Nat.le_refl _), by omega⟩
  · rw [z1 c, z2 c]; exact Pair.nil w6
theorem po_pair {n : Int} {m k : Nat} {A : Nat → Ar} {M : Nat → Int} {w4 w5 w6 : World} {e1 e2 : Ending} (h : PoQ n m A k M w4 e1 w5) (g : PoQ n m A k M w5 e2 w6) : ∃ x v1 v2, e1 = .returned (.tuple #[v1, .int .i64 x]) ∧ e2 = .returned (.tuple #[v2, .int .i64 x]) ∧ Pair w6 v1 v2 := by
  obtain ⟨x1, v1, rfl, st, h⟩ := h
  obtain ⟨x2, v2, rfl, st2, g⟩ := g
  rcases h with ⟨h1, h2, rfl⟩ | ⟨h1, h2, rfl, h3⟩ | ⟨h1, h2, b1, j1, rfl, _, h3, h4, h5⟩ <;> rcases g with ⟨g1, g2, rfl⟩ | ⟨g1, g2, rfl, g3⟩ | ⟨g1, g2, b2, j2, rfl, _, g3, g4, g5⟩
  · obtain rfl := AErr.det h2 g2
    exact ⟨_, _, _, rfl, rfl, Pair.nil _⟩
  · exact absurd (AErr.det h2 g1) (by omega)
  · exact absurd (AErr.det h2 g1) (by omega)
  · exact absurd (AErr.det h1 g2) (by omega)
  · subst h2 g2
    exact ⟨_, _, _, rfl, rfl, Pair.nil _⟩
  · have := h3 j2 g5
    rw [g3] at this; cases this
  · exact absurd (AErr.det h1 g2) (by omega)
  · have := g3 j1 h5
    rw [h3] at this; cases this
  · subst h2 g2
    have e := rds_one h3 g3
    rw [← e] at g4
    have := h1.good
    exact ⟨_, _, _, rfl, rfl, _, _, _, _, _, _, rfl, rfl, (h4.keep (st2.block _ h4.lt)).nm (Nat.le_refl _), g4.nm (Nat.le_refl _), by omega⟩

set_option maxRecDepth 100000 in
set_option maxHeartbeats 16000000 in
theorem flowBalances_walk (n : Int) (hn : -9223372036854775808 ≤ n ∧ n ≤ 9223372036854775807) (p : Option Addr) (c m : Nat) (A : Nat → Ar) (w : World) (r : ArcR w p m A) (lm : m ≤ 9223372036854775807) (q : Option Addr) (d k : Nat) (M : Nat → Int) (r2 : NmR w q k M) (lk : k ≤ 9223372036854775807) (q2 : Option Addr) (d2 l : Nat) (P : Nat → Int) (r3 : NmR w q2 l P) (ll : l ≤ 9223372036854775807) :
    Calls Try.prog 9 #[.int .i64 n, .slice p m c, .slice q k d, .slice q2 l d2] w fun e w' => e = .returned (.bool true) ∧ Below w.heap.size w w' := by
  have AL := Lib.hid alive_any
  have FE := Lib.hid (ffew_any p c m q d k w lm lk)
  by_cases fw : m ≤ 140 ∧ k ≤ 140
  case neg =>
    have FB := Lib.hid (show (decide (m ≤ 140) && decide (k ≤ 140)) = false from by simp; omega)
    rw [FB.out] at FE
    clear r r2 r3 fw
    go_enter Try.func9, Try.ntmps9
    go_wp2_with fail
    refine FE.out.mono ?_
    rintro e w1 ⟨rfl, rfl⟩
    go_wp2_with fail
    refine (AL.out _).mono ?_
    rintro e w2 ⟨rfl, st⟩
    go_wp2_with fail
    go_ret
    exact ⟨rfl, st⟩
  have FB := Lib.hid (show (decide (m ≤ 140) && decide (k ≤ 140)) = true from by simp; omega)
  rw [FB.out] at FE
  by_cases l1 : 140 < l
  · have d1 : decide ((140 : Int) < (l : Int)) = true := decide_eq_true (by omega)
    clear r r2 r3 fw l1
    go_enter Try.func9, Try.ntmps9
    go_wp2_with fail
    refine FE.out.mono ?_
    rintro e w1 ⟨rfl, rfl⟩
    go_wp2_with fail
    refine (AL.out _).mono ?_
    rintro e w2 ⟨rfl, st⟩
    go_wp2_with fail
    go_ret
    exact ⟨rfl, st⟩
  have d1 : decide ((140 : Int) < (l : Int)) = false := decide_eq_false (by omega)
  obtain ⟨m140, k140⟩ := fw
  have R := Lib.hid (show ArcR w p m A ∧ NmR w q k M ∧ NmR w q2 l P from ⟨r, r2, r3⟩)
  have C1 := Lib.hid (fpaths_any p c m A w r (by omega))
  have C2 := Lib.hid (fun W (B : Below w.heap.size w W) => fcopied_any q d k M W (r2.below B) (by omega))
  have C3 := Lib.hid (fun W (B : Below w.heap.size w W) => fcopied_any q2 d2 l P W (r3.below B) (by omega))
  clear r r2 r3
  go_enter Try.func9, Try.ntmps9
  go_wp2_with fail
  refine FE.out.mono ?_
  rintro e w1 ⟨rfl, rfl⟩
  clear FE FB
  go_wp2_with fail
  clear d1
  refine C1.out.mono ?_
  rintro e w2 ⟨b1, rfl, -, ia, st⟩
  have KB := Lib.hid st
  have IA := Lib.hid ia
  clear st ia C1
  go_wp2_with fail
  refine (C2.out w2 KB.out).mono ?_
  rintro e w3 ⟨b2, rfl, -, ib, st⟩
  replace IA := Lib.hid (IA.out.keep (st.block _ IA.out.lt))
  replace KB := Lib.hid (KB.out.trans (st.mono KB.out.size))
  have IB := Lib.hid ib
  clear st ib C2
  go_wp2_with fail
  refine (C3.out w3 KB.out).mono ?_
  rintro e w4 ⟨b3, rfl, -, ic, st⟩
  replace IA := Lib.hid (IA.out.keep (st.block _ IA.out.lt))
  replace IB := Lib.hid (IB.out.keep (st.block _ IB.out.lt))
  replace KB := Lib.hid (KB.out.trans (st.mono KB.out.size))
  have ALL := Lib.hid (show ∀ W, Below w4.heap.size w4 W → ArcR W p m A ∧ NmR W q k M ∧ NmR W q2 l P ∧ ArcR W (some ⟨b1, 0, none⟩) m A ∧ NmR W (some ⟨b2, 0, none⟩) k M ∧ NmR W (some ⟨b3, 0, none⟩) l P from fun W B =>
    ⟨(R.out.1.below KB.out).below B, (R.out.2.1.below KB.out).below B, (R.out.2.2.below KB.out).below B, IA.out.arc.below B, (IB.out.nm (Nat.le_refl _)).below B, (ic.nm (Nat.le_refl _)).below B⟩)
  have B4 := Lib.hid (Below.refl w4.heap.size w4)
  clear st ic C3 IA IB R
  have SA := Lib.hid (fun p1 c1 p2 c2 nn F W (a : NmR W p1 nn F) (b : NmR W p2 nn F) (h : nn ≤ 1000000) => fsame_any p1 c1 p2 c2 nn F W a b h)
  -- Balance
  go_wp2_with fail
  refine (Balance_any n hn _ m m A _ k k M w4 (ALL.out _ B4.out).2.2.2.1 (ALL.out _ B4.out).2.2.2.2.1 (by omega) (by omega)).mono ?_
  rintro e w5 ⟨x1, v1, rfl, ae1, st1, z1, y1⟩
  have H1 := Lib.hid (show AErr n m A k M x1 ∧ (x1 ≠ 0 → v1 = .slice none 0 0) ∧ (x1 = 0 → ∃ b, v1 = .slice (some ⟨b, 0, none⟩) n.toNat n.toNat ∧ w4.heap.size ≤ b ∧ IR w5 b 3 n.toNat (balS A M m)) from ⟨ae1, z1, y1⟩)
  replace B4 := Lib.hid (B4.out.trans (st1.mono B4.out.size))
  clear ae1 z1 y1 st1
  go_wp2_with fail
  refine (rBalance_any n hn p c m A q d k M w5 (ALL.out _ B4.out).1 (ALL.out _ B4.out).2.1 (by omega) (by omega)).mono ?_
  rintro e w6 ⟨x2, v2, rfl, ae2, st2, z2, y2⟩
  obtain ⟨rfl, PR⟩ := bal_pair H1.out.1 ae2 H1.out.2.1 z2 H1.out.2.2 y2 st2
  replace B4 := Lib.hid (B4.out.trans (st2.mono B4.out.size))
  clear H1 ae2 z2 y2 st2
  obtain ⟨p1, p2, c1, c2, nn, F, rfl, rfl, n1, n2, nl⟩ := PR
  have N1 := Lib.hid n1
  have N2 := Lib.hid n2
  clear n1 n2
  have xx : (x2 != x2) = false := by simp
  go_wp2_with fail
  refine (SA.out p1 c1 p2 c2 nn F w6 N1.out N2.out nl).mono ?_
  rintro e w7 ⟨rfl, st⟩
  replace B4 := Lib.hid (B4.out.trans (st.mono B4.out.size))
  clear st N1 N2 nl
  -- Potentials
  go_upto_region 8 with fail
  clear xx
  go_wp2_with fail
  refine (Potentials_any n hn _ m m A _ k k M w7 (ALL.out _ B4.out).2.2.2.1 (ALL.out _ B4.out).2.2.2.2.1 (by omega) (by omega)).mono ?_
  intro e w8 h8
  have H8 := Lib.hid h8
  obtain ⟨x3, v3, rfl, st8, -⟩ := h8
  replace B4 := Lib.hid (B4.out.trans (st8.mono B4.out.size))
  clear st8
  go_wp2_with fail
  refine (rPotentials_any n hn p c m A q d k M w8 (ALL.out _ B4.out).1 (ALL.out _ B4.out).2.1 (by omega) (by omega)).mono ?_
  intro e w9 h9
  obtain ⟨x, v1, v2, e1, e2, PR⟩ := po_pair H8.out h9
  have PR := Lib.hid PR
  obtain ⟨x4, v4, rfl, st9, -⟩ := h9
  injection e1 with e1
  injection e1 with e1
  simp at e1
  obtain ⟨rfl, rfl⟩ := e1
  injection e2 with e2
  injection e2 with e2
  simp at e2
  obtain ⟨rfl, rfl⟩ := e2
  replace B4 := Lib.hid (B4.out.trans (st9.mono B4.out.size))
  clear st9 H8
  obtain ⟨p1, p2, c1, c2, nn, F, rfl, rfl, n1, n2, nl⟩ := PR.out
  have N1 := Lib.hid n1
  have N2 := Lib.hid n2
  clear n1 n2 PR
  have xx : (x4 != x4) = false := by simp
  go_wp2_with fail
  refine (SA.out p1 c1 p2 c2 nn F w9 N1.out N2.out nl).mono ?_
  rintro e wA ⟨rfl, st⟩
  replace B4 := Lib.hid (B4.out.trans (st.mono B4.out.size))
  clear st N1 N2 nl
  -- Check
  go_upto_region 12 with fail
  clear xx
  go_wp2_with fail
  refine (Check_any n hn _ m m A _ k k M _ l l P wA (ALL.out _ B4.out).2.2.2.1 (ALL.out _ B4.out).2.2.2.2.1 (by omega) (by omega) (ALL.out _ B4.out).2.2.2.2.2 (by omega)).mono ?_
  rintro e wB ⟨k1, x5, rfl, ch1, st⟩
  replace B4 := Lib.hid (B4.out.trans (st.mono B4.out.size))
  have CH1 := Lib.hid ch1
  clear st ch1
  go_wp2_with fail
  refine (rCheck_any n hn p c m A q d k M q2 d2 l P wB (ALL.out _ B4.out).1 (ALL.out _ B4.out).2.1 (by omega) (by omega) (ALL.out _ B4.out).2.2.1 (by omega)).mono ?_
  rintro e wC ⟨k2, x6, rfl, ch2, st⟩
  replace B4 := Lib.hid (B4.out.trans (st.mono B4.out.size))
  obtain ⟨rfl, rfl⟩ := CH1.out.det ch2
  clear st ch2 CH1
  have kk : (k2 == k2) = true := by simp
  have xx : (x6 == x6) = true := by simp
  have FK := Lib.hid (fun W (B : Below w4.heap.size w4 W) => fkept_any (some ⟨b1, 0, none⟩) m p c m A W (ALL.out W B).2.2.2.1 (ALL.out W B).1 (by omega))
  have FS1 := Lib.hid (fun W (B : Below w4.heap.size w4 W) => fsame_any (some ⟨b2, 0, none⟩) k q d k M W (ALL.out W B).2.2.2.2.1 (ALL.out W B).2.1 (by omega))
  have FS2 := Lib.hid (fun W (B : Below w4.heap.size w4 W) => fsame_any (some ⟨b3, 0, none⟩) l q2 d2 l P W (ALL.out W B).2.2.2.2.2 (ALL.out W B).2.2.1 (by omega))
  clear SA ALL
  go_wp2_with fail
  refine (FK.out wC B4.out).mono ?_
  rintro e wD ⟨rfl, st⟩
  replace B4 := Lib.hid (B4.out.trans (st.mono B4.out.size))
  clear st FK
  go_wp2_with fail
  refine (FS1.out wD B4.out).mono ?_
  rintro e wE ⟨rfl, st⟩
  replace B4 := Lib.hid (B4.out.trans (st.mono B4.out.size))
  clear st FS1
  go_wp2_with fail
  refine (FS2.out wE B4.out).mono ?_
  rintro e wF ⟨rfl, st⟩
  replace B4 := Lib.hid (B4.out.trans (st.mono B4.out.size))
  clear st FS2
  go_wp2_with fail
  refine (AL.out wF).mono ?_
  rintro e wG ⟨rfl, st⟩
  replace B4 := Lib.hid (B4.out.trans (st.mono B4.out.size))
  clear st
  go_wp2_with fail
  go_ret
  exact ⟨rfl, KB.out.trans (B4.out.mono KB.out.size)⟩
end Go.Proofs.Ytbcfafihkdddeaa
