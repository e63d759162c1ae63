/- Flow: Potentials and Check, the program's. -/
import Derived.Test.YtbcfafihkdddeaaFND
namespace Go.Proofs.Ytbcfafihkdddeaa
open Go.RowKit
set_option linter.unusedVariables false
set_option linter.unusedSimpArgs false

theorem eds_ok {A : Nat → Ar} {M : Nat → Int} {n : Nat} : ∀ {i : Nat}, (∀ j, j < i → arOk (n : Int) (A j)) → EdOk n (eds A M i)
  | 0, _ => fun e he => by cases he
  | i + 1, h => fun e he => by
    have ih := eds_ok (M := M) (i := i) (fun j hj => h j (by omega))
    obtain ⟨h1, h2, h3, h4, h5, h6, h7, h8, h9⟩ := h i (by omega)
    unfold eds at he
    rcases List.mem_append.1 he with he | he
    · exact ih e he
    · rcases List.mem_cons.1 he with rfl | he
      · show (A i).fr.toNat < n ∧ (A i).to'.toNat < n ∧ -32768 ≤ (A i).cost ∧ (A i).cost ≤ 32768 ∧ (A i).fr.toNat ≠ (A i).to'.toNat
        omega
      · rcases List.mem_singleton.1 he with rfl
        show (A i).to'.toNat < n ∧ (A i).fr.toNat < n ∧ -32768 ≤ -(A i).cost ∧ -(A i).cost ≤ 32768 ∧ (A i).to'.toNat ≠ (A i).fr.toNat
        omega
theorem none_late {n : Nat} {L : List St} (n1 : 1 ≤ n) (ok : StOk n L) (h : ∀ j, j < n → mvB L (rds L j) = true) : ∀ j, j ≤ n → mvB L (rds L j) = true := fun j hj => by
  by_cases c : j < n
  · exact h j c
  · obtain rfl : j = n := by omega
    cases e : mvB L (rds L j) with
    | true => rfl
    | false =>
      have := rds_early n1 (fun s hs => ⟨(ok s hs).1, (ok s hs).2.1⟩) e
      rw [h (j - 1) (by omega)] at this
      cases this

set_option maxRecDepth 100000 in
set_option maxHeartbeats 8000000 in
theorem Potentials_any (n : Int) (hn : -9223372036854775808 ≤ n ∧ n ≤ 9223372036854775807) (p : Option Addr) (c m : Nat) (A : Nat → Ar) (q : Option Addr) (d k : Nat) (M : Nat → Int) (w : World) (r : ArcR w p m A) (r2 : NmR w q k M) (lm : m ≤ 1000000) (lk : k ≤ 1000000) :
    Calls Try.prog 50 #[.int .i64 n, .slice p m c, .slice q k d] w (PoQ n m A k M w) := by
  have R := Lib.hid r
  have R2 := Lib.hid r2
  have CA := Lib.hid (checkAmounts_any n hn p c m A q d k M w r r2 lm lk)
  go_enter Try.func50, Try.ntmps50
  go_wp2_with fail
  refine CA.out.mono ?_
  rintro e w1 ⟨x, rfl, nq, st⟩
  have NQ := Lib.hid nq
  have KB := Lib.hid st
  clear nq st CA
  by_cases x0 : x = 0
  case neg =>
    have x1 : (x == 0) = false := by simpa using x0
    have x2 : (x != 0) = true := by simpa using x0
    have X0 := Lib.hid x0
    clear x0
    go_wp2_with fail
    go_ret2
    exact ⟨x, _, rfl, KB.out, .inl ⟨X0.out, NQ.out, rfl⟩⟩
  subst x0
  have x1 : ((0 : Int) == 0) = true := by decide
  have x2 : ((0 : Int) != 0) = false := by decide
  obtain ⟨nb, m128, OKS, rfl, AMT⟩ := NQ.out.good
  obtain ⟨u, rfl⟩ := Int.eq_ofNat_of_zero_le (show 0 ≤ n by omega)
  have OKS := Lib.hid OKS
  have u32 : u ≤ 32 := by omega
  have u1 : 1 ≤ u := by omega
  have CS := Lib.hid (fun W (B : Below w.heap.size w W) => carrying_any u u1 u32 p c k A q d M W (r.below B) (r2.below B) m128 OKS.out AMT)
  have LN := eds_len A M k
  have OE := open_eds A M k
  have CL := Lib.hid (fun (base b rl rp : Nat) (ve : Value) (lv : Nat → Value) (W : World) (hN : NW base b rl rp u (2 * k) ve (eds A M k) lv (fun _ => 0) W) (B : Below base w1 W) (bs : base ≤ W.heap.size) => lower_any w1 W hN B bs u32 (eds_ok (M := M) OKS.out) (by omega))
  have LATE := Lib.hid (fun h => none_late u1 (stl_nat (M := M) OKS.out) h)
  rw [OE] at CL
  clear r r2 nb AMT OE
  go_wp2_with fail
  refine (CS.out w1 KB.out).mono ?_
  rintro e w2 ⟨b, rl, rp, ve, lv, rfl, hN, st⟩
  have HN := Lib.hid hN
  have SZ := Lib.hid (show w.heap.size ≤ w1.heap.size from KB.out.size)
  have S2 := Lib.hid st
  clear hN st CS
  go_wp2_with fail
  refine (CL.out _ _ _ _ _ _ _ HN.out S2.out S2.out.size).mono ?_
  rintro e w3 ⟨x, P, rfl, hN, st, lq⟩
  replace HN := Lib.hid hN
  have LQ := Lib.hid lq
  replace KB := Lib.hid (KB.out.trans (st.mono KB.out.size))
  clear hN st lq CL S2
  cases x
  case false =>
    have FF := Lib.hid (show ∀ j, j ≤ ((u : Int)).toNat → mvB (stL A M k) (rds (stL A M k) j) = true from by
      rcases LQ.out with ⟨h, _⟩ | ⟨_, h⟩
      · cases h
      · intro j hj; exact LATE.out h j (by omega))
    clear LQ HN LATE
    go_wp2_with fail
    go_ret2
    exact ⟨13, _, rfl, KB.out, .inr (.inl ⟨NQ.out, rfl, rfl, FF.out⟩)⟩
  case true =>
    obtain ⟨-, -, c2, -⟩ := HN.out.cells
    have FF := Lib.hid (show ∃ j, j < u ∧ mvB (stL A M k) (rds (stL A M k) j) = false ∧ P = rds (stL A M k) j from by
      rcases LQ.out with ⟨_, h⟩ | ⟨h, _⟩
      · exact h
      · cases h)
    clear LQ LATE
    go_wp2_with fail
    go_ret2
    obtain ⟨j, h1, h2, h3⟩ := FF.out
    exact ⟨0, _, rfl, KB.out, .inr (.inr ⟨NQ.out, rfl, rp, j, by simp, Nat.le_trans SZ.out HN.out.ne.2.2.2.2.2, h2, by rw [← h3]; simpa using HN.out.pr, by omega⟩)⟩

set_option maxRecDepth 100000 in
set_option maxHeartbeats 8000000 in
theorem Check_any (n : Int) (hn : -9223372036854775808 ≤ n ∧ n ≤ 9223372036854775807) (p : Option Addr) (c m : Nat) (A : Nat → Ar) (q : Option Addr) (d k : Nat) (M : Nat → Int) (q2 : Option Addr) (d2 l : Nat) (P : Nat → Int) (w : World) (r : ArcR w p m A) (r2 : NmR w q k M) (lm : m ≤ 1000000) (lk : k ≤ 1000000) (r3 : NmR w q2 l P) (ll : l ≤ 1000000):
    Calls Try.prog 52 #[.int .i64 n, .slice p m c, .slice q k d, .slice q2 l d2] w fun e w' => ∃ b x, e = .returned (.tuple #[.bool b, .int .i64 x]) ∧ ChQ n m A k M l P b x ∧ Below w.heap.size w w' := by
  have R3 := Lib.hid r3
  have R := Lib.hid r
  have R2 := Lib.hid r2
  have CA := Lib.hid (checkAmounts_any n hn p c m A q d k M w r r2 lm lk)
  go_enter Try.func52, Try.ntmps52
  go_wp2_with fail
  refine CA.out.mono ?_
  rintro e w1 ⟨x, rfl, nq, st⟩
  have NQ := Lib.hid nq
  have KB := Lib.hid st
  clear nq st CA
  by_cases x0 : x = 0
  case neg =>
    have x1 : (x == 0) = false := by simpa using x0
    have x2 : (x != 0) = true := by simpa using x0
    have X0 := Lib.hid x0
    clear x0
    go_wp2_with fail
    go_ret2
    first
      | exact ⟨false, x, rfl, .inl ⟨X0.out, NQ.out, rfl⟩, KB.out⟩
      | exact .inl ⟨x, rfl, .inl ⟨X0.out, NQ.out, rfl⟩, KB.out⟩
  subst x0
  have x1 : ((0 : Int) == 0) = true := by decide
  have x2 : ((0 : Int) != 0) = false := by decide
  obtain ⟨nb, m128, OKS, rfl, AMT⟩ := NQ.out.good
  obtain ⟨u, rfl⟩ := Int.eq_ofNat_of_zero_le (show 0 ≤ n by omega)
  have OKS := Lib.hid OKS
  have u32 : u ≤ 32 := by omega
  have u1 : 1 ≤ u := by omega
  by_cases el : (l : Int) = (u : Int)
  case neg =>
    have y1 : ((l : Int) == (u : Int)) = false := by simpa using el
    have y2 : ((l : Int) != (u : Int)) = true := by simpa using el
    have FF := Lib.hid (show ChQ (u : Int) k A k M l P false 2 from .inr (.inl ⟨NQ.out, el, rfl, rfl⟩))
    clear el r r2 r3 AMT
    go_wp2_with fail
    go_ret2
    first
      | exact ⟨false, 2, rfl, FF.out, KB.out⟩
      | exact .inl ⟨2, rfl, FF.out, KB.out⟩
  obtain rfl : l = u := by omega
  have y1 : ((l : Int) == (l : Int)) = true := by simp
  have y2 : ((l : Int) != (l : Int)) = false := by simp
  have BADQ := Lib.hid (show ∀ i, i < l → ¬ (-1125899906842624 ≤ P i ∧ P i ≤ 1125899906842624) → ChQ (l : Int) k A k M l P false 2 from fun i hi h => .inr (.inr (.inl ⟨NQ.out, rfl, fun g => h (g i hi), rfl, rfl⟩)))
  have GOODQ := Lib.hid (show (∀ i, i < l → -1125899906842624 ≤ P i ∧ P i ≤ 1125899906842624) → ∀ b, (b = true ↔ fine (stL A M k) P) → ChQ (l : Int) k A k M l P b 0 from fun h b hb => .inr (.inr (.inr ⟨NQ.out, rfl, h, rfl, hb⟩)))
  have CS := Lib.hid (fun W (B : Below w.heap.size w W) => carrying_any l u1 u32 p c k A q d M W (r.below B) (r2.below B) m128 OKS.out AMT)
  have LN := eds_len A M k
  have OE := Lib.hid (open_eds A M k)
  have EOK := Lib.hid (eds_ok (M := M) OKS.out)
  clear r r2 r3 nb AMT OKS R R2 NQ
  go_wp2_with fail
  clear y1 y2 x1 x2
  go_loopw [28] (fun kv wr => ∃ i : Nat, i ≤ l ∧ kv = .int .i64 i ∧ Hid (∀ j, j < i → -1125899906842624 ≤ P j ∧ P j ≤ 1125899906842624) ∧ Hid (Below w.heap.size w wr)) (fun kv _ => l - (intOf kv).toNat)
  case atStart => exact ⟨0, Nat.zero_le _, rfl, Lib.hid (fun j hj => by omega), KB⟩
  case round =>
    clear KB
    obtain ⟨i, hi', rfl, ALL, KB⟩ := hrel
    by_cases t1 : i < l
    · have i1 : (0 : Int) ≤ (i : Int) := by omega
      have i2 : (i : Int) < (l : Int) := by omega
      obtain ⟨y, ey, ky, cy⟩ := (R3.out.below KB.out) i t1
      subst ey
      have BAD := Lib.hid (BADQ.out i t1)
      have GOOD := Lib.hid (show (-1125899906842624 ≤ P i ∧ P i ≤ 1125899906842624) → ∀ j, j < i + 1 → -1125899906842624 ≤ P j ∧ P j ≤ 1125899906842624 from fun h j hj => by
        by_cases e : j = i
        · rw [e]; exact h
        · exact ALL.out j (by omega))
      generalize P i = v at *
      clear ky ALL BADQ
      by_cases z0 : v < -1125899906842624
      · have e0 : decide (v < -1125899906842624) = true := decide_eq_true z0
        have FF := Lib.hid (BAD.out (by omega))
        clear GOOD BAD GOODQ z0
        go_wp2_with fail
        go_ret2
        first
          | exact ⟨false, 2, rfl, FF.out, KB.out⟩
          | exact .inl ⟨2, rfl, FF.out, KB.out⟩
      have e0 : decide (v < -1125899906842624) = false := decide_eq_false z0
      by_cases z1 : 1125899906842624 < v
      · have e1 : decide (1125899906842624 < v) = true := decide_eq_true z1
        have FF := Lib.hid (BAD.out (by omega))
        clear GOOD BAD GOODQ z0 z1
        go_wp2_with fail
        go_ret2
        first
          | exact ⟨false, 2, rfl, FF.out, KB.out⟩
          | exact .inl ⟨2, rfl, FF.out, KB.out⟩
      have e1 : decide (1125899906842624 < v) = false := decide_eq_false z1
      have A2 := Lib.hid (GOOD.out (by omega))
      clear GOOD BAD z0 z1
      go_wp2_with fail
      go_roundw
      case rel => exact ⟨i + 1, by omega, by go_num, A2, KB⟩
      case measure => simp [intOf]; omega
    obtain rfl : i = l := by omega
    have BDP := Lib.hid ALL.out
    have GQ := Lib.hid (GOODQ.out ALL.out)
    clear BADQ GOODQ ALL
    go_wp2_with fail
    refine (CS.out wr KB.out).mono ?_
    rintro e w2 ⟨b, rl, rp, ve, lv, rfl, hN, st⟩
    obtain ⟨pe, ce, rfl⟩ := own_form hN.eg
    have HN := Lib.hid (show ∀ W, Below w2.heap.size w2 W → NW wr.heap.size b rl rp i (2 * k) (.slice pe (eds A M k).length ce) (eds A M k) lv (fun _ => 0) W from fun W B => hN.below B)
    have K2 := Lib.hid (show Below w.heap.size w w2 from KB.out.trans (st.mono KB.out.size))
    obtain ⟨c0, -, -, -⟩ := hN.cells
    clear hN st CS KB
    obtain ⟨E, hE⟩ : ∃ E, E = eds A M k := ⟨_, rfl⟩
    rw [← hE] at LN OE EOK HN c0
    rw [← OE.out] at GQ
    clear hE OE
    obtain ⟨m, hm⟩ : ∃ m, m = E.length := ⟨_, rfl⟩
    have EAT := Lib.hid (fun (W : World) (B : Below w2.heap.size w2 W) (j : Nat) (hj : j < E.length) => NW.edgeAt (HN.out W B) hj)
    rw [← hm] at LN c0
    have HM := Lib.hid hm
    have SZ := Lib.hid (show w.heap.size ≤ w2.heap.size from K2.out.size)
    clear hm HN
    go_wp2_with fail
    clear c0
    go_loopw [47] (fun kv wr => ∃ j : Nat, j ≤ m ∧ kv = .int .i64 j ∧ Hid (∀ s ∈ open' (E.take j), ¬ P s.1 + s.2.2 < P s.2.1) ∧ Hid (Below w2.heap.size w2 wr)) (fun kv _ => m - (intOf kv).toNat)
    case atStart => exact ⟨0, Nat.zero_le _, rfl, Lib.hid (fun s hs => by simp [open'] at hs), Lib.hid (Below.refl _ _)⟩
    case round =>
      obtain ⟨j, hj, rfl, FI, HB⟩ := hrel
      by_cases t2 : j < m
      · have m1 : (0 : Int) ≤ (j : Int) := by omega
        have m2 : (j : Int) < (m : Int) := by omega
        have jE : j < E.length := by have := HM.out; omega
        obtain ⟨ge, rfl, a0, a1, a2, a3⟩ := EAT.out wr HB.out j jE
        obtain ⟨e, he⟩ : ∃ e, e = E[j] := ⟨_, rfl⟩
        rw [← he] at a0 a1 a2 a3
        obtain ⟨so1, so2, so3, so4, -⟩ := EOK.out e (by rw [he]; exact List.getElem_mem _)
        have TK := take_ed jE
        rw [← he] at TK
        have ON := Lib.hid (show 0 < e.left → P e.s.1 + e.s.2.2 < P e.s.2.1 → ¬ fine (open' E) P from fun g h f => f e.s (by
          unfold open'
          exact List.mem_map.2 ⟨e, List.mem_filter.2 ⟨by rw [he]; exact List.getElem_mem _, by simpa using g⟩, rfl⟩) h)
        have OF := Lib.hid (show (¬ 0 < e.left ∨ ¬ P e.s.1 + e.s.2.2 < P e.s.2.1) → ∀ t ∈ open' (E.take (j + 1)), ¬ P t.1 + t.2.2 < P t.2.1 from fun h t ht => by
          rw [TK] at ht
          rcases List.mem_append.1 ht with ht | ht
          · exact FI.out t ht
          · split at ht
            · rename_i g
              rw [List.mem_singleton.1 ht]
              rcases h with h | h
              · exact absurd g h
              · exact h
            · cases ht)
        clear he TK FI
        obtain ⟨⟨sa, sb, sc⟩, lf⟩ := e
        dsimp only at so1 so2 so3 so4 a0 a1 a2 a3 ON OF
        have PT := Lib.hid (AB.newE wr (sa : Int) (sb : Int) lf sc)
        go_upto_region 15 with fail
        generalize wr.alloc (Obj.cells #[Value.int .i64 (sa : Int), Value.int .i64 (sb : Int), Value.int .i64 lf, Value.int .i64 sc] 143) = wa at *
        replace HB := Lib.hid (HB.out.trans (PT.out.2.mono HB.out.size))
        have PX := Lib.hid PT.out.1
        clear PT a0 a1 a2 a3
        generalize wr.heap.size = g at *
        obtain ⟨-, b0, b1, b2, b3⟩ := PX.out
        have BB := Lib.hid (K2.out.trans (HB.out.mono SZ.out))
        obtain ⟨y, ey, ky, ca⟩ := (R3.out.below BB.out) sa so1
        obtain ⟨y', ey', ky', cb⟩ := (R3.out.below BB.out) sb so2
        subst ey
        cases ey'
        have ba := BDP.out sa so1
        have bb' := BDP.out sb so2
        have e1 : (0 : Int) ≤ (sa : Int) := by omega
        have e2 : (sa : Int) < (i : Int) := by omega
        have e3 : (0 : Int) ≤ (sb : Int) := by omega
        have e4 : (sb : Int) < (i : Int) := by omega
        have wA : IntKind.i64.wrap (P sa + sc) = P sa + sc := hwI (by omega) (by omega)
        clear ky ky' ba bb' BB
        by_cases pl : 0 < lf
        case neg =>
          have d1 : decide (0 < lf) = false := decide_eq_false pl
          have F2 := Lib.hid (OF.out (.inl pl))
          clear ON OF pl
          go_quiet (fail)
          clear b0 b1 b2 b3 ca cb d1
          replace HB := Lib.hid (below_drewN HB.out nq)
          generalize wa.drewN nq = wb at *
          go_wp2_with fail
          go_roundw
          case rel => exact ⟨j + 1, by omega, by go_num, F2, HB⟩
          case measure => simp [intOf]; omega
        case pos =>
          have d1 : decide (0 < lf) = true := decide_eq_true pl
          obtain ⟨bb, dd⟩ : ∃ x, decide (P sa + sc < P sb) = x := ⟨_, rfl⟩
          go_quiet (fail)
          have DD := Lib.hid dd
          clear dd b0 b1 b2 b3 ca cb d1
          replace HB := Lib.hid (below_drewN HB.out nq)
          generalize wa.drewN nq = wb at *
          cases bb
          case false =>
            have F2 := Lib.hid (OF.out (.inr (of_decide_eq_false DD.out)))
            clear ON OF pl DD
            go_wp2_with fail
            go_roundw
            case rel => exact ⟨j + 1, by omega, by go_num, F2, HB⟩
            case measure => simp [intOf]; omega
          case true =>
            have FF := Lib.hid (GQ.out false ⟨fun h => (by cases h), fun h => absurd h (ON.out pl (of_decide_eq_true DD.out))⟩)
            clear ON OF pl DD
            go_wp2_with fail
            go_ret2
            first
              | exact ⟨false, 0, rfl, FF.out, K2.out.trans (HB.out.mono SZ.out)⟩
              | exact .inl ⟨0, rfl, FF.out, K2.out.trans (HB.out.mono SZ.out)⟩
      · obtain rfl : j = m := by omega
        have ET := Lib.hid (show E.take j = E from List.take_of_length_le (by have := HM.out; omega))
        have FF := Lib.hid (GQ.out true ⟨fun _ s hs => FI.out s (by rw [ET.out]; exact hs), fun _ => rfl⟩)
        clear FI
        go_wp2_with fail
        go_ret2
        first
          | exact ⟨true, 0, rfl, FF.out, K2.out.trans (HB.out.mono SZ.out)⟩
          | exact .inr ⟨0, rfl, FF.out, K2.out.trans (HB.out.mono SZ.out)⟩
end Go.Proofs.Ytbcfafihkdddeaa
