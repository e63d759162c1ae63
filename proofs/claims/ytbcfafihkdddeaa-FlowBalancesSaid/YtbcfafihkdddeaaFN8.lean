/- Flow: Check, the reference's. -/
import Derived.Test.YtbcfafihkdddeaaFN7
namespace Go.Proofs.Ytbcfafihkdddeaa
open Go.RowKit
set_option linter.unusedVariables false
set_option linter.unusedSimpArgs false

set_option maxRecDepth 100000 in
set_option maxHeartbeats 8000000 in
theorem rCheck_any (n : Int) (hn : -9223372036854775808 ≤ n ∧ n ≤ 9223372036854775807) (p : Option Addr) (c m : Nat) (A : Nat → Ar) (q : Option Addr) (d k : Nat) (M : Nat → Int) (q2 : Option Addr) (d2 l : Nat) (P : Nat → Int) (w : World) (r : ArcR w p m A) (r2 : NmR w q k M) (lm : m ≤ 1000000) (lk : k ≤ 1000000) (r3 : NmR w q2 l P) (ll : l ≤ 1000000):
    Calls Try.prog 53 #[.int .i64 n, .slice p m c, .slice q k d, .slice q2 l d2] w fun e w' => ∃ b x, e = .returned (.tuple #[.bool b, .int .i64 x]) ∧ ChQ n m A k M l P b x ∧ Below w.heap.size w w' := by
  have R3 := Lib.hid r3
  have R := Lib.hid r
  have R2 := Lib.hid r2
  have CA := Lib.hid (rAmounts_any n hn p c m A q d k M w r r2 lm lk)
  go_enter Try.func53, Try.ntmps53
  go_wp2_with fail
  refine CA.out.mono ?_
  rintro e w1 ⟨x, rfl, nq, st⟩
  have NQ := Lib.hid nq
  have KB := Lib.hid st
  clear nq st CA
  by_cases x0 : x = 0
  case neg =>
    have x1 : (x == 0) = false := by simpa using x0
    have x2 : (x != 0) = true := by simpa using x0
    have X0 := Lib.hid x0
    clear x0
    go_wp2_with fail
    go_ret2
    first
      | exact ⟨false, x, rfl, .inl ⟨X0.out, NQ.out, rfl⟩, KB.out⟩
      | exact .inl ⟨x, rfl, .inl ⟨X0.out, NQ.out, rfl⟩, KB.out⟩
  subst x0
  have x1 : ((0 : Int) == 0) = true := by decide
  have x2 : ((0 : Int) != 0) = false := by decide
  obtain ⟨nb, m128, OKS, rfl, AMT⟩ := NQ.out.good
  obtain ⟨u, rfl⟩ := Int.eq_ofNat_of_zero_le (show 0 ≤ n by omega)
  have OKS := Lib.hid OKS
  have u32 : u ≤ 32 := by omega
  have u1 : 1 ≤ u := by omega
  by_cases el : (l : Int) = (u : Int)
  case neg =>
    have y1 : ((l : Int) == (u : Int)) = false := by simpa using el
    have y2 : ((l : Int) != (u : Int)) = true := by simpa using el
    have FF := Lib.hid (show ChQ (u : Int) k A k M l P false 2 from .inr (.inl ⟨NQ.out, el, rfl, rfl⟩))
    clear el r r2 r3 AMT
    go_wp2_with fail
    go_ret2
    first
      | exact ⟨false, 2, rfl, FF.out, KB.out⟩
      | exact .inl ⟨2, rfl, FF.out, KB.out⟩
  obtain rfl : l = u := by omega
  have y1 : ((l : Int) == (l : Int)) = true := by simp
  have y2 : ((l : Int) != (l : Int)) = false := by simp
  have BADQ := Lib.hid (show ∀ i, i < l → ¬ (-1125899906842624 ≤ P i ∧ P i ≤ 1125899906842624) → ChQ (l : Int) k A k M l P false 2 from fun i hi h => .inr (.inr (.inl ⟨NQ.out, rfl, fun g => h (g i hi), rfl, rfl⟩)))
  have GOODQ := Lib.hid (show (∀ i, i < l → -1125899906842624 ≤ P i ∧ P i ≤ 1125899906842624) → ∀ b, (b = true ↔ fine (stL A M k) P) → ChQ (l : Int) k A k M l P b 0 from fun h b hb => .inr (.inr (.inr ⟨NQ.out, rfl, h, rfl, hb⟩)))
  have CS := Lib.hid (fun W (B : Below w.heap.size w W) => rSteps_any p c k A q d M l W (r.below B) (r2.below B) m128 OKS.out)
  have LN := stps_len A M k
  have OKL := Lib.hid (stl_nat (M := M) OKS.out)
  clear r r2 r3 nb AMT OKS R R2 NQ
  go_wp2_with fail
  clear y1 y2 x1 x2
  go_loopw [11] (fun kv wr => ∃ i : Nat, i ≤ l ∧ kv = .int .i64 i ∧ Hid (∀ j, j < i → -1125899906842624 ≤ P j ∧ P j ≤ 1125899906842624) ∧ Hid (Below w.heap.size w wr)) (fun kv _ => l - (intOf kv).toNat)
  case atStart => exact ⟨0, Nat.zero_le _, rfl, Lib.hid (fun j hj => by omega), KB⟩
  case round =>
    clear KB
    obtain ⟨i, hi', rfl, ALL, KB⟩ := hrel
    by_cases t1 : i < l
    · have i1 : (0 : Int) ≤ (i : Int) := by omega
      have i2 : (i : Int) < (l : Int) := by omega
      obtain ⟨y, ey, ky, cy⟩ := (R3.out.below KB.out) i t1
      subst ey
      have BAD := Lib.hid (BADQ.out i t1)
      have GOOD := Lib.hid (show (-1125899906842624 ≤ P i ∧ P i ≤ 1125899906842624) → ∀ j, j < i + 1 → -1125899906842624 ≤ P j ∧ P j ≤ 1125899906842624 from fun h j hj => by
        by_cases e : j = i
        · rw [e]; exact h
        · exact ALL.out j (by omega))
      generalize P i = v at *
      clear ky ALL BADQ
      by_cases z0 : v < -1125899906842624
      · have e0 : decide (v < -1125899906842624) = true := decide_eq_true z0
        have FF := Lib.hid (BAD.out (by omega))
        clear GOOD BAD GOODQ z0
        go_wp2_with fail
        go_ret2
        first
          | exact ⟨false, 2, rfl, FF.out, KB.out⟩
          | exact .inl ⟨2, rfl, FF.out, KB.out⟩
      have e0 : decide (v < -1125899906842624) = false := decide_eq_false z0
      by_cases z1 : 1125899906842624 < v
      · have e1 : decide (1125899906842624 < v) = true := decide_eq_true z1
        have FF := Lib.hid (BAD.out (by omega))
        clear GOOD BAD GOODQ z0 z1
        go_wp2_with fail
        go_ret2
        first
          | exact ⟨false, 2, rfl, FF.out, KB.out⟩
          | exact .inl ⟨2, rfl, FF.out, KB.out⟩
      have e1 : decide (1125899906842624 < v) = false := decide_eq_false z1
      have A2 := Lib.hid (GOOD.out (by omega))
      clear GOOD BAD z0 z1
      go_wp2_with fail
      go_roundw
      case rel => exact ⟨i + 1, by omega, by go_num, A2, KB⟩
      case measure => simp [intOf]; omega
    obtain rfl : i = l := by omega
    have BDP := Lib.hid ALL.out
    have GQ := Lib.hid (GOODQ.out ALL.out)
    clear BADQ GOODQ ALL
    go_wp2_with fail
    refine (CS.out wr KB.out).mono ?_
    rintro e w2 ⟨v, rfl, hown, st⟩
    obtain ⟨pp, cc, rfl, sr⟩ := own_steps hown
    have SR := Lib.hid (show ∀ W, Below w2.heap.size w2 W → StR W pp (stps A M k) from fun W B => sr.below B)
    have K2 := Lib.hid (show Below w.heap.size w w2 from KB.out.trans (st.mono KB.out.size))
    clear hown sr st CS KB
    have HLL := Lib.hid (show (stL A M k).length = (stps A M k).length from by simp [stL])
    obtain ⟨m, hm⟩ : ∃ m, m = (stps A M k).length := ⟨_, rfl⟩
    rw [← hm] at LN ⊢
    have HM := Lib.hid hm
    have SZ := Lib.hid (show w.heap.size ≤ w2.heap.size from K2.out.size)
    clear hm
    go_wp2_with fail
    go_loopw [13] (fun kv wr => ∃ j : Nat, j ≤ m ∧ kv = .int .i64 j ∧ Hid (∀ s ∈ (stL A M k).take j, ¬ P s.1 + s.2.2 < P s.2.1) ∧ Hid (Below w2.heap.size w2 wr)) (fun kv _ => m - (intOf kv).toNat)
    case atStart => exact ⟨0, Nat.zero_le _, rfl, Lib.hid (fun s hs => by simp at hs), Lib.hid (Below.refl _ _)⟩
    case round =>
      obtain ⟨j, hj, rfl, FI, HB⟩ := hrel
      by_cases t2 : j < m
      · have m1 : (0 : Int) ≤ (j : Int) := by omega
        have m2 : (j : Int) < (m : Int) := by omega
        have jl : j < (stps A M k).length := by have := HM.out; omega
        have jL : j < (stL A M k).length := by have := HLL.out; omega
        obtain ⟨x, ex, kx, a0, a1, a2⟩ := (SR.out _ HB.out) j jl
        subst ex
        obtain ⟨s, hs⟩ : ∃ s, s = (stL A M k)[j] := ⟨_, rfl⟩
        have so := OKL.out s (by rw [hs]; exact List.getElem_mem _)
        have hs2 : ((stps A M k)[j]).s = s := by rw [hs]; simp [stL]
        rw [hs2] at a0 a1 a2
        have ON := Lib.hid (show P s.1 + s.2.2 < P s.2.1 → ¬ fine (stL A M k) P from fun h g => g s (by rw [hs]; exact List.getElem_mem _) h)
        have OF := Lib.hid (show ¬ P s.1 + s.2.2 < P s.2.1 → ∀ t ∈ (stL A M k).take (j + 1), ¬ P t.1 + t.2.2 < P t.2.1 from fun h t ht => by
          rw [take_st jL, List.mem_append] at ht
          rcases ht with ht | ht
          · exact FI.out t ht
          · rw [List.mem_singleton.1 ht, ← hs]; exact h)
        clear hs hs2 kx jl jL FI
        obtain ⟨sa, sb, sc⟩ := s
        dsimp only at so a0 a1 a2 ON OF
        obtain ⟨so1, so2, so3, so4⟩ := so
        have BB := Lib.hid (K2.out.trans (HB.out.mono SZ.out))
        obtain ⟨y, ey, ky, ca⟩ := (R3.out.below BB.out) sa so1
        obtain ⟨y', ey', ky', cb⟩ := (R3.out.below BB.out) sb so2
        subst ey
        cases ey'
        have ba := BDP.out sa so1
        have bb' := BDP.out sb so2
        have e1 : (0 : Int) ≤ (sa : Int) := by omega
        have e2 : (sa : Int) < (i : Int) := by omega
        have e3 : (0 : Int) ≤ (sb : Int) := by omega
        have e4 : (sb : Int) < (i : Int) := by omega
        have wA : IntKind.i64.wrap (P sa + sc) = P sa + sc := hwI (by omega) (by omega)
        clear ky ky' ba bb' BB
        obtain ⟨bb, dd⟩ : ∃ x, decide (P sa + sc < P sb) = x := ⟨_, rfl⟩
        go_upto_region 15 with fail
        go_quiet (fail)
        have DD := Lib.hid dd
        clear dd ca cb a0 a1 a2
        replace HB := Lib.hid (below_drewN HB.out nq)
        generalize wr.drewN nq = wb at *
        cases bb
        case false =>
          have F2 := Lib.hid (OF.out (of_decide_eq_false DD.out))
          clear OF ON DD
          go_wp2_with fail
          go_roundw
          case rel => exact ⟨j + 1, by omega, by go_num, F2, HB⟩
          case measure => simp [intOf]; omega
        case true =>
          have FF := Lib.hid (GQ.out false ⟨fun h => (by cases h), fun h => absurd h (ON.out (of_decide_eq_true DD.out))⟩)
          clear OF ON DD
          go_wp2_with fail
          go_ret2
          first
            | exact ⟨false, 0, rfl, FF.out, K2.out.trans (HB.out.mono SZ.out)⟩
            | exact .inl ⟨0, rfl, FF.out, K2.out.trans (HB.out.mono SZ.out)⟩
      · obtain rfl : j = m := by omega
        have ET := Lib.hid (show (stL A M k).take j = stL A M k from List.take_of_length_le (by have := HM.out; have := HLL.out; omega))
        have FF := Lib.hid (GQ.out true ⟨fun _ s hs => FI.out s (by rw [ET.out]; exact hs), fun _ => rfl⟩)
        clear FI
        go_wp2_with fail
        go_ret2
        first
          | exact ⟨true, 0, rfl, FF.out, K2.out.trans (HB.out.mono SZ.out)⟩
          | exact .inr ⟨0, rfl, FF.out, K2.out.trans (HB.out.mono SZ.out)⟩
end Go.Proofs.Ytbcfafihkdddeaa
