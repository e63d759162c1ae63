/- Flow: Steps, the reference's. -/
import Derived.Test.YtbcfafihkdddeaaFN4
namespace Go.Proofs.Ytbcfafihkdddeaa
open Go.RowKit
set_option linter.unusedVariables false
set_option linter.unusedSimpArgs false

theorem stepInfo : (Try.prog.info? 145).map (fun i => (i.zero, i.size, i.bytes)) = some (some (.agg #[.int .i64 0, .int .i64 0, .int .i64 0, .int .i64 0, .bool false]), 5, 40) := by kernel_rfl
theorem drewN_below (w : World) (n : Nat) : Below w.heap.size w (w.drewN n) := ⟨rfl, rfl, rfl, Nat.le_refl _, fun _ _ => rfl⟩
theorem step_snoc {w wa wx : World} {E : TypeId} {l : List Sp} {sp : Sp} {ov : Value} {obj : Obj} {g h cap : Nat} {v0 v1 v2 v3 : Int} (hb : Below w.heap.size w wa) (ho : wa.ownsRow w.heap.size E 5 ov l.length (rowS l)) (h1 : wx.ownsRow w.heap.size E 5 (.slice (some ⟨h, 0, none⟩) (l.length + 1) cap) (l.length + 1) (rowS l ++ spV sp)) (hg : (wa.alloc obj).grownBy wx ov.ownBlock) (hl : ov.ownBlock = some h ∨ h = wa.heap.size + 1) (pt : AB g v0 v1 v2 v3 wa) (ne : ov.ownBlock ≠ some g) :
    wx.ownsRow w.heap.size E 5 (.slice (some ⟨h, 0, none⟩) (l.length + 1) cap) (l ++ [sp]).length (rowS (l ++ [sp])) ∧ Below w.heap.size w wx ∧ AB g v0 v1 v2 v3 wx ∧ (Value.slice (some ⟨h, 0, none⟩) (l.length + 1) cap).ownBlock ≠ some g := by
  have s1 : (wa.alloc obj).heap.size = wa.heap.size + 1 := by simp
  refine ⟨by rw [rowS_snoc]; simpa using h1, (hb.alloc hb.size obj).grown hg (by have := hb.size; simp; omega) (own_ltF ho), ?_, ?_⟩
  · refine pt.keep (by have := hg.size; omega) ?_
    rw [hg.block g (by have := pt.sz; omega) (fun e => ne e.symm), Below.heap_alloc _ _ _ pt.sz]
  · intro e
    have e' : h = g := by simpa [Value.ownBlock] using e
    rcases hl with k | k
    · exact ne (by rw [k, e'])
    · have := pt.sz; omega

set_option maxRecDepth 100000 in
set_option maxHeartbeats 8000000 in
theorem rSteps_any (p : Option Addr) (c m : Nat) (A : Nat → Ar) (q : Option Addr) (d : Nat) (M : Nat → Int) (n : Int) (w : World) (r : ArcR w p m A) (r2 : NmR w q m M) (lm : m ≤ 128) (OKS : ∀ i, i < m → arOk n (A i)) :
    Calls Try.prog 99 #[.slice p m c, .slice q m d] w fun e w' => ∃ v, e = .returned v ∧ w'.ownsRow w.heap.size 145 5 v (stps A M m).length (rowS (stps A M m)) ∧ Below w.heap.size w w' := by
  obtain ⟨i0, hi, hz0, hz1, hz2⟩ := info_parts stepInfo
  have R := Lib.hid r
  have R2 := Lib.hid r2
  have OKS := Lib.hid OKS
  have LEN := Lib.hid (fun i => stps_len A M i)
  clear r r2
  go_enter Try.func99, Try.ntmps99
  go_wp2_with fail
  go_loopw [5, 6] (fun ov kv wr => ∃ i : Nat, i ≤ m ∧ kv = .int .i64 i ∧ Hid (wr.ownsRow w.heap.size 145 5 ov (stps A M i).length (rowS (stps A M i))) ∧ Hid (Below w.heap.size w wr)) (fun _ kv _ => m - (intOf kv).toNat)
  case atStart => exact ⟨0, Nat.zero_le _, rfl, Lib.hid (World.ownsRow_nil _ _ _ _), Lib.hid (Below.refl _ _)⟩
  case round =>
    obtain ⟨i, hi', rfl, HO, HB⟩ := hrel
    by_cases t1 : i < m
    · have i1 : (0 : Int) ≤ (i : Int) := by omega
      have i2 : (i : Int) < (m : Int) := by omega
      have ok := OKS.out i t1
      unfold arOk at ok
      have ln := LEN.out i
      obtain ⟨x, ex, xa⟩ := (R.out.below HB.out) i t1
      obtain ⟨y, ey, ky, cy⟩ := (R2.out.below HB.out) i t1
      subst ex ey
      have NRR := Lib.hid (show ∀ W, Below w.heap.size w W → W.cell? (y.add i) = some (.int .i64 (M i)) from fun W B => by
        obtain ⟨z, ez, _, za⟩ := (R2.out.below B) i t1
        cases ez; exact za)
      clear ky cy
      have SS := Lib.hid (show stps A M (i + 1) = (stps A M i ++ if M i < (A i).cap then [⟨fwd A i, i, true⟩] else []) ++ if 0 < M i then [⟨bwd A i, i, false⟩] else [] from rfl)
      obtain ⟨v0, hv0⟩ : ∃ v, v = (A i).fr := ⟨_, rfl⟩
      obtain ⟨v1, hv1⟩ : ∃ v, v = (A i).to' := ⟨_, rfl⟩
      rw [← hv0, ← hv1] at ok
      obtain ⟨s, rfl⟩ := Int.eq_ofNat_of_zero_le ok.1
      obtain ⟨t, rfl⟩ := Int.eq_ofNat_of_zero_le ok.2.2.1
      have SF := Lib.hid (show spV ⟨fwd A i, i, true⟩ = [.int .i64 (s : Int), .int .i64 (t : Int), .int .i64 (A i).cost, .int .i64 (i : Int), .bool true] from by simp [spV, fwd, ← hv0, ← hv1])
      have SB := Lib.hid (show spV ⟨bwd A i, i, false⟩ = [.int .i64 (t : Int), .int .i64 (s : Int), .int .i64 (-(A i).cost), .int .i64 (i : Int), .bool false] from by simp [spV, bwd, ← hv0, ← hv1])
      obtain ⟨-, a0, a1, a2, a3⟩ := xa
      rw [← hv0] at a0
      rw [← hv1] at a1
      have wN : IntKind.i64.wrap (-(A i).cost) = -(A i).cost := hwI (by omega) (by omega)
      clear hv0 hv1 ok
      generalize (⟨fwd A i, i, true⟩ : Sp) = sp1 at *
      generalize (⟨bwd A i, i, false⟩ : Sp) = sp2 at *
      generalize (A i).cap = v2 at *
      generalize (A i).cost = v3 at *
      obtain ⟨y0, hy0⟩ : ∃ y0, y0 = M i := ⟨_, rfl⟩
      rw [← hy0] at NRR SS
      clear hy0
      obtain ⟨L0, hL0⟩ : ∃ L, L = stps A M i := ⟨_, rfl⟩
      rw [← hL0] at HO SS ln
      clear hL0
      have PT := Lib.hid (AB.new wr (s : Int) (t : Int) v2 v3)
      have P2 := Lib.hid (show Below wr.heap.size wr (wr.alloc (Obj.cells #[Value.int .i64 (s : Int), Value.int .i64 (t : Int), Value.int .i64 v2, Value.int .i64 v3] 127)) from (Below.refl _ wr).alloc (Nat.le_refl _) _)
      have NE := Lib.hid (show (u5 : Value).ownBlock ≠ some wr.heap.size from fun e => by have := (World.ownsRow.lt HO.out _ e).2; omega)
      go_upto_region 6 with fail
      generalize wr.alloc (Obj.cells #[Value.int .i64 (s : Int), Value.int .i64 (t : Int), Value.int .i64 v2, Value.int .i64 v3] 127) = wa at *
      replace HO := Lib.hid (own_belowF HO.out P2.out)
      replace HB := Lib.hid (HB.out.trans (P2.out.mono HB.out.size))
      clear P2 a0 a1 a2 a3
      generalize wr.heap.size = g at *
      obtain ⟨-, b0, b1, b2, b3⟩ := PT.out
      have cm := NRR.out _ HB.out
      obtain ⟨bb, dd⟩ : ∃ b, decide (y0 < v2) = b := ⟨_, rfl⟩
      go_quiet (fail)
      have DD := Lib.hid dd
      clear dd
      replace HO := Lib.hid (own_belowF HO.out (drewN_below wa nq))
      replace HB := Lib.hid (below_drewN HB.out nq)
      replace PT := Lib.hid (PT.out.below (drewN_below wa nq))
      clear b0 b1 b2 b3 cm
      generalize wa.drewN nq = wb at *
      obtain ⟨L1, hL1⟩ : ∃ L1, L1 = L0 ++ if y0 < v2 then [sp1] else [] := ⟨_, rfl⟩
      rw [← hL1] at SS
      have L1T := Lib.hid (show y0 < v2 → L1 = L0 ++ [sp1] from fun h => by rw [hL1, if_pos h])
      have L1F := Lib.hid (show ¬ y0 < v2 → L1 = L0 from fun h => by rw [hL1, if_neg h]; simp)
      have ln1 : L1.length ≤ 2 * i + 1 := by
        rw [hL1]
        split <;> simp <;> omega
      clear hL1
      go_upto_if 24 with fail
      go_cut [5] from 18 to 52 (fun ov wx => Hid (wx.ownsRow w.heap.size 145 5 ov L1.length (rowS L1)) ∧ Hid (Below w.heap.size w wx) ∧ Hid (AB g (s : Int) (t : Int) v2 v3 wx) ∧ Hid (ov.ownBlock ≠ some g))
      case first =>
        cases bb
        case true =>
          have E := Lib.hid (L1T.out (of_decide_eq_true DD.out))
          obtain ⟨-, b0, b1, b2, b3⟩ := PT.out
          clear L1T L1F SS
          go_wp2_with (first
    | (at_builtin; refine wpList_append_lies _ rfl _ _ 140 rfl w.heap.size 145 i0 (.agg #[.int .i64 0, .int .i64 0, .int .i64 0, .int .i64 0, .bool false]) 5 40 Try.underlying140 hi hz0 hz1 hz2 rfl (by omega) _ _ _ rfl (World.ownsRow.alloc (HO.out) _) ⟨_, 0, none⟩ 1 1 [.int .i64 (s : Int), .int .i64 (t : Int), .int .i64 v3, .int .i64 (i : Int), .bool true] rfl rfl (World.news_of_block (cs := #[.int .i64 (s : Int), .int .i64 (t : Int), .int .i64 v3, .int .i64 (i : Int), .bool true]) (t := 145) (fr := (0, 0)) (heap_alloc_new _ _)) (by simp [Value.oneCell']) (by omega) (by unfold maxLen; omega) (by omega) (by have := HB.out.size; simp; omega) _ rfl ?_))
          intro h cap w1 hown1 hgrow hat hlt
          rw [← SF.out] at hown1
          obtain ⟨Q1, Q2, Q3, Q4⟩ := step_snoc HB.out HO.out hown1 hgrow hat PT.out NE.out
          rw [← E.out] at Q1
          have Q1 := Lib.hid Q1
          have Q2 := Lib.hid Q2
          have Q3 := Lib.hid Q3
          have Q4 := Lib.hid Q4
          clear hown1 hgrow hat hlt b0 b1 b2 b3 HO HB PT NE E
          go_wp2_with fail
          go_meet
          exact ⟨Q1, Q2, Q3, Q4⟩
        case false =>
          have E := Lib.hid (L1F.out (of_decide_eq_false DD.out))
          clear L1T L1F SS
          replace HO := Lib.hid (show wb.ownsRow w.heap.size 145 5 u5 L1.length (rowS L1) from by rw [E.out]; exact HO.out)
          go_wp2_with fail
          go_meet
          exact ⟨HO, HB, PT, NE⟩
      case rest =>
      clear HO HB PT NE L1T L1F
      obtain ⟨HO, HB, PT, NE⟩ := hcut
      have cm := NRR.out _ HB.out
      by_cases c2 : 0 < y0
      · have d2 : decide (0 < y0) = true := decide_eq_true c2
        rw [if_pos c2] at SS
        have SS := Lib.hid SS.out
        obtain ⟨-, b0, b1, b2, b3⟩ := PT.out
        clear c2
        go_wp2_with (first
    | (at_builtin; refine wpList_append_lies _ rfl _ _ 140 rfl w.heap.size 145 i0 (.agg #[.int .i64 0, .int .i64 0, .int .i64 0, .int .i64 0, .bool false]) 5 40 Try.underlying140 hi hz0 hz1 hz2 rfl (by omega) _ _ _ rfl (World.ownsRow.alloc (HO.out) _) ⟨_, 0, none⟩ 1 1 [.int .i64 (t : Int), .int .i64 (s : Int), .int .i64 (-v3), .int .i64 (i : Int), .bool false] rfl rfl (World.news_of_block (cs := #[.int .i64 (t : Int), .int .i64 (s : Int), .int .i64 (-v3), .int .i64 (i : Int), .bool false]) (t := 145) (fr := (0, 0)) (heap_alloc_new _ _)) (by simp [Value.oneCell']) (by omega) (by unfold maxLen; omega) (by omega) (by have := HB.out.size; simp; omega) _ rfl ?_))
        intro h cap w1 hown1 hgrow hat hlt
        rw [← SB.out] at hown1
        obtain ⟨Q1, Q2, -, -⟩ := step_snoc HB.out HO.out hown1 hgrow hat PT.out NE.out
        rw [← SS.out] at Q1
        have Q1 := Lib.hid Q1
        have Q2 := Lib.hid Q2
        clear hown1 hgrow hat hlt b0 b1 b2 b3 HO HB PT NE
        go_wp2_with fail
        go_roundw
        case rel => exact ⟨i + 1, by omega, by go_num, Q1, Q2⟩
        case measure => simp [intOf]; omega
      · have d2 : decide (0 < y0) = false := decide_eq_false c2
        rw [if_neg c2, List.append_nil] at SS
        have SS := Lib.hid SS.out
        clear c2
        rw [← SS.out] at HO
        go_wp2_with fail
        go_roundw
        case rel => exact ⟨i + 1, by omega, by go_num, HO, HB⟩
        case measure => simp [intOf]; omega
    · obtain rfl : i = m := by omega
      go_wp2_with fail
      go_ret
      exact ⟨_, rfl, HO.out, HB.out⟩
end Go.Proofs.Ytbcfafihkdddeaa
