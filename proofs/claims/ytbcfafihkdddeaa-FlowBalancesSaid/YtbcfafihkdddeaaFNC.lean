/- Flow: carrying. -/
import Derived.Test.YtbcfafihkdddeaaFNB
namespace Go.Proofs.Ytbcfafihkdddeaa
open Go.RowKit
set_option linter.unusedVariables false
set_option linter.unusedSimpArgs false

set_option maxRecDepth 100000 in
set_option maxHeartbeats 16000000 in
theorem carrying_any (n : Nat) (n1 : 1 ≤ n) (n32 : n ≤ 32) (p : Option Addr) (c m : Nat) (A : Nat → Ar) (q : Option Addr) (d : Nat) (M : Nat → Int) (w : World) (r : ArcR w p m A) (r2 : NmR w q m M) (lm : m ≤ 128) (OKS : ∀ i, i < m → arOk (n : Int) (A i)) (AMT : ∀ i, i < m → 0 ≤ M i ∧ M i ≤ (A i).cap) :
    Calls Try.prog 96 #[.int .i64 (n : Int), .slice p m c, .slice q m d] w fun e w' => ∃ b rl rp ve lv, e = .returned (.pointer (some ⟨b, 0, none⟩)) ∧ NW w.heap.size b rl rp n (2 * m) ve (eds A M m) lv (fun _ => 0) w' ∧ Below w.heap.size w w' := by
  have R := Lib.hid r
  have R2 := Lib.hid r2
  have OKS := Lib.hid OKS
  have AMT := Lib.hid AMT
  have CN := Lib.hid (newNetwork_any n (by omega) w)
  clear r r2
  go_enter Try.func96, Try.ntmps96
  go_wp2_with fail
  refine CN.out.mono ?_
  rintro e w1 ⟨b, rl, rp, rfl, hN, st⟩
  have HN := Lib.hid hN
  have KB := Lib.hid st
  clear hN st CN
  go_wp2_with fail
  go_loopw [14] (fun kv wr => ∃ (i : Nat) (ve : Value) (lv : Nat → Value), i ≤ m ∧ kv = .int .i64 i ∧ Hid (NW w.heap.size b rl rp n (2 * i) ve (eds A M i) lv (fun _ => 0) wr) ∧ Hid (Below w.heap.size w wr)) (fun kv _ => m - (intOf kv).toNat)
  case atStart => exact ⟨0, _, _, Nat.zero_le _, rfl, HN, KB⟩
  case round =>
    clear HN KB
    obtain ⟨i, ve, lv, hi', rfl, HN, HB⟩ := hrel
    by_cases t1 : i < m
    · have i1 : (0 : Int) ≤ (i : Int) := by omega
      have i2 : (i : Int) < (m : Int) := by omega
      have ok := OKS.out i t1
      have am := AMT.out i t1
      unfold arOk at ok
      obtain ⟨x, ex, xa⟩ := (R.out.below HB.out) i t1
      obtain ⟨y, ey, ky, cy⟩ := (R2.out.below HB.out) i t1
      subst ex ey
      have NRR := Lib.hid (show ∀ W, Below w.heap.size w W → W.cell? (y.add i) = some (.int .i64 (M i)) from fun W B => by
        obtain ⟨z, ez, _, za⟩ := (R2.out.below B) i t1
        cases ez; exact za)
      obtain ⟨v0, hv0⟩ : ∃ v, v = (A i).fr := ⟨_, rfl⟩
      obtain ⟨v1, hv1⟩ : ∃ v, v = (A i).to' := ⟨_, rfl⟩
      rw [← hv0, ← hv1] at ok
      obtain ⟨s, rfl⟩ := Int.eq_ofNat_of_zero_le ok.1
      obtain ⟨t, rfl⟩ := Int.eq_ofNat_of_zero_le ok.2.2.1
      have EE := Lib.hid (show eds A M (i + 1) = eds A M i ++ two s t (A i).cap (A i).cost (M i) from by simp [eds, two, fwd, bwd, ← hv0, ← hv1])
      obtain ⟨-, a0, a1, a2, a3⟩ := xa
      rw [← hv0] at a0
      rw [← hv1] at a1
      have el := eds_len A M i
      have HS := Lib.hid (show w.heap.size ≤ wr.heap.size from HB.out.size)
      have P2 := Lib.hid (show Below wr.heap.size wr (wr.alloc (Obj.cells #[Value.int .i64 (s : Int), Value.int .i64 (t : Int), Value.int .i64 (A i).cap, Value.int .i64 (A i).cost] 127)) from (Below.refl _ wr).alloc (Nat.le_refl _) _)
      have PT := Lib.hid (AB.new wr (s : Int) (t : Int) (A i).cap (A i).cost)
      have ADD := Lib.hid (fun (W : World) (hn : NW w.heap.size b rl rp n (2 * i) ve (eds A M i) lv (fun _ => 0) W) (hb : Below w.heap.size w W) => add_any w W hn hb hb.size s t (by omega) (by omega) (by omega) (by omega) (A i).cap (A i).cost (M i) am (by omega) (by omega) (by omega) (by omega))
      rw [← EE.out] at ADD
      clear EE hv0 hv1 ok am ky cy el
      generalize eds A M i = E1 at *
      generalize (A i).cap = v2 at *
      generalize (A i).cost = v3 at *
      generalize M i = y0 at *
      go_upto_region 5 with fail
      generalize wr.alloc (Obj.cells #[Value.int .i64 (s : Int), Value.int .i64 (t : Int), Value.int .i64 v2, Value.int .i64 v3] 127) = wa at *
      replace HN := Lib.hid (HN.out.below P2.out)
      replace HB := Lib.hid (HB.out.trans (P2.out.mono HB.out.size))
      replace HS := Lib.hid (Nat.le_trans HS.out P2.out.size)
      clear P2 a0 a1 a2 a3
      generalize wr.heap.size = g at *
      obtain ⟨-, b0, b1, b2, b3⟩ := PT.out
      have cy := NRR.out _ HB.out
      go_region_law (go_simp; go_at_call 145; (with_reducible refine (ADD.out _ (by first | exact HN.out | exact HN.out.below ((Below.refl _ _).drew) | exact HN.out.below (below_drewN (Below.refl _ _) _)) (by first | exact HB.out | exact HB.out.drew | exact below_drewN HB.out _)).mono ?_); rintro e w5 ⟨rfl, ve', lv', n5, b5, s5⟩; have HN5 := Lib.hid (n5.more (show 2 * i + 2 ≤ 2 * (i + 1) by omega)); have HB5 := Lib.hid b5; have cy := NRR.out _ b5; clear n5 b5 s5)
      all_goals
        go_wp2_with fail
        go_roundw
      all_goals first
        | exact ⟨i + 1, ve', lv', by omega, by go_num, (by first | exact HN5 | exact Lib.hid (HN5.out.below ((Below.refl _ _).drew)) | exact Lib.hid (HN5.out.below (below_drewN (Below.refl _ _) _))), (by first | exact HB5 | exact Lib.hid HB5.out.drew | exact Lib.hid (below_drewN HB5.out _))⟩
        | (simp [intOf]; omega)
    · obtain rfl : i = m := by omega
      go_wp2_with fail
      go_ret
      exact ⟨b, rl, rp, ve, lv, rfl, HN.out, HB.out⟩
end Go.Proofs.Ytbcfafihkdddeaa
