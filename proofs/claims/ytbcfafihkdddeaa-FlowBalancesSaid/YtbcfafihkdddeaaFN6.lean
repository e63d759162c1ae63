/- Flow: potentials, the reference's. -/
import Derived.Test.YtbcfafihkdddeaaFN5
namespace Go.Proofs.Ytbcfafihkdddeaa
open Go.RowKit
set_option linter.unusedVariables false
set_option linter.unusedSimpArgs false

theorem rx_upd {p : Nat → Int} {s : St} (h : p s.1 + s.2.2 < p s.2.1) : rx p s = upd p s.2.1 (p s.1 + s.2.2) := by unfold rx; rw [if_pos h]; rfl
theorem take_st {L : List St} {i : Nat} (h : i < L.length) : L.take (i + 1) = L.take i ++ [L[i]] := List.take_succ_eq_append_getElem h
/-- One step further in a round. -/
theorem one_on {L : List St} {i : Nat} {p f : Nat → Int} {s : St} (h : i < L.length) (hs : s = L[i]) (hf : f = rnd1 (L.take i) p) (g : f s.1 + s.2.2 < f s.2.1) : rnd1 (L.take (i + 1)) p = upd f s.2.1 (f s.1 + s.2.2) ∧ mvB (L.take (i + 1)) p = true := by
  subst hs hf
  rw [take_st h, rnd1_snoc, mvB_snoc, rx_upd g, decide_eq_true g]
  exact ⟨rfl, by simp⟩
theorem one_off {L : List St} {i : Nat} {p f : Nat → Int} {s : St} (h : i < L.length) (hs : s = L[i]) (hf : f = rnd1 (L.take i) p) (g : ¬ f s.1 + s.2.2 < f s.2.1) : rnd1 (L.take (i + 1)) p = f ∧ mvB (L.take (i + 1)) p = mvB (L.take i) p := by
  subst hs hf
  rw [take_st h, rnd1_snoc, mvB_snoc, rx_still g, decide_eq_false g]
  exact ⟨rfl, by simp⟩
/-- What the rounds come to. -/
def RdQ (L : List St) (n : Nat) (w : World) (v : Value) (b : Bool) (w' : World) : Prop := (b = false ∧ v = .slice none 0 0 ∧ ∀ j, j ≤ n → mvB L (rds L j) = true) ∨ (b = true ∧ ∃ g j, v = .slice (some ⟨g, 0, none⟩) n n ∧ w.heap.size ≤ g ∧ mvB L (rds L j) = false ∧ IR w' g 3 n (rds L j) ∧ j ≤ n)

set_option maxRecDepth 100000 in
set_option maxHeartbeats 8000000 in
theorem rpotentials_any (n : Nat) (n1 : 1 ≤ n) (n32 : n ≤ 32) (p : Option Addr) (c : Nat) (l : List Sp) (len : l.length ≤ 256) (L : List St) (hL : L = l.map Sp.s) (ok : StOk n L) (w : World) (r : StR w p l) :
    Calls Try.prog 98 #[.int .i64 (n : Int), .slice p l.length c] w fun e w' => ∃ v b, e = .returned (.tuple #[v, .bool b]) ∧ RdQ L n w v b w' ∧ Below w.heap.size w w' := by
  obtain ⟨i0, hi, hz0, hz1, hz2⟩ := info_parts intInfo
  have R := Lib.hid r
  have HL := Lib.hid hL
  have lL : L.length = l.length := by rw [hL]; simp
  have OK := Lib.hid ok
  have BDS := Lib.hid (fun (j i : Nat) (hj : j ≤ 33) => mid_bd (i := i) ok (by omega) hj)
  obtain ⟨m, hm⟩ : ∃ m, m = l.length := ⟨_, rfl⟩
  rw [← hm] at len lL ⊢
  have HM := Lib.hid hm
  clear r hm hL ok
  go_enter Try.func98, Try.ntmps98
  go_upto_region 2 with (first
    | (at_make; refine wpList_make_full _ rfl _ _ 40 rfl w.heap.size 3 i0 (.int .i64 0) 1 Try.underlying40 hi hz0 hz1 .i64 .i64 _ _ n rfl rfl (by omega) (by omega) (by rw [hz2]; omega) (by unfold maxLen; omega) (Nat.le_refl _) ?_; intro w1 hown0 hgrow0))
  rw [made_ints] at hown0
  have I1 := Lib.hid (IR.of hown0)
  have B1 := Lib.hid (show Below w.heap.size w w1 from (Below.refl _ _).grown hgrow0 (Nat.le_refl _) (fun k e => by cases e))
  clear hown0 hgrow0
  obtain ⟨b, hb⟩ : ∃ b, b = w.heap.size := ⟨_, rfl⟩
  rw [← hb] at I1 ⊢
  have HBB := Lib.hid (show w.heap.size ≤ b from by omega)
  clear hb
  go_wp2_with fail
  go_loopw [7] (fun jv wr => ∃ j : Nat, j ≤ n + 1 ∧ jv = .int .i64 j ∧ Hid (IR wr b 3 n (rds L j)) ∧ Hid (∀ i, i < j → mvB L (rds L i) = true) ∧ Hid (Below w.heap.size w wr)) (fun jv _ => n + 1 - (intOf jv).toNat)
  case atStart => exact ⟨0, Nat.zero_le _, rfl, Lib.hid (I1.out.ext fun k _ => rfl), Lib.hid (fun i hi => by omega), B1⟩
  case round =>
    clear I1 B1
    obtain ⟨j, hj, rfl, IS, ALL, HB⟩ := hrel
    by_cases t1 : j ≤ n
    · have i1 : (j : Int) ≤ (n : Int) := by omega
      have BDJ := Lib.hid (BDS.out j)
      clear BDS
      obtain ⟨P0, hP0⟩ : ∃ P0, P0 = rds L j := ⟨_, rfl⟩
      rw [← hP0] at IS BDJ
      have HP0 := Lib.hid hP0
      clear hP0
      go_wp2_with fail
      go_loopw [8, 9] (fun mv iv wr => ∃ i : Nat, i ≤ m ∧ iv = .int .i64 i ∧ mv = .bool (mvB (L.take i) P0) ∧ Hid (IR wr b 3 n (rnd1 (L.take i) P0)) ∧ Hid (Below w.heap.size w wr)) (fun _ iv _ => m - (intOf iv).toNat)
      case atStart => exact ⟨0, Nat.zero_le _, rfl, rfl, IS, HB⟩
      case round =>
        clear IS HB
        obtain ⟨i, hi', rfl, rfl, IS, HB⟩ := hrel
        by_cases t2 : i < m
        · have m1 : (0 : Int) ≤ (i : Int) := by omega
          have m2 : (i : Int) < (m : Int) := by omega
          have bd := BDJ.out i (by omega)
          obtain ⟨x, ex, kx, a0, a1, a2⟩ := (R.out.below HB.out) i (by have := HM.out; omega)
          subst ex
          have AR := Lib.hid (show ∀ W, Below w.heap.size w W → W.cell? (x.add (i * 5)) = some (.int .i64 ((l[i]'(by have := HM.out; omega)).s.1 : Int)) ∧ W.cell? ⟨(x.add (i * 5)).block, (x.add (i * 5)).off + 1, none⟩ = some (.int .i64 ((l[i]'(by have := HM.out; omega)).s.2.1 : Int)) ∧ W.cell? ⟨(x.add (i * 5)).block, (x.add (i * 5)).off + 2, none⟩ = some (.int .i64 (l[i]'(by have := HM.out; omega)).s.2.2) from fun W B => by
            obtain ⟨z, ez, -, z0, z1, z2⟩ := (R.out.below B) i (by have := HM.out; omega)
            cases ez; exact ⟨z0, z1, z2⟩)
          have iL : i < L.length := by omega
          obtain ⟨s, hs⟩ : ∃ s, s = L[i] := ⟨_, rfl⟩
          have so := OK.out s (by rw [hs]; exact List.getElem_mem _)
          have hs2 : (l[i]'(by have := HM.out; omega)).s = s := by
            rw [hs]
            simp [HL.out]
          rw [hs2] at a0 a1 a2 AR
          obtain ⟨f, hf⟩ : ∃ f, f = rnd1 (L.take i) P0 := ⟨_, rfl⟩
          have ON := Lib.hid (fun g => one_on iL hs hf g)
          have OF := Lib.hid (fun g => one_off iL hs hf g)
          rw [← hf] at IS bd
          clear hs hs2 hf kx
          obtain ⟨sa, sb, sc⟩ := s
          dsimp only at so a0 a1 a2 AR ON OF
          obtain ⟨so1, so2, so3, so4⟩ := so
          have ba := bd sa so1
          have bb' := bd sb so2
          have ca := IS.out.cell so1
          have cb := IS.out.cell so2
          have e1 : (0 : Int) ≤ (sa : Int) := by omega
          have e2 : (sa : Int) < (n : Int) := by omega
          have e3 : (0 : Int) ≤ (sb : Int) := by omega
          have e4 : (sb : Int) < (n : Int) := by omega
          have wA : IntKind.i64.wrap (f sa + sc) = f sa + sc := hwI (by omega) (by omega)
          obtain ⟨mo, hmo⟩ : ∃ mo, mo = mvB (L.take i) P0 := ⟨_, rfl⟩
          rw [← hmo] at OF ⊢
          clear hmo bd ba bb'
          obtain ⟨bb, dd⟩ : ∃ x, decide (f sa + sc < f sb) = x := ⟨_, rfl⟩
          go_upto_region 9 with fail
          go_quiet (fail)
          have DD := Lib.hid dd
          clear dd ca cb a0 a1 a2
          replace IS := Lib.hid (show IR (wr.drewN nq) b 3 n f from IS.out)
          replace HB := Lib.hid (below_drewN HB.out nq)
          generalize wr.drewN nq = wb at *
          cases bb
          case false =>
            obtain ⟨E1, E2⟩ := OF.out (of_decide_eq_false DD.out)
            have E1 := Lib.hid E1
            have E2 := Lib.hid E2
            clear OF ON DD
            replace IS := Lib.hid (show IR wb b 3 n (rnd1 (L.take (i + 1)) P0) from by rw [E1.out]; exact IS.out)
            go_wp2_with fail
            go_roundw
            case rel => exact ⟨i + 1, by omega, by go_num, by rw [E2.out], IS, HB⟩
            case measure => simp [intOf]; omega
          case true =>
            obtain ⟨E1, E2⟩ := ON.out (of_decide_eq_true DD.out)
            have E1 := Lib.hid E1
            have E2 := Lib.hid E2
            have ca := IS.out.cell so1
            have cb := IS.out.cell so2
            have fb := IS.out.frozen sb
            obtain ⟨a0, a1, a2⟩ := AR.out _ HB.out
            have IS2 := Lib.hid (show IR (wb.setCell ⟨b, sb, none⟩ (.int .i64 (f sa + sc))) b 3 n (rnd1 (L.take (i + 1)) P0) from by rw [E1.out]; exact IS.out.set sb _)
            have HB2 := Lib.hid (show Below w.heap.size w (wb.setCell ⟨b, sb, none⟩ (.int .i64 (f sa + sc))) from HB.out.setCell (by show w.heap.size ≤ b; exact HBB.out) _)
            clear OF ON DD E1 IS HB
            go_upto_region 10 with fail
            go_region_law (fail)
            all_goals
              go_wp2_with fail
              go_roundw
            all_goals first
              | exact ⟨i + 1, by omega, by go_num, by rw [E2.out], (by first | exact IS2 | exact Lib.hid (IS2.out.keep rfl)), (by first | exact HB2 | exact Lib.hid HB2.out.drew | exact Lib.hid (below_drewN HB2.out _))⟩
              | (simp [intOf]; omega)
        · obtain rfl : i = m := by omega
          have ET := Lib.hid (show L.take i = L from List.take_of_length_le (by omega))
          rw [ET.out] at IS ⊢
          obtain ⟨mo, hmo⟩ : ∃ mo, mo = mvB L P0 := ⟨_, rfl⟩
          rw [← hmo]
          cases mo
          case false =>
            have FF := Lib.hid (show RdQ L n w (.slice (some ⟨b, 0, none⟩) n n) true wr from .inr ⟨rfl, b, j, rfl, HBB.out, by rw [← HP0.out]; exact hmo.symm, by
              have := (mvB_still hmo.symm).1
              rw [← HP0.out]; rw [this] at IS; exact IS.out, t1⟩)
            clear hmo IS BDJ ALL
            go_wp2_with fail
            go_ret2
            exact ⟨_, _, rfl, FF.out, HB.out⟩
          case true =>
            have A2 := Lib.hid (show ∀ i, i < j + 1 → mvB L (rds L i) = true from fun i hi => by
              by_cases e : i = j
              · rw [e, ← HP0.out]; exact hmo.symm
              · exact ALL.out i (by omega))
            have IS2 := Lib.hid (show IR wr b 3 n (rds L (j + 1)) from by
              show IR wr b 3 n (rnd1 L (rds L j))
              rw [← HP0.out]; exact IS.out)
            clear hmo IS BDJ ALL
            go_wp2_with fail
            go_roundw
            case rel => exact ⟨j + 1, by omega, by go_num, IS2, A2, HB⟩
            case measure => simp [intOf]; omega
    · have i1 : ¬ (j : Int) ≤ (n : Int) := by omega
      have FF := Lib.hid (show RdQ L n w (.slice none 0 0) false wr from .inl ⟨rfl, rfl, fun i hi => ALL.out i (by omega)⟩)
      clear IS ALL
      go_wp2_with fail
      go_ret2
      first
        | exact ⟨_, _, rfl, FF.out, HB.out⟩
        | exact ⟨_, .inl ⟨rfl, FF.out, HB.out⟩⟩
end Go.Proofs.Ytbcfafihkdddeaa
