/- The law NumHouse: its walk. -/
import Derived.Test.YtblaakjldpcjlaaDoorU4
import Derived.Test.YtblaakjldpcjlaaDoorE1
namespace Go.Proofs.YtblaakjldpcjlaaDoor
open Go.RowKit
set_option linter.unusedVariables false
set_option linter.unusedSimpArgs false

theorem few_any (p : Option Addr) (n c : Nat) (w : World) :
    Calls Tryd.prog 20 #[.slice p n c] w fun e w' => e = .returned (.bool (decide (n ≤ 300))) ∧ w = w' := by
  go_enter Tryd.func20, Tryd.ntmps20
  go_wp2
  all_goals go_ret
  all_goals exact ⟨ret_b (by rw [Bool.eq_iff_iff]; simp; try omega), rfl⟩
end Go.Proofs.YtblaakjldpcjlaaDoor
namespace Go.Proofs.YtblaakjldpcjlaaDoor.numHouse
open Go.RowKit
set_option linter.unusedVariables false
set_option linter.unusedSimpArgs false

set_option maxRecDepth 100000 in
set_option maxHeartbeats 4000000 in
theorem walk (T : Int) (q : Option Addr) (c : Nat) (l : List Int) (t1 : -9223372036854775808 ≤ T) (t2 : T ≤ 9223372036854775807) (w : World) (r : RowA w q l) :
    Calls Tryd.prog 5 #[.int .i64 T, .slice q l.length c] w fun e w' => e = .returned (.bool true) ∧ Below w.heap.size w w' := by
  have R := Lib.hid r
  have DV1 := Lib.hid (fun W h (ln : l.length ≤ 300) => Divide_any T q c l W h (by omega))
  have DV2 := Lib.hid (fun W h (ln : l.length ≤ 300) => Divide_any (T + 1) q c l W h (by omega))
  unfold DivR at DV1 DV2
  obtain ⟨x, hx⟩ : ∃ x, x = l.length := ⟨_, rfl⟩
  rw [← hx] at DV1 DV2 ⊢
  have HX := Lib.hid hx
  clear hx r
  have KB : Hid (Below w.heap.size w w) := Below.refl _ _
  go_enter Tryd.func5, Tryd.ntmps5
  go_wp2_with fail
  refine (few_any q x c _).mono ?_
  rintro e w1 ⟨rfl, rfl⟩
  by_cases hf : x ≤ 300
  · by_cases hT : T < 1125899906842624
    · rw [show decide (x ≤ 300) = true by simpa using hf]
      go_wp2_with fail
      refine (DV1.out _ R.out hf).mono ?_
      clear DV1
      rintro e w2 (⟨E, hE, rfl, -, hb⟩ | ⟨b, P, rfl, MP, -, -, DP, SP⟩)
      · replace KB := Lib.hid hb
        have R2 := Lib.hid (R.out.below hb)
        have E0 : (E != 0) = true := by simpa using hE
        clear hb hE
        go_wp2_with fail
        refine (DV2.out _ R2.out hf).mono ?_
        clear DV2
        rintro e w3 (⟨E', hE, rfl, -, hb⟩ | ⟨b', P', rfl, MP', -, -, -, -⟩)
        · replace KB := Lib.hid (KB.out.trans (hb.mono KB.out.size))
          clear hb hE
          go_wp2_with fail
          refine (alive_any _).mono ?_
          rintro e wq ⟨rfl, hq⟩
          have B9 := Lib.hid (KB.out.trans ((show Below _ _ wq from by first | exact hq | exact ((Below.refl _ _).drew).trans hq | exact (below_drewN (Below.refl _ _) _).trans hq).mono KB.out.size))
          clear hq
          go_wp2_with fail
          go_ret
          exact ⟨rfl, by first | exact B9.out | exact B9.out.drew | exact below_drewN B9.out _⟩
        · replace KB := Lib.hid (KB.out.trans (MP'.2.2.2.mono KB.out.size))
          clear MP'
          go_wp2_with fail
          refine (alive_any _).mono ?_
          rintro e wq ⟨rfl, hq⟩
          have B9 := Lib.hid (KB.out.trans ((show Below _ _ wq from by first | exact hq | exact ((Below.refl _ _).drew).trans hq | exact (below_drewN (Below.refl _ _) _).trans hq).mono KB.out.size))
          clear hq
          go_wp2_with fail
          go_ret
          exact ⟨rfl, by first | exact B9.out | exact B9.out.drew | exact below_drewN B9.out _⟩
      · replace KB := Lib.hid MP.2.2.2
        have R2 := Lib.hid (R.out.below MP.2.2.2)
        replace MP := Lib.hid MP
        replace DP := Lib.hid DP
        replace SP := Lib.hid SP
        go_wp2_with fail
        refine (DV2.out _ R2.out hf).mono ?_
        clear DV2
        rintro e w3 (⟨E', hE, rfl, -, hb⟩ | ⟨b', P', rfl, MP', TK, -, DP', SP'⟩)
        · replace KB := Lib.hid (KB.out.trans (hb.mono KB.out.size))
          have E0 : (E' != 0) = true := by simpa using hE
          clear hb hE
          go_wp2_with fail
          refine (alive_any _).mono ?_
          rintro e wq ⟨rfl, hq⟩
          have B9 := Lib.hid (KB.out.trans ((show Below _ _ wq from by first | exact hq | exact ((Below.refl _ _).drew).trans hq | exact (below_drewN (Below.refl _ _) _).trans hq).mono KB.out.size))
          clear hq
          go_wp2_with fail
          go_ret
          exact ⟨rfl, by first | exact B9.out | exact B9.out.drew | exact below_drewN B9.out _⟩
        · replace KB := Lib.hid (KB.out.trans (MP'.2.2.2.mono KB.out.size))
          have lP := MP.out.1
          have lP' := MP'.1
          have CA := Lib.hid (fun i (h : i < x) => (MP'.2.2.2.cell (p := ⟨b, i, none⟩) MP.out.lt).trans (MP.out.cell i (by omega)))
          have CB := Lib.hid (fun i (h : i < x) => MP'.cell i (by omega))
          have gA : b < w3.heap.size := Nat.lt_of_lt_of_le MP.out.lt MP'.2.2.2.size
          have gB := MP'.lt
          have ON := Lib.hid (fun i (h : i < x) => DP.out.one DP' (by rw [SP', SP.out]) i (by have := HX.out; omega))
          have BA := Lib.hid (fun i => (show 0 ≤ gd P i ∧ gd P i ≤ T from ⟨DP.out.pos i, by have := gd_nonneg_le_sum DP.out.pos i; have := SP.out; omega⟩))
          have TA := Lib.hid (fun k (h : k < x) => sum_take_succ (l := P) (k := k) (by omega))
          have TB := Lib.hid (fun k (h : k < x) => sum_take_succ (l := P') (k := k) (by omega))
          have EA := Lib.hid (show (P'.take x).sum - (P.take x).sum = 1 by rw [← lP', List.take_length, SP', show P'.length = P.length from by omega, List.take_length, SP.out]; omega)
          have T0 := TK.2.1
          clear MP MP' DP DP' SP SP' TK lP lP'
          go_wp2_with fail
          go_loopw [9, 10] (fun gv kv wr => ∃ (k : Nat) (G : Int), k ≤ x ∧ gv = .int .i64 G ∧ kv = .int .i64 k ∧ 0 ≤ G ∧ G ≤ k ∧ Hid (G = (P'.take k).sum - (P.take k).sum) ∧ ∃ n, wr = w3.drewN n) (fun _ kv _ => x - (intOf kv).toNat)
          case atStart => exact ⟨0, 0, Nat.zero_le _, rfl, rfl, by omega, by omega, by show _ = _; simp, 0, rfl⟩
          case round =>
            obtain ⟨k, G, hk, rfl, rfl, G0, G1, HG, n, rfl⟩ := hrel
            by_cases t3 : k < x
            · have cA := CA.out k t3
              have cB := CB.out k t3
              have nA := TA.out k t3
              have nB := TB.out k t3
              obtain ⟨v0, v1⟩ := BA.out k
              have i3 : (k : Int) < (x : Int) := by omega
              have i4 : (0 : Int) ≤ (k : Int) := by omega
              rcases ON.out k t3 with h | h
              · have NG : Hid (G = (P'.take (k + 1)).sum - (P.take (k + 1)).sum) := by show _ = _; have := HG.out; omega
                rw [h] at cB
                clear nA nB HG h
                generalize gd P k = v at *
                have e1 : IntKind.i64.wrap (v - v) = 0 := by rw [Int.sub_self]; rfl
                go_wp2_with fail
                go_quiet (fail)
                go_wp2_with fail
                go_quiet (fail)
                go_wp2_with fail
                go_roundw
                case rel => exact ⟨k + 1, G, by omega, by go_num, by go_num, by omega, by omega, NG, _, rfl⟩
                case measure => simp [intOf]; omega
              · have NG : Hid (G + 1 = (P'.take (k + 1)).sum - (P.take (k + 1)).sum) := by show _ = _; have := HG.out; omega
                rw [h] at cB
                clear nA nB HG h
                generalize gd P k = v at *
                have hb1 : (v + 1 != v) = true := by simp; omega
                have e1 : IntKind.i64.wrap (v + 1) = v + 1 := IntWalk.i64_in _ (by omega)
                have e2 : IntKind.i64.wrap (v + 1 - v) = 1 := by rw [show v + 1 - v = 1 by omega]; rfl
                go_wp2_with fail
                go_quiet (fail)
                go_wp2_with fail
                go_quiet (fail)
                go_wp2_with fail
                go_roundw
                case rel => exact ⟨k + 1, G + 1, by omega, by go_num, by go_num, by omega, by omega, NG, _, rfl⟩
                case measure => simp [intOf]; omega
            · have g1 : G = 1 := by
                have a := HG.out
                rw [show k = x from by omega, EA.out] at a
                exact a
              subst g1
              clear HG
              replace KB := Lib.hid (below_drewN KB.out n)
              go_wp2_with fail
              refine (alive_any _).mono ?_
              rintro e wq ⟨rfl, hq⟩
              have B9 := Lib.hid (KB.out.trans ((show Below _ _ wq from by first | exact hq | exact ((Below.refl _ _).drew).trans hq | exact (below_drewN (Below.refl _ _) _).trans hq).mono KB.out.size))
              clear hq
              go_wp2_with fail
              go_ret
              exact ⟨rfl, by first | exact B9.out | exact B9.out.drew | exact below_drewN B9.out _⟩
    · rw [show decide (x ≤ 300) = true by simpa using hf]
      go_wp2_with fail
      refine (alive_any _).mono ?_
      rintro e wq ⟨rfl, hq⟩
      have B9 := Lib.hid (KB.out.trans ((show Below _ _ wq from by first | exact hq | exact ((Below.refl _ _).drew).trans hq | exact (below_drewN (Below.refl _ _) _).trans hq).mono KB.out.size))
      clear hq
      go_wp2_with fail
      go_ret
      exact ⟨rfl, by first | exact B9.out | exact B9.out.drew | exact below_drewN B9.out _⟩
  · rw [show decide (x ≤ 300) = false by simpa using hf]
    go_wp2_with fail
    refine (alive_any _).mono ?_
    rintro e wq ⟨rfl, hq⟩
    have B9 := Lib.hid (KB.out.trans ((show Below _ _ wq from by first | exact hq | exact ((Below.refl _ _).drew).trans hq | exact (below_drewN (Below.refl _ _) _).trans hq).mono KB.out.size))
    clear hq
    go_wp2_with fail
    go_ret
    exact ⟨rfl, by first | exact B9.out | exact B9.out.drew | exact below_drewN B9.out _⟩
end Go.Proofs.YtblaakjldpcjlaaDoor.numHouse
