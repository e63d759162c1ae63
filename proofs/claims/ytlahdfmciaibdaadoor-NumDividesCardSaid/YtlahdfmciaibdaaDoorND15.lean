/- Several texts in one: AD7. -/
import Derived.Test.YtlahdfmciaibdaaDoorND13
import Derived.Test.YtlahdfmciaibdaaDoorND14

/- The reference's Divide in general. -/
namespace Go.Proofs.YtlahdfmciaibdaaDoor
open Go.RowKit Go.Proofs.YtlahdfmciaibdaaDoor.Prs Go.Proofs.YtlahdfmciaibdaaDoor.Stb
set_option linter.unusedVariables false
set_option linter.unusedSimpArgs false

theorem MadeI.grow {w wr wz : World} {b N : Nat} {O : List Int} (h : MadeI w wr b N O) (st : Below wr.heap.size wr wz) : MadeI w wz b N O := ⟨h.1, h.2.1, own_kept h.2.2.1 (st.block b h.lt), h.2.2.2.trans (st.mono h.2.2.2.size)⟩
theorem Below.ofDrew {w w' : World} (h : Below w.drew.heap.size w.drew w') : Below w.heap.size w w' := ((Below.refl _ _).drew).trans h
theorem Below.ofDrewN {w w' : World} {n : Nat} (h : Below (w.drewN n).heap.size (w.drewN n) w') : Below w.heap.size w w' := (below_drewN (Below.refl _ _) n).trans h
theorem rounded_p {N : Nat} (p q : Option Addr) (c d : Nat) (l m : List Int) (X Y : Int) (w : World) (A : BigR N w p l X) (B : BigR N w q m Y) (hX : 0 ≤ X) (hY : 0 < Y) (hr : 0 ≤ rz X Y 1) (hN : N ≤ 70000) :
    Calls Tryd.prog 37 #[.agg #[.bool false, .slice p l.length c], .agg #[.bool false, .slice q m.length d], .int .i64 1] w (BigS (N + 6) (rz X Y 1) false w) := by
  have := Rounded_pos p q c d l m X Y 1 w A B hY (by decide) (by decide) hN
  rw [show decide (X < 0) = false from decide_eq_false (by omega), show decide (Y < 0) = false from decide_eq_false (by omega)] at this
  exact this.mono fun _ _ h => h.s (by simp; omega)
theorem rcK_le {B w S : Int} (hS : 0 < S) (hB : 0 ≤ B) (hw : 0 ≤ w) (hwS : w ≤ S) : rcK B w S ≤ B := by
  obtain ⟨a, b, c, d⟩ := rcK_cut hS hB hw
  by_cases z : w = 0
  · rw [b z]; exact hB
  · rw [if_neg z] at c
    have e : 2 * B * w ≤ 2 * B * S := Int.mul_le_mul_of_nonneg_left hwS (by omega)
    have : (2 * rcK B w S - 1) * S < 2 * B * S := by omega
    have := Int.lt_of_mul_lt_mul_right this (by omega)
    omega
theorem take_set_sum {P : List Int} {k : Nat} {v : Int} (h : k < P.length) : ((P.set k v).take (k + 1)).sum = (P.take k).sum + v := by
  rw [sum_take_succ (by simpa using h), gd_set h, if_pos rfl, List.take_set_of_le (Nat.le_refl _)]

set_option maxRecDepth 100000 in
set_option maxHeartbeats 8000000 in
theorem rDivide_any (T : Int) (q : Option Addr) (c : Nat) (l : List Int) (w : World) (r : RowA w q l) (ln : l.length ≤ 1000000) :
    Calls Tryd.prog 11 #[.int .i64 T, .slice q l.length c] w (DivR T l w) := by
  obtain ⟨i0, hi, hz0, hz1, hz2⟩ := info_parts intInfo
  have R := Lib.hid r
  have SO := Lib.hid (fun W h => rsums_any T q c l W h ln)
  have FE := Lib.hid (show ∀ E w', E ≠ 0 → SumR T l 0 E → Below w.heap.size w w' → DivR T l w (.returned (.tuple #[.slice none 0 0, .int .i64 E])) w' from fun E w' a b c => .inl ⟨E, a, rfl, b, c⟩)
  have FG := Lib.hid (show ∀ b P w', MadeI w w' b l.length P → Takes T l → (l.sum = 0 → T = 0) → Dn l P → P.sum = T → DivR T l w (.returned (.tuple #[.slice (some ⟨b, 0, none⟩) l.length l.length, .int .i64 0])) w' from fun b P w' a1 a2 a3 a4 a5 => .inr ⟨b, P, rfl, a1, a2, a3, a4, a5⟩)
  have DZ := Lib.hid (Dn.zeros l)
  obtain ⟨x, hx⟩ : ∃ x, x = l.length := ⟨_, rfl⟩
  rw [← hx] at ln SO FG DZ ⊢
  have HX := Lib.hid hx
  clear hx r
  go_enter Tryd.func11, Tryd.ntmps11
  go_wp2_with fail
  refine (SO.out _ R.out).mono ?_
  rintro e w1 ⟨⟨S, E, rfl, SR⟩, rfl⟩
  clear SO
  have CS : (E ≠ 0 ∧ S = 0 ∧ Hid (SumR T l 0 E)) ∨ (E = 0 ∧ Hid (Takes T l) ∧ (l.sum = 0 → T = 0) ∧ S = l.sum) := by
    rcases id SR with ⟨a, b, c⟩ | ⟨a, a', b, c⟩ | ⟨a, a', a'', b, c⟩ | ⟨a, b, c, d⟩
    · subst b; exact .inl ⟨by omega, rfl, SR⟩
    · subst b; exact .inl ⟨by omega, rfl, SR⟩
    · subst b; exact .inl ⟨by omega, rfl, SR⟩
    · exact .inr ⟨d, a, b, c⟩
  clear SR
  rcases CS with ⟨E0, rfl, SR⟩ | ⟨rfl, TK, TZ, hS⟩
  · have E0' : (E == 0) = false := by simpa using E0
    have E1 := Lib.hid E0
    clear E0 FG DZ
    go_wp2_with fail
    go_ret2
    exact FE.out _ _ E1.out SR.out (by go_grown)
  · obtain ⟨ln2, ⟨T0, T1⟩, hl⟩ := TK.out
    have HL := Lib.hid hl
    have S0 : 0 ≤ S := by
      have := sum_le_of (a := List.replicate l.length 0) (b := l) (by simp) (fun i hi => by rw [gd_zeros]; exact (hl i (by simpa using hi)).1)
      rw [sum_zeros] at this; omega
    clear hl
    rw [← HX.out] at ln2
    replace TZ := Lib.hid TZ
    have HS := Lib.hid hS
    by_cases hz : S = 0
    · have T00 : T = 0 := TZ.out (by omega)
      clear hS FE
      subst hz T00
      go_wp2_with (first
        | (at_make; refine wpList_make_full _ rfl _ _ 22 rfl w.heap.size 3 i0 (.int .i64 0) 1 Tryd.underlying22 hi hz0 hz1 .i64 .i64 _ _ x rfl rfl (by omega) (by omega) (by rw [hz2]; omega) (by unfold maxLen; omega) (Nat.le_refl _) ?_; intro w0 hown0 hgrow0))
      rw [made_zeros] at hown0
      have M0 := Lib.hid (show MadeI w w0 w.heap.size x (List.replicate x 0) from ⟨by simp, Nat.le_refl _, hown0, (Below.refl _ _).grown hgrow0 (Nat.le_refl _) (fun k e => by cases e)⟩)
      clear hown0 hgrow0
      go_wp2_with fail
      go_ret2
      exact FG.out _ _ _ M0.out TK.out (by first | exact fun _ => rfl | exact fun _ => trivial) DZ.out (sum_zeros _)
    · have zb : (S == 0) = false := by simpa using hz
      have SP : 0 < S := by omega
      clear hz hS FE DZ
      go_upto_region 7 with (first | (at_make; refine wpList_make_full _ rfl _ _ 22 rfl w.heap.size 3 i0 (.int .i64 0) 1 Tryd.underlying22 hi hz0 hz1 .i64 .i64 _ _ x rfl rfl (by omega) (by omega) (by rw [hz2]; omega) (by unfold maxLen; omega) (Nat.le_refl _) ?_; intro w0 hown0 hgrow0))
      rw [made_zeros] at hown0
      have M0 := Lib.hid (show MadeI w w0 w.heap.size x (List.replicate x 0) from ⟨by simp, Nat.le_refl _, hown0, (Below.refl _ _).grown hgrow0 (Nat.le_refl _) (fun k e => by cases e)⟩)
      clear hown0 hgrow0
      obtain ⟨p, hp⟩ : ∃ p, w.heap.size = p := ⟨_, rfl⟩
      rw [hp] at M0
      rw [hp]
      clear hp
      have SB : S ≤ 256 * 1073741824 := by
        have := sum_le_of (a := l) (b := List.replicate l.length 1073741824) (by simp) (fun i hi => by
          have : gd (List.replicate l.length (1073741824 : Int)) i = 1073741824 := by unfold gd; rw [List.getElem?_replicate, if_pos hi]; rfl
          rw [this]; exact (HL.out i hi).2)
        have e : (List.replicate l.length (1073741824 : Int)).sum = l.length * 1073741824 := by
          generalize l.length = n
          induction n with
          | zero => rfl
          | succ n ih => rw [List.replicate_succ, List.sum_cons, ih]; push_cast; omega
        have := HX.out
        have := HS.out
        omega
      obtain ⟨B, hB⟩ : ∃ B, B = max 0 (T - (x : Int)) := ⟨_, rfl⟩
      have eT : IntKind.i64.wrap (T - (x : Int)) = T - (x : Int) := IntWalk.i64_in _ (by omega)
      have B0 : 0 ≤ B := by omega
      have BT : B ≤ T := by omega
      have HB := Lib.hid (show B = 0 ∨ B = T - (x : Int) by omega)
      have mx : max (0 : Int) (T - (x : Int)) = B := hB.symm
      have mx2 : (if (0 : Int) < T - (x : Int) then T - (x : Int) else 0) = B := by rw [hB]; split <;> omega
      clear hB
      go_wp2_with fail
      have WS : Hid (∀ i, i < x → 0 ≤ gd l i ∧ gd l i ≤ S) := fun i hi => by
        refine ⟨(HL.out i (by have := HX.out; omega)).1, ?_⟩
        have := gd_nonneg_le_sum (l := l) (fun i => by
          by_cases t : i < l.length
          · exact (HL.out i t).1
          · rw [gd_out (by omega)]; omega) i
        have := HS.out
        omega
      obtain ⟨X, hX⟩ : ∃ X, X = 2 * B := ⟨_, rfl⟩
      obtain ⟨Y, hY⟩ : ∃ Y, Y = 2 * S := ⟨_, rfl⟩
      have eX : IntKind.i64.wrap (2 * B) = X := by rw [hX]; exact IntWalk.i64_in _ (by omega)
      have eX2 : wrap64 (2 * B) = X := by rw [hX]; exact IntWalk.wrap64_in _ (by omega)
      have eY : IntKind.i64.wrap (2 * S) = Y := by rw [hY]; exact IntWalk.i64_in _ (by omega)
      have eY2 : wrap64 (2 * S) = Y := by rw [hY]; exact IntWalk.wrap64_in _ (by omega)
      have X0 : 0 ≤ X := by omega
      have X1 : X ≤ 2251799813685248 := by omega
      have Y0 : 0 < Y := by omega
      have Y1 : Y ≤ 549755813888 := by omega
      have HXY := Lib.hid (show X = 2 * B ∧ Y = 2 * S from ⟨hX, hY⟩)
      clear hX hY mx mx2 eT
      go_loopw [10, 11] (fun fv kv wy => ∃ (k : Nat) (f : Int) (P : List Int), k ≤ x ∧ fv = .int .i64 f ∧ kv = .int .i64 k ∧ -(k * 1125899906842624) ≤ f ∧ f ≤ T ∧ Hid (f = T - (P.take k).sum) ∧ Hid (MadeI w wy p x P) ∧ Hid (CutAt l X S k P)) (fun _ kv _ => x - (intOf kv).toNat)
      case atStart => exact ⟨0, T, _, Nat.zero_le _, rfl, rfl, by omega, Int.le_refl _, by show _ = _; simp, M0, Lib.hid fun i hi => by omega⟩
      case round =>
        obtain ⟨k, f, P, hk, rfl, rfl, f0, f1, HF, M, CA⟩ := hrel
        clear M0
        by_cases t1 : k < x
        · obtain ⟨xa, rfl, kx, cx0⟩ := (R.out.below M.out.2.2.2) k (by have := HX.out; omega)
          obtain ⟨v0, v2⟩ := WS.out k t1
          have CX := Lib.hid cx0
          have BX := Lib.hid (show (xa.add k).block < wr.heap.size by rw [add_block]; exact kx)
          have kP : k < P.length := by have := M.out.1; omega
          obtain ⟨K, hK⟩ : ∃ K, rcK B (gd l k) S = K := ⟨_, rfl⟩
          obtain ⟨g1, g2, g3, g4⟩ := rcK_cut SP B0 v0
          have g5 := rcK_le SP B0 v0 v2
          rw [hK] at g1 g2 g3 g4 g5
          have NC := Lib.hid (CA.out.more kP g1 g2 (by rw [HXY.out.1]; exact g3) (by rw [HXY.out.1]; exact g4))
          have NF : Hid (f - K = T - ((P.set k K).take (k + 1)).sum) := by
            show _ = _
            rw [take_set_sum kP]
            have := HF.out
            omega
          have HK : Hid (rz (X * gd l k + S) Y 1 - 1 = K) := by
            show _ = _
            rw [HXY.out.1, HXY.out.2, ← hK]; rfl
          have i3 : (k : Int) < (x : Int) := by omega
          have i4 : (0 : Int) ≤ (k : Int) := by omega
          have v3 : gd l k ≤ 1073741824 := (HL.out k (by have := HX.out; omega)).2
          clear HF CA cx0 kx hK g2 g3 g4
          generalize gd l k = v at *
          have m0 := Int.mul_nonneg X0 v0
          obtain ⟨RZ, hRZ⟩ : ∃ RZ, rz (X * v + S) Y 1 = RZ := ⟨_, rfl⟩
          have hRK : RZ - 1 = K := by have := HK.out; omega
          have SX := Lib.hid (show false = decide (X < 0) by simp; omega)
          have SV := Lib.hid (show false = decide (v < 0) by simp; omega)
          have SM := Lib.hid (show false = decide (X * v < 0) by simp; omega)
          have SS := Lib.hid (show false = decide (S < 0) by simp; omega)
          have SN := Lib.hid (show false = decide (X * v + S < 0) by simp; omega)
          have SY := Lib.hid (show false = decide (Y < 0) by simp; omega)
          have S1 := Lib.hid (show false = decide ((1 : Int) < 0) by decide)
          have SR := Lib.hid (show false = decide (RZ < 0) by simp; omega)
          have SK := Lib.hid (show false = decide (RZ - 1 < 0) by simp; omega)
          have HN0 := Lib.hid (show 0 ≤ X * v + S by omega)
          have HR0 := Lib.hid (show 0 ≤ rz (X * v + S) Y 1 by omega)
          have YP := Lib.hid Y0
          have WI := Lib.hid (fun W pp dd (ll : List Int) (a : BigR 18 W pp ll (RZ - 1)) => within_p (RZ - 1) 1125899906842624 (by omega) pp dd ll (by decide) (by decide) W a (by decide))
          rw [show wiV (RZ - 1) 1125899906842624 = K from by unfold wiV; rw [if_pos (by omega)]; exact hRK] at WI
          have HRZ := Lib.hid hRZ
          clear hRZ hRK HK m0
          go_upto_region 12 with fail
          go_cut [12] from 44 to 55 (fun b1v wx => ∃ B1 p5 l5 d5, b1v = .pointer (some ⟨B1, 0, none⟩) ∧ Hid (OneG wr (X * v + S) 11 p5 l5 d5 B1 wx))
          case first =>
            refine wp_region_G (fun w' => Below wr.heap.size wr w') 13 (by kernel_rfl) ?_
            have hS : Below wr.heap.size wr wr.drew := (Below.refl _ _).drew
            refine wpAnyG_take3 (i := 0) (d := 44) (oi := _) (v := .int .i64 B) rfl (by kernel_rfl) (by kernel_rfl) (by kernel_rfl) (by kernel_rfl) (by kernel_rfl) (by kernel_rfl) (by decide) (fun _ _ _ h => h) (by rfl) (fun w' hw' => ?_) hS ?_
            · go_simp
            simp only [List.setIfInBounds_toArray, List.set_cons_zero, List.set_cons_succ]
            refine wpAnyG_take3 (i := 1) (d := 45) (oi := _) (v := .int .i64 X) rfl (by kernel_rfl) (by kernel_rfl) (by kernel_rfl) (by kernel_rfl) (by kernel_rfl) (by kernel_rfl) (by decide) (fun _ _ _ h => h) (by rfl) (fun w' hw' => ?_) hS ?_
            · go_simp
            simp only [List.setIfInBounds_toArray, List.set_cons_zero, List.set_cons_succ]
            refine wpAnyG_take3 (i := 3) (d := 47) (oi := _) (v := .slice (some xa) x c) rfl (by kernel_rfl) (by kernel_rfl) (by kernel_rfl) (by kernel_rfl) (by kernel_rfl) (by kernel_rfl) (by decide) (fun _ _ _ h => h) (by rfl) (fun w' hw' => ?_) hS ?_
            · go_simp
            simp only [List.setIfInBounds_toArray, List.set_cons_zero, List.set_cons_succ]
            refine wpAnyG_take3 (i := 4) (d := 48) (oi := _) (v := .int .i64 k) rfl (by kernel_rfl) (by kernel_rfl) (by kernel_rfl) (by kernel_rfl) (by kernel_rfl) (by kernel_rfl) (by decide) (fun _ _ _ h => h) (by rfl) (fun w' hw' => ?_) hS ?_
            · go_simp
            simp only [List.setIfInBounds_toArray, List.set_cons_zero, List.set_cons_succ]
            refine wpAnyG_take3 (i := 5) (d := 49) (oi := _) (v := .pointer (some (xa.add k))) rfl (by kernel_rfl) (by kernel_rfl) (by kernel_rfl) (by kernel_rfl) (by kernel_rfl) (by kernel_rfl) (by decide) (fun _ _ _ h => h) (by rfl) (fun w' hw' => ?_) hS ?_
            · go_simp
            simp only [List.setIfInBounds_toArray, List.set_cons_zero, List.set_cons_succ]
            refine wpAnyG_take3 (i := 6) (d := 50) (oi := _) (v := .int .i64 v) rfl (by kernel_rfl) (by kernel_rfl) (by kernel_rfl) (by kernel_rfl) (by kernel_rfl) (by kernel_rfl) (by decide) (fun _ _ _ h => h) (by rfl) (fun w' hw' => ?_) hS ?_
            · have cx := (hw'.cell (p := xa.add k) BX.out).trans CX.out
              go_simp
            simp only [List.setIfInBounds_toArray, List.set_cons_zero, List.set_cons_succ]
            refine wpAnyG_take3 (i := 9) (d := 53) (oi := _) (v := .int .i64 S) rfl (by kernel_rfl) (by kernel_rfl) (by kernel_rfl) (by kernel_rfl) (by kernel_rfl) (by kernel_rfl) (by decide) (fun _ _ _ h => h) (by rfl) (fun w' hw' => ?_) hS ?_
            · go_simp
            simp only [List.setIfInBounds_toArray, List.set_cons_zero, List.set_cons_succ]
            refine wpAnyG_flow (w0 := wr) (Lend := #[true, true, true, true, true, true, true, true, true, true, true, true, true, false]) [46, 51, 52, 54, 55, 12] [2, 7, 8, 10, 11, 12] (fun p' => match p' with | 0 => NumV 5 X | 1 => NumV 5 v | 2 => NumV 10 (X * v) | 3 => NumV 5 S | 4 => NumV 11 (X * v + S) | 5 => BoxV wr.heap.size | _ => fun _ _ => False) (fun p => p == 5) (fun p => match p with | 0 => [] | 1 => [] | 2 => [0, 1] | 3 => [] | 4 => [2, 3] | 5 => [] | _ => []) 13 1000 (by kernel_rfl) (by kernel_rfl) (by kernel_rfl) (by decide) (by decide) (by decide) rfl (by decide) (by decide) (by kernel_rfl) (by kernel_rfl) hS (hS) ?hfl ?ho ?hz (by kernel_rfl) ?hLm ?hval ?hbx ?H ?hend 0 ?hpo ?hopt
            case hfl =>
              intro j hj
              simp only [List.mem_cons, List.not_mem_nil, or_false] at hj
              rcases hj with rfl | rfl | rfl | rfl | rfl | rfl <;> rfl
            case ho =>
              intro j hj hn
              simp only [List.mem_cons, List.not_mem_nil, or_false, not_or] at hn
              rcases (by omega : j = 0 ∨ j = 1 ∨ j = 3 ∨ j = 4 ∨ j = 5 ∨ j = 6 ∨ j = 9) with rfl | rfl | rfl | rfl | rfl | rfl | rfl <;> rfl
            case hz =>
              intro j hj
              by_cases hz : j < 14
              · rcases (by omega : j = 13) with rfl <;> rfl
              · simp [Array.getD]; try omega
            case hLm =>
              intro j hj
              have hj : j < 14 := hj
              rcases (by omega : j = 0 ∨ j = 1 ∨ j = 2 ∨ j = 3 ∨ j = 4 ∨ j = 5 ∨ j = 6 ∨ j = 7 ∨ j = 8 ∨ j = 9 ∨ j = 10 ∨ j = 11 ∨ j = 12 ∨ j = 13) with rfl | rfl | rfl | rfl | rfl | rfl | rfl | rfl | rfl | rfl | rfl | rfl | rfl | rfl <;> rfl
            case hval =>
              intro p v w w' h st
              match p, h with
              | 0, h => exact NumV.grow h st
              | 1, h => exact NumV.grow h st
              | 2, h => exact NumV.grow h st
              | 3, h => exact NumV.grow h st
              | 4, h => exact NumV.grow h st
              | 5, h => exact BoxV.grow h st
              | _ + 6, h => cases h
            case hbx =>
              intro p v w hb h
              simp only [Bool.or_eq_true, beq_iff_eq] at hb
              rcases hb with rfl
              · exact BoxV.at h
            case H =>
              intro p hp vs w' hvs hS' bel hd o ho A hA K' hK
              obtain ⟨x0, x1, x2, x3, x4, x5, rfl⟩ : ∃ x0 x1 x2 x3 x4 x5, vs = [x0, x1, x2, x3, x4, x5] := by
                rcases vs with _ | ⟨x0, _ | ⟨x1, _ | ⟨x2, _ | ⟨x3, _ | ⟨x4, _ | ⟨x5, _ | ⟨y, vs⟩⟩⟩⟩⟩⟩⟩
                all_goals first | (simp at hvs; done) | exact ⟨_, _, _, _, _, _, rfl⟩
              rcases (by simpa using hp : p < 6) with hp'
              rcases (by have : p < 6 := by simpa using hp
                         omega : p = 0 ∨ p = 1 ∨ p = 2 ∨ p = 3 ∨ p = 4 ∨ p = 5) with rfl | rfl | rfl | rfl | rfl | rfl
              · clear hd
                have ho2 := Option.some.inj ho
                clear ho
                subst ho2
                refine wp_of_callw (F := 31) (args := #[.int .i64 X]) (by rw [hA.out]; kernel_rfl) (by rw [hA.out]; kernel_rfl) (of_s X false SX.out (by omega) (by omega) _) ?_
                rintro e' w'' ⟨p1, l1, d1, rfl, r1, r2, r3⟩
                exact ⟨_, rfl, hK.out _ _ r3 (hS'.trans (r3.mono hS'.size)) ⟨_, _, _, rfl, r1⟩ (fun h => by cases h)⟩
              · clear hd
                have ho2 := Option.some.inj ho
                clear ho
                subst ho2
                refine wp_of_callw (F := 31) (args := #[.int .i64 v]) (by rw [hA.out]; kernel_rfl) (by rw [hA.out]; kernel_rfl) (of_s v false SV.out (by omega) (by omega) _) ?_
                rintro e' w'' ⟨p1, l1, d1, rfl, r1, r2, r3⟩
                exact ⟨_, rfl, hK.out _ _ r3 (hS'.trans (r3.mono hS'.size)) ⟨_, _, _, rfl, r1⟩ (fun h => by cases h)⟩
              · have g0 := hd 0 (by simp)
                have g1 := hd 1 (by simp)
                obtain ⟨u1, j1, k1, rfl, a1⟩ := g0
                obtain ⟨u2, j2, k2, rfl, a2⟩ := g1
                clear hd
                have ho2 := Option.some.inj ho
                clear ho
                subst ho2
                refine wp_of_callw (F := 30) (args := #[.agg #[.bool false, .slice u1 (List.length j1) k1], .agg #[.bool false, .slice u2 (List.length j2) k2]]) (by rw [hA.out]; kernel_rfl) (by rw [hA.out]; kernel_rfl) (times_s (n := 5) (m := 5) X v false false false SX.out SV.out SM.out u1 u2 k1 k2 j1 j2 _ a1 a2 (by decide) (by decide)) ?_
                rintro e' w'' ⟨p1, l1, d1, rfl, r1, r2, r3⟩
                exact ⟨_, rfl, hK.out _ _ r3 (hS'.trans (r3.mono hS'.size)) ⟨_, _, _, rfl, r1⟩ (fun h => by cases h)⟩
              · clear hd
                have ho2 := Option.some.inj ho
                clear ho
                subst ho2
                refine wp_of_callw (F := 31) (args := #[.int .i64 S]) (by rw [hA.out]; kernel_rfl) (by rw [hA.out]; kernel_rfl) (of_s S false SS.out (by omega) (by omega) _) ?_
                rintro e' w'' ⟨p1, l1, d1, rfl, r1, r2, r3⟩
                exact ⟨_, rfl, hK.out _ _ r3 (hS'.trans (r3.mono hS'.size)) ⟨_, _, _, rfl, r1⟩ (fun h => by cases h)⟩
              · have g2 := hd 2 (by simp)
                have g3 := hd 3 (by simp)
                obtain ⟨u1, j1, k1, rfl, a1⟩ := g2
                obtain ⟨u2, j2, k2, rfl, a2⟩ := g3
                clear hd
                have ho2 := Option.some.inj ho
                clear ho
                subst ho2
                refine wp_of_callw (F := 35) (args := #[.agg #[.bool false, .slice u1 (List.length j1) k1], .agg #[.bool false, .slice u2 (List.length j2) k2]]) (by rw [hA.out]; kernel_rfl) (by rw [hA.out]; kernel_rfl) (plus_s (k := 10) (X * v) S false false false SM.out SS.out SN.out u1 u2 k1 k2 j1 j2 _ (BigR.more (m := 10) a1 (by decide)) (BigR.more (m := 10) a2 (by decide)) (by decide)) ?_
                rintro e' w'' ⟨p1, l1, d1, rfl, r1, r2, r3⟩
                exact ⟨_, rfl, hK.out _ _ r3 (hS'.trans (r3.mono hS'.size)) ⟨_, _, _, rfl, r1⟩ (fun h => by cases h)⟩
              · clear hd
                have ho2 := Option.some.inj ho
                clear ho
                subst ho2
                refine wp_of_value (v := .pointer (some ⟨w'.heap.size, 0, none⟩)) (w' := w'.alloc (.cells #[.bool false, .slice none 0 0] 55)) rfl (by rw [hA.out]; kernel_rfl) ?_
                exact hK.out _ _ ((Below.refl _ _).alloc (Nat.le_refl _) _) (hS'.alloc hS'.size _) (BoxV.new _ hS'.size) (fun _ => ⟨_, rfl, Nat.le_refl _⟩)
            case hend =>
              intro vs w' hvs hS' bel hv hd A hA f hu
              obtain ⟨x0, x1, x2, x3, x4, x5, rfl⟩ : ∃ x0 x1 x2 x3 x4 x5, vs = [x0, x1, x2, x3, x4, x5] := by
                rcases vs with _ | ⟨x0, _ | ⟨x1, _ | ⟨x2, _ | ⟨x3, _ | ⟨x4, _ | ⟨x5, _ | ⟨y, vs⟩⟩⟩⟩⟩⟩⟩
                all_goals first | (simp at hvs; done) | exact ⟨_, _, _, _, _, _, rfl⟩
              have g0 := hv 0 (by simp)
              have g1 := hv 1 (by simp)
              have g2 := hv 2 (by simp)
              have g3 := hv 3 (by simp)
              have g4 := hv 4 (by simp)
              have g5 := hv 5 (by simp)
              obtain ⟨e00, e01, e02, rfl, -⟩ := g0
              obtain ⟨e10, e11, e12, rfl, -⟩ := g1
              obtain ⟨e20, e21, e22, rfl, -⟩ := g2
              obtain ⟨e30, e31, e32, rfl, -⟩ := g3
              obtain ⟨p5, l5, d5, rfl, B5⟩ := g4
              obtain ⟨B1, rfl, z1, y1, c10, c11, f10, f11⟩ := g5
              obtain ⟨f, rfl⟩ : ∃ g, f = g + 1 := ⟨f - 1, by have h3 : unl #[true, true, true, true, true, true, true, true, true, true, true, true, true, false] = 1 := (by decide); omega⟩
              clear hv hd hu
              have OW := Lib.hid (o_2 (w := wr) (c := d5) z1 hS' B5 c10 c11)
              rw [hA.out]
              clear hA
              simp only [putL, Act.put, List.setIfInBounds_toArray, List.set_cons_zero, List.set_cons_succ]
              refine wpAnyG_one (i := 13) (o := _) (by kernel_rfl) rfl (fun K hK => ?_)
              go_simp
              refine hK.out _ _ (fun h => absurd h (by decide)) ?_
              try simp only [Act.put, List.setIfInBounds_toArray, List.set_cons_zero, List.set_cons_succ]
              clear hK
              refine wpAnyG_done (by kernel_rfl) ?_ _
              go_wp2_with fail
              go_meet
              exact ⟨_, _, _, _, rfl, OW⟩
            case hpo => exact fun h => absurd h (by decide)
            case hopt => exact fun h => absurd h (by decide)
          case rest =>
            obtain ⟨B1, p5, l5, d5, rfl, OW⟩ := hcut
            have c10 := OW.out.b0
            have c11 := OW.out.b1
            have BQ := Lib.hid OW.out.bx
            have KX := Lib.hid OW.out.bel
            clear OW SX SV SM SS SN CX BX v0 v2 v3
            generalize X * v + S = NN at *
            go_upto_region 13 with fail
            go_region_held3 (fun w' => w'.cell? ⟨B1, 0, none⟩ = some (.bool false) ∧ w'.cell? ⟨B1, 1, none⟩ = some (.slice p5 l5.length d5))
              (first | exact ⟨c10, c11⟩ | exact ⟨cellDr c10, cellDr c11⟩)
              (first
                | (go_at_call 31; (with_reducible refine (of_s Y false SY.out (by omega) (by omega) _).mono ?_); rintro e wd ⟨p6, l6, d6, rfl, r1, r2, r3⟩; have st : Below wc.heap.size wc wd := (by with_reducible first | exact r3 | exact Below.ofDrew r3 | exact Below.ofDrewN r3); have c10 := cellGr st c10; have c11 := cellGr st c11; have KX := Lib.hid (KX.out.trans (st.mono KX.out.size)); have BQ := Lib.hid (BQ.out.below st); have B6 := Lib.hid (BigR.more (m := 11) r1 (by decide)); clear st)
                | (go_at_call 37; (with_reducible refine (rounded_p (N := 11) p5 p6 d5 d6 l5 l6 NN Y _ (by with_reducible first | exact BQ.out | exact BQ.out.drew | exact BQ.out.drewN _) (by with_reducible first | exact B6.out | exact B6.out.drew | exact B6.out.drewN _) HN0.out YP.out HR0.out (by decide)).mono ?_); rintro e we ⟨p7, l7, d7, rfl, r1, r2, r3⟩; have st : Below wd.heap.size wd we := (by with_reducible first | exact r3 | exact Below.ofDrew r3 | exact Below.ofDrewN r3); have c10 := cellGr st c10; have c11 := cellGr st c11; have KX := Lib.hid (KX.out.trans (st.mono KX.out.size)); have B7 := Lib.hid (HRZ.out ▸ r1); clear st)
                | (go_at_call 31; (with_reducible refine (of_s 1 false S1.out (by decide) (by decide) _).mono ?_); rintro e wf ⟨p8, l8, d8, rfl, r1, r2, r3⟩; have st : Below we.heap.size we wf := (by with_reducible first | exact r3 | exact Below.ofDrew r3 | exact Below.ofDrewN r3); have c10 := cellGr st c10; have c11 := cellGr st c11; have KX := Lib.hid (KX.out.trans (st.mono KX.out.size)); have B7 := Lib.hid (B7.out.below st); have B8 := Lib.hid (BigR.more (m := 17) r1 (by decide)); clear st)
                | (go_at_call 36; (with_reducible refine (minus_s (k := 17) RZ 1 false false false SR.out S1.out SK.out p7 p8 d7 d8 l7 l8 _ (by with_reducible first | exact B7.out | exact B7.out.drew | exact B7.out.drewN _) (by with_reducible first | exact B8.out | exact B8.out.drew | exact B8.out.drewN _) (by decide)).mono ?_); rintro e wg ⟨p9, l9, d9, rfl, r1, r2, r3⟩; have st : Below wf.heap.size wf wg := (by with_reducible first | exact r3 | exact Below.ofDrew r3 | exact Below.ofDrewN r3); have c10 := cellGr st c10; have c11 := cellGr st c11; have KX := Lib.hid (KX.out.trans (st.mono KX.out.size)); have B9 := Lib.hid r1; clear st)
                | (go_at_call 32; (with_reducible refine (WI.out _ p9 d9 l9 (by with_reducible first | exact B9.out | exact B9.out.drew | exact B9.out.drewN _)).mono ?_); rintro e wh ⟨rfl, r3⟩; have st : Below wg.heap.size wg wh := (by with_reducible first | exact r3 | exact Below.ofDrew r3 | exact Below.ofDrewN r3); have c10 := cellGr st c10; have c11 := cellGr st c11; have KX := Lib.hid (KX.out.trans (st.mono KX.out.size)); clear st))
            clear c10 c11 BQ B6 B7 B8 B9 WI SY S1 SR SK HN0 HR0 YP HRZ
            have M2 := Lib.hid (show MadeI w wh p x P from ⟨M.out.1, M.out.2.1, own_kept M.out.2.2.1 (KX.out.block p M.out.lt), M.out.2.2.2.trans (KX.out.mono M.out.2.2.2.size)⟩)
            have cP := M2.out.cell k kP
            have fP := M2.out.frozen k
            have M3 := Lib.hid (M2.out.set k K)
            clear M M2 KX
            generalize gd P k = old at *
            go_wp2_with fail
            generalize wh.setCell ⟨p, k, none⟩ (.int .i64 K) = wi at *
            go_roundw
            case rel => exact ⟨k + 1, f - K, _, by omega, by first | rfl | go_num, by go_num, by push_cast; omega, by omega, NF, M3, NC⟩
            case measure => simp [intOf]; omega
        · obtain rfl : k = x := by omega
          have hx := HX.out
          have hM := M.out.1
          have fT : f = T - P.sum := by
            have := HF.out
            rw [show k = P.length from hM.symm, List.take_length] at this
            exact this
          have C2 : CutAt l (2 * B) S l.length P := by
            have := CA.out
            rw [HXY.out.1, hx] at this
            exact this
          have ps := rcut_sum SP HS.out.symm (by omega) (fun i hi => (HL.out i hi).1) B0 T0 (by rw [← hx]; exact HB.out) C2
          have DN := Lib.hid (C2.done SP (by omega) (fun i hi => (HL.out i hi).1))
          have f2 : 0 ≤ f := by omega
          have PT := Lib.hid (show P.sum + f = T by omega)
          clear HF CA C2 ps fT f0 hM
          go_wp2_with fail
          go_loopw [10] (fun rv wy => ∃ (t : Nat) (P : List Int), (t : Int) ≤ T ∧ rv = .int .i64 t ∧ Hid (MadeI w wy p k P) ∧ Hid (Dn l P) ∧ Hid (P.sum + t = T)) (fun rv _ => (intOf rv).toNat)
          case atStart =>
            obtain ⟨t, rfl⟩ := Int.eq_ofNat_of_zero_le f2
            exact ⟨t, P, by omega, rfl, M, DN, PT⟩
          case round =>
            clear M DN PT f2
            obtain ⟨t, P, tT, rfl, M, DN, PT⟩ := hrel
            rename World => wq
            by_cases t2 : 0 < t
            · have tb : (0 : Int) < (t : Int) := by omega
              have PB0 := Lib.hid (fun i => (show 0 ≤ gd P i ∧ gd P i ≤ 1125899906842624 from ⟨DN.out.pos i, by have := gd_nonneg_le_sum DN.out.pos i; have := PT.out; omega⟩))
              go_wp2_with fail
              go_loopw [15, 16] (fun bv iv wz => ∃ i : Nat, i ≤ k ∧ iv = .int .i64 i ∧ NxAt l P i bv ∧ Hid (MadeI w wz p k P)) (fun _ iv _ => k - (intOf iv).toNat)
              case atStart => exact ⟨0, Nat.zero_le _, rfl, .inl ⟨rfl, Lib.hid fun j hj => by omega⟩, M⟩
              case round =>
                obtain ⟨i, hi1, rfl, hn, MM⟩ := hrel
                clear M
                by_cases ti : i < k
                · obtain ⟨xa, rfl, kx, cx⟩ := (R.out.below MM.out.2.2.2) i (by have := HX.out; omega)
                  obtain ⟨v0, v1⟩ := HL.out i (by have := HX.out; omega)
                  obtain ⟨a0, a1⟩ := PB0.out i
                  have cP := MM.out.cell i (by have := MM.out.1; omega)
                  have i3 : (i : Int) < (k : Int) := by omega
                  have i4 : (0 : Int) ≤ (i : Int) := by omega
                  clear kx
                  by_cases z : gd l i = 0
                  · have nz : ¬ 0 < gd l i := by omega
                    have NB : Hid (NxAt l P (i + 1) u15) := by
                      rcases hn with ⟨e, h⟩ | ⟨f, hf, e, h⟩
                      · exact .inl ⟨e, Lib.hid fun j hj => by
                          rcases (by omega : j < i ∨ j = i) with t | t
                          · exact h.out j t
                          · subst t; exact nz⟩
                      · exact .inr ⟨f, by omega, e, Lib.hid (h.out.skip nz)⟩
                    rw [z] at cx
                    clear hn z nz v0 v1 a0 a1
                    generalize gd P i = a at *
                    go_wp2_with fail
                    try (go_quiet (fail))
                    try (go_wp2_with fail)
                    go_roundw
                    case rel => exact ⟨i + 1, by omega, by go_num, NB.out, by first | exact MM | exact Lib.hid (MM.out.drewN _)⟩
                    case measure => simp [intOf]; omega
                  · have pz : 0 < gd l i := by omega
                    have db : decide (0 < gd l i) = true := decide_eq_true pz
                    rcases hn with ⟨rfl, h⟩ | ⟨g, hg, rfl, h⟩
                    · have NB := Lib.hid (show NxAt l P (i + 1) (.int .i64 i) from .inr ⟨i, by omega, rfl, Lib.hid (Fst.new h.out pz)⟩)
                      clear h z
                      generalize gd l i = v at *
                      generalize gd P i = a at *
                      go_wp2_with fail
                      try (go_quiet (fail))
                      try (go_wp2_with fail)
                      go_roundw
                      case rel => exact ⟨i + 1, by omega, by go_num, NB.out, by first | exact MM | exact Lib.hid (MM.out.drewN _)⟩
                      case measure => simp [intOf]; omega
                    · obtain ⟨_, exg, kg, cf⟩ := (R.out.below MM.out.2.2.2) g (by have := HX.out; omega)
                      cases exg
                      obtain ⟨u0, u1⟩ := HL.out g (by have := HX.out; omega)
                      obtain ⟨b0, b1⟩ := PB0.out g
                      have cQ := MM.out.cell g (by have := MM.out.1; omega)
                      have T1 : Hid ((2 * gd P i + 1) * gd l g < (2 * gd P g + 1) * gd l i → Fst l P (i + 1) i) := fun c => h.out.take pz c
                      have T2 : Hid (¬ (2 * gd P i + 1) * gd l g < (2 * gd P g + 1) * gd l i → Fst l P (i + 1) g) := fun c => h.out.keep hg c
                      have j3 : (g : Int) < (k : Int) := by omega
                      have j4 : (0 : Int) ≤ (g : Int) := by omega
                      have j5 : ¬ (g : Int) < 0 := by omega
                      have j6 : decide ((g : Int) < 0) = false := decide_eq_false j5
                      have i5 : (i : Int) < (l.length : Int) := by have := HX.out; omega
                      have g5 : (g : Int) < (l.length : Int) := by have := HX.out; omega
                      clear hx
                      clear h z kg
                      generalize gd l i = v at *
                      generalize gd l g = u at *
                      generalize gd P i = a at *
                      generalize gd P g = b at *
                      have e1 : IntKind.i64.wrap (2 * a) = 2 * a := IntWalk.i64_in _ (by omega)
                      have e2 : IntKind.i64.wrap (2 * a + 1) = 2 * a + 1 := IntWalk.i64_in _ (by omega)
                      have e3 : IntKind.i64.wrap (2 * b) = 2 * b := IntWalk.i64_in _ (by omega)
                      have e4 : IntKind.i64.wrap (2 * b + 1) = 2 * b + 1 := IntWalk.i64_in _ (by omega)
                      have PA := Lib.hid (fun W => product_any (2 * a + 1) u (by omega) (by omega) u0 (by omega) W)
                      have PB := Lib.hid (fun W => product_any (2 * b + 1) v (by omega) (by omega) v0 (by omega) W)
                      obtain ⟨y1, hy1⟩ : ∃ y, y = (2 * a + 1) * u := ⟨_, rfl⟩
                      obtain ⟨y2, hy2⟩ : ∃ y, y = (2 * b + 1) * v := ⟨_, rfl⟩
                      rw [← hy1] at PA T1 T2
                      rw [← hy2] at PB T1 T2
                      clear hy1 hy2
                      by_cases cc : y1 < y2
                      · have NK := Lib.hid (T1.out cc)
                        have PL := Lib.hid (fun W => pless_any (y1 / 67108864) (y1 % 67108864) (y2 / 67108864) (y2 % 67108864) true (by rw [pair_lt]; simp [cc]) W)
                        clear T1 T2 cc
                        generalize y1 / 67108864 = h1 at *
                        generalize y1 % 67108864 = h2 at *
                        generalize y2 / 67108864 = h3 at *
                        generalize y2 % 67108864 = h4 at *
                        go_wp2_with fail
                        go_region_held3 (fun w' => w'.cell? (xa.add i) = some (.int .i64 v) ∧ w'.cell? ⟨p, i, none⟩ = some (.int .i64 a) ∧ w'.cell? (xa.add g) = some (.int .i64 u) ∧ w'.cell? ⟨p, g, none⟩ = some (.int .i64 b))
                          (with_reducible first | exact ⟨cx, cP, cf, cQ⟩ | exact ⟨cellDr cx, cellDr cP, cellDr cf, cellDr cQ⟩)
                          (first
                            | (go_at_call 39; (with_reducible refine (PA.out _).mono ?_); rintro e wa ⟨rfl, r3⟩; have st : Below wr.heap.size wr wa := (by with_reducible first | exact r3 | exact Below.ofDrew r3 | exact Below.ofDrewN r3); have cx := cellGr st cx; have cP := cellGr st cP; have cf := cellGr st cf; have cQ := cellGr st cQ; have MM := Lib.hid (MM.out.grow st); clear st r3)
                            | (go_at_call 39; (with_reducible refine (PB.out _).mono ?_); rintro e wb ⟨rfl, r3⟩; have st : Below wa.heap.size wa wb := (by with_reducible first | exact r3 | exact Below.ofDrew r3 | exact Below.ofDrewN r3); have cx := cellGr st cx; have cP := cellGr st cP; have cf := cellGr st cf; have cQ := cellGr st cQ; have MM := Lib.hid (MM.out.grow st); clear st r3)
                            | (go_at_call 38; (with_reducible refine (PL.out _).mono ?_); rintro e wc ⟨rfl, r3⟩; have st : Below wb.heap.size wb wc := (by with_reducible first | exact r3 | exact Below.ofDrew r3 | exact Below.ofDrewN r3); have cx := cellGr st cx; have cP := cellGr st cP; have cf := cellGr st cf; have cQ := cellGr st cQ; have MM := Lib.hid (MM.out.grow st); clear st r3))
                        go_wp2_with fail
                        go_roundw
                        case rel => exact ⟨i + 1, by omega, by go_num, .inr ⟨i, by omega, rfl, NK⟩, by first | exact MM | exact Lib.hid (MM.out.drewN _)⟩
                        case measure => simp [intOf]; omega
                      · have NK := Lib.hid (T2.out cc)
                        have PL := Lib.hid (fun W => pless_any (y1 / 67108864) (y1 % 67108864) (y2 / 67108864) (y2 % 67108864) false (by rw [pair_lt]; simp [cc]) W)
                        clear T1 T2 cc
                        generalize y1 / 67108864 = h1 at *
                        generalize y1 % 67108864 = h2 at *
                        generalize y2 / 67108864 = h3 at *
                        generalize y2 % 67108864 = h4 at *
                        go_wp2_with fail
                        go_region_held3 (fun w' => w'.cell? (xa.add i) = some (.int .i64 v) ∧ w'.cell? ⟨p, i, none⟩ = some (.int .i64 a) ∧ w'.cell? (xa.add g) = some (.int .i64 u) ∧ w'.cell? ⟨p, g, none⟩ = some (.int .i64 b))
                          (with_reducible first | exact ⟨cx, cP, cf, cQ⟩ | exact ⟨cellDr cx, cellDr cP, cellDr cf, cellDr cQ⟩)
                          (first
                            | (go_at_call 39; (with_reducible refine (PA.out _).mono ?_); rintro e wa ⟨rfl, r3⟩; have st : Below wr.heap.size wr wa := (by with_reducible first | exact r3 | exact Below.ofDrew r3 | exact Below.ofDrewN r3); have cx := cellGr st cx; have cP := cellGr st cP; have cf := cellGr st cf; have cQ := cellGr st cQ; have MM := Lib.hid (MM.out.grow st); clear st r3)
                            | (go_at_call 39; (with_reducible refine (PB.out _).mono ?_); rintro e wb ⟨rfl, r3⟩; have st : Below wa.heap.size wa wb := (by with_reducible first | exact r3 | exact Below.ofDrew r3 | exact Below.ofDrewN r3); have cx := cellGr st cx; have cP := cellGr st cP; have cf := cellGr st cf; have cQ := cellGr st cQ; have MM := Lib.hid (MM.out.grow st); clear st r3)
                            | (go_at_call 38; (with_reducible refine (PL.out _).mono ?_); rintro e wc ⟨rfl, r3⟩; have st : Below wb.heap.size wb wc := (by with_reducible first | exact r3 | exact Below.ofDrew r3 | exact Below.ofDrewN r3); have cx := cellGr st cx; have cP := cellGr st cP; have cf := cellGr st cf; have cQ := cellGr st cQ; have MM := Lib.hid (MM.out.grow st); clear st r3))
                        go_wp2_with fail
                        go_roundw
                        case rel => exact ⟨i + 1, by omega, by go_num, .inr ⟨g, by omega, rfl, NK⟩, by first | exact MM | exact Lib.hid (MM.out.drewN _)⟩
                        case measure => simp [intOf]; omega
                · obtain rfl : i = k := by omega
                  rcases hn with ⟨rfl, h⟩ | ⟨g, hg, rfl, h⟩
                  · exfalso
                    have := sum_le_of (a := l) (b := List.replicate l.length 0) (by simp) (fun j hj => by
                      rw [gd_zeros]
                      have := h.out j (by have := HX.out; omega)
                      omega)
                    rw [sum_zeros] at this
                    have := HS.out
                    omega
                  · have lx := HX.out
                    have NX : Nx l P g := ⟨by omega, h.out.1, fun j hj pj ne => h.out.2 j (by omega) pj ne⟩
                    have gP : g < P.length := by have := MM.out.1; omega
                    have DN2 := Lib.hid (DN.out.next NX)
                    have cP := MM.out.cell g gP
                    have fP := MM.out.frozen g
                    have M3 := Lib.hid (MM.out.set g (gd P g + 1))
                    obtain ⟨b0, b1⟩ := PB0.out g
                    obtain ⟨t', rfl⟩ : ∃ t', t = t' + 1 := ⟨t - 1, by omega⟩
                    have PT2 : Hid ((P.set g (gd P g + 1)).sum + (t' : Int) = T) := by
                      show _ = _
                      rw [sum_set gP]
                      have := PT.out
                      push_cast at this
                      omega
                    have j3 : (g : Int) < (i : Int) := by omega
                    have j4 : (0 : Int) ≤ (g : Int) := by omega
                    have j5 : ¬ (g : Int) < 0 := by omega
                    have j6 : decide ((g : Int) < 0) = false := decide_eq_false j5
                    clear h NX lx DN PT MM PB0 hg gP
                    generalize gd P g = a at *
                    have e1 : IntKind.i64.wrap (a + 1) = a + 1 := IntWalk.i64_in _ (by omega)
                    have e2 : IntKind.i64.wrap (((t' + 1 : Nat) : Int) - 1) = t' := by rw [show ((t' + 1 : Nat) : Int) - 1 = t' by omega]; exact IntWalk.i64_in _ (by omega)
                    go_wp2_with fail
                    go_roundw
                    case rel => exact ⟨t', _, by omega, by go_num, M3, DN2, PT2⟩
                    case measure => simp [intOf]
            · obtain rfl : t = 0 := by omega
              have FF := Lib.hid (FG.out p P wq M.out TK.out TZ.out DN.out (by have := PT.out; simpa using this))
              clear M DN PT
              go_wp2_with fail
              first
                | exact bodyPost_ret (by simp [results, Tryd.results11, go_sem]) rfl FF.out
                | exact bodyPost_ret (v := .tuple #[.slice (some ⟨p, 0, none⟩) k k, .int .i64 0]) (by simp [results, Tryd.results11, go_sem]) rfl FF.out
end Go.Proofs.YtlahdfmciaibdaaDoor
