/- The reference's Mean in general. -/
import Derived.Test.YtblaakjldpcjlaaDoorW1
import Derived.Test.YtblaakjldpcjlaaDoorR26
import Derived.Deep.RegionLaw
namespace Go.Proofs.YtblaakjldpcjlaaDoor
open Go.RowKit
set_option linter.unusedVariables false
set_option linter.unusedSimpArgs false

/-- The sum in its box. -/
structure SumB (w wr : World) (n : Nat) (S : Int) (sg : Bool) (P : Option Addr) (L : List Int) (C : Nat) : Prop where
  s : sg = decide (S < 0)
  c0 : wr.cell? ⟨w.heap.size, 0, none⟩ = some (.bool sg)
  c1 : wr.cell? ⟨w.heap.size, 1, none⟩ = some (.slice P L.length C)
  f0 : wr.frozen? ⟨w.heap.size, 0, none⟩ = false
  f1 : wr.frozen? ⟨w.heap.size, 1, none⟩ = false
  lt : w.heap.size < wr.heap.size
  big : BigR n wr P L S
  bel : Below w.heap.size w wr
theorem SumB.drewN {w wr : World} {n : Nat} {S : Int} {sg : Bool} {P : Option Addr} {L : List Int} {C : Nat} (h : SumB w wr n S sg P L C) (m : Nat) : SumB w (wr.drewN m) n S sg P L C :=
  ⟨h.s, by simpa using h.c0, by simpa using h.c1, by simpa using h.f0, by simpa using h.f1, by simpa using h.lt, h.big.drewN m, below_drewN h.bel m⟩
theorem SumB.below {w wr wr' : World} {n : Nat} {S : Int} {sg : Bool} {P : Option Addr} {L : List Int} {C : Nat} (h : SumB w wr n S sg P L C) (hb : Below wr.heap.size wr wr') : SumB w wr' n S sg P L C :=
  ⟨h.s, (hb.cell (p := ⟨w.heap.size, 0, none⟩) h.lt).trans h.c0, (hb.cell (p := ⟨w.heap.size, 1, none⟩) h.lt).trans h.c1, (hb.frozen (p := ⟨w.heap.size, 0, none⟩) h.lt).trans h.f0, (hb.frozen (p := ⟨w.heap.size, 1, none⟩) h.lt).trans h.f1, Nat.lt_of_lt_of_le h.lt hb.size, h.big.below hb, h.bel.trans (hb.mono h.bel.size)⟩
/-- What a round's region reads. -/
structure Mr (w wr : World) (sg : Bool) (P : Option Addr) (L : List Int) (C : Nat) (xa xb : Addr) (k : Nat) (u v : Int) : Prop where
  c0 : wr.cell? ⟨w.heap.size, 0, none⟩ = some (.bool sg)
  c1 : wr.cell? ⟨w.heap.size, 1, none⟩ = some (.slice P L.length C)
  f0 : wr.frozen? ⟨w.heap.size, 0, none⟩ = false
  f1 : wr.frozen? ⟨w.heap.size, 1, none⟩ = false
  lt : w.heap.size < wr.heap.size
  cu : wr.cell? (xa.add k) = some (.int .i64 u)
  cv : wr.cell? (xb.add k) = some (.int .i64 v)
  zu : xa.block < wr.heap.size
  zv : xb.block < wr.heap.size
  bel : Below w.heap.size w wr
theorem Mr.below {w wr wr' : World} {sg : Bool} {P : Option Addr} {L : List Int} {C : Nat} {xa xb : Addr} {k : Nat} {u v : Int} (h : Mr w wr sg P L C xa xb k u v) (hb : Below wr.heap.size wr wr') : Mr w wr' sg P L C xa xb k u v :=
  ⟨(hb.cell (p := ⟨w.heap.size, 0, none⟩) h.lt).trans h.c0, (hb.cell (p := ⟨w.heap.size, 1, none⟩) h.lt).trans h.c1, (hb.frozen (p := ⟨w.heap.size, 0, none⟩) h.lt).trans h.f0, (hb.frozen (p := ⟨w.heap.size, 1, none⟩) h.lt).trans h.f1, Nat.lt_of_lt_of_le h.lt hb.size,
    (hb.cell (p := xa.add k) (by rw [add_block]; exact h.zu)).trans h.cu, (hb.cell (p := xb.add k) (by rw [add_block]; exact h.zv)).trans h.cv, Nat.lt_of_lt_of_le h.zu hb.size, Nat.lt_of_lt_of_le h.zv hb.size, h.bel.trans (hb.mono h.bel.size)⟩

set_option maxRecDepth 100000 in
set_option maxHeartbeats 8000000 in
theorem rMean_any (p q : Option Addr) (c d : Nat) (a l : List Int) (m : Int) (w : World) (r : RowA w p a) (s : RowA w q l) (la : a.length ≤ 1000000) (ll : l.length ≤ 1000000) :
    Calls Tryd.prog 27 #[.slice p a.length c, .slice q l.length d, .int .i64 m] w fun e w' => MeanP a l m e ∧ Below w.heap.size w w' := by
  obtain ⟨x, hx⟩ : ∃ x, x = l.length := ⟨_, rfl⟩
  obtain ⟨y, hy⟩ : ∃ y, y = a.length := ⟨_, rfl⟩
  by_cases h1 : 256 < a.length ∨ 256 < l.length
  · have F := Lib.hid (show MeanR a l m 0 3 from .inl ⟨h1, rfl, rfl⟩)
    rw [← hx, ← hy] at h1
    rw [← hx, ← hy] at ⊢
    clear hx hy r s la ll
    rcases (by omega : 256 < y ∨ (¬ 256 < y ∧ 256 < x)) with h | ⟨h, h'⟩
    · clear h1
      go_enter Tryd.func27, Tryd.ntmps27
      go_wp2_with fail
      go_ret2
      exact ⟨⟨_, _, rfl, F.out⟩, by go_grown⟩
    · clear h1
      go_enter Tryd.func27, Tryd.ntmps27
      go_wp2_with fail
      go_ret2
      exact ⟨⟨_, _, rfl, F.out⟩, by go_grown⟩
  by_cases h2 : a.length = l.length
  · have HL := Lib.hid h2
    cases hm : modB m
    · have F := Lib.hid (show MeanR a l m 0 2 from .inr (.inl ⟨h1, .inr (.inl hm), rfl, rfl⟩))
      have HM := Lib.hid hm
      have hxy : y = x := by omega
      subst hxy
      rw [← hx] at h1
      rw [← hy] at h1
      rw [← hx, ← hy]
      clear hx hy h2 r s la ll hm
      go_enter Tryd.func27, Tryd.ntmps27
      go_wp2_with fail
      refine (rMode_any _ _).mono ?_
      rintro e w1 ⟨rfl, rfl⟩
      rw [HM.out]
      go_wp2_with fail
      go_ret2
      exact ⟨⟨_, _, rfl, F.out⟩, by go_grown⟩
    · have R := Lib.hid r
      have S := Lib.hid s
      have HM := Lib.hid hm
      obtain ⟨mo1, mo2⟩ := modB_true.1 hm
      have BAD : Hid (∀ i, i < x → ¬ (ValOk (gd a i) ∧ WeiOk (gd l i)) → MeanR a l m 0 2) := fun i hi hb => .inr (.inl ⟨h1, .inr (.inr ⟨h2, i, by omega, hb⟩), rfl, rfl⟩)
      have ZER : Hid ((∀ i, i < x → ValOk (gd a i) ∧ WeiOk (gd l i)) → l.sum = 0 → MeanR a l m 0 5) := fun h k => .inr (.inr ⟨h1, h2, hm, fun i hi => h i (by omega), .inl ⟨k, rfl, rfl⟩⟩)
      have FIN : Hid ((∀ i, i < x → ValOk (gd a i) ∧ WeiOk (gd l i)) → l.sum ≠ 0 → MeanR a l m (rz (dotp a l x) l.sum m) 0) := fun h k => .inr (.inr ⟨h1, h2, hm, fun i hi => h i (by omega), .inr ⟨k, by rw [hx], rfl⟩⟩)
      have hxy : y = x := by omega
      subst hxy
      rw [← hx] at h1
      rw [← hy] at h1
      rw [← hx, ← hy]
      have HX := Lib.hid hx
      have ln : y ≤ 256 := by omega
      clear hx hy h1 h2 r s la ll hm
      have S0 : Hid (SumB w (w.alloc (Obj.cells #[Value.bool false, Value.slice none 0 0] 30)) (10 + 0) 0 false none [] 0) := by
        refine ⟨by decide, ?_, ?_, ?_, ?_, ?_, ⟨Can.nil, by simp, fun i h => by simp at h⟩, (Below.refl _ _).alloc (Nat.le_refl _) _⟩
        all_goals (simp [go_sem]; done)
      go_enter Tryd.func27, Tryd.ntmps27
      go_wp2_with fail
      refine (rMode_any _ _).mono ?_
      rintro e w1 ⟨rfl, rfl⟩
      rw [HM.out]
      go_wp2_with fail
      go_loopw [9, 10] (fun wv kv wr => ∃ (k : Nat) (S W : Int) (sg : Bool) (P : Option Addr) (L : List Int) (C : Nat), k ≤ y ∧ wv = .int .i64 W ∧ kv = .int .i64 k ∧ Hid (MS a l k S W) ∧ Hid (SumB w wr (10 + k) S sg P L C)) (fun _ kv _ => y - (intOf kv).toNat)
      case atStart => exact ⟨0, 0, 0, _, _, _, _, Nat.zero_le _, rfl, rfl, by show MS _ _ _ _ _; exact ⟨rfl, by simp, by omega, by omega, by omega, by omega, by omega⟩, S0⟩
      case round =>
        clear S0
        obtain ⟨k, S1, W, sg, P, L, C, hk, rfl, rfl, HK, SB⟩ := hrel
        obtain ⟨-, -, -, b1, b2, b3, b4⟩ := HK.out
        by_cases t2 : k < y
        · obtain ⟨xp, rfl, kp, cp⟩ := R.out k (by have := HX.out; have := HL.out; omega)
          obtain ⟨xq, rfl, kq, cq⟩ := S.out k (by have := HX.out; omega)
          have NX := Lib.hid (fun g => HK.out.next (by have := HX.out; omega) g)
          have BK := Lib.hid (BAD.out k t2)
          have cu : wr.cell? (xp.add k) = some (.int .i64 (gd a k)) := (SB.out.bel.cell (p := xp.add k) (by rw [add_block]; exact kp)).trans cp
          have cv : wr.cell? (xq.add k) = some (.int .i64 (gd l k)) := (SB.out.bel.cell (p := xq.add k) (by rw [add_block]; exact kq)).trans cq
          have i3 : (k : Int) < (y : Int) := by omega
          have i4 : (0 : Int) ≤ (k : Int) := by omega
          have CQ := Lib.hid cq
          have KQ := Lib.hid kq
          clear HK cp cq
          generalize gd a k = u at *
          generalize gd l k = v at *
          have CS : (u < -16777216 ∧ Hid (MeanR a l m 0 2)) ∨ (¬ u < -16777216 ∧ 16777216 < u ∧ Hid (MeanR a l m 0 2)) ∨ (¬ u < -16777216 ∧ ¬ 16777216 < u ∧ v < 0 ∧ Hid (MeanR a l m 0 2)) ∨ (¬ u < -16777216 ∧ ¬ 16777216 < u ∧ ¬ v < 0 ∧ 1073741824 < v ∧ Hid (MeanR a l m 0 2)) ∨ (¬ u < -16777216 ∧ ¬ 16777216 < u ∧ ¬ v < 0 ∧ ¬ 1073741824 < v ∧ Hid (MS a l (k + 1) (S1 + u * v) (W + v))) := by
            have NXo := NX.out
            have BKo := BK.out
            unfold ValOk WeiOk at NXo BKo
            by_cases z1 : u < -16777216
            · exact .inl ⟨z1, BKo (by omega)⟩
            by_cases z2 : 16777216 < u
            · exact .inr (.inl ⟨z1, z2, BKo (by omega)⟩)
            by_cases z3 : v < 0
            · exact .inr (.inr (.inl ⟨z1, z2, z3, BKo (by omega)⟩))
            by_cases z4 : 1073741824 < v
            · exact .inr (.inr (.inr (.inl ⟨z1, z2, z3, z4, BKo (by omega)⟩)))
            · exact .inr (.inr (.inr (.inr ⟨z1, z2, z3, z4, NXo (by omega)⟩)))
          clear NX BK
          rcases CS with ⟨z1, F⟩ | ⟨z1, z2, F⟩ | ⟨z1, z2, z3, F⟩ | ⟨z1, z2, z3, z4, F⟩ | ⟨z1, z2, z3, z4, F⟩
          · go_wp2_with fail
            go_ret2
            exact ⟨⟨_, _, rfl, F.out⟩, by first | exact SB.out.bel | exact SB.out.bel.drew | exact below_drewN SB.out.bel _⟩
          · go_wp2_with fail
            go_ret2
            exact ⟨⟨_, _, rfl, F.out⟩, by first | exact SB.out.bel | exact SB.out.bel.drew | exact below_drewN SB.out.bel _⟩
          · go_wp2_with fail
            go_ret2
            exact ⟨⟨_, _, rfl, F.out⟩, by first | exact SB.out.bel | exact SB.out.bel.drew | exact below_drewN SB.out.bel _⟩
          · go_wp2_with fail
            go_ret2
            exact ⟨⟨_, _, rfl, F.out⟩, by first | exact SB.out.bel | exact SB.out.bel.drew | exact below_drewN SB.out.bel _⟩
          · have D0 : Hid (Mr w wr sg P L C xp xq k u v) := ⟨SB.out.c0, SB.out.c1, SB.out.f0, SB.out.f1, SB.out.lt, cu, cv, Nat.lt_of_lt_of_le kp SB.out.bel.size, Nat.lt_of_lt_of_le kq SB.out.bel.size, SB.out.bel⟩
            have BG := Lib.hid SB.out.big
            have HSG := Lib.hid SB.out.s
            obtain ⟨su, hsu⟩ : ∃ b, b = decide (u < 0) := ⟨_, rfl⟩
            obtain ⟨sv, hsv⟩ : ∃ b, b = decide (v < 0) := ⟨_, rfl⟩
            obtain ⟨tu, htu⟩ : ∃ b, b = decide (u * v < 0) := ⟨_, rfl⟩
            obtain ⟨s4, hs4⟩ : ∃ b, b = decide (S1 + u * v < 0) := ⟨_, rfl⟩
            have HU := Lib.hid hsu
            have HV := Lib.hid hsv
            have HT := Lib.hid htu
            have HS4 := Lib.hid hs4
            clear hsu hsv htu hs4 SB cu cv kp kq
            obtain ⟨c0, c1, f0, f1, lt, cu, cv, zu, zv, kb⟩ := D0.out
            have OU := Lib.hid z1
            go_upto_region 11 with fail
            go_cut [76] from 64 to 76 (fun _ wx => ∃ (sg : Bool) (P : Option Addr) (L : List Int) (C : Nat), Hid (SumB w wx (10 + (k + 1)) (S1 + u * v) sg P L C))
            case first =>
              go_region_law (first
                | (go_simp; go_at_call 16; (with_reducible refine (of_s u su HU.out (by omega) (by omega) _).mono ?_); rintro e v1 ⟨p1, l1, d1, rfl, r1, r2, r3⟩; have st : Below wr.heap.size wr v1 := (by first | exact r3 | exact ((Below.refl _ _).drew).trans r3 | exact (below_drewN (Below.refl _ _) _).trans r3); have D1 := Lib.hid (D0.out.below st); have BG_1 := Lib.hid (BG.out.below st); have B1 := Lib.hid r1; clear r1 r2 r3 st c0 c1 f0 f1 lt cu cv zu zv kb; obtain ⟨c0, c1, f0, f1, lt, cu, cv, zu, zv, kb⟩ := D1.out)
                | (go_simp; go_at_call 16; (with_reducible refine (of_s v sv HV.out (by omega) (by omega) _).mono ?_); rintro e v2 ⟨p2, l2, d2, rfl, r1, r2, r3⟩; have st : Below v1.heap.size v1 v2 := (by first | exact r3 | exact ((Below.refl _ _).drew).trans r3 | exact (below_drewN (Below.refl _ _) _).trans r3); have D2 := Lib.hid (D1.out.below st); have BG_2 := Lib.hid (BG_1.out.below st); have B1_2 := Lib.hid (B1.out.below st); have B2 := Lib.hid r1; clear r1 r2 r3 st c0 c1 f0 f1 lt cu cv zu zv kb; obtain ⟨c0, c1, f0, f1, lt, cu, cv, zu, zv, kb⟩ := D2.out)
                | (go_simp; go_at_call 14; (with_reducible refine (times_s (n := 5) (m := 5) u v su sv tu HU.out HV.out HT.out p1 p2 d1 d2 l1 l2 _ (by first | exact B1_2.out | exact B1_2.out.drew | exact B1_2.out.drewN _) (by first | exact B2.out | exact B2.out.drew | exact B2.out.drewN _) (by omega) (by omega)).mono ?_); rintro e v3 ⟨p3, l3, d3, rfl, r1, r2, r3⟩; have st : Below v2.heap.size v2 v3 := (by first | exact r3 | exact ((Below.refl _ _).drew).trans r3 | exact (below_drewN (Below.refl _ _) _).trans r3); have D3 := Lib.hid (D2.out.below st); have BG_3 := Lib.hid (BG_2.out.below st); have B1_3 := Lib.hid (B1_2.out.below st); have B2_3 := Lib.hid (B2.out.below st); have B3 := Lib.hid r1; clear r1 r2 r3 st c0 c1 f0 f1 lt cu cv zu zv kb; obtain ⟨c0, c1, f0, f1, lt, cu, cv, zu, zv, kb⟩ := D3.out)
                | (go_simp; go_at_call 62; (with_reducible refine (plus_s (k := 10 + k) S1 (u * v) sg tu s4 HSG.out HT.out HS4.out P p3 C d3 L l3 _ (by first | exact BG_3.out | exact BG_3.out.drew | exact BG_3.out.drewN _) (by first | exact B3.out.more (by omega) | exact B3.out.drew.more (by omega) | exact (B3.out.drewN _).more (by omega)) (by omega)).mono ?_); rintro e v4 ⟨p4, l4, d4, rfl, r1, r2, r3⟩; have st : Below v3.heap.size v3 v4 := (by first | exact r3 | exact ((Below.refl _ _).drew).trans r3 | exact (below_drewN (Below.refl _ _) _).trans r3); have D4 := Lib.hid (D3.out.below st); have BG_4 := Lib.hid (BG_3.out.below st); have B1_4 := Lib.hid (B1_3.out.below st); have B2_4 := Lib.hid (B2_3.out.below st); have B3_4 := Lib.hid (B3.out.below st); have B4 := Lib.hid r1; have RF := Lib.hid (show ∀ a, p4 = some a → v3.heap.size ≤ a.block from by intro a ha; have := r2 a ha; simpa using this); clear r1 r2 r3 st c0 c1 f0 f1 lt cu cv zu zv kb; obtain ⟨c0, c1, f0, f1, lt, cu, cv, zu, zv, kb⟩ := D4.out))
              all_goals
                have n8 : ∀ a, p4 = some a → a.block ≠ w.heap.size := fun a h => by have := RF.out a h; have := D3.out.lt; omega
                have FIN2 : Hid (SumB w ((v4.setCell ⟨w.heap.size, 0, none⟩ (Value.bool s4)).setCell ⟨w.heap.size, 1, none⟩ (Value.slice p4 l4.length d4)) (10 + (k + 1)) (S1 + u * v) s4 p4 l4 d4) := by
                  refine ⟨HS4.out, ?_, ?_, ?_, ?_, by simpa using lt, ⟨B4.out.can, B4.out.size, (B4.out.row.setCell (q := ⟨w.heap.size, 0, none⟩) n8 _).setCell (q := ⟨w.heap.size, 1, none⟩) n8 _⟩, (kb.setCell (Nat.le_refl _) _).setCell (Nat.le_refl _) _⟩
                  all_goals (simp [go_sem, c0, c1, f0, f1, lt]; done)
                clear n8 D0 D1 D2 D3 D4 RF B4
              all_goals go_wp2_with fail
              all_goals go_meet
              all_goals exact ⟨_, _, _, _, FIN2⟩
            case rest =>
              obtain ⟨sg', P', L', C', SB'⟩ := hcut
              have cvc : wc.cell? (xq.add k) = some (.int .i64 v) := (SB'.out.bel.cell (p := xq.add k) (by rw [add_block]; exact KQ.out)).trans CQ.out
              clear D0 BG HSG HU HV HT HS4 c0 c1 f0 f1 lt cu cv zu zv kb OU
              go_wp2_with fail
              go_roundw
              case rel => exact ⟨k + 1, _, _, _, _, _, _, by omega, rfl, by go_num, F, SB'⟩
              case measure => simp [intOf]; omega
        · have kx : k = y := by omega
          subst kx
          have GD := HK.out.ok
          have WE : W = l.sum := by rw [HK.out.w, HX.out, List.take_length]
          by_cases z : W = 0
          · have F := Lib.hid (ZER.out GD (by omega))
            subst z
            clear ZER FIN BAD HK GD WE
            go_wp2_with fail
            go_ret2
            exact ⟨⟨_, _, rfl, F.out⟩, by first | exact SB.out.bel | exact SB.out.bel.drew | exact below_drewN SB.out.bel _⟩
          · have zb : (W == 0) = false := by simpa using z
            have F := FIN.out GD (by omega)
            rw [← HK.out.s, ← WE] at F
            obtain ⟨i1, i2⟩ := rz_in (m := m) (show 1 ≤ W by omega) b3 b4
            obtain ⟨tz, htz⟩ : ∃ b, b = decide (rz S1 W m < 0) := ⟨_, rfl⟩
            have W0 : (false : Bool) = decide (W < 0) := by symm; rw [decide_eq_false_iff_not]; omega
            have OW := Lib.hid (fun V => of_s W false W0 (by omega) (by omega) V)
            have RD := Lib.hid (fun V p1 d1 l1 (A : BigR (10 + k) V P L S1) (B : BigR 5 V p1 l1 W) => rounded_s (N := 10 + k) S1 W m (rz S1 W m) sg false tz SB.out.s W0 (if_pos (by omega)) htz z mo1 mo2 P p1 C d1 L l1 V A (B.more (by omega)) (by omega))
            have WN := fun V p2 d2 l2 (A : BigR (10 + k + 6) V p2 l2 (rz S1 W m)) => within_s (rz S1 W m) 16777216 tz htz p2 d2 l2 (by omega) (by omega) V A (by omega)
            rw [show wiV (rz S1 W m) 16777216 = rz S1 W m from by unfold wiV; rw [if_pos (by omega)]] at WN
            replace WN := Lib.hid WN
            replace F := Lib.hid F
            have K0 := Lib.hid SB.out
            have BG := Lib.hid SB.out.big
            have TZ := Lib.hid htz
            clear ZER FIN BAD HK GD WE z i1 i2 htz W0 SB
            generalize rz S1 W m = Z at *
            obtain ⟨-, c0, c1, f0, f1, lt, -, kb⟩ := K0.out
            go_wp2_with fail
            go_region_held3 (fun w' => w'.cell? ⟨w.heap.size, 0, none⟩ = some (.bool sg) ∧ w'.cell? ⟨w.heap.size, 1, none⟩ = some (.slice P L.length C))
              (first | exact ⟨c0, c1⟩)
              (first
                | (go_at_call 16; (with_reducible refine (OW.out _).mono ?_); rintro e v1 ⟨p1, l1, d1, rfl, r1, r2, r3⟩; have st : Below wr.heap.size wr v1 := (by first | exact r3 | exact ((Below.refl _ _).drew).trans r3 | exact (below_drewN (Below.refl _ _) _).trans r3); have K1 := Lib.hid (K0.out.below st); clear c0 c1 f0 f1 lt kb; obtain ⟨-, c0, c1, f0, f1, lt, -, kb⟩ := K1.out; have BG_1 := Lib.hid (BG.out.below st); have B1 := Lib.hid r1; clear r1 r2 r3; clear st)
                | (go_at_call 64; (with_reducible refine (RD.out _ p1 d1 l1 (by first | exact BG_1.out | exact BG_1.out.drew | exact BG_1.out.drewN _) (by first | exact B1.out | exact B1.out.drew | exact B1.out.drewN _)).mono ?_); rintro e v2 ⟨p2, l2, d2, rfl, r1, r2, r3⟩; have st : Below v1.heap.size v1 v2 := (by first | exact r3 | exact ((Below.refl _ _).drew).trans r3 | exact (below_drewN (Below.refl _ _) _).trans r3); have K2 := Lib.hid (K1.out.below st); clear c0 c1 f0 f1 lt kb; obtain ⟨-, c0, c1, f0, f1, lt, -, kb⟩ := K2.out; have B2 := Lib.hid r1; clear r1 r2 r3; clear st)
                | (go_at_call 63; (with_reducible refine (WN.out _ p2 d2 l2 (by first | exact B2.out | exact B2.out.drew | exact B2.out.drewN _)).mono ?_); rintro e v3 ⟨rfl, r3⟩; have st : Below v2.heap.size v2 v3 := (by first | exact r3 | exact ((Below.refl _ _).drew).trans r3 | exact (below_drewN (Below.refl _ _) _).trans r3); have K3 := Lib.hid (K2.out.below st); clear c0 c1 f0 f1 lt kb; obtain ⟨-, c0, c1, f0, f1, lt, -, kb⟩ := K3.out; clear r3; clear st))
            clear K0 K1 K2 OW RD WN
            go_wp2_with fail
            go_ret2
            exact ⟨⟨_, _, rfl, F.out⟩, by first | exact kb | exact kb.drew | exact below_drewN kb _⟩
  · have F := Lib.hid (show MeanR a l m 0 2 from .inr (.inl ⟨h1, .inl h2, rfl, rfl⟩))
    rw [← hx, ← hy] at h1 h2
    rw [← hx, ← hy] at ⊢
    have hb : ((y : Int) != (x : Int)) = true := by simp; omega
    clear hx hy r s la ll
    go_enter Tryd.func27, Tryd.ntmps27
    go_wp2_with fail
    go_ret2
    exact ⟨⟨_, _, rfl, F.out⟩, by go_grown⟩
end Go.Proofs.YtblaakjldpcjlaaDoor
