/- The laws' before and distance. -/
import Derived.Test.YtbnbbekfackaiaaDoorR19
namespace Go.Proofs.YtbnbbekfackaiaaDoor
open Go.RowKit
set_option linter.unusedVariables false
set_option linter.unusedSimpArgs false

structure Keep (w v : World) : Prop where
  bel : Below w.heap.size w v
theorem Keep.below {w v v' : World} (h : Keep w v) (hb : Below v.heap.size v v') : Keep w v' := ⟨h.bel.trans (hb.mono h.bel.size)⟩
theorem cmpZ_lt (x y : Int) : decide (cmpZ x y < 0) = decide (x < y) := by
  rw [Bool.eq_iff_iff]; simp only [decide_eq_true_eq]; unfold cmpZ; split
  · omega
  · split <;> omega
theorem cmpZ_le0 (x y : Int) : decide (cmpZ x y ≤ 0) = decide (x ≤ y) := by
  rw [Bool.eq_iff_iff]; simp only [decide_eq_true_eq]; unfold cmpZ; split
  · omega
  · split <;> omega

set_option maxRecDepth 100000 in
set_option maxHeartbeats 4000000 in
theorem before_any (n d a q : Int) (n1 : -9223372036854775808 ≤ n) (n2 : n ≤ 9223372036854775807) (d1 : -9223372036854775808 ≤ d) (d2 : d ≤ 9223372036854775807) (a1 : -9223372036854775808 ≤ a) (a2 : a ≤ 9223372036854775807) (q1 : -9223372036854775808 ≤ q) (q2 : q ≤ 9223372036854775807) (w : World) :
    Calls Tryd.prog 48 #[.int .i64 n, .int .i64 d, .int .i64 a, .int .i64 q] w fun e w' => e = .returned (.bool (decide (n * q < a * d))) ∧ Below w.heap.size w w' := by
  obtain ⟨sn, hsn⟩ : ∃ b, b = decide (n < 0) := ⟨_, rfl⟩
  have Hsn := Lib.hid hsn; clear hsn
  obtain ⟨sq, hsq⟩ : ∃ b, b = decide (q < 0) := ⟨_, rfl⟩
  have Hsq := Lib.hid hsq; clear hsq
  obtain ⟨sa, hsa⟩ : ∃ b, b = decide (a < 0) := ⟨_, rfl⟩
  have Hsa := Lib.hid hsa; clear hsa
  obtain ⟨sd, hsd⟩ : ∃ b, b = decide (d < 0) := ⟨_, rfl⟩
  have Hsd := Lib.hid hsd; clear hsd
  obtain ⟨u1, hu1⟩ : ∃ b, b = decide (n * q < 0) := ⟨_, rfl⟩
  have Hu1 := Lib.hid hu1; clear hu1
  obtain ⟨u2, hu2⟩ : ∃ b, b = decide (a * d < 0) := ⟨_, rfl⟩
  have Hu2 := Lib.hid hu2; clear hu2
  have FIN := Lib.hid (cmpZ_lt (n * q) (a * d))
  have K0 : Hid (Keep w w) := ⟨Below.refl _ _⟩
  obtain ⟨kb⟩ := K0.out
  generalize decide (n * q < a * d) = fin at FIN ⊢
  go_enter Tryd.func48, Tryd.ntmps48
  have hfd := fld1
  go_wp2_with fail
  refine (of_s n sn Hsn.out (by omega) (by omega) _).mono ?_
  rintro e v1 ⟨p1, l1, c1, rfl, r1, r2, r3⟩
  have st : Below w.heap.size w v1 := (by first | exact r3 | exact ((Below.refl _ _).drew).trans r3 | exact (below_drewN (Below.refl _ _) _).trans r3)
  have K1 := Lib.hid (K0.out.below st)
  clear kb
  obtain ⟨kb⟩ := K1.out
  have B1 := Lib.hid r1
  clear r1 r2 r3
  clear st
  go_wp2_with fail
  refine (of_s q sq Hsq.out (by omega) (by omega) _).mono ?_
  rintro e v2 ⟨p2, l2, c2, rfl, r1, r2, r3⟩
  have st : Below v1.heap.size v1 v2 := (by first | exact r3 | exact ((Below.refl _ _).drew).trans r3 | exact (below_drewN (Below.refl _ _) _).trans r3)
  have K2 := Lib.hid (K1.out.below st)
  clear kb
  obtain ⟨kb⟩ := K2.out
  have B1_2 := Lib.hid (B1.out.below st)
  have B2 := Lib.hid r1
  clear r1 r2 r3
  clear st
  go_wp2_with fail
  refine (times_s (n := 5) (m := 5) n q sn sq u1 Hsn.out Hsq.out Hu1.out p1 p2 c1 c2 l1 l2 _ (by first | exact B1_2.out | exact B1_2.out.drew | exact B1_2.out.drewN _) (by first | exact B2.out | exact B2.out.drew | exact B2.out.drewN _) (by omega) (by omega)).mono ?_
  rintro e v3 ⟨p3, l3, c3, rfl, r1, r2, r3⟩
  have st : Below v2.heap.size v2 v3 := (by first | exact r3 | exact ((Below.refl _ _).drew).trans r3 | exact (below_drewN (Below.refl _ _) _).trans r3)
  have K3 := Lib.hid (K2.out.below st)
  clear kb
  obtain ⟨kb⟩ := K3.out
  have B3 := Lib.hid r1
  clear r1 r2 r3
  clear st
  go_wp2_with fail
  refine (of_s a sa Hsa.out (by omega) (by omega) _).mono ?_
  rintro e v4 ⟨p4, l4, c4, rfl, r1, r2, r3⟩
  have st : Below v3.heap.size v3 v4 := (by first | exact r3 | exact ((Below.refl _ _).drew).trans r3 | exact (below_drewN (Below.refl _ _) _).trans r3)
  have K4 := Lib.hid (K3.out.below st)
  clear kb
  obtain ⟨kb⟩ := K4.out
  have B3_4 := Lib.hid (B3.out.below st)
  have B4 := Lib.hid r1
  clear r1 r2 r3
  clear st
  go_wp2_with fail
  refine (of_s d sd Hsd.out (by omega) (by omega) _).mono ?_
  rintro e v5 ⟨p5, l5, c5, rfl, r1, r2, r3⟩
  have st : Below v4.heap.size v4 v5 := (by first | exact r3 | exact ((Below.refl _ _).drew).trans r3 | exact (below_drewN (Below.refl _ _) _).trans r3)
  have K5 := Lib.hid (K4.out.below st)
  clear kb
  obtain ⟨kb⟩ := K5.out
  have B3_5 := Lib.hid (B3_4.out.below st)
  have B4_5 := Lib.hid (B4.out.below st)
  have B5 := Lib.hid r1
  clear r1 r2 r3
  clear st
  go_wp2_with fail
  refine (times_s (n := 5) (m := 5) a d sa sd u2 Hsa.out Hsd.out Hu2.out p4 p5 c4 c5 l4 l5 _ (by first | exact B4_5.out | exact B4_5.out.drew | exact B4_5.out.drewN _) (by first | exact B5.out | exact B5.out.drew | exact B5.out.drewN _) (by omega) (by omega)).mono ?_
  rintro e v6 ⟨p6, l6, c6, rfl, r1, r2, r3⟩
  have st : Below v5.heap.size v5 v6 := (by first | exact r3 | exact ((Below.refl _ _).drew).trans r3 | exact (below_drewN (Below.refl _ _) _).trans r3)
  have K6 := Lib.hid (K5.out.below st)
  clear kb
  obtain ⟨kb⟩ := K6.out
  have B3_6 := Lib.hid (B3_5.out.below st)
  have B6 := Lib.hid r1
  clear r1 r2 r3
  clear st
  go_wp2_with fail
  refine (compare_s (n := 10) (m := 10) (n * q) (a * d) u1 u2 Hu1.out Hu2.out p3 p6 c3 c6 l3 l6 _ (by first | exact B3_6.out | exact B3_6.out.drew | exact B3_6.out.drewN _) (by first | exact B6.out | exact B6.out.drew | exact B6.out.drewN _) (by omega) (by omega)).mono ?_
  rintro e v7 ⟨rfl, r3⟩
  have st : Below v6.heap.size v6 v7 := (by first | exact r3 | exact ((Below.refl _ _).drew).trans r3 | exact (below_drewN (Below.refl _ _) _).trans r3)
  have K7 := Lib.hid (K6.out.below st)
  clear kb
  obtain ⟨kb⟩ := K7.out
  clear r3
  clear st
  go_wp2_with fail
  go_ret
  exact ⟨ret_b FIN.out, by first | exact kb | exact kb.drew | exact below_drewN kb _⟩

theorem BigS.grow {n : Nat} {x : Int} {s : Bool} {w w' w'' : World} {e : Ending} (h : BigS n x s w e w') (hb : Below w'.heap.size w' w'') : BigS n x s w e w'' := by
  obtain ⟨p, l, c, rfl, R, hf, h2⟩ := h
  exact ⟨p, l, c, rfl, R.below hb, hf, h2.trans (hb.mono h2.size)⟩
theorem neg_s {n : Nat} (x : Int) (s u : Bool) (hs : s = decide (x < 0)) (hu : u = decide (-x < 0)) (p : Option Addr) (c : Nat) (l : List Int) (w : World) (A : BigR n w p l x) (hn : n ≤ 1000000) :
    Calls Tryd.prog 84 #[.agg #[.bool s, .slice p l.length c]] w (BigS n (-x) u w) := by
  subst hs
  exact (Neg_any p c l x w A hn).mono fun _ _ h => h.s hu

set_option maxRecDepth 100000 in
set_option maxHeartbeats 1000000 in
theorem distance_any (n : Int) (n1 : -9223372036854775808 ≤ n) (n2 : n ≤ 9223372036854775807) (w : World) :
    Calls Tryd.prog 49 #[.int .i64 n] w (BigS 5 n.natAbs false w) := by
  have z0 : decide ((n.natAbs : Int) < 0) = false := by rw [decide_eq_false_iff_not]; omega
  have ST := Lib.hid (fun (w2 : World) (p : Option Addr) (l : List Int) (c : Nat) (hr : BigR 5 w2 p l n.natAbs) (hf : ∀ a, p = some a → (w.alloc (Obj.cells #[Value.bool false, Value.slice none 0 0] 53)).heap.size ≤ a.block) (hb : Below (w.alloc (Obj.cells #[Value.bool false, Value.slice none 0 0] 53)).heap.size (w.alloc (Obj.cells #[Value.bool false, Value.slice none 0 0] 53)) w2) => by
    have := BigRes.stored (c := c) (r := w.heap.size) (v := (w.alloc (Obj.cells #[Value.bool false, Value.slice none 0 0] 53))) ((Below.refl _ _).alloc (Nat.le_refl _) _) (Nat.le_refl _) (by simp) hr hf hb
    rw [z0] at this
    exact this.s z0.symm)
  by_cases h : n < 0
  · have O := Lib.hid (fun W => of_s n true (by simp [h]) n1 n2 W)
    have NG := Lib.hid (fun W p c l (A : BigR 5 W p l n) => neg_s n true false (by simp [h]) (by simp; omega) p c l W A (by omega))
    have e : -n = n.natAbs := by omega
    rw [e] at NG
    clear z0 e h n1 n2
    generalize (n.natAbs : Int) = m at *
    go_enter Tryd.func49, Tryd.ntmps49
    go_wp2_with fail
    refine (O.out _).mono ?_
    rintro e w1 ⟨p, l, c, rfl, B, hf, hb⟩
    have B1 := Lib.hid (B.below ((Below.refl _ w1).alloc (Nat.le_refl _) (Obj.cells #[Value.bool true, Value.slice p l.length c] 53)))
    have HB := Lib.hid hb
    clear B hf hb O
    go_wp2_with fail
    refine (NG.out _ p c l B1.out).mono ?_
    rintro e w2 ⟨p2, l2, c2, rfl, B2, hf2, hb2⟩
    have HB2 := Lib.hid (HB.out.trans ((((Below.refl _ w1).alloc (Nat.le_refl _) (Obj.cells #[Value.bool true, Value.slice p l.length c] 53)).trans (hb2.mono (by simp))).mono HB.out.size))
    have FIN := Lib.hid (ST.out _ _ _ c2 B2 (fun a ha => by have := hf2 a ha; have := HB.out.size; simp at *; omega) HB2.out)
    obtain ⟨hc, hfz⟩ := bcell HB2.out
    have hz : w.heap.size < w2.heap.size := by have := HB2.out.size; simp at this; omega
    clear B2 hf2 hb2 B1 HB HB2 ST NG
    go_wp2_with fail
    exact bodyPost_ret (v := .agg #[.bool false, .slice p2 l2.length c2]) (by simp [results, Tryd.results49, go_sem, hc, hz]) rfl FIN.out
  · have O := Lib.hid (fun W => of_s n false (by simp; omega) n1 n2 W)
    have e : n = n.natAbs := by omega
    rw [← e] at ST ⊢
    clear z0 e h n1 n2
    go_enter Tryd.func49, Tryd.ntmps49
    go_wp2_with fail
    refine (O.out _).mono ?_
    rintro e w1 ⟨p, l, c, rfl, B, hf, hb⟩
    have AL : Below w1.heap.size w1 (w1.alloc (Obj.cells #[Value.bool false, Value.slice p l.length c] 53)) := (Below.refl _ w1).alloc (Nat.le_refl _) _
    have FIN := Lib.hid ((ST.out _ _ _ c B hf hb).grow ((Below.refl _ _).alloc (Nat.le_refl _) (Obj.cells #[Value.bool false, Value.slice p l.length c] 53)))
    obtain ⟨hc, hfz⟩ := bcell hb
    have hz : w.heap.size < w1.heap.size := by have := hb.size; simp at this; omega
    clear B hf hb AL ST O
    go_wp2_with fail
    exact bodyPost_ret (v := .agg #[.bool false, .slice p l.length c]) (by simp [results, Tryd.results49, go_sem, hc, hz]) rfl FIN.out
end Go.Proofs.YtbnbbekfackaiaaDoor
