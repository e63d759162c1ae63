/- Best for arguments that it does not take; the law's off. -/
import Derived.Test.YtblaakjldpcjlaaDoorT3
import Derived.Test.YtblaakjldpcjlaaDoorS3
namespace Go.Proofs.YtblaakjldpcjlaaDoor
open Go.RowKit
set_option linter.unusedVariables false
set_option linter.unusedSimpArgs false

/-- The result's box. -/
structure Sm (w v : World) (g : Nat) (V D : Int) : Prop where
  c0 : v.cell? ⟨g, 0, none⟩ = some (.int .i64 V)
  c1 : v.cell? ⟨g, 1, none⟩ = some (.int .i64 D)
  cz : g < v.heap.size
  bel : Below w.heap.size w v
theorem Sm.below {w v v' : World} {g : Nat} {V D : Int} (h : Sm w v g V D) (hb : Below v.heap.size v v') : Sm w v' g V D :=
  ⟨(hb.cell (p := ⟨g, 0, none⟩) h.cz).trans h.c0, (hb.cell (p := ⟨g, 1, none⟩) h.cz).trans h.c1, Nat.lt_of_lt_of_le h.cz hb.size, h.bel.trans (hb.mono h.bel.size)⟩

/-- What Best does not take. -/
def BadBest (n d most : Int) : Prop := wthB n 1099511627776 = false ∨ (wthB n 1099511627776 = true ∧ d < 1) ∨ (wthB n 1099511627776 = true ∧ ¬ d < 1 ∧ 1099511627776 < d) ∨ (wthB n 1099511627776 = true ∧ ¬ d < 1 ∧ ¬ 1099511627776 < d ∧ most < 1) ∨ (wthB n 1099511627776 = true ∧ ¬ d < 1 ∧ ¬ 1099511627776 < d ∧ ¬ most < 1 ∧ 1048576 < most)
set_option maxRecDepth 100000 in
set_option maxHeartbeats 2000000 in
theorem Best_bad (n d most : Int) (h : BadBest n d most) (w : World) :
    Calls Tryd.prog 12 #[.int .i64 n, .int .i64 d, .int .i64 most] w fun e w' => e = .returned (fracV 0 0 2) ∧ Below w.heap.size w w' := by
  unfold BadBest at h
  obtain ⟨b, hb⟩ : ∃ b, b = wthB n 1099511627776 := ⟨_, rfl⟩
  rw [← hb] at h
  have HB := Lib.hid hb
  clear hb
  rcases h with rfl | ⟨rfl, h1⟩ | ⟨rfl, h1, h2⟩ | ⟨rfl, h1, h2, h3⟩ | ⟨rfl, h1, h2, h3, h4⟩
  all_goals
    go_enter Tryd.func12, Tryd.ntmps12
    go_wp2_with fail
    refine (within_any _ _ (by decide) (by decide) _).mono ?_
    rintro e w' ⟨rfl, rfl⟩
    rw [← HB.out]
    go_wp2_with fail
    exact bodyPost_ret (v := fracV 0 0 2) (by simp [results, Tryd.results12, go_sem, fracV]) rfl ⟨rfl, by go_grown⟩
theorem Best_all (n d most : Int) (w : World) :
    Calls Tryd.prog 12 #[.int .i64 n, .int .i64 d, .int .i64 most] w fun e w' => ∃ V D E, e = .returned (fracV V D E) ∧ ((E = 0 ∧ BestR n d most V D ∧ -1099511627776 ≤ n ∧ n ≤ 1099511627776 ∧ 1 ≤ d ∧ d ≤ 1099511627776 ∧ 1 ≤ most ∧ most ≤ 1048576) ∨ (E = 2 ∧ V = 0 ∧ D = 0 ∧ ¬ ((-1099511627776 ≤ n ∧ n ≤ 1099511627776) ∧ 1 ≤ d ∧ d ≤ 1099511627776 ∧ 1 ≤ most ∧ most ≤ 1048576))) ∧ Below w.heap.size w w' := by
  by_cases h : (-1099511627776 ≤ n ∧ n ≤ 1099511627776) ∧ 1 ≤ d ∧ d ≤ 1099511627776 ∧ 1 ≤ most ∧ most ≤ 1048576
  · exact (Best_ok n d most h.1.1 h.1.2 h.2.1 h.2.2.1 h.2.2.2.1 h.2.2.2.2 w).mono fun e w' ⟨V, D, a, b, c⟩ => ⟨V, D, 0, a, .inl ⟨rfl, b, h.1.1, h.1.2, h.2⟩, c⟩
  · refine (Best_bad n d most ?_ w).mono fun e w' ⟨a, c⟩ => ⟨0, 0, 2, a, .inr ⟨rfl, rfl, rfl, h⟩, c⟩
    unfold BadBest
    cases hw : wthB n 1099511627776
    · exact .inl rfl
    · have := wthB_true.1 hw
      simp only [true_and, Bool.true_eq_false, false_or]
      omega

set_option maxRecDepth 100000 in
set_option maxHeartbeats 4000000 in
theorem off_any (n d a q : Int) (n1 : -9223372036854775808 ≤ n) (n2 : n ≤ 9223372036854775807) (d1 : -9223372036854775808 ≤ d) (d2 : d ≤ 9223372036854775807) (a1 : -9223372036854775808 ≤ a) (a2 : a ≤ 9223372036854775807) (q1 : -9223372036854775808 ≤ q) (q2 : q ≤ 9223372036854775807) (w : World) :
    Calls Tryd.prog 15 #[.int .i64 n, .int .i64 d, .int .i64 a, .int .i64 q] w (BigS 11 (n * q - a * d).natAbs false w) := by
  obtain ⟨sn, hsn⟩ : ∃ b, b = decide (n < 0) := ⟨_, rfl⟩
  have Hsn := Lib.hid hsn; clear hsn
  obtain ⟨sq, hsq⟩ : ∃ b, b = decide (q < 0) := ⟨_, rfl⟩
  have Hsq := Lib.hid hsq; clear hsq
  obtain ⟨sa, hsa⟩ : ∃ b, b = decide (a < 0) := ⟨_, rfl⟩
  have Hsa := Lib.hid hsa; clear hsa
  obtain ⟨sd, hsd⟩ : ∃ b, b = decide (d < 0) := ⟨_, rfl⟩
  have Hsd := Lib.hid hsd; clear hsd
  obtain ⟨u1, hu1⟩ : ∃ b, b = decide (n * q < 0) := ⟨_, rfl⟩
  have Hu1 := Lib.hid hu1; clear hu1
  obtain ⟨u2, hu2⟩ : ∃ b, b = decide (a * d < 0) := ⟨_, rfl⟩
  have Hu2 := Lib.hid hu2; clear hu2
  have z0 : decide (((n * q - a * d).natAbs : Int) < 0) = false := by rw [decide_eq_false_iff_not]; omega
  have ST := Lib.hid (fun (w2 : World) (p : Option Addr) (l : List Int) (c : Nat) (hr : BigR 11 w2 p l (n * q - a * d).natAbs) (hf : ∀ a, p = some a → (w.alloc (Obj.cells #[Value.bool false, Value.slice none 0 0] 30)).heap.size ≤ a.block) (hb : Below (w.alloc (Obj.cells #[Value.bool false, Value.slice none 0 0] 30)).heap.size (w.alloc (Obj.cells #[Value.bool false, Value.slice none 0 0] 30)) w2) => by
    have := BigRes.stored (c := c) (r := w.heap.size) (v := (w.alloc (Obj.cells #[Value.bool false, Value.slice none 0 0] 30))) ((Below.refl _ _).alloc (Nat.le_refl _) _) (Nat.le_refl _) (by simp) hr hf hb
    rw [z0] at this
    exact this.s z0.symm)
  by_cases h : n * q - a * d < 0
  · have HM := Lib.hid (show true = decide (n * q - a * d < 0) from by simp [h])
    have NG := Lib.hid (fun W p c l (A : BigR 11 W p l (n * q - a * d)) => neg_s (n * q - a * d) true false (by simp [h]) (by simp; omega) p c l W A (by omega))
    have e : -(n * q - a * d) = (n * q - a * d).natAbs := by omega
    rw [e] at NG
    clear z0 e h
    generalize ((n * q - a * d).natAbs : Int) = m at *
    go_enter Tryd.func15, Tryd.ntmps15
    have hfd := fld1
    have K0 : Hid (Keep (w.alloc (Obj.cells #[Value.bool false, Value.slice none 0 0] 30)) (w.alloc (Obj.cells #[Value.bool false, Value.slice none 0 0] 30))) := ⟨Below.refl _ _⟩
    obtain ⟨kb⟩ := K0.out
    go_wp2_with fail
    refine (of_s n sn Hsn.out (by omega) (by omega) _).mono ?_
    rintro e v1 ⟨p1, l1, c1, rfl, r1, r2, r3⟩
    have st : Below (w.alloc (Obj.cells #[Value.bool false, Value.slice none 0 0] 30)).heap.size (w.alloc (Obj.cells #[Value.bool false, Value.slice none 0 0] 30)) v1 := (by first | exact r3 | exact ((Below.refl _ _).drew).trans r3 | exact (below_drewN (Below.refl _ _) _).trans r3)
    have K1 := Lib.hid (K0.out.below st)
    clear kb
    obtain ⟨kb⟩ := K1.out
    have B1 := Lib.hid r1
    clear r1 r2 r3
    clear st
    go_wp2_with fail
    refine (of_s q sq Hsq.out (by omega) (by omega) _).mono ?_
    rintro e v2 ⟨p2, l2, c2, rfl, r1, r2, r3⟩
    have st : Below v1.heap.size v1 v2 := (by first | exact r3 | exact ((Below.refl _ _).drew).trans r3 | exact (below_drewN (Below.refl _ _) _).trans r3)
    have K2 := Lib.hid (K1.out.below st)
    clear kb
    obtain ⟨kb⟩ := K2.out
    have B1_2 := Lib.hid (B1.out.below st)
    have B2 := Lib.hid r1
    clear r1 r2 r3
    clear st
    go_wp2_with fail
    refine (times_s (n := 5) (m := 5) n q sn sq u1 Hsn.out Hsq.out Hu1.out p1 p2 c1 c2 l1 l2 _ (by first | exact B1_2.out | exact B1_2.out.drew | exact B1_2.out.drewN _) (by first | exact B2.out | exact B2.out.drew | exact B2.out.drewN _) (by omega) (by omega)).mono ?_
    rintro e v3 ⟨p3, l3, c3, rfl, r1, r2, r3⟩
    have st : Below v2.heap.size v2 v3 := (by first | exact r3 | exact ((Below.refl _ _).drew).trans r3 | exact (below_drewN (Below.refl _ _) _).trans r3)
    have K3 := Lib.hid (K2.out.below st)
    clear kb
    obtain ⟨kb⟩ := K3.out
    have B3 := Lib.hid r1
    clear r1 r2 r3
    clear st
    go_wp2_with fail
    refine (of_s a sa Hsa.out (by omega) (by omega) _).mono ?_
    rintro e v4 ⟨p4, l4, c4, rfl, r1, r2, r3⟩
    have st : Below v3.heap.size v3 v4 := (by first | exact r3 | exact ((Below.refl _ _).drew).trans r3 | exact (below_drewN (Below.refl _ _) _).trans r3)
    have K4 := Lib.hid (K3.out.below st)
    clear kb
    obtain ⟨kb⟩ := K4.out
    have B3_4 := Lib.hid (B3.out.below st)
    have B4 := Lib.hid r1
    clear r1 r2 r3
    clear st
    go_wp2_with fail
    refine (of_s d sd Hsd.out (by omega) (by omega) _).mono ?_
    rintro e v5 ⟨p5, l5, c5, rfl, r1, r2, r3⟩
    have st : Below v4.heap.size v4 v5 := (by first | exact r3 | exact ((Below.refl _ _).drew).trans r3 | exact (below_drewN (Below.refl _ _) _).trans r3)
    have K5 := Lib.hid (K4.out.below st)
    clear kb
    obtain ⟨kb⟩ := K5.out
    have B3_5 := Lib.hid (B3_4.out.below st)
    have B4_5 := Lib.hid (B4.out.below st)
    have B5 := Lib.hid r1
    clear r1 r2 r3
    clear st
    go_wp2_with fail
    refine (times_s (n := 5) (m := 5) a d sa sd u2 Hsa.out Hsd.out Hu2.out p4 p5 c4 c5 l4 l5 _ (by first | exact B4_5.out | exact B4_5.out.drew | exact B4_5.out.drewN _) (by first | exact B5.out | exact B5.out.drew | exact B5.out.drewN _) (by omega) (by omega)).mono ?_
    rintro e v6 ⟨p6, l6, c6, rfl, r1, r2, r3⟩
    have st : Below v5.heap.size v5 v6 := (by first | exact r3 | exact ((Below.refl _ _).drew).trans r3 | exact (below_drewN (Below.refl _ _) _).trans r3)
    have K6 := Lib.hid (K5.out.below st)
    clear kb
    obtain ⟨kb⟩ := K6.out
    have B3_6 := Lib.hid (B3_5.out.below st)
    have B6 := Lib.hid r1
    clear r1 r2 r3
    clear st
    go_wp2_with fail
    refine (minus_s (k := 10) (n * q) (a * d) u1 u2 true Hu1.out Hu2.out HM.out p3 p6 c3 c6 l3 l6 _ (by first | exact B3_6.out | exact B3_6.out.drew | exact B3_6.out.drewN _) (by first | exact B6.out | exact B6.out.drew | exact B6.out.drewN _) (by omega)).mono ?_
    rintro e w1 ⟨p, l, c, rfl, B, hf, hb0⟩
    have hb : Below (w.alloc (Obj.cells #[Value.bool false, Value.slice none 0 0] 30)).heap.size (w.alloc (Obj.cells #[Value.bool false, Value.slice none 0 0] 30)) w1 := (K6.out.below (show Below v6.heap.size v6 w1 from by first | exact hb0 | exact ((Below.refl _ _).drew).trans hb0 | exact (below_drewN (Below.refl _ _) _).trans hb0)).bel
    replace hf : ∀ b, p = some b → (w.alloc (Obj.cells #[Value.bool false, Value.slice none 0 0] 30)).heap.size ≤ b.block := fun b hb => by have := hf b hb; have := K6.out.bel.size; simp at *; omega
    clear hb0 kb
    have B1 := Lib.hid (B.below ((Below.refl _ w1).alloc (Nat.le_refl _) (Obj.cells #[Value.bool true, Value.slice p l.length c] 30)))
    have HB := Lib.hid hb
    clear B hf hb
    go_wp2_with fail
    refine (NG.out _ p c l B1.out).mono ?_
    rintro e w2 ⟨p2, l2, c2, rfl, B2, hf2, hb2⟩
    have HB2 := Lib.hid (HB.out.trans ((((Below.refl _ w1).alloc (Nat.le_refl _) (Obj.cells #[Value.bool true, Value.slice p l.length c] 30)).trans (hb2.mono (by simp))).mono HB.out.size))
    have FIN := Lib.hid (ST.out _ _ _ c2 B2 (fun a ha => by have := hf2 a ha; have := HB.out.size; simp at *; omega) HB2.out)
    obtain ⟨hc, hfz⟩ := bcell HB2.out
    have hz : w.heap.size < w2.heap.size := by have := HB2.out.size; simp at this; omega
    clear B2 hf2 hb2 B1 HB HB2 ST NG
    go_wp2_with fail
    exact bodyPost_ret (v := .agg #[.bool false, .slice p2 l2.length c2]) (by simp [results, Tryd.results15, go_sem, hc, hz]) rfl FIN.out
  · have HM := Lib.hid (show false = decide (n * q - a * d < 0) from by simp [h])
    have e : n * q - a * d = (n * q - a * d).natAbs := by omega
    rw [← e] at ST ⊢
    clear z0 e h
    go_enter Tryd.func15, Tryd.ntmps15
    have hfd := fld1
    have K0 : Hid (Keep (w.alloc (Obj.cells #[Value.bool false, Value.slice none 0 0] 30)) (w.alloc (Obj.cells #[Value.bool false, Value.slice none 0 0] 30))) := ⟨Below.refl _ _⟩
    obtain ⟨kb⟩ := K0.out
    go_wp2_with fail
    refine (of_s n sn Hsn.out (by omega) (by omega) _).mono ?_
    rintro e v1 ⟨p1, l1, c1, rfl, r1, r2, r3⟩
    have st : Below (w.alloc (Obj.cells #[Value.bool false, Value.slice none 0 0] 30)).heap.size (w.alloc (Obj.cells #[Value.bool false, Value.slice none 0 0] 30)) v1 := (by first | exact r3 | exact ((Below.refl _ _).drew).trans r3 | exact (below_drewN (Below.refl _ _) _).trans r3)
    have K1 := Lib.hid (K0.out.below st)
    clear kb
    obtain ⟨kb⟩ := K1.out
    have B1 := Lib.hid r1
    clear r1 r2 r3
    clear st
    go_wp2_with fail
    refine (of_s q sq Hsq.out (by omega) (by omega) _).mono ?_
    rintro e v2 ⟨p2, l2, c2, rfl, r1, r2, r3⟩
    have st : Below v1.heap.size v1 v2 := (by first | exact r3 | exact ((Below.refl _ _).drew).trans r3 | exact (below_drewN (Below.refl _ _) _).trans r3)
    have K2 := Lib.hid (K1.out.below st)
    clear kb
    obtain ⟨kb⟩ := K2.out
    have B1_2 := Lib.hid (B1.out.below st)
    have B2 := Lib.hid r1
    clear r1 r2 r3
    clear st
    go_wp2_with fail
    refine (times_s (n := 5) (m := 5) n q sn sq u1 Hsn.out Hsq.out Hu1.out p1 p2 c1 c2 l1 l2 _ (by first | exact B1_2.out | exact B1_2.out.drew | exact B1_2.out.drewN _) (by first | exact B2.out | exact B2.out.drew | exact B2.out.drewN _) (by omega) (by omega)).mono ?_
    rintro e v3 ⟨p3, l3, c3, rfl, r1, r2, r3⟩
    have st : Below v2.heap.size v2 v3 := (by first | exact r3 | exact ((Below.refl _ _).drew).trans r3 | exact (below_drewN (Below.refl _ _) _).trans r3)
    have K3 := Lib.hid (K2.out.below st)
    clear kb
    obtain ⟨kb⟩ := K3.out
    have B3 := Lib.hid r1
    clear r1 r2 r3
    clear st
    go_wp2_with fail
    refine (of_s a sa Hsa.out (by omega) (by omega) _).mono ?_
    rintro e v4 ⟨p4, l4, c4, rfl, r1, r2, r3⟩
    have st : Below v3.heap.size v3 v4 := (by first | exact r3 | exact ((Below.refl _ _).drew).trans r3 | exact (below_drewN (Below.refl _ _) _).trans r3)
    have K4 := Lib.hid (K3.out.below st)
    clear kb
    obtain ⟨kb⟩ := K4.out
    have B3_4 := Lib.hid (B3.out.below st)
    have B4 := Lib.hid r1
    clear r1 r2 r3
    clear st
    go_wp2_with fail
    refine (of_s d sd Hsd.out (by omega) (by omega) _).mono ?_
    rintro e v5 ⟨p5, l5, c5, rfl, r1, r2, r3⟩
    have st : Below v4.heap.size v4 v5 := (by first | exact r3 | exact ((Below.refl _ _).drew).trans r3 | exact (below_drewN (Below.refl _ _) _).trans r3)
    have K5 := Lib.hid (K4.out.below st)
    clear kb
    obtain ⟨kb⟩ := K5.out
    have B3_5 := Lib.hid (B3_4.out.below st)
    have B4_5 := Lib.hid (B4.out.below st)
    have B5 := Lib.hid r1
    clear r1 r2 r3
    clear st
    go_wp2_with fail
    refine (times_s (n := 5) (m := 5) a d sa sd u2 Hsa.out Hsd.out Hu2.out p4 p5 c4 c5 l4 l5 _ (by first | exact B4_5.out | exact B4_5.out.drew | exact B4_5.out.drewN _) (by first | exact B5.out | exact B5.out.drew | exact B5.out.drewN _) (by omega) (by omega)).mono ?_
    rintro e v6 ⟨p6, l6, c6, rfl, r1, r2, r3⟩
    have st : Below v5.heap.size v5 v6 := (by first | exact r3 | exact ((Below.refl _ _).drew).trans r3 | exact (below_drewN (Below.refl _ _) _).trans r3)
    have K6 := Lib.hid (K5.out.below st)
    clear kb
    obtain ⟨kb⟩ := K6.out
    have B3_6 := Lib.hid (B3_5.out.below st)
    have B6 := Lib.hid r1
    clear r1 r2 r3
    clear st
    go_wp2_with fail
    refine (minus_s (k := 10) (n * q) (a * d) u1 u2 false Hu1.out Hu2.out HM.out p3 p6 c3 c6 l3 l6 _ (by first | exact B3_6.out | exact B3_6.out.drew | exact B3_6.out.drewN _) (by first | exact B6.out | exact B6.out.drew | exact B6.out.drewN _) (by omega)).mono ?_
    rintro e w1 ⟨p, l, c, rfl, B, hf, hb0⟩
    have hb : Below (w.alloc (Obj.cells #[Value.bool false, Value.slice none 0 0] 30)).heap.size (w.alloc (Obj.cells #[Value.bool false, Value.slice none 0 0] 30)) w1 := (K6.out.below (show Below v6.heap.size v6 w1 from by first | exact hb0 | exact ((Below.refl _ _).drew).trans hb0 | exact (below_drewN (Below.refl _ _) _).trans hb0)).bel
    replace hf : ∀ b, p = some b → (w.alloc (Obj.cells #[Value.bool false, Value.slice none 0 0] 30)).heap.size ≤ b.block := fun b hb => by have := hf b hb; have := K6.out.bel.size; simp at *; omega
    clear hb0 kb
    have AL : Below w1.heap.size w1 (w1.alloc (Obj.cells #[Value.bool false, Value.slice p l.length c] 30)) := (Below.refl _ w1).alloc (Nat.le_refl _) _
    have FIN := Lib.hid ((ST.out _ _ _ c B hf hb).grow ((Below.refl _ _).alloc (Nat.le_refl _) (Obj.cells #[Value.bool false, Value.slice p l.length c] 30)))
    obtain ⟨hc, hfz⟩ := bcell hb
    have hz : w.heap.size < w1.heap.size := by have := hb.size; simp at this; omega
    clear B hf hb AL ST
    go_wp2_with fail
    exact bodyPost_ret (v := .agg #[.bool false, .slice p l.length c]) (by simp [results, Tryd.results15, go_sem, hc, hz]) rfl FIN.out
end Go.Proofs.YtblaakjldpcjlaaDoor
