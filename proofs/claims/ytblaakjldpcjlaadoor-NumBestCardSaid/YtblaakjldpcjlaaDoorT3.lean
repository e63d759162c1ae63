/- num.Best: what it comes to. -/
import Derived.Test.YtblaakjldpcjlaaDoorT2
import Derived.Test.YtblaakjldpcjlaaDoorC3
namespace Go.Proofs.YtblaakjldpcjlaaDoor
open Go.RowKit
set_option linter.unusedVariables false
set_option linter.unusedSimpArgs false

/-- V/D is the nearest fraction with a Den of at most 'most'. -/
def BestR (n d most V D : Int) : Prop := D ≤ most ∧ vldB V D = true ∧ ∀ p q : Int, 1 ≤ q → q ≤ most → Nearer n d V D p q
def BAt (n d most : Int) (w : World) (vt vb : Value) (wr : World) : Prop :=
  (vt = .int .i64 n ∧ vb = .int .i64 d ∧ Hid (BS w wr 0 0 0 1 1 0)) ∨ ∃ t b bn bd ln ld ε, vt = .int .i64 t ∧ vb = .int .i64 b ∧ Hid (Later n d most bn bd ln ld t b ε) ∧ Hid (BS w wr 0 0 bn bd ln ld)
theorem best_end {n d most bn bd ln ld top ε : Int} (h : Later n d most bn bd ln ld top 0 ε) (mx : most ≤ 1048576) : BestR n d most ln ld :=
  ⟨h.ldm, vldB_true.2 ⟨h.ld1, by have := h.ldm; omega, h.ln1, h.ln2, h.cop⟩, fun p q hq _ => best_exact h.conv h.den h.ld1 hq⟩
theorem best_stop {n d most bn bd ln ld top bottom on od ε ε' : Int} (h : Later n d most bn bd ln ld top bottom ε) (s : Stop n d most ln ld on od ε') (mx : most ≤ 1048576) :
    (((n * od - on * d).natAbs : Int) * ld < ((n * ld - ln * d).natAbs : Int) * od → BestR n d most on od) ∧ (¬ ((n * od - on * d).natAbs : Int) * ld < ((n * ld - ln * d).natAbs : Int) * od → BestR n d most ln ld) := by
  have K := fun p q (hq : 1 ≤ q) (hm : q ≤ most) => best_two (p := p) h.den h.ld1 s.od1 hq s.sgn s.det (by have := s.sum; omega) s.hA s.hB s.tie
  have g := cop_det s.det
  refine ⟨fun c => ⟨s.odm, vldB_true.2 ⟨s.od1, by have := s.odm; omega, s.on1, s.on2, ?_⟩, fun p q hq hm => ?_⟩, fun c => ⟨h.ldm, vldB_true.2 ⟨h.ld1, by have := h.ldm; omega, h.ln1, h.ln2, h.cop⟩, fun p q hq hm => ?_⟩⟩
  · refine (cop_det (ε := ε') (a := on) (b := od) (x := ln) (y := ld) ?_).1
    exact s.det
  · have := K p q hq hm; rwa [if_pos c] at this
  · have := K p q hq hm; rwa [if_neg c] at this

set_option maxRecDepth 100000 in
set_option maxHeartbeats 8000000 in
theorem Best_ok (n d most : Int) (n1 : -1099511627776 ≤ n) (n2 : n ≤ 1099511627776) (d1 : 1 ≤ d) (d2 : d ≤ 1099511627776) (m1 : 1 ≤ most) (m2 : most ≤ 1048576) (w : World) :
    Calls Tryd.prog 12 #[.int .i64 n, .int .i64 d, .int .i64 most] w fun e w' => ∃ V D, e = .returned (fracV V D 0) ∧ BestR n d most V D ∧ Below w.heap.size w w' := by
  have WT : wthB n 1099511627776 = true := wthB_true.2 ⟨by omega, n2⟩
  have HW := Lib.hid WT
  clear WT
  go_enter Tryd.func12, Tryd.ntmps12
  go_wp2_with fail
  refine (within_any _ _ (by decide) (by decide) _).mono ?_
  rintro e w' ⟨rfl, rfl⟩
  rw [HW.out]
  go_wp2_with fail
  have s0 : BS w (((w.alloc (Obj.cells #[Value.int IntKind.i64 0, Value.int IntKind.i64 0] 23)).alloc (Obj.cells #[Value.int IntKind.i64 0, Value.int IntKind.i64 1] 23)).alloc (Obj.cells #[Value.int IntKind.i64 1, Value.int IntKind.i64 0] 23)) 0 0 0 1 1 0 := by
    refine ⟨?_, ?_, ?_, ?_, ?_, ?_, ?_, ?_, ?_, ?_, ?_, ?_, ?_, ((((Below.refl _ _).alloc (Nat.le_refl _) _).alloc (by simp) _).alloc (by simp; omega) _)⟩
    all_goals (simp [go_sem]; done)
  have S0 := Lib.hid s0; clear s0
  generalize ((w.alloc (Obj.cells #[Value.int IntKind.i64 0, Value.int IntKind.i64 0] 23)).alloc (Obj.cells #[Value.int IntKind.i64 0, Value.int IntKind.i64 1] 23)).alloc (Obj.cells #[Value.int IntKind.i64 1, Value.int IntKind.i64 0] 23) = w1 at S0 ⊢
  go_loopw [10, 11] (fun vt vb wr => BAt n d most w vt vb wr) (fun _ vb _ => (intOf vb).toNat)
  case atStart => exact .inl ⟨rfl, rfl, S0⟩
  case round =>
    clear S0 HW
    rcases hrel with ⟨rfl, rfl, S⟩ | ⟨t, b, bn, bd, ln, ld, ε, rfl, rfl, LT, S⟩
    · have s0 := S.out
      clear S
      obtain ⟨x0, x1, b0, b1, l0, l1, fx0, fx1, fb0, fb1, fl0, fl1, sz, -⟩ := id s0
      have nx := Later.first n1 n2 d1 m1
      have r1 := nx.bot0
      have r2 := nx.bott
      have r3 := nx.ln1
      have r4 := nx.ln2
      have FL := Lib.hid (fun W => floor_any n d (by omega) (by omega) d1 (by omega) W)
      have AL := Lib.hid (fun W => along_any 0 1 1 0 (n / d) (by omega) (by omega) (by omega) (by omega) (by omega) (by omega) (by omega) (by omega) W)
      generalize n / d = k at *
      obtain ⟨LN, hLN⟩ : ∃ x, x = k * 1 + 0 := ⟨_, rfl⟩
      obtain ⟨LD, hLD⟩ : ∃ x, x = k * 0 + 1 := ⟨_, rfl⟩
      rw [← hLN, ← hLD] at nx AL
      clear hLN hLD
      go_wp2_with fail
      refine (FL.out _).mono ?_
      rintro e w' ⟨rfl, rfl⟩
      clear FL
      have HLT := Lib.hid nx
      clear nx
      go_wp2_with fail
      go_region_law (first | (go_simp; go_at_call 42; refine (AL.out _).mono ?_; rintro e w2 ⟨rfl, hq⟩; (first | replace s0 := s0.below hq | replace s0 := s0.drew.below hq | replace s0 := (s0.drewN _).below hq); clear x0 x1 b0 b1 l0 l1 fx0 fx1 fb0 fb1 fl0 fl1 sz; obtain ⟨x0, x1, b0, b1, l0, l1, fx0, fx1, fb0, fb1, fl0, fl1, sz, -⟩ := id s0))
      all_goals
        replace s0 := (((s0.setb0 1).setb1 0).setl0 LN).setl1 LD
        clear x0 x1 b0 b1 l0 l1 fx0 fx1 fb0 fb1 fl0 fl1 sz
        have S0 := Lib.hid s0; clear s0
        go_wp2_with fail
        go_roundw
        case rel => exact .inr ⟨d, n - k * d, 1, 0, LN, LD, -1, rfl, rfl, HLT, S0⟩
        case measure => simp [intOf]; omega
    · have s0 := S.out
      clear S
      obtain ⟨x0, x1, b0, b1, l0, l1, fx0, fx1, fb0, fb1, fl0, fl1, sz, -⟩ := id s0
      have h := LT.out
      have r1 := h.bot0
      have r2 := h.bott
      have r3 := h.ln1
      have r4 := h.ln2
      have r5 := h.topd
      have r6 := h.ld1
      have r7 := h.ldm
      have r8 := h.bd0
      have r9 := h.bdl
      have r10 := h.bn1
      have r11 := h.bn2
      rcases (by omega : b = 0 ∨ 1 ≤ b) with hb | hb
      · subst hb
        have BST := Lib.hid (best_end h m2)
        clear h LT
        have z0 : w.heap.size < wr.heap.size := by omega
        go_wp2_with fail
        exact bodyPost_ret (v := fracV ln ld 0) (by simp [results, Tryd.results12, go_sem, fracV, x0, x1, z0]) rfl ⟨ln, ld, rfl, BST.out, ((s0.setx0 ln).setx1 ld).bl⟩
      · have k0 : 0 ≤ t / b := Int.ediv_nonneg (by omega) (by omega)
        have k1 : t / b * b ≤ t := Int.ediv_mul_le t (by omega)
        have k2 : 0 ≤ t / b * b := Int.mul_nonneg k0 (by omega)
        have k3 : t / b * 1 ≤ t / b * b := Int.mul_le_mul_of_nonneg_left hb k0
        have k4 : t / b * ld ≤ 1099511627776 * 1048576 := Int.mul_le_mul (by omega) (by omega) (by omega) (by omega)
        have k5 : 0 ≤ t / b * ld := Int.mul_nonneg k0 (by omega)
        have FL := Lib.hid (fun W => floor_any t b (by omega) (by omega) hb (by omega) W)
        rcases (by omega : t / b * ld + bd ≤ most ∨ most < t / b * ld + bd) with hm | hm
        · have nx := h.next n1 n2 hb hm
          have v1 := nx.bot0
          have v2 := nx.bott
          have v3 := nx.ln1
          have v4 := nx.ln2
          have AL := Lib.hid (fun W => along_any bn bd ln ld (t / b) (by omega) (by omega) (by omega) (by omega) (by omega) (by omega) (by omega) (by omega) W)
          clear h LT
          generalize t / b = k at *
          go_wp2_with fail
          refine (FL.out _).mono ?_
          rintro e w' ⟨rfl, rfl⟩
          clear FL
          obtain ⟨LN, hLN⟩ : ∃ x, x = k * ln + bn := ⟨_, rfl⟩
          obtain ⟨LD, hLD⟩ : ∃ x, x = k * ld + bd := ⟨_, rfl⟩
          rw [← hLN, ← hLD] at nx AL
          clear hLN v3 v4
          have HLD := Lib.hid hLD
          clear hLD
          have HLT := Lib.hid nx
          clear nx
          go_wp2_with fail
          go_region_law (first | (go_simp; go_at_call 42; refine (AL.out _).mono ?_; rintro e w2 ⟨rfl, hq⟩; (first | replace s0 := s0.below hq | replace s0 := s0.drew.below hq | replace s0 := (s0.drewN _).below hq); clear x0 x1 b0 b1 l0 l1 fx0 fx1 fb0 fb1 fl0 fl1 sz; obtain ⟨x0, x1, b0, b1, l0, l1, fx0, fx1, fb0, fb1, fl0, fl1, sz, -⟩ := id s0))
          all_goals
            replace s0 := (((s0.setb0 ln).setb1 ld).setl0 LN).setl1 LD
            clear x0 x1 b0 b1 l0 l1 fx0 fx1 fb0 fb1 fl0 fl1 sz
            have S0 := Lib.hid s0; clear s0
            go_wp2_with fail
            go_roundw
            case rel => exact .inr ⟨b, t - k * b, ln, ld, LN, LD, -ε, rfl, rfl, HLT, S0⟩
            case measure => simp [intOf]; omega
        · obtain ⟨s1, s2, s3, ST⟩ := h.stop n1 n2 hb hm
          have BS0 := Lib.hid (best_stop h ST m2)
          have HST := Lib.hid ST
          have sl1 : -(1048576 * 1099511627776) ≤ (most - bd) / ld * ln ∧ (most - bd) / ld * ln ≤ 1048576 * 1099511627776 := by
            have a : (most - bd) / ld * ln ≤ (most - bd) / ld * 1099511627776 := Int.mul_le_mul_of_nonneg_left r4 s1
            have c : (most - bd) / ld * -1099511627776 ≤ (most - bd) / ld * ln := Int.mul_le_mul_of_nonneg_left r3 s1
            omega
          have sl2 : 0 ≤ (most - bd) / ld * ld := Int.mul_nonneg s1 (by omega)
          have AL := Lib.hid (fun W => along_any bn bd ln ld ((most - bd) / ld) (by omega) (by omega) (by omega) (by omega) (by omega) (by omega) (by omega) (by omega) W)
          obtain ⟨sq, hsq⟩ : ∃ x, x = (most - bd) / ld := ⟨_, rfl⟩
          rw [← hsq] at s1 s2 s3 ST BS0 HST sl1 sl2 AL
          have w1 : IntKind.i64.wrap (most - bd) = most - bd := IntWalk.i64_in _ (by omega)
          have w2 : (most - bd).tdiv ld = sq := by rw [Int.tdiv_eq_ediv_of_nonneg (by omega)]; exact hsq.symm
          have w3 : IntKind.i64.wrap sq = sq := IntWalk.i64_in _ (by omega)
          have w4 : (most - bd) / ld = sq := hsq.symm
          have hld0 : ¬ ld = 0 := by omega
          clear hsq
          obtain ⟨on, hon⟩ : ∃ x, x = sq * ln + bn := ⟨_, rfl⟩
          obtain ⟨od, hod⟩ : ∃ x, x = sq * ld + bd := ⟨_, rfl⟩
          rw [← hon, ← hod] at ST BS0 HST AL
          obtain ⟨g1, g2⟩ := mul_le_abs (X := 1099511627776) (Y := 1048576) n1 n2 (show 0 ≤ ld by omega) (by omega) (by omega)
          have y1 := ST.od1
          have y2 := ST.odm
          obtain ⟨g3, g4⟩ := mul_le_abs (X := 1099511627776) (Y := 1048576) n1 n2 (show 0 ≤ od by omega) (by omega) (by omega)
          have y3 := ST.hA
          have y4 := ST.hA2
          have y5 := ST.hB
          have y6 := ST.hB2
          have ya := abs_of ST.sgn y3
          have yb := abs_of ST.sgn y5
          have y7 : ((n * ld - ln * d).natAbs : Int) ≤ d := by omega
          have y8 : ((n * od - on * d).natAbs : Int) ≤ d := by omega
          have y9 : ((n * od - on * d).natAbs : Int) * ld ≤ 1099511627776 * 1048576 := Int.mul_le_mul (by omega) (by omega) (by omega) (by omega)
          have y10 : ((n * ld - ln * d).natAbs : Int) * od ≤ 1099511627776 * 1048576 := Int.mul_le_mul (by omega) (by omega) (by omega) (by omega)
          have y11 : 0 ≤ ((n * od - on * d).natAbs : Int) * ld := Int.mul_nonneg (by omega) (by omega)
          have y12 : 0 ≤ ((n * ld - ln * d).natAbs : Int) * od := Int.mul_nonneg (by omega) (by omega)
          have NR := Lib.hid (fun W => nearer_any n d ln ld on od (by omega) (by omega) (by omega) (by omega) (by omega) (by omega) (by omega) (by omega) (by omega) (by omega) (by omega) (by omega) W)
          clear ST y1 y2 y3 y4 y5 y6 ya yb y7 y8 y9 y10 y11 y12 g1 g2 g3 g4 sl1 sl2 hon hod h LT
          generalize t / b = k at *
          go_wp2_with fail
          refine (FL.out _).mono ?_
          rintro e w' ⟨rfl, rfl⟩
          clear FL
          go_wp2_with fail
          have z1 : w.heap.size + 1 < wr.heap.size := by omega
          have z0 : w.heap.size < wr.heap.size := by omega
          have hB0 : w.heap.size ≤ wr.heap.size := by omega
          have q0 : ¬ w.heap.size = wr.heap.size := by omega
          have q1 : ¬ w.heap.size + 1 = wr.heap.size := by omega
          have q2 : ¬ w.heap.size + 1 + 1 = wr.heap.size := by omega
          have p0 : ¬ wr.heap.size = w.heap.size := by omega
          have p1 : ¬ wr.heap.size = w.heap.size + 1 := by omega
          have p2 : ¬ wr.heap.size = w.heap.size + 1 + 1 := by omega
          go_region_held3 (fun w' => w'.cell? ⟨w.heap.size + 1, 0, none⟩ = some (.int .i64 bn) ∧ w'.cell? ⟨w.heap.size + 1, 1, none⟩ = some (.int .i64 bd) ∧ w'.cell? ⟨w.heap.size + 1 + 1, 0, none⟩ = some (.int .i64 ln) ∧ w'.cell? ⟨w.heap.size + 1 + 1, 1, none⟩ = some (.int .i64 ld))
            (first | exact ⟨b0, b1, l0, l1⟩ | (refine ⟨?_, ?_, ?_, ?_⟩ <;> simp [go_sem, b0, b1, l0, l1, sz, z1, z0, q1, q2, p1, p2]; done) | go_keep)
            (first | (go_at_call 42; (try rw [w1]); (try rw [w2]); (try rw [w4]); (try rw [w3]); refine (AL.out _).mono ?_; rintro e w2 ⟨rfl, hq⟩; (first | replace s0 := s0.drew.below hq | (replace s0 := ((s0.below ((Below.refl _ _).alloc (Nat.le_refl _) _)).drew).below hq; have a1 := hq.cell (p := ⟨wr.heap.size, 0, none⟩) (by simp); have a2 := hq.cell (p := ⟨wr.heap.size, 1, none⟩) (by simp); have a3 := hq.frozen (p := ⟨wr.heap.size, 0, none⟩) (by simp); have a4 := hq.frozen (p := ⟨wr.heap.size, 1, none⟩) (by simp); have a5 := hq.size; simp [go_sem] at a1 a2 a3 a4 a5)); clear x0 x1 b0 b1 l0 l1 fx0 fx1 fb0 fb1 fl0 fl1 sz; obtain ⟨x0, x1, b0, b1, l0, l1, fx0, fx1, fb0, fb1, fl0, fl1, sz, -⟩ := id s0; replace z1 : w.heap.size + 1 < w2.heap.size := (by omega); replace z0 : w.heap.size < w2.heap.size := (by omega)))
          all_goals
            first
              | have o0 : (w2.alloc (Obj.cells #[Value.int IntKind.i64 on, Value.int IntKind.i64 od] 23)).cell? ⟨w2.heap.size, 0, none⟩ = some (.int .i64 on) := by simp [go_sem]
                have o1 : (w2.alloc (Obj.cells #[Value.int IntKind.i64 on, Value.int IntKind.i64 od] 23)).cell? ⟨w2.heap.size, 1, none⟩ = some (.int .i64 od) := by simp [go_sem]
                replace s0 := s0.below ((Below.refl _ _).alloc (Nat.le_refl _) (Obj.cells #[Value.int IntKind.i64 on, Value.int IntKind.i64 od] 23))
                generalize w2.alloc (Obj.cells #[Value.int IntKind.i64 on, Value.int IntKind.i64 od] 23) = v at s0 o0 o1 ⊢
                clear z1 z0
                clear x0 x1 b0 b1 l0 l1 fx0 fx1 fb0 fb1 fl0 fl1 sz
                obtain ⟨x0, x1, b0, b1, l0, l1, fx0, fx1, fb0, fb1, fl0, fl1, sz, -⟩ := id s0
                go_wp2_with fail
                refine (NR.out _).mono ?_
                rintro e w3 ⟨rfl, hr⟩
                replace s0 := s0.below hr
                clear x0 x1 b0 b1 l0 l1 fx0 fx1 fb0 fb1 fl0 fl1 sz
                obtain ⟨x0, x1, b0, b1, l0, l1, fx0, fx1, fb0, fb1, fl0, fl1, sz, -⟩ := id s0
                have z0 : w.heap.size < w3.heap.size := by omega
                have BST := BS0.out
                clear BS0
                by_cases hc : ((n * od - on * d).natAbs : Int) * ld < ((n * ld - ln * d).natAbs : Int) * od
                · rw [if_pos hc]
                  have BST := Lib.hid (BST.1 hc)
                  clear hc NR AL HST
                  go_wp2_with fail
                  exact bodyPost_ret (v := fracV on od 0) (by simp [results, Tryd.results12, go_sem, fracV, x0, x1, z0]) rfl ⟨on, od, rfl, BST.out, ((s0.setx0 on).setx1 od).bl⟩
                · rw [if_neg hc]
                  have BST := Lib.hid (BST.2 (by omega))
                  clear hc NR AL HST
                  go_wp2_with fail
                  exact bodyPost_ret (v := fracV ln ld 0) (by simp [results, Tryd.results12, go_sem, fracV, x0, x1, z0]) rfl ⟨ln, ld, rfl, BST.out, ((s0.setx0 ln).setx1 ld).bl⟩
              | have o0 : ((w2.setCell ⟨wr.heap.size, 0, none⟩ (Value.int IntKind.i64 on)).setCell ⟨wr.heap.size, 1, none⟩ (Value.int IntKind.i64 od)).cell? ⟨wr.heap.size, 0, none⟩ = some (.int .i64 on) := by simp [go_sem, a1, a2]
                have o1 : ((w2.setCell ⟨wr.heap.size, 0, none⟩ (Value.int IntKind.i64 on)).setCell ⟨wr.heap.size, 1, none⟩ (Value.int IntKind.i64 od)).cell? ⟨wr.heap.size, 1, none⟩ = some (.int .i64 od) := by simp [go_sem, a1, a2]
                have hB := hB0
                replace s0 := (s0.other ⟨wr.heap.size, 0, none⟩ (Value.int IntKind.i64 on) p0 p1 p2 hB).other ⟨wr.heap.size, 1, none⟩ (Value.int IntKind.i64 od) p0 p1 p2 hB
                generalize ((w2.setCell ⟨wr.heap.size, 0, none⟩ (Value.int IntKind.i64 on)).setCell ⟨wr.heap.size, 1, none⟩ (Value.int IntKind.i64 od)) = v at s0 o0 o1 ⊢
                clear z1 z0
                clear x0 x1 b0 b1 l0 l1 fx0 fx1 fb0 fb1 fl0 fl1 sz
                obtain ⟨x0, x1, b0, b1, l0, l1, fx0, fx1, fb0, fb1, fl0, fl1, sz, -⟩ := id s0
                go_wp2_with fail
                refine (NR.out _).mono ?_
                rintro e w3 ⟨rfl, hr⟩
                replace s0 := s0.below hr
                clear x0 x1 b0 b1 l0 l1 fx0 fx1 fb0 fb1 fl0 fl1 sz
                obtain ⟨x0, x1, b0, b1, l0, l1, fx0, fx1, fb0, fb1, fl0, fl1, sz, -⟩ := id s0
                have z0 : w.heap.size < w3.heap.size := by omega
                have BST := BS0.out
                clear BS0
                by_cases hc : ((n * od - on * d).natAbs : Int) * ld < ((n * ld - ln * d).natAbs : Int) * od
                · rw [if_pos hc]
                  have BST := Lib.hid (BST.1 hc)
                  clear hc NR AL HST
                  go_wp2_with fail
                  exact bodyPost_ret (v := fracV on od 0) (by simp [results, Tryd.results12, go_sem, fracV, x0, x1, z0]) rfl ⟨on, od, rfl, BST.out, ((s0.setx0 on).setx1 od).bl⟩
                · rw [if_neg hc]
                  have BST := Lib.hid (BST.2 (by omega))
                  clear hc NR AL HST
                  go_wp2_with fail
                  exact bodyPost_ret (v := fracV ln ld 0) (by simp [results, Tryd.results12, go_sem, fracV, x0, x1, z0]) rfl ⟨ln, ld, rfl, BST.out, ((s0.setx0 ln).setx1 ld).bl⟩
end Go.Proofs.YtblaakjldpcjlaaDoor
