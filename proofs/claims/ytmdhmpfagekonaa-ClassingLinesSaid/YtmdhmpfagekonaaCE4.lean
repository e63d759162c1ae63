/- Classing's lines: the cost of a line. -/
import Derived.Test.YtmdhmpfagekonaaLB
import Derived.Deep.Cut
import Derived.Deep.CutRange
namespace Go.Proofs.Ytmdhmpfagekonaa
open Go.RowKit Go.Proofs.Ytmdhmpfagekonaa.Ct Go.Proofs.Ytmdhmpfagekonaa.Ce Go.Proofs.Ytmdhmpfagekonaa.Stb
set_option linter.unusedVariables false
set_option linter.unusedSimpArgs false

theorem cen_bd {A : Nat → Fl} {n : Nat} (h : 0 < n) (ok : ∀ k, k < n → (A k).ok) : 1 ≤ cen A 0 n ∧ cen A 0 n ≤ 10000 := by
  have b := mas_bd (A := A) (i := 0) ok (j := n) (Nat.le_refl _)
  have := cenF_lt (A := A) (i := 0) (k := n - 0) (p := 0) (j := n) (by omega) (by omega) b.1
  have o := (ok (cenP A 0 n) this.2).1
  exact o
theorem offs_bd {A : Nat → Fl} {n : Nat} {c : Int} (h1 : 1 ≤ c) (h2 : c ≤ 10000) (ok : ∀ k, k < n → (A k).ok) : ∀ {j}, j ≤ n → 0 ≤ offs A c 0 j ∧ offs A c 0 j ≤ 10737418240000 * j
  | 0, _ => by simp [offs]
  | j + 1, hj => by
    have ih := offs_bd h1 h2 ok (j := j) (by omega)
    have o := ok j (by omega)
    unfold Fl.ok at o
    have m0 : 0 ≤ max ((A j).mic - c) (c - (A j).mic) := by omega
    have m1 : max ((A j).mic - c) (c - (A j).mic) ≤ 10000 := by omega
    have p0 : 0 ≤ (A j).gr * max ((A j).mic - c) (c - (A j).mic) := Int.mul_nonneg (by omega) m0
    have p1 : (A j).gr * max ((A j).mic - c) (c - (A j).mic) ≤ 1073741824 * 10000 := Int.mul_le_mul o.2.2 m1 m0 (by omega)
    rw [show offs A c 0 (j + 1) = offs A c 0 j + (if 0 ≤ j then (A j).gr * max ((A j).mic - c) (c - (A j).mic) else 0) from rfl, if_pos (Nat.zero_le _)]
    omega

set_option maxRecDepth 100000 in
set_option maxHeartbeats 4000000 in
theorem lineCost_any (p : Option Addr) (c m : Nat) (A : Nat → Fl) (ls le sp : Int) (w : World) (r : FlR w p (m + 1) A) (ln : m + 1 ≤ 1000) (ok : ∀ k, k < m + 1 → (A k).ok) (kok : ∀ k, k < m + 1 → (A k).kok) :
    Calls Try.prog 47 #[.slice p (m + 1) c, .agg #[.int .i64 ls, .int .i64 le, .int .i64 sp]] w fun e w' => e = .returned (.int .i64 (lnc A le sp 0 (m + 1))) ∧ Below w.heap.size w w' := by
  have R := Lib.hid r
  have OK := Lib.hid ok
  have C1 := Lib.hid (fun W (h : FlR W p (m + 1) A) => mass_any p c (m + 1) A W h ln ok)
  have C2 := Lib.hid (fun W (h : FlR W p (m + 1) A) => centre_any p c (m + 1) A W h (by omega) ln ok)
  have KK := Lib.hid (kk_eq (kok 0 (by omega)) (kok m (by omega)))
  obtain ⟨x, rfl, -⟩ := r 0 (by omega)
  obtain ⟨z0, a0, a1, a2, a3, a4, a5⟩ := r.at (show 0 < m + 1 by omega) rfl
  obtain ⟨z1, b0, b1, b2, b3, b4, b5⟩ := r.at (show m < m + 1 by omega) rfl
  simp [Addr.add] at a0 a1 a2 a3 a4 a5 z0
  obtain ⟨y, hy⟩ : ∃ y, x.add (m * 6) = y := ⟨_, rfl⟩
  rw [hy] at z1 b0 b1 b2 b3 b4 b5
  have z01 : x.block < w.heap.size + 1 := by omega
  have z02 : x.block < w.heap.size + 1 + 1 := by omega
  have z11 : y.block < w.heap.size + 1 := by omega
  have z12 : y.block < w.heap.size + 1 + 1 := by omega
  have i1 : (0 : Int) ≤ (m : Int) := by omega
  have i2 : (m : Int) < ((m + 1 : Nat) : Int) := by omega
  have i3 : (0 : Int) < ((m + 1 : Nat) : Int) := by omega
  have i4 : (m : Int) < (m : Int) + 1 := by omega
  have i5 : (0 : Int) < (m : Int) + 1 := by omega
  have e1 : IntKind.i64.wrap (((m + 1 : Nat) : Int) - 1) = m := by rw [hwI (by omega) (by omega)]; omega
  have e2 : IntKind.i64.wrap ((m : Int) + 1 - 1) = m := by rw [hwI (by omega) (by omega)]; omega
  have e3 : IntKind.i64.wrap (m : Int) = m := hwI (by omega) (by omega)
  clear r ok kok
  obtain ⟨s, hs⟩ : ∃ s, s = A 0 := ⟨_, rfl⟩
  obtain ⟨u, hu⟩ : ∃ u, u = A m := ⟨_, rfl⟩
  rw [← hs] at KK a0 a1 a2 a3 a4 a5
  rw [← hu] at KK b0 b1 b2 b3 b4 b5
  have HS := Lib.hid hs
  have HU := Lib.hid hu
  clear hs hu
  go_enter Try.func47, Try.ntmps47
  go_upto_region 1 with fail
  go_cut [5, 6] from 11 to 20 (fun p5 p6 wx => ∃ g5 g6, p5 = .pointer (some ⟨g5, 0, none⟩) ∧ p6 = .pointer (some ⟨g6, 0, none⟩) ∧ Hid (LcW w ls le sp s u g5 g6 wx))
  case first =>
    go_region
    all_goals go_wp2_with fail
    all_goals go_meet
    all_goals first
      | exact ⟨_, _, rfl, rfl, Lib.hid (lcw_new w ls le sp s u)⟩
      | exact ⟨_, _, rfl, rfl, Lib.hid (lcw_new w ls le sp u s).swap⟩
  case rest =>
    obtain ⟨g5, g6, rfl, rfl, L⟩ := hcut
    clear a0 a1 a2 a3 a4 a5 b0 b1 b2 b3 b4 b5 z0 z1 z01 z02 z11 z12 hy
    have R0 := R
    have R := Lib.hid (R.out.below L.out.bl)
    have h1 : wc.cell? ⟨w.heap.size, 1, none⟩ = some (.int .i64 le) := L.out.oh.cell (k := 1) (by decide)
    have h2 : wc.cell? ⟨w.heap.size, 2, none⟩ = some (.int .i64 sp) := L.out.oh.cell (k := 2) (by decide)
    have s0 : wc.cell? ⟨g5, 0, none⟩ = some (.int .u8 s.ka) := L.out.o5.cell (k := 0) (by decide)
    have s1 : wc.cell? ⟨g5, 1, none⟩ = some (.int .u8 s.kb) := L.out.o5.cell (k := 1) (by decide)
    have s2 : wc.cell? ⟨g5, 2, none⟩ = some (.int .u8 s.kc) := L.out.o5.cell (k := 2) (by decide)
    have s3 : wc.cell? ⟨g5, 3, none⟩ = some (.int .u8 s.kd) := L.out.o5.cell (k := 3) (by decide)
    have s4 : wc.cell? ⟨g5, 4, none⟩ = some (.int .i64 s.mic) := L.out.o5.cell (k := 4) (by decide)
    have u0 : wc.cell? ⟨g6, 0, none⟩ = some (.int .u8 u.ka) := L.out.o6.cell (k := 0) (by decide)
    have u1 : wc.cell? ⟨g6, 1, none⟩ = some (.int .u8 u.kb) := L.out.o6.cell (k := 1) (by decide)
    have u2 : wc.cell? ⟨g6, 2, none⟩ = some (.int .u8 u.kc) := L.out.o6.cell (k := 2) (by decide)
    have u3 : wc.cell? ⟨g6, 3, none⟩ = some (.int .u8 u.kd) := L.out.o6.cell (k := 3) (by decide)
    have u4 : wc.cell? ⟨g6, 4, none⟩ = some (.int .i64 u.mic) := L.out.o6.cell (k := 4) (by decide)
    go_wp2_with fail
    have EK := fun W => eq_kind s.ka s.kb s.kc s.kd u.ka u.kb u.kc u.kd W
    by_cases hk : s.kk = u.kk
    · have hk2 : s.ka = u.ka ∧ s.kb = u.kb ∧ s.kc = u.kc ∧ s.kd = u.kd := KK.out.1 hk
      simp only [decide_eq_true hk2] at EK
      have os := OK.out 0 (by omega)
      have ou := OK.out m (by omega)
      rw [← HS.out] at os
      rw [← HU.out] at ou
      have ew : IntKind.i64.wrap (u.mic - s.mic) = u.mic - s.mic := hwI (by unfold Fl.ok at os ou; omega) (by unfold Fl.ok at os ou; omega)
      have HKK := Lib.hid hk
      clear os ou hk2 hk
      by_cases hw : sp < u.mic - s.mic
      · have dw : decide (sp < u.mic - s.mic) = true := decide_eq_true hw
        have E := Lib.hid (show lnc A le sp 0 (m + 1) = -1 from by
          unfold lnc
          rw [if_neg (fun h : isLine A le sp 0 (m + 1) => by
            have := h.2.2.1
            rw [← HS.out, Nat.add_sub_cancel, ← HU.out] at this
            omega)])
        go_region
        go_wp2_with fail
        go_ret
        rw [E.out]
        exact ⟨rfl, L.out.bl.drew⟩
      · have dw : decide (sp < u.mic - s.mic) = false := decide_eq_false hw
        go_cut [41] from 20 to 42 (fun t wx => t = .bool (decide (mas A 0 (m + 1) < le)) ∧ Hid (LcW w ls le sp s u g5 g6 wx))
        case first =>
          go_region_law (first
            | (go_simp; go_at_call 58; (with_reducible refine (C1.out _ (R.out.below ((Below.refl _ _).drew))).mono ?_); rintro e w1 ⟨rfl, q⟩; have st : Below wc.heap.size wc w1 := ((Below.refl _ _).drew).trans q; have L1 := Lib.hid (L.out.call st); have h1 : w1.cell? ⟨w.heap.size, 1, none⟩ = some (.int .i64 le) := L1.out.oh.cell (k := 1) (by decide); clear q st))
          all_goals go_wp2_with fail
          all_goals go_meet
          all_goals exact ⟨rfl, L1⟩
        case rest =>
          obtain ⟨rfl, L1⟩ := hcut
          have R1 := Lib.hid (R0.out.below L1.out.bl)
          have LB := Lib.hid L1.out.bl
          by_cases hm : mas A 0 (m + 1) < le
          · have dm : decide (mas A 0 (m + 1) < le) = true := decide_eq_true hm
            have E := Lib.hid (show lnc A le sp 0 (m + 1) = -1 from by
              unfold lnc
              rw [if_neg (fun h : isLine A le sp 0 (m + 1) => by
                have := h.2.2.2
                omega)])
            rw [dm]
            clear hm dm
            go_wp2_with fail
            go_ret
            rw [E.out]
            exact ⟨rfl, LB.out⟩
          · have dm : decide (mas A 0 (m + 1) < le) = false := decide_eq_false hm
            have E := Lib.hid (show lnc A le sp 0 (m + 1) = offs A (cen A 0 (m + 1)) 0 (m + 1) from by
              unfold lnc
              rw [if_pos (show isLine A le sp 0 (m + 1) from ⟨by omega, by rw [Nat.add_sub_cancel, ← HS.out, ← HU.out]; exact HKK.out, by rw [Nat.add_sub_cancel, ← HS.out, ← HU.out]; omega, by omega⟩)])
            rw [dm]
            clear hm dm
            go_wp2_with fail
            refine (C2.out _ R1.out).mono ?_
            rintro e w2 ⟨rfl, q⟩
            have LB := Lib.hid (LB.out.trans (q.mono LB.out.size))
            clear q
            have CB := Lib.hid (cen_bd (A := A) (n := m + 1) (by omega) OK.out)
            generalize cen A 0 (m + 1) = ce at *
            go_wp2_with fail
            go_loopw [8, 46] (fun sv kv wr => ∃ i : Nat, i ≤ m + 1 ∧ kv = .int .i64 i ∧ sv = .int .i64 (offs A ce 0 i) ∧ Hid (Below w.heap.size w wr)) (fun _ kv _ => m + 1 - (intOf kv).toNat)
            case atStart => exact ⟨0, Nat.zero_le _, rfl, rfl, LB⟩
            case round =>
              obtain ⟨i, hi, rfl, rfl, HB⟩ := hrel
              by_cases t1 : i < m + 1
              · have j1 : (0 : Int) ≤ (i : Int) := by omega
                have j2 : (i : Int) < ((m + 1 : Nat) : Int) := by omega
                have j3 : (i : Int) < (m : Int) + 1 := by omega
                obtain ⟨-, a0, a1, a2, a3, a4, a5⟩ := (R0.out.below HB.out).at t1 rfl
                have b := offs_bd CB.out.1 CB.out.2 OK.out (j := i) (by omega)
                have b2 := offs_bd CB.out.1 CB.out.2 OK.out (j := i + 1) (by omega)
                have c1 := CB.out.1
                have c2 := CB.out.2
                have o := OK.out i t1
                unfold Fl.ok at o
                have NX := Lib.hid (show offs A ce 0 (i + 1) = offs A ce 0 i + (A i).gr * max ((A i).mic - ce) (ce - (A i).mic) from by
                  rw [show offs A ce 0 (i + 1) = offs A ce 0 i + (if 0 ≤ i then (A i).gr * max ((A i).mic - ce) (ce - (A i).mic) else 0) from rfl, if_pos (Nat.zero_le _)])
                rw [NX.out] at b2
                have ea : IntKind.i64.wrap ((A i).mic - ce) = (A i).mic - ce := hwI (by omega) (by omega)
                have eb : IntKind.i64.wrap (ce - (A i).mic) = ce - (A i).mic := hwI (by omega) (by omega)
                have m0 : 0 ≤ max ((A i).mic - ce) (ce - (A i).mic) := by omega
                have m1 : max ((A i).mic - ce) (ce - (A i).mic) ≤ 10000 := by omega
                have p0 : 0 ≤ (A i).gr * max ((A i).mic - ce) (ce - (A i).mic) := Int.mul_nonneg (by omega) m0
                have p1 : (A i).gr * max ((A i).mic - ce) (ce - (A i).mic) ≤ 1073741824 * 10000 := Int.mul_le_mul o.2.2 m1 m0 (by omega)
                have em : IntKind.i64.wrap ((A i).gr * max ((A i).mic - ce) (ce - (A i).mic)) = (A i).gr * max ((A i).mic - ce) (ce - (A i).mic) := hwI (by omega) (by omega)
                have es : IntKind.i64.wrap (offs A ce 0 i + (A i).gr * max ((A i).mic - ce) (ce - (A i).mic)) = offs A ce 0 i + (A i).gr * max ((A i).mic - ce) (ce - (A i).mic) := hwI (by omega) (by omega)
                clear b b2 c1 c2 o m0 m1 p0 p1 C1 C2 OK CB EK
                generalize offs A ce 0 i = z at *
                generalize A i = f at *
                have OBX := Lib.hid (ob_n6 wr f 55)
                have HB2 := Lib.hid (HB.out.alloc HB.out.size (Obj.cells #[.int .u8 f.ka, .int .u8 f.kb, .int .u8 f.kc, .int .u8 f.kd, .int .i64 f.mic, .int .i64 f.gr] 55))
                clear HB
                go_upto_region 8 with fail
                generalize (wr.alloc (Obj.cells #[.int .u8 f.ka, .int .u8 f.kb, .int .u8 f.kc, .int .u8 f.kd, .int .i64 f.mic, .int .i64 f.gr] 55)) = wa at *
                have b4 : wa.cell? ⟨wr.heap.size, 4, none⟩ = some (.int .i64 f.mic) := OBX.out.cell (k := 4) (by decide)
                have b5 : wa.cell? ⟨wr.heap.size, 5, none⟩ = some (.int .i64 f.gr) := OBX.out.cell (k := 5) (by decide)
                clear OBX a0 a1 a2 a3 a4 a5
                go_wp2_with fail
                go_roundw
                case rel =>
                  have mx : max (f.mic - ce) (ce - f.mic) = if f.mic - ce < ce - f.mic then ce - f.mic else f.mic - ce := by split <;> omega
                  refine ⟨i + 1, by omega, by go_num, ?_, HB2⟩
                  rw [NX.out]
                  rw [← mx]
                  have W := IntWalk.i64_left
                  rw [W] at em es
                  rw [em, es]
                case measure => simp [intOf]; omega
              · obtain rfl : i = m + 1 := by omega
                go_wp2_with fail
                go_ret
                rw [E.out]
                exact ⟨rfl, HB.out⟩
    · have hk2 : ¬ (s.ka = u.ka ∧ s.kb = u.kb ∧ s.kc = u.kc ∧ s.kd = u.kd) := fun h => hk (KK.out.2 h)
      have E := Lib.hid (show lnc A le sp 0 (m + 1) = -1 from by
        unfold lnc
        rw [if_neg (fun h : isLine A le sp 0 (m + 1) => hk (by rw [HS.out, HU.out]; exact h.2.1))])
      simp only [decide_eq_false hk2] at EK
      go_region
      go_wp2_with fail
      go_ret
      rw [E.out]
      exact ⟨rfl, L.out.bl.drew⟩
end Go.Proofs.Ytmdhmpfagekonaa
