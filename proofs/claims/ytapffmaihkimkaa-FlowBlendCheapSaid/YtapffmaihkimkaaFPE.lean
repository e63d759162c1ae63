/- Flow: the law of cheap blends. -/
import Derived.Test.YtapffmaihkimkaaFPD
import Derived.Test.YtapffmaihkimkaaFLA
namespace Go.Proofs.Ytapffmaihkimkaa
open Go.RowKit
set_option linter.unusedVariables false
set_option linter.unusedSimpArgs false

theorem cellGr' {W V : World} {a : Addr} {x : Value} (st : Below W.heap.size W V) (h : W.cell? a = some x) : V.cell? a = some x := by
  rw [← h]
  exact st.cell (World.block_lt_of_cell? W _ h)
theorem cellDr' {W : World} {a : Addr} {x : Value} {n : Nat} (h : W.cell? a = some x) : (W.drewN n).cell? a = some x := h
set_option maxRecDepth 100000 in
set_option maxHeartbeats 8000000 in
theorem flowBlendCheap_walk (p : Option Addr) (c m : Nat) (A : Nat → Pa) (w : World) (r : PaR w p m A) (lm : m ≤ 9223372036854775807) (b : Int) (hb : -9223372036854775808 ≤ b ∧ b ≤ 9223372036854775807) (l : Int) (hl : -9223372036854775808 ≤ l ∧ l ≤ 9223372036854775807) (h : Int) (hh : -9223372036854775808 ≤ h ∧ h ≤ 9223372036854775807) (q : Option Addr) (d k : Nat) (M : Nat → Int) (r2 : NmR w q k M) (lk : k ≤ 9223372036854775807) :
    Calls Try.prog 4 #[.slice p m c, .int .i64 b, .int .i64 l, .int .i64 h, .slice q k d] w fun e w' => e = .returned (.bool true) ∧ Below w.heap.size w w' := by
  clear hb hl hh
  have R := Lib.hid r
  have R2 := Lib.hid r2
  have C1 := Lib.hid (Blend_any p c m A b l h w r lm)
  clear r r2
  go_enter Try.func4, Try.ntmps4
  go_wp2_with fail
  refine C1.out.mono ?_
  rintro e w1 ⟨x, v, L, rfl, st, hq⟩
  have B1 := Lib.hid st
  clear C1 st
  rcases hq with ⟨x0, rfl, rfl, h1⟩ | ⟨rfl, be, ys, g, cc, h3, rfl, h4, h5⟩
  · rcases h1 with be | ⟨be, rfl, hn⟩
    · have x13 : x ≠ 13 := by rcases be with ⟨_, e⟩ | ⟨_, _, e⟩ | ⟨_, _, _, e⟩ | ⟨_, _, _, e⟩ <;> omega
      have e1 : (x == 0) = false := by simpa using x0
      have e2 : (x != 0) = true := by simpa using x0
      have e3 : (x == 13) = false := by simpa using x13
      have e4 : (x != 13) = true := by simpa using x13
      clear be R R2 x0 x13
      go_wp2_with fail
      refine (alive_any _).mono ?_
      rintro e w2 ⟨rfl, st⟩
      have B2 := Lib.hid (B1.out.trans (st.mono B1.out.size))
      clear B1 st
      go_wp2_with fail
      go_ret
      exact ⟨rfl, B2.out⟩
    · obtain ⟨m6, ⟨bb, bl, bh⟩, aok⟩ := be.good
      have d6 : decide ((6 : Int) < (m : Int)) = false := decide_eq_false (by omega)
      have C2 := Lib.hid (lblend_any p c m A b l h none 0 0 (fun _ => 0) w1 (R.out.below B1.out) (fun i hi => absurd hi (Nat.not_lt_zero i)) m6 aok bb bl bh (by omega))
      have C3 := Lib.hid (fun W (st : Below w.heap.size w W) => lblend_any p c m A b l h q d k M W (R.out.below st) (R2.out.below st) m6 aok bb bl bh lk)
      have NO := Lib.hid (BRes.no aok (show 0 ≤ b by omega) hn)
      clear be hn m6 bb bl bh aok x0
      go_wp2_with fail
      refine C2.out.mono ?_
      rintro e w2 ⟨x2, r2', rfl, -, -, st⟩
      have B2 := Lib.hid (B1.out.trans (st.mono B1.out.size))
      clear C2 st B1
      go_wp2_with fail
      refine (C3.out w2 B2.out).mono ?_
      rintro e w3 ⟨x3, r3, rfl, hR, -, st⟩
      have B3 := Lib.hid (B2.out.trans (st.mono B2.out.size))
      obtain rfl : r3 = false := by
        cases r3 with
        | false => rfl
        | true =>
          have g := hR.1 rfl
          obtain rfl : k = m := g.1
          exact absurd g (NO.out M)
      clear C3 st B2 NO hR R R2
      go_wp2_with fail
      refine (alive_any _).mono ?_
      rintro e w4 ⟨rfl, st⟩
      have B4 := Lib.hid (B3.out.trans (st.mono B3.out.size))
      clear B3 st
      go_wp2_with fail
      go_ret
      exact ⟨rfl, B4.out⟩
  · obtain ⟨m6, ⟨bb, bl, bh⟩, aok⟩ := be.good
    have d6 : decide ((6 : Int) < (m : Int)) = false := decide_eq_false (by omega)
    obtain ⟨y1, y2, y3⟩ := BRes.yes aok (show 0 ≤ b by omega) h3
    have C2 := Lib.hid (lblend_any p c m A b l h (some ⟨g, 0, none⟩) cc m (nm ys) w1 (R.out.below B1.out) h5 m6 aok bb bl bh (by omega))
    have C3 := Lib.hid (fun W (st : Below w.heap.size w W) => lblend_any p c m A b l h q d k M W (R.out.below st) (R2.out.below st) m6 aok bb bl bh lk)
    have YS := Lib.hid h5
    have Y1 := Lib.hid y1
    have Y2 := Lib.hid y2
    have Y3 := Lib.hid y3
    clear be h3 h4 h5 m6 bb bl bh aok y1 y2 y3
    go_wp2_with fail
    refine C2.out.mono ?_
    rintro e w2 ⟨x2, r2', rfl, hR2, hx2, st⟩
    obtain rfl : r2' = true := hR2.2 Y1.out
    obtain rfl : x2 = L := by rw [hx2 rfl, Y2.out]
    have B2 := Lib.hid (B1.out.trans (st.mono B1.out.size))
    have YS2 := Lib.hid (YS.out.below st)
    clear C2 st B1 hR2 hx2 YS Y1
    go_wp2_with fail
    refine (C3.out w2 B2.out).mono ?_
    rintro e w3 ⟨x3, r3, rfl, hR, hx, st⟩
    have B3 := Lib.hid (B2.out.trans (st.mono B2.out.size))
    have YS3 := Lib.hid (YS2.out.below st)
    clear C3 st B2 YS2
    have e0 : (x2 == x2) = true := by simp
    have e0' : (x2 != x2) = false := by simp
    cases r3 with
    | false =>
      clear hR hx Y2 Y3 YS3 R R2
      go_wp2_with fail
      go_loopw [18] (fun iv wr => iv = .int .i64 0 ∧ Hid (Below w.heap.size w wr)) (fun iv _ => 0)
      case atStart => exact ⟨rfl, B3⟩
      case round =>
        clear B3
        obtain ⟨rfl, HB⟩ := hrel
        go_wp2_with fail
        refine (alive_any _).mono ?_
        rintro e w4 ⟨rfl, st⟩
        have B4 := Lib.hid (HB.out.trans (st.mono HB.out.size))
        clear HB st
        go_wp2_with fail
        go_ret
        exact ⟨rfl, B4.out⟩
    | true =>
      have gl := hR.1 rfl
      obtain rfl : k = m := gl.1
      obtain ⟨z1, z2⟩ := Y3.out M gl
      have hx3 := hx rfl
      rw [← hx3] at z1 z2
      have f1 : decide (x3 < x2) = false := decide_eq_false (by omega)
      by_cases eq : x3 = x2
      case neg =>
        have f2 : (x3 == x2) = false := by simpa using eq
        clear hR hx Y2 Y3 YS3 R R2 gl z1 z2 hx3 eq
        go_wp2_with fail
        go_loopw [18] (fun iv wr => iv = .int .i64 0 ∧ Hid (Below w.heap.size w wr)) (fun iv _ => 0)
        case atStart => exact ⟨rfl, B3⟩
        case round =>
          clear B3
          obtain ⟨rfl, HB⟩ := hrel
          go_wp2_with fail
          refine (alive_any _).mono ?_
          rintro e w4 ⟨rfl, st⟩
          have B4 := Lib.hid (HB.out.trans (st.mono HB.out.size))
          clear HB st
          go_wp2_with fail
          go_ret
          exact ⟨rfl, B4.out⟩
      subst eq
      have FST := Lib.hid (z2 rfl)
      clear hR hx Y2 Y3 R gl z1 z2 hx3
      go_wp2_with fail
      go_loopw [18] (fun iv wr => ∃ i : Nat, i ≤ k ∧ iv = .int .i64 i ∧ Hid (∀ j, j < i → nm ys j = M j) ∧ Hid (Below w.heap.size w wr) ∧ Hid (NmR wr (some ⟨g, 0, none⟩) k (nm ys))) (fun iv _ => k - (intOf iv).toNat)
      case atStart => exact ⟨0, Nat.zero_le _, rfl, Lib.hid (fun j hj => by omega), B3, YS3⟩
      case round =>
        clear B3 YS3
        obtain ⟨i, hi, rfl, ALL, HB, YS⟩ := hrel
        by_cases t1 : i < k
        · have i1 : (0 : Int) ≤ (i : Int) := by omega
          have i2 : (i : Int) < (k : Int) := by omega
          obtain ⟨xa, exa, -, ca⟩ := YS.out i t1
          cases exa
          rw [add0] at ca
          obtain ⟨xb, rfl, -, cb⟩ := (R2.out.below HB.out) i t1
          have PART := Lib.hid (show nm ys i ≠ M i → M i < nm ys i from fun ne => by
            rcases FST.out with f | ⟨i0, h1, h2, h3⟩
            · exact absurd (f i t1) ne
            · rcases Nat.lt_trichotomy i i0 with c | c | c
              · exact absurd (h2 i c) ne
              · subst c; exact h3
              · have := ALL.out i0 c; omega)
          have A2 := Lib.hid (show nm ys i = M i → ∀ j, j < i + 1 → nm ys j = M j from fun e j hj => by
            by_cases c : j = i
            · rw [c]; exact e
            · exact ALL.out j (by omega))
          generalize nm ys i = y at *
          generalize M i = z at *
          clear ALL
          by_cases t2 : y = z
          · subst t2
            have n1 : (y != y) = false := by simp
            have A3 := Lib.hid (A2.out rfl)
            clear A2 PART
            go_upto_region 13 with fail
            go_quiet (fail)
            go_wp2_with fail
            go_roundw
            case rel => exact ⟨i + 1, by omega, by go_num, A3, Lib.hid (below_drewN HB.out _), Lib.hid (fun i hi => YS.out i hi)⟩
            case measure => simp [intOf]; omega
          · have n1 : (y != z) = true := by simpa using t2
            have n2 : decide (z < y) = true := decide_eq_true (PART.out t2)
            clear A2 PART t2 FST
            go_upto_region 13 with fail
            go_quiet (fail)
            have HB2 := Lib.hid (show Below w.heap.size w _ from below_drewN HB.out 1)
            go_upto_region 14 with fail
            go_region_held3 (fun w' => w'.cell? ⟨g, i, none⟩ = some (.int .i64 y) ∧ w'.cell? (xb.add i) = some (.int .i64 z))
              (first | exact ⟨ca, cb⟩ | exact ⟨cellDr ca, cellDr cb⟩ | exact ⟨cellDr' ca, cellDr' cb⟩)
              (first | (go_at_call 5; (with_reducible refine (alive_any _).mono ?_); rintro e v1 ⟨rfl, st⟩; have st : Below wr.heap.size wr v1 := (by first | exact st | exact ((Below.refl _ _).drew).trans st | exact (below_drewN (Below.refl _ _) _).trans st); replace ca := cellGr' st ca; replace cb := cellGr' st cb; have F1 := Lib.hid (HB.out.trans (st.mono HB.out.size)); clear st))
            go_wp2_with fail
            go_ret
            exact ⟨rfl, (by first | exact F1.out | exact F1.out.drew | exact below_drewN F1.out _)⟩
        · obtain rfl : i = k := by omega
          clear FST ALL YS R2
          go_wp2_with fail
          refine (alive_any _).mono ?_
          rintro e w4 ⟨rfl, st⟩
          have B4 := Lib.hid (HB.out.trans (st.mono HB.out.size))
          clear HB st
          go_wp2_with fail
          go_ret
          exact ⟨rfl, B4.out⟩
end Go.Proofs.Ytapffmaihkimkaa
