/- num.FromPath in general. -/
import Derived.Test.YtblaakjldpcjlaaDoorY3
import Derived.Test.YtblaakjldpcjlaaDoorC3
import Derived.Test.YtblaakjldpcjlaaDoorB4
namespace Go.Proofs.YtblaakjldpcjlaaDoor
open Go.RowKit
set_option linter.unusedVariables false
set_option linter.unusedSimpArgs false

theorem Cv.size {N D a0 bn bd ln ld : Int} {r : List Int} (h : Cv N D a0 bn bd ln ld r) (h1 : -1099511627776 ≤ a0) (h2 : a0 ≤ 1099511627776) (hd : ld ≤ 1048576) :
    -2305843009213693952 ≤ ln ∧ ln ≤ 2305843009213693952 ∧ -2305843009213693952 ≤ bn ∧ bn ≤ 2305843009213693952 ∧ 1 ≤ ld ∧ 0 ≤ bd ∧ bd ≤ ld := by
  obtain ⟨l1, l2, l3⟩ := h.ld1
  have m1 : -1099511627776 * ld ≤ a0 * ld := Int.mul_le_mul_of_nonneg_right h1 (by omega)
  have m2 : a0 * ld ≤ 1099511627776 * ld := Int.mul_le_mul_of_nonneg_right h2 (by omega)
  have m3 : -1099511627776 * bd ≤ a0 * bd := Int.mul_le_mul_of_nonneg_right h1 l2
  have m4 : a0 * bd ≤ 1099511627776 * bd := Int.mul_le_mul_of_nonneg_right h2 l2
  rcases h.rng with ⟨a, b, c, d⟩ | ⟨a, b, c, d, e, f⟩
  · subst a b c d; omega
  · omega
theorem Cv.fits {N D a0 bn bd ln ld s : Int} {r : List Int} (h : Cv N D a0 bn bd ln ld (s :: r)) (h1 : -1099511627776 ≤ a0) (h2 : a0 ≤ 1099511627776) (hd : ld ≤ 1048576) (hs : s * ld + bd ≤ 1048576) :
    -4611686018427387904 ≤ s * ln ∧ s * ln ≤ 4611686018427387903 ∧ 0 ≤ s * ld ∧ s * ld ≤ 1048576 := by
  obtain ⟨l1, l2, l3⟩ := h.ld1
  have s1 := h.ones.tail.1
  have e0 : 0 ≤ s * ld := Int.mul_nonneg (by omega) (by omega)
  have L : a0 * ld ≤ ln ∧ ln ≤ a0 * ld + ld := by
    rcases h.rng with ⟨a, b, c, d⟩ | ⟨a, b, c, d, e, f⟩
    · subst c d; omega
    · omega
  have m2 : s * (a0 * ld) ≤ s * ln := Int.mul_le_mul_of_nonneg_left L.1 (by omega)
  have m3 : s * ln ≤ s * (a0 * ld + ld) := Int.mul_le_mul_of_nonneg_left L.2 (by omega)
  have e3 : s * (a0 * ld) = a0 * (s * ld) := by ac_rfl
  have e4 : s * (a0 * ld + ld) = a0 * (s * ld) + s * ld := by grind
  have m4 : -1099511627776 * (s * ld) ≤ a0 * (s * ld) := Int.mul_le_mul_of_nonneg_right h1 e0
  have m5 : a0 * (s * ld) ≤ 1099511627776 * (s * ld) := Int.mul_le_mul_of_nonneg_right h2 e0
  omega

set_option maxRecDepth 100000 in
set_option maxHeartbeats 8000000 in
theorem FromPath_any (b : Nat) (l : List Int) (w : World) (h : Cop w b l) :
    Calls Tryd.prog 30 #[.slice (some ⟨b, 0, none⟩) l.length (l.length + 2)] w (Res (FromR l) w) := by
  have H := Lib.hid h
  have CK := Lib.hid (fun W hb => checkPath_any b l W (h.below hb))
  obtain ⟨x, hx⟩ : ∃ x, x = l.length := ⟨_, rfl⟩
  unfold Res
  rw [← hx] at CK ⊢
  have HX := Lib.hid hx
  have bz := h.lt
  clear hx h
  go_enter Tryd.func30, Tryd.ntmps30
  go_wp2_with fail
  refine (CK.out _ ((Below.refl _ _).alloc (Nat.le_refl _) _)).mono ?_
  rintro e w1 ⟨⟨E, rfl, CH⟩, rfl⟩
  clear CK
  rcases CH with ⟨t, rfl⟩ | ⟨t, bd, rfl⟩ | ⟨t, bd, rfl⟩
  · have F := Lib.hid (show FromR l 0 0 3 from .inl ⟨t, rfl, rfl, rfl⟩)
    clear t
    go_wp2_with fail
    exact bodyPost_ret (v := fracV 0 0 3) (by simp [results, Tryd.results30, go_sem, fracV]) rfl ⟨0, 0, 3, F.out, rfl, by go_grown⟩
  · have F := Lib.hid (show FromR l 0 0 2 from .inr (.inl ⟨t, bd, rfl, rfl, rfl⟩))
    clear t bd
    go_wp2_with fail
    exact bodyPost_ret (v := fracV 0 0 2) (by simp [results, Tryd.results30, go_sem, fracV]) rfl ⟨0, 0, 2, F.out, rfl, by go_grown⟩
  · obtain ⟨a0, r, hl, on, lt⟩ := good_parts bd
    have OKF := Lib.hid (fun V D E (h : IsFrac (evB l).1 (evB l).2 V D E) => (show FromR l V D E from .inr (.inr ⟨t, bd, h⟩)))
    have HOUT : Hid (¬ (-1099511627776 ≤ a0 ∧ a0 ≤ 1099511627776) → IsFrac (evB l).1 (evB l).2 0 0 4) := fun h => by rw [hl]; exact head_out on lt h
    have D1 : 1 ≤ (evB l).2 := by rw [hl]; exact (evB_ge on).1
    have NF := Lib.hid (fun h => no_frac D1 (evB_cop l) h)
    have CV0 : Hid (Cv (evB l).1 (evB l).2 a0 1 0 a0 1 (r.drop 0)) := by show Cv _ _ _ _ _ _ _ _; rw [hl]; exact Cv.start a0 on
    obtain ⟨y, hy⟩ : ∃ y, y = r.length := ⟨_, rfl⟩
    have xy : x = y + 1 := by rw [HX.out, hl, hy]; rfl
    have GL := Lib.hid (fun k (hk : k < y) => (show r.drop k = gd l (k + 1) :: r.drop (k + 1) from by
      have : k < r.length := by omega
      rw [List.drop_eq_getElem_cons this]
      congr 1
      rw [hl]; unfold gd; simp [this]))
    have DE := Lib.hid (show r.drop y = [] by rw [hy]; exact List.drop_length)
    have G0 : gd l 0 = a0 := by rw [hl]; rfl
    have ca := H.out.row 0 (by have := HX.out; omega)
    rw [G0] at ca
    have CL := Lib.hid (fun i (hi : i < y + 1) => H.out.row i (by have := HX.out; omega))
    have y64 : y ≤ 63 := by have := HX.out; omega
    subst xy
    clear hl on lt t bd G0 hy
    generalize (evB l).1 = N at *
    generalize (evB l).2 = D at *
    have bw : ¬ b = w.heap.size := by omega
    have i1 : (0 : Int) < ((y + 1 : Nat) : Int) := by omega
    have s00 : BS w (((w.alloc (Obj.cells #[Value.int IntKind.i64 0, Value.int IntKind.i64 0] 23)).alloc (Obj.cells #[Value.int IntKind.i64 1, Value.int IntKind.i64 0] 23)).alloc (Obj.cells #[Value.int IntKind.i64 a0, Value.int IntKind.i64 1] 23)) 0 0 1 0 a0 1 := by
      refine ⟨?_, ?_, ?_, ?_, ?_, ?_, ?_, ?_, ?_, ?_, ?_, ?_, ?_, ((((Below.refl _ _).alloc (Nat.le_refl _) _).alloc (by simp) _).alloc (by simp; omega) _)⟩
      all_goals (simp [go_sem]; done)
    have S00 := Lib.hid s00; clear s00
    go_wp2_with fail
    refine (within_any _ _ (by decide) (by decide) _).mono ?_
    rintro e w' ⟨rfl, rfl⟩
    cases hw : wthB a0 1099511627776
    · have F := Lib.hid (OKF.out 0 0 4 (HOUT.out (fun z => by have := wthB_true.2 z; rw [hw] at this; cases this)))
      clear hw
      go_wp2_with fail
      exact bodyPost_ret (v := fracV 0 0 4) (by simp [results, Tryd.results30, go_sem, fracV]) rfl ⟨0, 0, 4, F.out, rfl, by go_grown⟩
    · obtain ⟨a1, a2⟩ := wthB_true.1 hw
      clear hw HOUT
      go_wp2_with fail
      generalize (((w.alloc (Obj.cells #[Value.int IntKind.i64 0, Value.int IntKind.i64 0] 23)).alloc (Obj.cells #[Value.int IntKind.i64 1, Value.int IntKind.i64 0] 23)).alloc (Obj.cells #[Value.int IntKind.i64 a0, Value.int IntKind.i64 1] 23)) = w2 at S00 ⊢
      go_loopw [29] (fun kv wr => ∃ (k : Nat) (bn bd ln ld : Int), k ≤ y ∧ kv = .int .i64 k ∧ ld ≤ 1048576 ∧ Hid (BS w wr 0 0 bn bd ln ld) ∧ Hid (Cv N D a0 bn bd ln ld (r.drop k))) (fun kv _ => y - (intOf kv).toNat)
      case atStart => exact ⟨0, 1, 0, a0, 1, Nat.zero_le _, rfl, by omega, S00, CV0⟩
      case round =>
        clear S00 CV0 ca
        obtain ⟨k, bn, bd, ln, ld, hk, rfl, ldm, S0, CV⟩ := hrel
        have s0 := S0.out
        obtain ⟨x0, x1, b0, b1, l0, l1, fx0, fx1, fb0, fb1, fl0, fl1, sz, -⟩ := id s0
        have z0 : w.heap.size < wr.heap.size := by omega
        by_cases t2 : k < y
        · have CVk := CV.out
          rw [GL.out k t2] at CVk
          have ST := Lib.hid CVk.step
          have FT := Lib.hid (fun h => CVk.fits a1 a2 ldm h)
          obtain ⟨bg1, bg2⟩ := CVk.big
          obtain ⟨q1, q2, q3, q4, q5, q6, q7⟩ := CVk.size a1 a2 ldm
          have s1 := CVk.ones.tail.1
          have cs0 : wr.cell? ⟨b, k + 1, none⟩ = some (.int .i64 (gd l (k + 1))) := (s0.bl.cell (p := ⟨b, k + 1, none⟩) bz).trans (CL.out (k + 1) (by omega))
          have i2 : (k : Int) < (y : Int) := by omega
          have i3 : (0 : Int) ≤ (k : Int) := by omega
          have BIG := Lib.hid (fun (h : 1048576 < D) => OKF.out 0 0 4 (NF.out (.inl h)))
          clear CVk CV
          generalize gd l (k + 1) = s at *
          have cs : wr.cell? ⟨b, 1 + k, none⟩ = some (.int .i64 s) := by rw [show 1 + k = k + 1 by omega]; exact cs0
          by_cases g1 : 1048576 < s
          · have F := Lib.hid (BIG.out (by omega))
            clear BIG ST FT NF OKF
            go_wp2_with fail
            exact bodyPost_ret (v := fracV 0 0 4) (by simp [results, Tryd.results30, go_sem, fracV, x0, x1, z0]) rfl ⟨0, 0, 4, F.out, rfl, ((s0.setx0 0).setx1 0).bl⟩
          · have sl0 : 0 ≤ s * ld := Int.mul_nonneg (by omega) (by omega)
            have sl1 : s * ld ≤ 1048576 * 1048576 := Int.mul_le_mul (by omega) ldm (by omega) (by omega)
            by_cases g2 : 1048576 < s * ld + bd
            · have F := Lib.hid (BIG.out (by omega))
              clear BIG ST FT NF OKF bg1
              go_wp2_with fail
              exact bodyPost_ret (v := fracV 0 0 4) (by simp [results, Tryd.results30, go_sem, fracV, x0, x1, z0]) rfl ⟨0, 0, 4, F.out, rfl, ((s0.setx0 0).setx1 0).bl⟩
            · obtain ⟨f1, f2, f3, f4⟩ := FT.out (by omega)
              have AL := fun W => along_any bn bd ln ld s f1 f2 (by omega) (by omega) (by omega) (by omega) (by omega) (by omega) W
              obtain ⟨LN, hLN⟩ : ∃ z, z = s * ln + bn := ⟨_, rfl⟩
              obtain ⟨LD, hLD⟩ : ∃ z, z = s * ld + bd := ⟨_, rfl⟩
              have LDM : LD ≤ 1048576 := by omega
              have ST2 := ST.out
              rw [← hLN, ← hLD] at AL ST2
              replace ST2 := Lib.hid ST2
              replace AL := Lib.hid AL
              clear hLN hLD BIG ST FT bg1 S0
              go_wp2_with fail
              go_region_law (first | (go_simp; go_at_call 42; refine (AL.out _).mono ?_; rintro e w2 ⟨rfl, hq⟩; (first | replace s0 := s0.below hq | replace s0 := s0.drew.below hq | replace s0 := (s0.drewN _).below hq); clear x0 x1 b0 b1 l0 l1 fx0 fx1 fb0 fb1 fl0 fl1 sz; obtain ⟨x0, x1, b0, b1, l0, l1, fx0, fx1, fb0, fb1, fl0, fl1, sz, -⟩ := id s0))
              all_goals
                replace s0 := (((s0.setb0 ln).setb1 ld).setl0 LN).setl1 LD
                clear x0 x1 b0 b1 l0 l1 fx0 fx1 fb0 fb1 fl0 fl1 sz
                have S0 := Lib.hid s0; clear s0
                go_wp2_with fail
                go_roundw
                case rel => exact ⟨k + 1, ln, ld, LN, LD, by omega, by go_num, LDM, S0, ST2⟩
                case measure => simp [intOf]; omega
        · have ek : k = y := by omega
          subst ek
          have CVk := CV.out
          rw [DE.out] at CVk
          obtain ⟨e1, e2⟩ := CVk.done
          obtain ⟨q1, q2, q3, q4, q5, q6, q7⟩ := CVk.size a1 a2 ldm
          rw [e1, e2] at OKF
          have MK := Lib.hid (fun W => Make_any ln ld (by omega) (by omega) (by omega) (by omega) (by omega) W)
          unfold Res at MK
          clear CVk CV e1 e2 NF S0
          go_wp2_with fail
          refine (MK.out _).mono ?_
          rintro e w3 ⟨V, DD, E, FR, rfl, hq⟩
          unfold fracV
          have F := Lib.hid (OKF.out V DD E FR)
          replace s0 := s0.below hq
          clear x0 x1 b0 b1 l0 l1 fx0 fx1 fb0 fb1 fl0 fl1 sz z0 FR MK
          obtain ⟨x0, x1, b0, b1, l0, l1, fx0, fx1, fb0, fb1, fl0, fl1, sz, -⟩ := id s0
          have z0 : w.heap.size < w3.heap.size := by omega
          go_wp2_with fail
          exact bodyPost_ret (v := fracV V DD E) (by simp [results, Tryd.results30, go_sem, fracV, x0, x1, z0]) rfl ⟨V, DD, E, F.out, rfl, ((s0.setx0 V).setx1 DD).bl⟩
end Go.Proofs.YtblaakjldpcjlaaDoor
