/- The stable sort's symmetric merge: one on the right. -/
import Derived.Test.YtmdhmpfagekonaaST4
namespace Go.Proofs.Ytmdhmpfagekonaa
open Go.RowKit Go.Proofs.Ytmdhmpfagekonaa.Stb
set_option linter.unusedVariables false
set_option linter.unusedSimpArgs false

set_option maxRecDepth 100000 in
set_option maxHeartbeats 4000000 in
theorem symMerge_last (B N C K : Nat) (e0 : Value) (V : Int → Prop) (R : Int → Int → Prop) (c : Int → Int → Int) (Kp : World → Prop) (H : Cmp K e0 B V R c Kp) (w0 : World) (h0 : Kp w0) (a m b : Nat) (f : Nat → Int) (w : World)
    (s : SW B N C w0 w f) (ham : a + 1 < m) (hb : b = m + 1) (hbn : b ≤ N) (hN : N ≤ 4611686018427387904) (M : Mrg R V a m (m + 1) f) :
    Calls Try.prog 67 #[.slice (some ⟨B, 0, none⟩) N C, .int .i64 a, .int .i64 m, .int .i64 b, .func (.func K) #[] #[e0]] w fun e w' => e = .returned (.tuple #[]) ∧ ∃ g, SW B N C w0 w' g ∧ Pm a b f g ∧ Srt R a b g := by
  have S := Lib.hid s
  have HM := Lib.hid M
  have HH := Lib.hid H
  have H0 := Lib.hid h0
  obtain ⟨d, hd⟩ : ∃ d, d = m - a := ⟨_, rfl⟩
  have e1 : IntKind.i64.wrap ((m : Int) - (a : Int)) = (d : Int) := w64 (by omega) (by omega)
  have d1 : ((d : Int) == 1) = false := by simp; omega
  have e2 : IntKind.i64.wrap ((b : Int) - (m : Int)) = 1 := by rw [show (b : Int) - (m : Int) = 1 by omega]; rfl
  have H1 := Lib.hid (show a + 1 < m ∧ b = m + 1 ∧ b ≤ N from ⟨ham, hb, hbn⟩)
  have HB := Lib.hid (Hlf.begin (p := fun k => R (f m) (f k)) (lo := a) (hi := m) (by omega))
  have MO := Lib.hid (M.mono2 H.tot)
  clear s M H h0 ham hbn hb hd
  go_enter Try.func67, Try.ntmps67
  go_wp2_with fail
  clear d1 e1 e2
  go_loopw [14, 15] (fun iv jv wr => ∃ i j : Nat, iv = .int .i64 i ∧ jv = .int .i64 j ∧ Hid (Hlf (fun k => R (f m) (f k)) a m i j) ∧ Hid (SW B N C w0 wr f)) (fun iv jv _ => (intOf jv).toNat - (intOf iv).toNat)
  case atStart => exact ⟨a, m, rfl, rfl, HB, S⟩
  case round =>
    obtain ⟨i, j, rfl, rfl, HL, RS⟩ := hrel
    clear HB S
    by_cases t1 : i < j
    · obtain ⟨u, hu⟩ : ∃ u, u = i + j := ⟨_, rfl⟩
      obtain ⟨h, hh⟩ : ∃ h, h = u / 2 := ⟨_, rfl⟩
      have eu : IntKind.i64.wrap ((i : Int) + (j : Int)) = (u : Int) := w64 (by omega) (by have := HL.out.c; have := H1.out; omega)
      have ev : IntKind.u64.wrap (u : Int) = (u : Int) := IntWalk.u64_in _ (by have := HL.out.c; have := H1.out; omega)
      have eh : wrap64 ((u : Int) / 2) = (h : Int) := by
        have := HL.out.c; have := H1.out
        rw [show (u : Int) / 2 = (h : Int) by omega]
        exact IntWalk.wrap64_in _ (by omega)
      have hb : i ≤ h ∧ h < j := by omega
      have h0 : (0 : Int) ≤ (h : Int) := by omega
      have h1 : (h : Int) < (N : Int) := by have := HL.out.c; have := H1.out; omega
      have m0 : (0 : Int) ≤ (m : Int) := by omega
      have m1 : (m : Int) < (N : Int) := by have := H1.out; omega
      have ch := RS.out.cell (show h < N by omega)
      have cm := RS.out.cell (show m < N by omega)
      have vh := HM.out.ok h (by have := HL.out.a; have := H1.out; omega) (by have := HL.out.c; omega)
      have vm := HM.out.ok m (by have := H1.out; omega) (by omega)
      have CN := Lib.hid (HH.out.neg (f h) (f m) vh vm (HM.out.old h m (by have := HL.out.a; omega) (by have := HL.out.c; omega) (Nat.le_refl _) (by omega)))
      have CL := Lib.hid (fun W (st : Below wr.heap.size wr W) => HH.out.call (f m) (f h) W ((RS.out.call st).kp HH.out H0.out) vm vh)
      have UP := Lib.hid (fun nr => HL.out.up MO.out hb.1 hb.2 nr)
      have DN := Lib.hid (fun nr => HL.out.down MO.out hb.1 hb.2 nr)
      obtain ⟨h2, hh2⟩ : ∃ h2, h2 = h + 1 := ⟨_, rfl⟩
      have eh2 : IntKind.i64.wrap ((h : Int) + 1) = (h2 : Int) := w64 (by omega) (by omega)
      have HI := Lib.hid (show i ≤ h ∧ h < j ∧ h2 = h + 1 from ⟨hb.1, hb.2, hh2⟩)
      rw [← hh2] at UP
      have CE := HH.out.ent
      clear vh vm hb hu hh hh2 HL
      by_cases cc : c (f m) (f h) < 0
      · have NX := Lib.hid (DN.out (CN.out.1 cc))
        clear CN UP DN
        generalize c (f m) (f h) = r at *
        generalize f h = p at *
        generalize f m = q at *
        go_wp2_with fail
        go_region_held3 (fun w' => w'.cell? ⟨B, m, none⟩ = some (.int .i64 q) ∧ w'.cell? ⟨B, h, none⟩ = some (.int .i64 p)) (first | exact ⟨cm, ch⟩ | exact ⟨cellDr cm, cellDr ch⟩) (first | ((with_reducible refine (CL.out _ (Below.refl _ _).drew).mono ?_); rintro e w1 ⟨rfl, st⟩; have cm := cellGr st (cellDr cm); have ch := cellGr st (cellDr ch)))
        have RS := Lib.hid (RS.out.drew.call st)
        clear CE CL cm ch st
        generalize w1 = v at RS ⊢
        go_wp2_with fail
        try rw [eh]
        go_roundw
        case rel => exact ⟨i, h, rfl, rfl, NX, RS⟩
        case measure => have := HI.out; simp [intOf]; omega
      · have NX := Lib.hid (UP.out (fun e => cc (CN.out.2 e)))
        have cc2 : decide (c (f m) (f h) < 0) = false := decide_eq_false cc
        clear CN UP DN
        generalize c (f m) (f h) = r at *
        generalize f h = p at *
        generalize f m = q at *
        go_wp2_with fail
        go_region_held3 (fun w' => w'.cell? ⟨B, m, none⟩ = some (.int .i64 q) ∧ w'.cell? ⟨B, h, none⟩ = some (.int .i64 p)) (first | exact ⟨cm, ch⟩ | exact ⟨cellDr cm, cellDr ch⟩) (first | ((with_reducible refine (CL.out _ (Below.refl _ _).drew).mono ?_); rintro e w1 ⟨rfl, st⟩; have cm := cellGr st (cellDr cm); have ch := cellGr st (cellDr ch)))
        have RS := Lib.hid (RS.out.drew.call st)
        clear CE CL cm ch st
        generalize w1 = v at RS ⊢
        go_wp2_with fail
        go_roundw
        case rel => exact ⟨h2, j, by first | rfl | go_num, rfl, NX, RS⟩
        case measure => have := HI.out; simp [intOf]; omega
    · obtain rfl : i = j := by have := HL.out.b; omega
      have HX := Lib.hid (show a ≤ i ∧ i ≤ m by have := HL.out.a; have := HL.out.c; have := H1.out; omega)
      have FIN := Lib.hid (show Srt R a b (rot i m b f) by
        have := HL.out.a; have := HL.out.c; have := H1.out
        rw [H1.out.2.1]
        exact HM.out.down HH.out.tot (by omega) (by omega) (fun k k1 k2 => HL.out.bef k k1 k2) (fun k k1 k2 => HL.out.beh k k1 k2))
      have PIN := Lib.hid (show Pm a b f (rot i m b f) by
        have := HL.out.a; have := HL.out.c; have := H1.out
        exact (Pm.rot f (by omega) (by omega)).mono (by omega) (Nat.le_refl _))
      clear HL MO HM
      go_wp2_with fail
      go_loopw [17] (fun kv wr => ∃ k : Nat, kv = .int .i64 k ∧ i ≤ k ∧ k ≤ m ∧ Hid (SW B N C w0 wr (rot k m b f))) (fun kv _ => (intOf kv).toNat - i)
      case atStart => exact ⟨m, rfl, HX.out.2, Nat.le_refl _, by rw [rot_left (a := m) _ (by have := H1.out; omega)]; exact RS⟩
      case round =>
        obtain ⟨k, rfl, k0, k1, RK⟩ := hrel
        clear RS
        by_cases t2 : i < k
        · obtain ⟨y, hy⟩ : ∃ y, y = k - 1 := ⟨_, rfl⟩
          have ey : IntKind.i64.wrap ((k : Int) - 1) = (y : Int) := w64 (by omega) (by have := HX.out; have := H1.out; omega)
          have lk : k < N := by have := HX.out; have := H1.out; omega
          have ly : y < N := by have := HX.out; have := H1.out; omega
          have x0 : (0 : Int) ≤ (k : Int) := by omega
          have x1 : (k : Int) < (N : Int) := by omega
          have y0 : (0 : Int) ≤ (y : Int) := by omega
          have y1 : (y : Int) < (N : Int) := by omega
          have ky : ¬ k = y := by omega
          have yk : ¬ y = k := by omega
          have NX := Lib.hid (RK.out.swap k y)
          have EQ := Lib.hid (show swp k y (rot k m b f) = rot y m b f by rw [hy, H1.out.2.1]; exact rot_down f (by omega) k1)
          have ck := RK.out.cell lk
          have cy := RK.out.cell ly
          have fk := RK.out.frozen k
          have fy := RK.out.frozen y
          have HY := Lib.hid (show k = y + 1 ∧ i ≤ y ∧ y ≤ m by omega)
          clear RK hy k0 k1 lk ly
          rw [EQ.out] at NX
          generalize rot k m b f k = p at *
          generalize rot k m b f y = q at *
          go_wp2_with fail
          go_region
          have RK := Lib.hid NX.out.drew
          clear NX ck cy fk fy EQ
          generalize ((wr.setCell ⟨B, k, none⟩ (.int .i64 q)).setCell ⟨B, y, none⟩ (.int .i64 p)).drew = v at RK ⊢
          go_wp2_with fail
          go_roundw
          case rel => exact ⟨y, by first | rfl | go_num, by have := HY.out; omega, by have := HY.out; omega, RK⟩
          case measure => have := HY.out; simp [intOf]; omega
        · obtain rfl : k = i := by omega
          go_wp2_with fail
          first | go_ret2 | go_ret | go_returns
          exact ⟨rfl, _, RK.out, PIN.out, FIN.out⟩
end Go.Proofs.Ytmdhmpfagekonaa
