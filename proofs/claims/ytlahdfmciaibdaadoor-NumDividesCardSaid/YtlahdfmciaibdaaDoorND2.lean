/- Several texts in one: ST5 ST6 ST7. -/
import Derived.Test.YtlahdfmciaibdaaDoorND1

/- The stable sort's symmetric merge: one on the right. -/
namespace Go.Proofs.YtlahdfmciaibdaaDoor
open Go.RowKit Go.Proofs.YtlahdfmciaibdaaDoor.Stb
set_option linter.unusedVariables false
set_option linter.unusedSimpArgs false

set_option maxRecDepth 100000 in
set_option maxHeartbeats 4000000 in
theorem symMerge_last (B N C K : Nat) (e0 : Value) (V : Int → Prop) (R : Int → Int → Prop) (c : Int → Int → Int) (Kp : World → Prop) (H : Cmp K e0 B V R c Kp) (w0 : World) (h0 : Kp w0) (a m b : Nat) (f : Nat → Int) (w : World)
    (s : SW B N C w0 w f) (ham : a + 1 < m) (hb : b = m + 1) (hbn : b ≤ N) (hN : N ≤ 4611686018427387904) (M : Mrg R V a m (m + 1) f) :
    Calls Tryd.prog 90 #[.slice (some ⟨B, 0, none⟩) N C, .int .i64 a, .int .i64 m, .int .i64 b, .func (.func K) #[] #[e0]] w fun e w' => e = .returned (.tuple #[]) ∧ ∃ g, SW B N C w0 w' g ∧ Pm a b f g ∧ Srt R a b g := by
  have S := Lib.hid s
  have HM := Lib.hid M
  have HH := Lib.hid H
  have H0 := Lib.hid h0
  obtain ⟨d, hd⟩ : ∃ d, d = m - a := ⟨_, rfl⟩
  have e1 : IntKind.i64.wrap ((m : Int) - (a : Int)) = (d : Int) := w64 (by omega) (by omega)
  have d1 : ((d : Int) == 1) = false := by simp; omega
  have e2 : IntKind.i64.wrap ((b : Int) - (m : Int)) = 1 := by rw [show (b : Int) - (m : Int) = 1 by omega]; rfl
  have H1 := Lib.hid (show a + 1 < m ∧ b = m + 1 ∧ b ≤ N from ⟨ham, hb, hbn⟩)
  have HB := Lib.hid (Hlf.begin (p := fun k => R (f m) (f k)) (lo := a) (hi := m) (by omega))
  have MO := Lib.hid (M.mono2 H.tot)
  clear s M H h0 ham hbn hb hd
  go_enter Tryd.func90, Tryd.ntmps90
  go_wp2_with fail
  clear d1 e1 e2
  go_loopw [14, 15] (fun iv jv wr => ∃ i j : Nat, iv = .int .i64 i ∧ jv = .int .i64 j ∧ Hid (Hlf (fun k => R (f m) (f k)) a m i j) ∧ Hid (SW B N C w0 wr f)) (fun iv jv _ => (intOf jv).toNat - (intOf iv).toNat)
  case atStart => exact ⟨a, m, rfl, rfl, HB, S⟩
  case round =>
    obtain ⟨i, j, rfl, rfl, HL, RS⟩ := hrel
    clear HB S
    by_cases t1 : i < j
    · obtain ⟨u, hu⟩ : ∃ u, u = i + j := ⟨_, rfl⟩
      obtain ⟨h, hh⟩ : ∃ h, h = u / 2 := ⟨_, rfl⟩
      have eu : IntKind.i64.wrap ((i : Int) + (j : Int)) = (u : Int) := w64 (by omega) (by have := HL.out.c; have := H1.out; omega)
      have ev : IntKind.u64.wrap (u : Int) = (u : Int) := IntWalk.u64_in _ (by have := HL.out.c; have := H1.out; omega)
      have eh : wrap64 ((u : Int) / 2) = (h : Int) := by
        have := HL.out.c; have := H1.out
        rw [show (u : Int) / 2 = (h : Int) by omega]
        exact IntWalk.wrap64_in _ (by omega)
      have hb : i ≤ h ∧ h < j := by omega
      have h0 : (0 : Int) ≤ (h : Int) := by omega
      have h1 : (h : Int) < (N : Int) := by have := HL.out.c; have := H1.out; omega
      have m0 : (0 : Int) ≤ (m : Int) := by omega
      have m1 : (m : Int) < (N : Int) := by have := H1.out; omega
      have ch := RS.out.cell (show h < N by omega)
      have cm := RS.out.cell (show m < N by omega)
      have vh := HM.out.ok h (by have := HL.out.a; have := H1.out; omega) (by have := HL.out.c; omega)
      have vm := HM.out.ok m (by have := H1.out; omega) (by omega)
      have CN := Lib.hid (HH.out.neg (f h) (f m) vh vm (HM.out.old h m (by have := HL.out.a; omega) (by have := HL.out.c; omega) (Nat.le_refl _) (by omega)))
      have CL := Lib.hid (fun W (st : Below wr.heap.size wr W) => HH.out.call (f m) (f h) W ((RS.out.call st).kp HH.out H0.out) vm vh)
      have UP := Lib.hid (fun nr => HL.out.up MO.out hb.1 hb.2 nr)
      have DN := Lib.hid (fun nr => HL.out.down MO.out hb.1 hb.2 nr)
      obtain ⟨h2, hh2⟩ : ∃ h2, h2 = h + 1 := ⟨_, rfl⟩
      have eh2 : IntKind.i64.wrap ((h : Int) + 1) = (h2 : Int) := w64 (by omega) (by omega)
      have HI := Lib.hid (show i ≤ h ∧ h < j ∧ h2 = h + 1 from ⟨hb.1, hb.2, hh2⟩)
      rw [← hh2] at UP
      have CE := HH.out.ent
      clear vh vm hb hu hh hh2 HL
      by_cases cc : c (f m) (f h) < 0
      · have NX := Lib.hid (DN.out (CN.out.1 cc))
        clear CN UP DN
        generalize c (f m) (f h) = r at *
        generalize f h = p at *
        generalize f m = q at *
        go_wp2_with fail
        go_region_held3 (fun w' => w'.cell? ⟨B, m, none⟩ = some (.int .i64 q) ∧ w'.cell? ⟨B, h, none⟩ = some (.int .i64 p)) (first | exact ⟨cm, ch⟩ | exact ⟨cellDr cm, cellDr ch⟩) (first | ((with_reducible refine (CL.out _ (Below.refl _ _).drew).mono ?_); rintro e w1 ⟨rfl, st⟩; have cm := cellGr st (cellDr cm); have ch := cellGr st (cellDr ch)))
        have RS := Lib.hid (RS.out.drew.call st)
        clear CE CL cm ch st
        generalize w1 = v at RS ⊢
        go_wp2_with fail
        try rw [eh]
        go_roundw
        case rel => exact ⟨i, h, rfl, rfl, NX, RS⟩
        case measure => have := HI.out; simp [intOf]; omega
      · have NX := Lib.hid (UP.out (fun e => cc (CN.out.2 e)))
        have cc2 : decide (c (f m) (f h) < 0) = false := decide_eq_false cc
        clear CN UP DN
        generalize c (f m) (f h) = r at *
        generalize f h = p at *
        generalize f m = q at *
        go_wp2_with fail
        go_region_held3 (fun w' => w'.cell? ⟨B, m, none⟩ = some (.int .i64 q) ∧ w'.cell? ⟨B, h, none⟩ = some (.int .i64 p)) (first | exact ⟨cm, ch⟩ | exact ⟨cellDr cm, cellDr ch⟩) (first | ((with_reducible refine (CL.out _ (Below.refl _ _).drew).mono ?_); rintro e w1 ⟨rfl, st⟩; have cm := cellGr st (cellDr cm); have ch := cellGr st (cellDr ch)))
        have RS := Lib.hid (RS.out.drew.call st)
        clear CE CL cm ch st
        generalize w1 = v at RS ⊢
        go_wp2_with fail
        go_roundw
        case rel => exact ⟨h2, j, by first | rfl | go_num, rfl, NX, RS⟩
        case measure => have := HI.out; simp [intOf]; omega
    · obtain rfl : i = j := by have := HL.out.b; omega
      have HX := Lib.hid (show a ≤ i ∧ i ≤ m by have := HL.out.a; have := HL.out.c; have := H1.out; omega)
      have FIN := Lib.hid (show Srt R a b (rot i m b f) by
        have := HL.out.a; have := HL.out.c; have := H1.out
        rw [H1.out.2.1]
        exact HM.out.down HH.out.tot (by omega) (by omega) (fun k k1 k2 => HL.out.bef k k1 k2) (fun k k1 k2 => HL.out.beh k k1 k2))
      have PIN := Lib.hid (show Pm a b f (rot i m b f) by
        have := HL.out.a; have := HL.out.c; have := H1.out
        exact (Pm.rot f (by omega) (by omega)).mono (by omega) (Nat.le_refl _))
      clear HL MO HM
      go_wp2_with fail
      go_loopw [17] (fun kv wr => ∃ k : Nat, kv = .int .i64 k ∧ i ≤ k ∧ k ≤ m ∧ Hid (SW B N C w0 wr (rot k m b f))) (fun kv _ => (intOf kv).toNat - i)
      case atStart => exact ⟨m, rfl, HX.out.2, Nat.le_refl _, by rw [rot_left (a := m) _ (by have := H1.out; omega)]; exact RS⟩
      case round =>
        obtain ⟨k, rfl, k0, k1, RK⟩ := hrel
        clear RS
        by_cases t2 : i < k
        · obtain ⟨y, hy⟩ : ∃ y, y = k - 1 := ⟨_, rfl⟩
          have ey : IntKind.i64.wrap ((k : Int) - 1) = (y : Int) := w64 (by omega) (by have := HX.out; have := H1.out; omega)
          have lk : k < N := by have := HX.out; have := H1.out; omega
          have ly : y < N := by have := HX.out; have := H1.out; omega
          have x0 : (0 : Int) ≤ (k : Int) := by omega
          have x1 : (k : Int) < (N : Int) := by omega
          have y0 : (0 : Int) ≤ (y : Int) := by omega
          have y1 : (y : Int) < (N : Int) := by omega
          have ky : ¬ k = y := by omega
          have yk : ¬ y = k := by omega
          have NX := Lib.hid (RK.out.swap k y)
          have EQ := Lib.hid (show swp k y (rot k m b f) = rot y m b f by rw [hy, H1.out.2.1]; exact rot_down f (by omega) k1)
          have ck := RK.out.cell lk
          have cy := RK.out.cell ly
          have fk := RK.out.frozen k
          have fy := RK.out.frozen y
          have HY := Lib.hid (show k = y + 1 ∧ i ≤ y ∧ y ≤ m by omega)
          clear RK hy k0 k1 lk ly
          rw [EQ.out] at NX
          generalize rot k m b f k = p at *
          generalize rot k m b f y = q at *
          go_wp2_with fail
          go_region
          have RK := Lib.hid NX.out.drew
          clear NX ck cy fk fy EQ
          generalize ((wr.setCell ⟨B, k, none⟩ (.int .i64 q)).setCell ⟨B, y, none⟩ (.int .i64 p)).drew = v at RK ⊢
          go_wp2_with fail
          go_roundw
          case rel => exact ⟨y, by first | rfl | go_num, by have := HY.out; omega, by have := HY.out; omega, RK⟩
          case measure => have := HY.out; simp [intOf]; omega
        · obtain rfl : k = i := by omega
          go_wp2_with fail
          first | go_ret2 | go_ret | go_returns
          exact ⟨rfl, _, RK.out, PIN.out, FIN.out⟩
end Go.Proofs.YtlahdfmciaibdaaDoor

/- The stable sort's symmetric merge, whole. -/
namespace Go.Proofs.YtlahdfmciaibdaaDoor
open Go.RowKit Go.Proofs.YtlahdfmciaibdaaDoor.Stb
set_option linter.unusedVariables false
set_option linter.unusedSimpArgs false

theorem mid_facts {a b mid : Nat} (h : mid = (a + b) / 2) (ab : a + 1 < b) : a < mid ∧ mid < b ∧ 2 * mid ≤ a + b ∧ a + b ≤ 2 * mid + 1 := by omega
theorem ite_cases {p q : Prop} [Decidable p] [Decidable q] : (¬ p) ∨ (p ∧ ¬ q) ∨ (p ∧ q) := by
  by_cases a : p <;> by_cases b : q <;> simp [a, b]
set_option maxRecDepth 100000 in
set_option maxHeartbeats 8000000 in
theorem symMerge_any (B N C K : Nat) (e0 : Value) (V : Int → Prop) (R : Int → Int → Prop) (c : Int → Int → Int) (Kp : World → Prop) (H : Cmp K e0 B V R c Kp) (w0 : World) (h0 : Kp w0) (hN : N ≤ 4611686018427387903) : ∀ (L a m b : Nat) (f : Nat → Int) (w : World),
    b - a ≤ L → SW B N C w0 w f → a < m → m < b → b ≤ N → Mrg R V a m b f →
    Calls Tryd.prog 90 #[.slice (some ⟨B, 0, none⟩) N C, .int .i64 a, .int .i64 m, .int .i64 b, .func (.func K) #[] #[e0]] w fun e w' => e = .returned (.tuple #[]) ∧ ∃ g, SW B N C w0 w' g ∧ Pm a b f g ∧ Srt R a b g := by
  intro L
  induction L with
  | zero => intro a m b f w hL s am mb; omega
  | succ L ih =>
    intro a m b f w hL s am mb hbn M
    by_cases c1 : m = a + 1
    · subst c1; exact symMerge_one B N C K e0 V R c Kp H w0 h0 a b f w s mb hbn (by omega) M
    by_cases c2 : b = m + 1
    · subst c2; exact symMerge_last B N C K e0 V R c Kp H w0 h0 a m (m + 1) f w s (by omega) rfl hbn (by omega) M
    have IH := Lib.hid ih
    have S := Lib.hid s
    have HM := Lib.hid M
    have HH := Lib.hid H
    have H0 := Lib.hid h0
    clear ih s M H h0
    obtain ⟨d, hd⟩ : ∃ d, d = m - a := ⟨_, rfl⟩
    obtain ⟨d', hd'⟩ : ∃ d', d' = b - m := ⟨_, rfl⟩
    have e1 : IntKind.i64.wrap ((m : Int) - (a : Int)) = (d : Int) := w64 (by omega) (by omega)
    have d1 : ((d : Int) == 1) = false := by simp; omega
    have e2 : IntKind.i64.wrap ((b : Int) - (m : Int)) = (d' : Int) := w64 (by omega) (by omega)
    have d2 : ((d' : Int) == 1) = false := by simp; omega
    obtain ⟨u, hu⟩ : ∃ u, u = a + b := ⟨_, rfl⟩
    obtain ⟨mid, hmid⟩ : ∃ mid, mid = (a + b) / 2 := ⟨_, rfl⟩
    obtain ⟨g1, g2, g3, g4⟩ := mid_facts hmid (by omega)
    have eh : wrap64 ((u : Int) / 2) = (mid : Int) := by
      rw [show (u : Int) / 2 = (mid : Int) by rw [hu, hmid]; rfl]
      exact IntWalk.wrap64_in _ (by omega)
    have HM2 := Lib.hid hmid
    have EH := Lib.hid eh
    clear hmid eh
    obtain ⟨n, hn⟩ : ∃ n, n = mid + m := ⟨_, rfl⟩
    obtain ⟨p, hp⟩ : ∃ p, p = mid + m - 1 := ⟨_, rfl⟩
    have eu : IntKind.i64.wrap ((a : Int) + (b : Int)) = (u : Int) := w64 (by omega) (by omega)
    have ev : IntKind.u64.wrap (u : Int) = (u : Int) := IntWalk.u64_in _ (by omega)
    have en : IntKind.i64.wrap ((mid : Int) + (m : Int)) = (n : Int) := w64 (by omega) (by omega)
    have ep : IntKind.i64.wrap ((n : Int) - 1) = (p : Int) := w64 (by omega) (by omega)
    obtain ⟨lo, hi, hc⟩ : ∃ lo hi, (mid < m ∧ lo = mid + m - b ∧ hi = mid) ∨ (m ≤ mid ∧ lo = a ∧ hi = m) := by
      by_cases c : mid < m
      · exact ⟨_, _, .inl ⟨c, rfl, rfl⟩⟩
      · exact ⟨_, _, .inr ⟨by omega, rfl, rfl⟩⟩
    have HC := Lib.hid hc
    have HB := Lib.hid (show Hlf (fun k => R (f (mid + m - 1 - k)) (f k)) lo hi lo hi from Hlf.begin (by omega))
    have MO := Lib.hid (show ∀ k l, lo ≤ k → k < l → l < hi → R (f (mid + m - 1 - k)) (f k) → R (f (mid + m - 1 - l)) (f l) from HM.out.mono3 HH.out.tot (by omega) (by omega) (by omega) (by omega))
    have H1 := Lib.hid (show a < m ∧ m < b ∧ b ≤ N ∧ (a < mid ∧ mid < b ∧ 2 * mid ≤ a + b ∧ a + b ≤ 2 * mid + 1) ∧ n = mid + m ∧ p = mid + m - 1 ∧ a + 1 < m ∧ m + 1 < b ∧ b - a ≤ L + 1 ∧ N ≤ 4611686018427387903 from ⟨am, mb, hbn, ⟨g1, g2, g3, g4⟩, hn, hp, by omega, by omega, hL, hN⟩)
    have eh := EH.out
    clear EH c1 c2 hd hd' hu hn hp hc hL am mb hbn hN g1 g2 g3 g4
    go_enter Tryd.func90, Tryd.ntmps90
    go_upto_region 25 with fail
    rw [eh]
    clear e1 e2 d1 d2 eu ev eh
    go_upto_if 140 with fail
    go_cut [20, 21] from 141 to 146 (fun v20 v21 wx => v20 = .int .i64 lo ∧ v21 = .int .i64 hi ∧ wx = w)
    case first =>
      rcases HC.out with ⟨k1, k2, k3⟩ | ⟨k1, k2, k3⟩
      · have e3 : IntKind.i64.wrap ((n : Int) - (b : Int)) = (lo : Int) := w64 (by have := H1.out; omega) (by have := H1.out; omega)
        have k4 : decide (mid < m) = true := decide_eq_true k1
        have K3 := Lib.hid k3
        clear k2 k3
        go_wp2_with fail
        go_meet
        exact ⟨rfl, by rw [K3.out], rfl⟩
      · have k5 : ¬ mid < m := by omega
        have K2 := Lib.hid k2
        have K3 := Lib.hid k3
        clear k2 k3
        go_wp2_with fail
        go_meet
        exact ⟨by rw [K2.out], by rw [K3.out], rfl⟩
    case rest =>
      obtain ⟨rfl, rfl, rfl⟩ := hcut
      clear en
      go_wp2_with fail
      clear ep
      go_loopw [20, 21] (fun iv jv wr => ∃ i j : Nat, iv = .int .i64 i ∧ jv = .int .i64 j ∧ Hid (Hlf (fun k => R (f (mid + m - 1 - k)) (f k)) lo hi i j) ∧ Hid (SW B N C w0 wr f)) (fun iv jv _ => (intOf jv).toNat - (intOf iv).toNat)
      case atStart => exact ⟨lo, hi, rfl, rfl, HB, S⟩
      case round =>
        obtain ⟨i, j, rfl, rfl, HL, RS⟩ := hrel
        clear HB S
        by_cases t1 : i < j
        · obtain ⟨u, hu⟩ : ∃ u, u = i + j := ⟨_, rfl⟩
          obtain ⟨h, hh⟩ : ∃ h, h = u / 2 := ⟨_, rfl⟩
          obtain ⟨x, hx⟩ : ∃ x, x = mid + m - 1 - h := ⟨_, rfl⟩
          have hb : i ≤ h ∧ h < j := by omega
          obtain ⟨s1, s2, s3, s4, s5, s6⟩ : h < m ∧ a ≤ h ∧ m ≤ x ∧ x < b ∧ h ≤ p ∧ x = p - h := by
            obtain ⟨q1, q2, q3, ⟨q4, q5, q6, q7⟩, q8, q9, q10, q11, q12, q13⟩ := H1.out
            have r1 := HL.out.a
            have r2 := HL.out.c
            clear hu hh
            rcases HC.out with ⟨k1, k2, k3⟩ | ⟨k1, k2, k3⟩ <;> omega
          have hjN : j ≤ N ∧ b ≤ N ∧ N ≤ 4611686018427387903 := by
            obtain ⟨q1, q2, q3, ⟨q4, q5, q6, q7⟩, q8, q9, q10, q11, q12, q13⟩ := H1.out
            have r2 := HL.out.c
            clear hu hh
            rcases HC.out with ⟨k1, k2, k3⟩ | ⟨k1, k2, k3⟩ <;> omega
          obtain ⟨jN, bN, NN⟩ := hjN
          have eu : IntKind.i64.wrap ((i : Int) + (j : Int)) = (u : Int) := w64 (by omega) (by omega)
          have ev : IntKind.u64.wrap (u : Int) = (u : Int) := IntWalk.u64_in _ (by omega)
          have eh : wrap64 ((u : Int) / 2) = (h : Int) := by
            rw [show (u : Int) / 2 = (h : Int) by rw [hh]; rfl]
            exact IntWalk.wrap64_in _ (by omega)
          have EH := Lib.hid eh
          clear eh
          have ex : IntKind.i64.wrap ((p : Int) - (h : Int)) = (x : Int) := w64 (by omega) (by omega)
          have h0 : (0 : Int) ≤ (h : Int) := by omega
          have h1 : (h : Int) < (N : Int) := by omega
          have x0 : (0 : Int) ≤ (x : Int) := by omega
          have x1 : (x : Int) < (N : Int) := by omega
          have ch := RS.out.cell (show h < N by omega)
          have cx := RS.out.cell (show x < N by omega)
          have vh := HM.out.ok h s2 (by omega)
          have vx := HM.out.ok x (by omega) s4
          have CN := Lib.hid (HH.out.neg (f h) (f x) vh vx (HM.out.old h x s2 s1 s3 s4))
          have CL := Lib.hid (fun W (st : Below wr.heap.size wr W) => HH.out.call (f x) (f h) W ((RS.out.call st).kp HH.out H0.out) vx vh)
          have UP := Lib.hid (fun nr => HL.out.up MO.out hb.1 hb.2 nr)
          have DN := Lib.hid (fun nr => HL.out.down MO.out hb.1 hb.2 nr)
          simp only [← hx] at UP DN
          obtain ⟨h2, hh2⟩ : ∃ h2, h2 = h + 1 := ⟨_, rfl⟩
          have eh2 : IntKind.i64.wrap ((h : Int) + 1) = (h2 : Int) := w64 (by omega) (by omega)
          have HI := Lib.hid (show i ≤ h ∧ h < j ∧ h2 = h + 1 from ⟨hb.1, hb.2, hh2⟩)
          rw [← hh2] at UP
          have CE := HH.out.ent
          have eh := EH.out
          clear EH vh vx hb hu hh hh2 HL hx s1 s2 s3 s4 s5 s6 jN bN NN
          by_cases cc : c (f x) (f h) < 0
          · have NX := Lib.hid (DN.out (CN.out.1 cc))
            have cc2 : decide (c (f x) (f h) < 0) = true := decide_eq_true cc
            clear CN UP DN
            generalize c (f x) (f h) = r at *
            generalize f h = p1 at *
            generalize f x = p2 at *
            go_wp2_with fail
            go_region_held3 (fun w' => w'.cell? ⟨B, x, none⟩ = some (.int .i64 p2) ∧ w'.cell? ⟨B, h, none⟩ = some (.int .i64 p1)) (first | exact ⟨cx, ch⟩ | exact ⟨cellDr cx, cellDr ch⟩) (first | ((with_reducible refine (CL.out _ (Below.refl _ _).drew).mono ?_); rintro e w1 ⟨rfl, st⟩; have cx := cellGr st (cellDr cx); have ch := cellGr st (cellDr ch)))
            have RS := Lib.hid (RS.out.drew.call st)
            clear CE CL cx ch st
            generalize w1 = v at RS ⊢
            go_wp2_with fail
            try rw [eh]
            clear eh ex eu ev eh2
            go_roundw
            case rel => exact ⟨i, h, rfl, rfl, NX, RS⟩
            case measure => have := HI.out; simp [intOf]; omega
          · have NX := Lib.hid (UP.out (fun e => cc (CN.out.2 e)))
            have cc2 : decide (c (f x) (f h) < 0) = false := decide_eq_false cc
            clear CN UP DN
            generalize c (f x) (f h) = r at *
            generalize f h = p1 at *
            generalize f x = p2 at *
            go_wp2_with fail
            go_region_held3 (fun w' => w'.cell? ⟨B, x, none⟩ = some (.int .i64 p2) ∧ w'.cell? ⟨B, h, none⟩ = some (.int .i64 p1)) (first | exact ⟨cx, ch⟩ | exact ⟨cellDr cx, cellDr ch⟩) (first | ((with_reducible refine (CL.out _ (Below.refl _ _).drew).mono ?_); rintro e w1 ⟨rfl, st⟩; have cx := cellGr st (cellDr cx); have ch := cellGr st (cellDr ch)))
            have RS := Lib.hid (RS.out.drew.call st)
            clear CE CL cx ch st
            generalize w1 = v at RS ⊢
            go_wp2_with fail
            clear eh ex eu ev
            go_roundw
            case rel => exact ⟨h2, j, by first | rfl | go_num, rfl, NX, RS⟩
            case measure => have := HI.out; simp [intOf]; omega
        · obtain rfl : i = j := by have := HL.out.b; omega
          obtain ⟨q1, q2, q3, ⟨q4, q5, q6, q7⟩, q8, q9, q10, q11, q12, q13⟩ := H1.out
          have CT := Lib.hid (HL.out.cut q1 q2 HM2.out HC.out)
          obtain ⟨e, he⟩ : ∃ e, e = mid + m - i := ⟨_, rfl⟩
          obtain ⟨g, hg⟩ : ∃ g, g = rot i m e f := ⟨_, rfl⟩
          have PT := Lib.hid (CT.out.parts HH.out.tot HM.out q4 q5)
          rw [← he, ← hg] at PT
          obtain ⟨r1, r2, r3, r4, -, -⟩ := CT.out
          have FIN := Lib.hid (fun g1 g2 p1 s1 p2 s2 => CT.out.whole (g1 := g1) (g2 := g2) HH.out.tot HM.out q4 q5 p1 s1 p2 s2)
          rw [← he, ← hg] at FIN
          have ee : IntKind.i64.wrap ((n : Int) - (i : Int)) = (e : Int) := w64 (by omega) (by omega)
          have F1 := Lib.hid (show a ≤ i ∧ i ≤ m ∧ i ≤ mid ∧ e ≤ b ∧ m ≤ e ∧ mid ≤ e ∧ a < mid ∧ mid < b ∧ b ≤ N ∧ N ≤ 4611686018427387904 ∧ mid - a ≤ L ∧ b - mid ≤ L by
            refine ⟨r1, r2, r3, by omega, by omega, by omega, q4, q5, q3, by omega, by omega, by omega⟩)
          have HG := Lib.hid hg
          clear q1 q2 q3 q4 q5 q6 q7 q8 q9 q10 q11 q12 q13 r1 r2 r3 r4 HL MO he hg CT
          obtain ⟨t1b, ht1b⟩ : ∃ t1b, t1b = decide (i < m ∧ m < e) := ⟨_, rfl⟩
          have Ht1b := Lib.hid ht1b
          clear ht1b
          go_upto_region 39 with fail
          clear ee
          go_cut [185] from 178 to 185 (fun v wx => v = .bool t1b ∧ wx = wr)
          case first =>
            rcases ite_cases (p := i < m) (q := m < e) with k | ⟨k, l⟩ | ⟨k, l⟩
            · have HZ := Lib.hid (show t1b = false from by rw [Ht1b.out]; simp [k])
              have k2 : decide (i < m) = false := decide_eq_false k
              go_wp2_with fail
              go_meet
              exact ⟨by rw [HZ.out], rfl⟩
            · have HZ := Lib.hid (show t1b = false from by rw [Ht1b.out]; simp [k, l])
              have k2 : decide (i < m) = true := decide_eq_true k
              have l2 : decide (m < e) = false := decide_eq_false l
              go_wp2_with fail
              go_meet
              exact ⟨by rw [HZ.out], rfl⟩
            · have HZ := Lib.hid (show t1b = true from by rw [Ht1b.out]; simp [k, l])
              have k2 : decide (i < m) = true := decide_eq_true k
              have l2 : decide (m < e) = true := decide_eq_true l
              go_wp2_with fail
              go_meet
              exact ⟨by rw [HZ.out], rfl⟩
          case rest =>
            obtain ⟨rfl, hw⟩ := hcut
            subst hw
            go_upto_if 185 with fail
            go_cut [] from 178 to 191 (fun wx => Hid (SW B N C w0 wx g))
            case first =>
              cases t1b with
              | true =>
                have k := of_decide_eq_true (Ht1b.out).symm
                have CC := Lib.hid (rotate_any B N C i m e f w0 _ RS.out k.1 k.2 (by have := F1.out; omega) (by have := F1.out; omega) (.func (.func K) #[] #[e0]))
                rw [← HG.out] at CC
                clear k
                go_wp2_with fail
                refine CC.out.mono ?_
                rintro e' w' ⟨rfl, RG⟩
                have RG := Lib.hid RG
                go_wp2_with fail
                go_meet
                exact RG
              | false =>
                have k := of_decide_eq_false (Ht1b.out).symm
                have RG := Lib.hid (show g = f by
                    rw [HG.out]
                    have := F1.out
                    by_cases c1 : i = m
                    · rw [c1]; exact rot_left (a := m) f (by omega)
                    · rw [show e = m by omega]; exact rot_right f (by omega))
                clear k
                go_wp2_with fail
                go_meet
                rw [RG.out]; exact RS
            case rest =>
              have RG := hcut
              clear RS hcut HG
              obtain ⟨t2b, ht2b⟩ : ∃ t2b, t2b = decide (a < i ∧ i < mid) := ⟨_, rfl⟩
              have Ht2b := Lib.hid ht2b
              clear ht2b
              go_upto_region 41 with fail
              go_cut [199] from 192 to 199 (fun v wx => v = .bool t2b ∧ wx = wc)
              case first =>
                rcases ite_cases (p := a < i) (q := i < mid) with k | ⟨k, l⟩ | ⟨k, l⟩
                · have HZ := Lib.hid (show t2b = false from by rw [Ht2b.out]; simp [k])
                  have k2 : decide (a < i) = false := decide_eq_false k
                  go_wp2_with fail
                  go_meet
                  exact ⟨by rw [HZ.out], rfl⟩
                · have HZ := Lib.hid (show t2b = false from by rw [Ht2b.out]; simp [k, l])
                  have k2 : decide (a < i) = true := decide_eq_true k
                  have l2 : decide (i < mid) = false := decide_eq_false l
                  go_wp2_with fail
                  go_meet
                  exact ⟨by rw [HZ.out], rfl⟩
                · have HZ := Lib.hid (show t2b = true from by rw [Ht2b.out]; simp [k, l])
                  have k2 : decide (a < i) = true := decide_eq_true k
                  have l2 : decide (i < mid) = true := decide_eq_true l
                  go_wp2_with fail
                  go_meet
                  exact ⟨by rw [HZ.out], rfl⟩
              case rest =>
                obtain ⟨rfl, hw⟩ := hcut
                subst hw
                go_upto_if 199 with fail
                go_cut [] from 192 to 205 (fun wx => Hid (∃ g1, SW B N C w0 wx g1 ∧ Pm a mid g g1 ∧ Srt R a mid g1))
                case first =>
                  cases t2b with
                  | true =>
                    have k := of_decide_eq_true (Ht2b.out).symm
                    have CC := Lib.hid (IH.out a i mid g _ (by have := F1.out; omega) RG.out k.1 k.2 (by have := F1.out; omega) PT.out.1)
                    clear k
                    go_wp2_with fail
                    refine CC.out.mono ?_
                    rintro e' w' ⟨rfl, R2⟩
                    have R2 := Lib.hid R2
                    go_wp2_with fail
                    go_meet
                    exact R2
                  | false =>
                    have k := of_decide_eq_false (Ht2b.out).symm
                    have R2 := Lib.hid (show Srt R a mid g by
                      have := F1.out
                      by_cases c1 : i = a
                      · have := PT.out.1.s2; rw [c1] at this; exact this
                      · have := PT.out.1.s1; rw [show i = mid by omega] at this; exact this)
                    clear k
                    go_wp2_with fail
                    go_meet
                    exact Lib.hid ⟨g, RG.out, Pm.refl _ _ _, R2.out⟩
                case rest =>
                  obtain ⟨g1, hS, hP, hR⟩ := hcut.out
                  have S1 := Lib.hid hS
                  have P1 := Lib.hid hP
                  have R1 := Lib.hid hR
                  have M2 := Lib.hid (PT.out.2.1.congr (g := g1) (by have := F1.out; omega) (by have := F1.out; omega) (fun k k1 k2 => hP.out (.inr k1)))
                  clear hS hP hR hcut RG PT
                  obtain ⟨t3b, ht3b⟩ : ∃ t3b, t3b = decide (mid < e ∧ e < b) := ⟨_, rfl⟩
                  have Ht3b := Lib.hid ht3b
                  clear ht3b
                  go_upto_region 43 with fail
                  go_cut [213] from 206 to 213 (fun v wx => v = .bool t3b ∧ wx = wc)
                  case first =>
                    rcases ite_cases (p := mid < e) (q := e < b) with k | ⟨k, l⟩ | ⟨k, l⟩
                    · have HZ := Lib.hid (show t3b = false from by rw [Ht3b.out]; simp [k])
                      have k2 : decide (mid < e) = false := decide_eq_false k
                      go_wp2_with fail
                      go_meet
                      exact ⟨by rw [HZ.out], rfl⟩
                    · have HZ := Lib.hid (show t3b = false from by rw [Ht3b.out]; simp [k, l])
                      have k2 : decide (mid < e) = true := decide_eq_true k
                      have l2 : decide (e < b) = false := decide_eq_false l
                      go_wp2_with fail
                      go_meet
                      exact ⟨by rw [HZ.out], rfl⟩
                    · have HZ := Lib.hid (show t3b = true from by rw [Ht3b.out]; simp [k, l])
                      have k2 : decide (mid < e) = true := decide_eq_true k
                      have l2 : decide (e < b) = true := decide_eq_true l
                      go_wp2_with fail
                      go_meet
                      exact ⟨by rw [HZ.out], rfl⟩
                  case rest =>
                    obtain ⟨rfl, hw⟩ := hcut
                    subst hw
                    cases t3b with
                    | true =>
                      have k := of_decide_eq_true (Ht3b.out).symm
                      have CC := Lib.hid (IH.out mid e b g1 _ (by have := F1.out; omega) S1.out k.1 k.2 (by have := F1.out; omega) M2.out)
                      clear k
                      go_wp2_with fail
                      refine CC.out.mono ?_
                      rintro e' w' ⟨rfl, g2, S2, P2, R2⟩
                      have S2 := Lib.hid S2
                      have F2 := Lib.hid (FIN.out g1 g2 P1.out R1.out P2 R2)
                      clear P2 R2
                      go_wp2_with fail
                      go_end0
                      exact ⟨rfl, g2, S2.out, F2.out⟩
                    | false =>
                      have k := of_decide_eq_false (Ht3b.out).symm
                      have F2 := Lib.hid (FIN.out g1 g1 P1.out R1.out (Pm.refl _ _ _) (by
                        have := F1.out
                        by_cases c1 : e = mid
                        · have := M2.out.s2; rw [c1] at this; exact this
                        · have := M2.out.s1; rw [show e = b by omega] at this; exact this))
                      clear k
                      go_wp2_with fail
                      go_end0
                      exact ⟨rfl, g1, S1.out, F2.out⟩
end Go.Proofs.YtlahdfmciaibdaaDoor

/- The stable sort, whole: a row that holds its own places comes out in order. -/
namespace Go.Proofs.YtlahdfmciaibdaaDoor
open Go.RowKit Go.Proofs.YtlahdfmciaibdaaDoor.Stb
set_option linter.unusedVariables false
set_option linter.unusedSimpArgs false

theorem own_id {a b : Nat} {g : Nat → Int} (h : ∀ k, a ≤ k → k < b → g k = k) : Own a b g := fun k k1 k2 => by rw [h k k1 k2]; omega
/-- What the runs of the sort keep. -/
structure Run (R : Int → Int → Prop) (V : Int → Prop) (N : Nat) (f g : Nat → Int) : Prop where
  pm : Pm 0 N f g
  ok : ∀ k, k < N → V (g k)
theorem Run.more {R : Int → Int → Prop} {V : Int → Prop} {N a b : Nat} {f g h : Nat → Int} (r : Run R V N f g) (p : Pm a b g h) (hb : b ≤ N) : Run R V N f h :=
  ⟨r.pm.trans (p.mono (by omega) hb), fun k hk => by
    by_cases c : a ≤ k ∧ k < b
    · obtain ⟨j, j1, j2, e⟩ := p.src c.1 c.2
      rw [e]; exact r.ok j (by omega)
    · rw [p.out (by omega)]; exact r.ok k hk⟩

set_option maxRecDepth 100000 in
set_option maxHeartbeats 4000000 in
theorem stable_any (B N C K : Nat) (e0 : Value) (V : Int → Prop) (R : Int → Int → Prop) (c : Int → Int → Int) (Kp : World → Prop) (H : Cmp K e0 B V R c Kp) (w0 : World) (h0 : Kp w0) (f : Nat → Int) (w : World)
    (s : SW B N C w0 w f) (hN : N ≤ 1152921504606846976) (hf : ∀ k, k < N → f k = k) (hv : ∀ k : Nat, k < N → V k) :
    Calls Tryd.prog 62 #[.slice (some ⟨B, 0, none⟩) N C, .int .i64 N, .func (.func K) #[] #[e0]] w fun e w' => e = .returned (.tuple #[]) ∧ ∃ g, SW B N C w0 w' g ∧ Pm 0 N f g ∧ Srt R 0 N g := by
  have S := Lib.hid s
  have HF := Lib.hid hf
  have HV := Lib.hid hv
  have RN := Lib.hid (show Run R V N f f from ⟨Pm.refl _ _ _, fun k hk => by rw [hf k hk]; exact hv k hk⟩)
  have INS := Lib.hid (fun a b g w => insertion_any B N C K e0 V R c Kp H w0 h0 a b g w)
  have SYM := Lib.hid (fun a m b g w => symMerge_any B N C K e0 V R c Kp H w0 h0 (by omega) (b - a) a m b g w (Nat.le_refl _))
  have HN := Lib.hid hN
  clear s hf hv H h0
  go_enter Tryd.func62, Tryd.ntmps62
  go_wp2_with fail
  go_loopw [7, 8] (fun av bv wr => ∃ (a b : Nat) (g : Nat → Int), b = a + 20 ∧ a ≤ N ∧ av = .int .i64 a ∧ bv = .int .i64 b ∧ Hid (SW B N C w0 wr g ∧ Run R V N f g ∧ Pre R 20 g a ∧ ∀ k, a ≤ k → k < N → g k = k)) (fun av _ _ => N - (intOf av).toNat)
  case atStart => exact ⟨0, 20, f, rfl, Nat.zero_le _, rfl, rfl, Lib.hid ⟨S.out, RN.out, .nil, fun k _ hk => HF.out k hk⟩⟩
  case round =>
    obtain ⟨a, b, g, hb, ha, rfl, rfl, G⟩ := hrel
    clear S RN
    by_cases t1 : b ≤ N
    · obtain ⟨b2, hb2⟩ : ∃ b2, b2 = b + 20 := ⟨_, rfl⟩
      have eb : IntKind.i64.wrap ((b : Int) + 20) = (b2 : Int) := w64 (by omega) (by omega)
      have CC := Lib.hid (INS.out a b g _ G.out.1 (by omega) t1 (by omega) (fun k k1 k2 => G.out.2.2.2 k k1 (by omega)) (fun k k1 k2 => HV.out k (by omega)))
      have HB := Lib.hid (show b = a + 20 ∧ b ≤ N ∧ b2 = b + 20 from ⟨hb, t1, hb2⟩)
      clear hb ha hb2
      go_wp2_with fail
      refine CC.out.mono ?_
      rintro e v ⟨rfl, h, S1, P1, R1⟩
      have G2 := Lib.hid (show SW B N C w0 v h ∧ Run R V N f h ∧ Pre R 20 h b ∧ ∀ k, b ≤ k → k < N → h k = k by
        obtain ⟨q1, q2, q3⟩ := HB.out
        refine ⟨S1, G.out.2.1.more P1 q2, ?_, fun k k1 k2 => by rw [P1.out (.inr k1)]; exact G.out.2.2.2 k (by omega) k2⟩
        rw [q1] at P1 R1 ⊢
        exact .snoc (G.out.2.2.1.congr fun k hk => P1.out (.inl hk)) R1 ((own_id (fun k k1 k2 => G.out.2.2.2 k k1 (by omega))).pm P1))
      clear CC S1 P1 R1 G
      go_wp2_with fail
      clear eb
      go_roundw
      case rel => exact ⟨b, b2, h, by have := HB.out; omega, by have := HB.out; omega, rfl, by first | rfl | go_num, G2⟩
      case measure => have := HB.out; simp [intOf]; omega
    · have CC := Lib.hid (INS.out a N g _ G.out.1 ha (Nat.le_refl _) (by omega) (fun k k1 k2 => G.out.2.2.2 k k1 k2) (fun k k1 k2 => HV.out k k2))
      have HB := Lib.hid (show a ≤ N ∧ N ≤ a + 20 by omega)
      clear hb ha
      go_wp2_with fail
      refine CC.out.mono ?_
      rintro e v ⟨rfl, h, S1, P1, R1⟩
      have G2 := Lib.hid (show SW B N C w0 v h ∧ Run R V N f h ∧ Chain R 20 N h 0 by
        obtain ⟨q1, q2⟩ := HB.out
        exact ⟨S1, G.out.2.1.more P1 (Nat.le_refl _), Pre.chain (G.out.2.2.1.congr fun k hk => P1.out (.inl hk)) q1 (by omega) (Chain.wide R1 ((own_id (fun k k1 k2 => G.out.2.2.2 k k1 k2)).pm P1) q2)⟩)
      clear CC S1 P1 R1 G INS HV HF HB t1
      go_wp2_with fail
      go_loopw [6] (fun sv wr => ∃ (bs : Nat) (g : Nat → Int), 0 < bs ∧ sv = .int .i64 bs ∧ Hid (SW B N C w0 wr g ∧ Run R V N f g ∧ Chain R bs N g 0)) (fun sv _ => N - (intOf sv).toNat)
      case atStart => exact ⟨20, h, by omega, rfl, G2⟩
      case round =>
        obtain ⟨bs, g2, bs0, rfl, G⟩ := hrel
        clear G2
        by_cases t2 : bs < N
        · obtain ⟨bb, hbb⟩ : ∃ bb, bb = 2 * bs := ⟨_, rfl⟩
          have e2 : IntKind.i64.wrap (2 * (bs : Int)) = (bb : Int) := w64 (by omega) (by omega)
          have e3 : IntKind.i64.wrap ((bs : Int) * 2) = (bb : Int) := w64 (by omega) (by omega)
          have HB := Lib.hid (show bb = 2 * bs ∧ 0 < bs ∧ bs < N ∧ N ≤ 1152921504606846976 from ⟨hbb, bs0, t2, hN⟩)
          have E2 := Lib.hid e2
          have E3 := Lib.hid e3
          clear hbb bs0 e3 hN
          go_wp2_with fail
          clear e2
          go_loopw [7, 8] (fun av bv wr => ∃ (a b : Nat) (g : Nat → Int), av = .int .i64 a ∧ bv = .int .i64 b ∧ Hid (b = a + bb ∧ a ≤ N) ∧ Hid (SW B N C w0 wr g ∧ Run R V N f g ∧ Pre R bb g a ∧ Chain R bs N g a)) (fun av _ _ => N - (intOf av).toNat)
          case atStart => exact ⟨0, bb, g2, rfl, rfl, Lib.hid ⟨by omega, by omega⟩, Lib.hid ⟨G.out.1, G.out.2.1, .nil, G.out.2.2⟩⟩
          case round =>
            obtain ⟨a, b, g, rfl, rfl, HA, GG⟩ := hrel
            clear G
            by_cases t3 : b ≤ N
            · obtain ⟨m, hm⟩ : ∃ m, m = a + bs := ⟨_, rfl⟩
              obtain ⟨b2, hb2⟩ : ∃ b2, b2 = b + bb := ⟨_, rfl⟩
              have em : IntKind.i64.wrap ((a : Int) + (bs : Int)) = (m : Int) := w64 (by omega) (by have := HA.out; have := HB.out; omega)
              have eb : IntKind.i64.wrap ((b : Int) + (bb : Int)) = (b2 : Int) := w64 (by omega) (by have := HA.out; have := HB.out; omega)
              have TW := Lib.hid (GG.out.2.2.2.two (by have := HA.out; have := HB.out; omega) HB.out.2.1)
              have MG := Lib.hid (show Mrg R V a m b g by
                obtain ⟨q1, q2, q3, q4, q5⟩ := TW.out
                obtain ⟨p1, p2⟩ := HA.out
                obtain ⟨o1, o2, o3, o4⟩ := HB.out
                rw [← o1, ← p1, ← hm] at q3 q4
                rw [← hm] at q1 q2
                exact Mrg.of q1 q2 q3 q4 (fun k k1 k2 => GG.out.2.1.ok k (by omega)))
              have CC := Lib.hid (SYM.out a m b g _ GG.out.1 (by have := HB.out; omega) (by have := HA.out; have := HB.out; omega) t3 MG.out)
              have HC := Lib.hid (show b2 = b + bb ∧ b ≤ N ∧ a < m ∧ m < b from ⟨hb2, t3, by have := HB.out; omega, by have := HA.out; have := HB.out; omega⟩)
              have e2 := E2.out
              clear hb2 hm
              go_wp2_with fail
              refine CC.out.mono ?_
              rintro e v ⟨rfl, h, S1, P1, R1⟩
              have G2 := Lib.hid (show SW B N C w0 v h ∧ Run R V N f h ∧ Pre R bb h b ∧ Chain R bs N h b by
                obtain ⟨q1, q2, q3, q4, q5⟩ := TW.out
                obtain ⟨p1, p2⟩ := HA.out
                obtain ⟨o1, o2, o3, o4⟩ := HB.out
                obtain ⟨n1, n2, n3, n4⟩ := HC.out
                rw [← o1, ← p1] at q3 q4 q5
                have ow := Own.pm (q2.join q4 (by omega) (by omega)) P1
                refine ⟨S1, GG.out.2.1.more P1 n2, ?_, q5.congr fun k hk => P1.out (.inr hk)⟩
                rw [p1] at P1 R1 ow ⊢
                exact .snoc (GG.out.2.2.1.congr fun k hk => P1.out (.inl hk)) R1 ow)
              clear CC S1 P1 R1 GG TW MG
              go_wp2_with fail
              clear e2 em eb
              go_roundw
              case rel => exact ⟨b, b2, h, rfl, by first | rfl | go_num, Lib.hid ⟨HC.out.1, HC.out.2.1⟩, G2⟩
              case measure => have := HC.out; simp [intOf]; omega
            · obtain ⟨m, hm⟩ : ∃ m, m = a + bs := ⟨_, rfl⟩
              have em : IntKind.i64.wrap ((a : Int) + (bs : Int)) = (m : Int) := w64 (by omega) (by have := HA.out; have := HB.out; omega)
              have e3 := E3.out
              by_cases t4 : m < N
              · have TW := Lib.hid (GG.out.2.2.2.last (by omega) (by have := HA.out; have := HB.out; omega))
                rw [← hm] at TW
                have MG := Lib.hid (show Mrg R V a m N g from Mrg.of TW.out.1 TW.out.2.1 TW.out.2.2.1 TW.out.2.2.2 (fun k k1 k2 => GG.out.2.1.ok k k2))
                have CC := Lib.hid (SYM.out a m N g _ GG.out.1 (by have := HB.out; omega) t4 (Nat.le_refl _) MG.out)
                have HC := Lib.hid (show a < m ∧ m < N ∧ N ≤ a + bb ∧ a ≤ N by have := HA.out; have := HB.out; omega)
                clear hm
                go_wp2_with fail
                refine CC.out.mono ?_
                rintro e v ⟨rfl, h, S1, P1, R1⟩
                have G2 := Lib.hid (show SW B N C w0 v h ∧ Run R V N f h ∧ Chain R bb N h 0 by
                  obtain ⟨n1, n2, n3, n4⟩ := HC.out
                  exact ⟨S1, GG.out.2.1.more P1 (Nat.le_refl _), Pre.chain (GG.out.2.2.1.congr fun k hk => P1.out (.inl hk)) n4 (by have := HB.out; omega) (Chain.wide R1 ((TW.out.2.1.join TW.out.2.2.2 (by omega) (by omega)).pm P1) n3)⟩)
                clear CC S1 P1 R1 GG TW MG
                go_wp2_with fail
                clear e3 em
                go_roundw
                case rel => exact ⟨bb, h, by have := HB.out; omega, by first | rfl | go_num, G2⟩
                case measure => have := HB.out; simp [intOf]; omega
              · have G2 := Lib.hid (show Run R V N f g ∧ Chain R bb N g 0 by
                  refine ⟨GG.out.2.1, Pre.chain GG.out.2.2.1 (by have := HA.out; omega) (by have := HB.out; omega) ?_⟩
                  by_cases c : a < N
                  · obtain ⟨q1, q2⟩ := GG.out.2.2.2.one c (by omega)
                    exact Chain.wide q1 q2 (by have := HA.out; have := HB.out; omega)
                  · exact .stop (by omega))
                have S1 := Lib.hid GG.out.1
                clear hm GG
                go_wp2_with fail
                clear e3 em
                go_roundw
                case rel => exact ⟨bb, g, by have := HB.out; omega, by first | rfl | go_num, Lib.hid ⟨S1.out, G2.out.1, G2.out.2⟩⟩
                case measure => have := HB.out; simp [intOf]; omega
        · go_wp2_with fail
          go_end0
          refine ⟨rfl, g2, G.out.1, G.out.2.1.pm, ?_⟩
          by_cases c : 0 < N
          · exact (G.out.2.2.one c (by omega)).1
          · exact fun p q h1 h2 h3 => by omega

set_option maxRecDepth 100000 in
theorem sortStable_any (B N C K : Nat) (e0 : Value) (V : Int → Prop) (R : Int → Int → Prop) (c : Int → Int → Int) (Kp : World → Prop) (H : Cmp K e0 B V R c Kp) (w0 : World) (h0 : Kp w0) (f : Nat → Int) (w : World)
    (s : SW B N C w0 w f) (hN : N ≤ 1152921504606846976) (hf : ∀ k, k < N → f k = k) (hv : ∀ k : Nat, k < N → V k) :
    Calls Tryd.prog 25 #[.slice (some ⟨B, 0, none⟩) N C, .func (.func K) #[] #[e0]] w fun e w' => e = .returned (.tuple #[]) ∧ ∃ g, SW B N C w0 w' g ∧ Pm 0 N f g ∧ Srt R 0 N g := by
  have CC := Lib.hid (stable_any B N C K e0 V R c Kp H w0 h0 f w s hN hf hv)
  clear s hf hv H h0
  go_enter Tryd.func25, Tryd.ntmps25
  go_wp2_with fail
  refine CC.out.mono ?_
  rintro e v ⟨rfl, Q⟩
  have Q := Lib.hid Q
  clear CC
  go_wp2_with fail
  go_end0
  exact ⟨rfl, Q.out⟩
end Go.Proofs.YtlahdfmciaibdaaDoor
