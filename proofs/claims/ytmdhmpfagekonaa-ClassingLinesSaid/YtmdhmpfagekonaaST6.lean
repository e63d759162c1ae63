/- The stable sort's symmetric merge, whole. -/
import Derived.Test.YtmdhmpfagekonaaST5
namespace Go.Proofs.Ytmdhmpfagekonaa
open Go.RowKit Go.Proofs.Ytmdhmpfagekonaa.Stb
set_option linter.unusedVariables false
set_option linter.unusedSimpArgs false

theorem mid_facts {a b mid : Nat} (h : mid = (a + b) / 2) (ab : a + 1 < b) : a < mid ∧ mid < b ∧ 2 * mid ≤ a + b ∧ a + b ≤ 2 * mid + 1 := by omega
theorem ite_cases {p q : Prop} [Decidable p] [Decidable q] : (¬ p) ∨ (p ∧ ¬ q) ∨ (p ∧ q) := by
  by_cases a : p <;> by_cases b : q <;> simp [a, b]
set_option maxRecDepth 100000 in
set_option maxHeartbeats 8000000 in
theorem symMerge_any (B N C K : Nat) (e0 : Value) (V : Int → Prop) (R : Int → Int → Prop) (c : Int → Int → Int) (Kp : World → Prop) (H : Cmp K e0 B V R c Kp) (w0 : World) (h0 : Kp w0) (hN : N ≤ 4611686018427387903) : ∀ (L a m b : Nat) (f : Nat → Int) (w : World),
    b - a ≤ L → SW B N C w0 w f → a < m → m < b → b ≤ N → Mrg R V a m b f →
    Calls Try.prog 67 #[.slice (some ⟨B, 0, none⟩) N C, .int .i64 a, .int .i64 m, .int .i64 b, .func (.func K) #[] #[e0]] w fun e w' => e = .returned (.tuple #[]) ∧ ∃ g, SW B N C w0 w' g ∧ Pm a b f g ∧ Srt R a b g := by
  intro L
  induction L with
  | zero => intro a m b f w hL s am mb; omega
  | succ L ih =>
    intro a m b f w hL s am mb hbn M
    by_cases c1 : m = a + 1
    · subst c1; exact symMerge_one B N C K e0 V R c Kp H w0 h0 a b f w s mb hbn (by omega) M
    by_cases c2 : b = m + 1
    · subst c2; exact symMerge_last B N C K e0 V R c Kp H w0 h0 a m (m + 1) f w s (by omega) rfl hbn (by omega) M
    have IH := Lib.hid ih
    have S := Lib.hid s
    have HM := Lib.hid M
    have HH := Lib.hid H
    have H0 := Lib.hid h0
    clear ih s M H h0
    obtain ⟨d, hd⟩ : ∃ d, d = m - a := ⟨_, rfl⟩
    obtain ⟨d', hd'⟩ : ∃ d', d' = b - m := ⟨_, rfl⟩
    have e1 : IntKind.i64.wrap ((m : Int) - (a : Int)) = (d : Int) := w64 (by omega) (by omega)
    have d1 : ((d : Int) == 1) = false := by simp; omega
    have e2 : IntKind.i64.wrap ((b : Int) - (m : Int)) = (d' : Int) := w64 (by omega) (by omega)
    have d2 : ((d' : Int) == 1) = false := by simp; omega
    obtain ⟨u, hu⟩ : ∃ u, u = a + b := ⟨_, rfl⟩
    obtain ⟨mid, hmid⟩ : ∃ mid, mid = (a + b) / 2 := ⟨_, rfl⟩
    obtain ⟨g1, g2, g3, g4⟩ := mid_facts hmid (by omega)
    have eh : wrap64 ((u : Int) / 2) = (mid : Int) := by
      rw [show (u : Int) / 2 = (mid : Int) by rw [hu, hmid]; rfl]
      exact IntWalk.wrap64_in _ (by omega)
    have HM2 := Lib.hid hmid
    have EH := Lib.hid eh
    clear hmid eh
    obtain ⟨n, hn⟩ : ∃ n, n = mid + m := ⟨_, rfl⟩
    obtain ⟨p, hp⟩ : ∃ p, p = mid + m - 1 := ⟨_, rfl⟩
    have eu : IntKind.i64.wrap ((a : Int) + (b : Int)) = (u : Int) := w64 (by omega) (by omega)
    have ev : IntKind.u64.wrap (u : Int) = (u : Int) := IntWalk.u64_in _ (by omega)
    have en : IntKind.i64.wrap ((mid : Int) + (m : Int)) = (n : Int) := w64 (by omega) (by omega)
    have ep : IntKind.i64.wrap ((n : Int) - 1) = (p : Int) := w64 (by omega) (by omega)
    obtain ⟨lo, hi, hc⟩ : ∃ lo hi, (mid < m ∧ lo = mid + m - b ∧ hi = mid) ∨ (m ≤ mid ∧ lo = a ∧ hi = m) := by
      by_cases c : mid < m
      · exact ⟨_, _, .inl ⟨c, rfl, rfl⟩⟩
      · exact ⟨_, _, .inr ⟨by omega, rfl, rfl⟩⟩
    have HC := Lib.hid hc
    have HB := Lib.hid (show Hlf (fun k => R (f (mid + m - 1 - k)) (f k)) lo hi lo hi from Hlf.begin (by omega))
    have MO := Lib.hid (show ∀ k l, lo ≤ k → k < l → l < hi → R (f (mid + m - 1 - k)) (f k) → R (f (mid + m - 1 - l)) (f l) from HM.out.mono3 HH.out.tot (by omega) (by omega) (by omega) (by omega))
    have H1 := Lib.hid (show a < m ∧ m < b ∧ b ≤ N ∧ (a < mid ∧ mid < b ∧ 2 * mid ≤ a + b ∧ a + b ≤ 2 * mid + 1) ∧ n = mid + m ∧ p = mid + m - 1 ∧ a + 1 < m ∧ m + 1 < b ∧ b - a ≤ L + 1 ∧ N ≤ 4611686018427387903 from ⟨am, mb, hbn, ⟨g1, g2, g3, g4⟩, hn, hp, by omega, by omega, hL, hN⟩)
    have eh := EH.out
    clear EH c1 c2 hd hd' hu hn hp hc hL am mb hbn hN g1 g2 g3 g4
    go_enter Try.func67, Try.ntmps67
    go_upto_region 25 with fail
    rw [eh]
    clear e1 e2 d1 d2 eu ev eh
    go_upto_if 140 with fail
    go_cut [20, 21] from 141 to 146 (fun v20 v21 wx => v20 = .int .i64 lo ∧ v21 = .int .i64 hi ∧ wx = w)
    case first =>
      rcases HC.out with ⟨k1, k2, k3⟩ | ⟨k1, k2, k3⟩
      · have e3 : IntKind.i64.wrap ((n : Int) - (b : Int)) = (lo : Int) := w64 (by have := H1.out; omega) (by have := H1.out; omega)
        have k4 : decide (mid < m) = true := decide_eq_true k1
        have K3 := Lib.hid k3
        clear k2 k3
        go_wp2_with fail
        go_meet
        exact ⟨rfl, by rw [K3.out], rfl⟩
      · have k5 : ¬ mid < m := by omega
        have K2 := Lib.hid k2
        have K3 := Lib.hid k3
        clear k2 k3
        go_wp2_with fail
        go_meet
        exact ⟨by rw [K2.out], by rw [K3.out], rfl⟩
    case rest =>
      obtain ⟨rfl, rfl, rfl⟩ := hcut
      clear en
      go_wp2_with fail
      clear ep
      go_loopw [20, 21] (fun iv jv wr => ∃ i j : Nat, iv = .int .i64 i ∧ jv = .int .i64 j ∧ Hid (Hlf (fun k => R (f (mid + m - 1 - k)) (f k)) lo hi i j) ∧ Hid (SW B N C w0 wr f)) (fun iv jv _ => (intOf jv).toNat - (intOf iv).toNat)
      case atStart => exact ⟨lo, hi, rfl, rfl, HB, S⟩
      case round =>
        obtain ⟨i, j, rfl, rfl, HL, RS⟩ := hrel
        clear HB S
        by_cases t1 : i < j
        · obtain ⟨u, hu⟩ : ∃ u, u = i + j := ⟨_, rfl⟩
          obtain ⟨h, hh⟩ : ∃ h, h = u / 2 := ⟨_, rfl⟩
          obtain ⟨x, hx⟩ : ∃ x, x = mid + m - 1 - h := ⟨_, rfl⟩
          have hb : i ≤ h ∧ h < j := by omega
          obtain ⟨s1, s2, s3, s4, s5, s6⟩ : h < m ∧ a ≤ h ∧ m ≤ x ∧ x < b ∧ h ≤ p ∧ x = p - h := by
            obtain ⟨q1, q2, q3, ⟨q4, q5, q6, q7⟩, q8, q9, q10, q11, q12, q13⟩ := H1.out
            have r1 := HL.out.a
            have r2 := HL.out.c
            clear hu hh
            rcases HC.out with ⟨k1, k2, k3⟩ | ⟨k1, k2, k3⟩ <;> omega
          have hjN : j ≤ N ∧ b ≤ N ∧ N ≤ 4611686018427387903 := by
            obtain ⟨q1, q2, q3, ⟨q4, q5, q6, q7⟩, q8, q9, q10, q11, q12, q13⟩ := H1.out
            have r2 := HL.out.c
            clear hu hh
            rcases HC.out with ⟨k1, k2, k3⟩ | ⟨k1, k2, k3⟩ <;> omega
          obtain ⟨jN, bN, NN⟩ := hjN
          have eu : IntKind.i64.wrap ((i : Int) + (j : Int)) = (u : Int) := w64 (by omega) (by omega)
          have ev : IntKind.u64.wrap (u : Int) = (u : Int) := IntWalk.u64_in _ (by omega)
          have eh : wrap64 ((u : Int) / 2) = (h : Int) := by
            rw [show (u : Int) / 2 = (h : Int) by rw [hh]; rfl]
            exact IntWalk.wrap64_in _ (by omega)
          have EH := Lib.hid eh
          clear eh
          have ex : IntKind.i64.wrap ((p : Int) - (h : Int)) = (x : Int) := w64 (by omega) (by omega)
          have h0 : (0 : Int) ≤ (h : Int) := by omega
          have h1 : (h : Int) < (N : Int) := by omega
          have x0 : (0 : Int) ≤ (x : Int) := by omega
          have x1 : (x : Int) < (N : Int) := by omega
          have ch := RS.out.cell (show h < N by omega)
          have cx := RS.out.cell (show x < N by omega)
          have vh := HM.out.ok h s2 (by omega)
          have vx := HM.out.ok x (by omega) s4
          have CN := Lib.hid (HH.out.neg (f h) (f x) vh vx (HM.out.old h x s2 s1 s3 s4))
          have CL := Lib.hid (fun W (st : Below wr.heap.size wr W) => HH.out.call (f x) (f h) W ((RS.out.call st).kp HH.out H0.out) vx vh)
          have UP := Lib.hid (fun nr => HL.out.up MO.out hb.1 hb.2 nr)
          have DN := Lib.hid (fun nr => HL.out.down MO.out hb.1 hb.2 nr)
          simp only [← hx] at UP DN
          obtain ⟨h2, hh2⟩ : ∃ h2, h2 = h + 1 := ⟨_, rfl⟩
          have eh2 : IntKind.i64.wrap ((h : Int) + 1) = (h2 : Int) := w64 (by omega) (by omega)
          have HI := Lib.hid (show i ≤ h ∧ h < j ∧ h2 = h + 1 from ⟨hb.1, hb.2, hh2⟩)
          rw [← hh2] at UP
          have CE := HH.out.ent
          have eh := EH.out
          clear EH vh vx hb hu hh hh2 HL hx s1 s2 s3 s4 s5 s6 jN bN NN
          by_cases cc : c (f x) (f h) < 0
          · have NX := Lib.hid (DN.out (CN.out.1 cc))
            have cc2 : decide (c (f x) (f h) < 0) = true := decide_eq_true cc
            clear CN UP DN
            generalize c (f x) (f h) = r at *
            generalize f h = p1 at *
            generalize f x = p2 at *
            go_wp2_with fail
            go_region_held3 (fun w' => w'.cell? ⟨B, x, none⟩ = some (.int .i64 p2) ∧ w'.cell? ⟨B, h, none⟩ = some (.int .i64 p1)) (first | exact ⟨cx, ch⟩ | exact ⟨cellDr cx, cellDr ch⟩) (first | ((with_reducible refine (CL.out _ (Below.refl _ _).drew).mono ?_); rintro e w1 ⟨rfl, st⟩; have cx := cellGr st (cellDr cx); have ch := cellGr st (cellDr ch)))
            have RS := Lib.hid (RS.out.drew.call st)
            clear CE CL cx ch st
            generalize w1 = v at RS ⊢
            go_wp2_with fail
            try rw [eh]
            clear eh ex eu ev eh2
            go_roundw
            case rel => exact ⟨i, h, rfl, rfl, NX, RS⟩
            case measure => have := HI.out; simp [intOf]; omega
          · have NX := Lib.hid (UP.out (fun e => cc (CN.out.2 e)))
            have cc2 : decide (c (f x) (f h) < 0) = false := decide_eq_false cc
            clear CN UP DN
            generalize c (f x) (f h) = r at *
            generalize f h = p1 at *
            generalize f x = p2 at *
            go_wp2_with fail
            go_region_held3 (fun w' => w'.cell? ⟨B, x, none⟩ = some (.int .i64 p2) ∧ w'.cell? ⟨B, h, none⟩ = some (.int .i64 p1)) (first | exact ⟨cx, ch⟩ | exact ⟨cellDr cx, cellDr ch⟩) (first | ((with_reducible refine (CL.out _ (Below.refl _ _).drew).mono ?_); rintro e w1 ⟨rfl, st⟩; have cx := cellGr st (cellDr cx); have ch := cellGr st (cellDr ch)))
            have RS := Lib.hid (RS.out.drew.call st)
            clear CE CL cx ch st
            generalize w1 = v at RS ⊢
            go_wp2_with fail
            clear eh ex eu ev
            go_roundw
            case rel => exact ⟨h2, j, by first | rfl | go_num, rfl, NX, RS⟩
            case measure => have := HI.out; simp [intOf]; omega
        · obtain rfl : i = j := by have := HL.out.b; omega
          obtain ⟨q1, q2, q3, ⟨q4, q5, q6, q7⟩, q8, q9, q10, q11, q12, q13⟩ := H1.out
          have CT := Lib.hid (HL.out.cut q1 q2 HM2.out HC.out)
          obtain ⟨e, he⟩ : ∃ e, e = mid + m - i := ⟨_, rfl⟩
          obtain ⟨g, hg⟩ : ∃ g, g = rot i m e f := ⟨_, rfl⟩
          have PT := Lib.hid (CT.out.parts HH.out.tot HM.out q4 q5)
          rw [← he, ← hg] at PT
          obtain ⟨r1, r2, r3, r4, -, -⟩ := CT.out
          have FIN := Lib.hid (fun g1 g2 p1 s1 p2 s2 => CT.out.whole (g1 := g1) (g2 := g2) HH.out.tot HM.out q4 q5 p1 s1 p2 s2)
          rw [← he, ← hg] at FIN
          have ee : IntKind.i64.wrap ((n : Int) - (i : Int)) = (e : Int) := w64 (by omega) (by omega)
          have F1 := Lib.hid (show a ≤ i ∧ i ≤ m ∧ i ≤ mid ∧ e ≤ b ∧ m ≤ e ∧ mid ≤ e ∧ a < mid ∧ mid < b ∧ b ≤ N ∧ N ≤ 4611686018427387904 ∧ mid - a ≤ L ∧ b - mid ≤ L by
            refine ⟨r1, r2, r3, by omega, by omega, by omega, q4, q5, q3, by omega, by omega, by omega⟩)
          have HG := Lib.hid hg
          clear q1 q2 q3 q4 q5 q6 q7 q8 q9 q10 q11 q12 q13 r1 r2 r3 r4 HL MO he hg CT
          obtain ⟨t1b, ht1b⟩ : ∃ t1b, t1b = decide (i < m ∧ m < e) := ⟨_, rfl⟩
          have Ht1b := Lib.hid ht1b
          clear ht1b
          go_upto_region 39 with fail
          clear ee
          go_cut [185] from 178 to 185 (fun v wx => v = .bool t1b ∧ wx = wr)
          case first =>
            rcases ite_cases (p := i < m) (q := m < e) with k | ⟨k, l⟩ | ⟨k, l⟩
            · have HZ := Lib.hid (show t1b = false from by rw [Ht1b.out]; simp [k])
              have k2 : decide (i < m) = false := decide_eq_false k
              go_wp2_with fail
              go_meet
              exact ⟨by rw [HZ.out], rfl⟩
            · have HZ := Lib.hid (show t1b = false from by rw [Ht1b.out]; simp [k, l])
              have k2 : decide (i < m) = true := decide_eq_true k
              have l2 : decide (m < e) = false := decide_eq_false l
              go_wp2_with fail
              go_meet
              exact ⟨by rw [HZ.out], rfl⟩
            · have HZ := Lib.hid (show t1b = true from by rw [Ht1b.out]; simp [k, l])
              have k2 : decide (i < m) = true := decide_eq_true k
              have l2 : decide (m < e) = true := decide_eq_true l
              go_wp2_with fail
              go_meet
              exact ⟨by rw [HZ.out], rfl⟩
          case rest =>
            obtain ⟨rfl, hw⟩ := hcut
            subst hw
            go_upto_if 185 with fail
            go_cut [] from 178 to 191 (fun wx => Hid (SW B N C w0 wx g))
            case first =>
              cases t1b with
              | true =>
                have k := of_decide_eq_true (Ht1b.out).symm
                have CC := Lib.hid (rotate_any B N C i m e f w0 _ RS.out k.1 k.2 (by have := F1.out; omega) (by have := F1.out; omega) (.func (.func K) #[] #[e0]))
                rw [← HG.out] at CC
                clear k
                go_wp2_with fail
                refine CC.out.mono ?_
                rintro e' w' ⟨rfl, RG⟩
                have RG := Lib.hid RG
                go_wp2_with fail
                go_meet
                exact RG
              | false =>
                have k := of_decide_eq_false (Ht1b.out).symm
                have RG := Lib.hid (show g = f by
                    rw [HG.out]
                    have := F1.out
                    by_cases c1 : i = m
                    · rw [c1]; exact rot_left (a := m) f (by omega)
                    · rw [show e = m by omega]; exact rot_right f (by omega))
                clear k
                go_wp2_with fail
                go_meet
                rw [RG.out]; exact RS
            case rest =>
              have RG := hcut
              clear RS hcut HG
              obtain ⟨t2b, ht2b⟩ : ∃ t2b, t2b = decide (a < i ∧ i < mid) := ⟨_, rfl⟩
              have Ht2b := Lib.hid ht2b
              clear ht2b
              go_upto_region 41 with fail
              go_cut [199] from 192 to 199 (fun v wx => v = .bool t2b ∧ wx = wc)
              case first =>
                rcases ite_cases (p := a < i) (q := i < mid) with k | ⟨k, l⟩ | ⟨k, l⟩
                · have HZ := Lib.hid (show t2b = false from by rw [Ht2b.out]; simp [k])
                  have k2 : decide (a < i) = false := decide_eq_false k
                  go_wp2_with fail
                  go_meet
                  exact ⟨by rw [HZ.out], rfl⟩
                · have HZ := Lib.hid (show t2b = false from by rw [Ht2b.out]; simp [k, l])
                  have k2 : decide (a < i) = true := decide_eq_true k
                  have l2 : decide (i < mid) = false := decide_eq_false l
                  go_wp2_with fail
                  go_meet
                  exact ⟨by rw [HZ.out], rfl⟩
                · have HZ := Lib.hid (show t2b = true from by rw [Ht2b.out]; simp [k, l])
                  have k2 : decide (a < i) = true := decide_eq_true k
                  have l2 : decide (i < mid) = true := decide_eq_true l
                  go_wp2_with fail
                  go_meet
                  exact ⟨by rw [HZ.out], rfl⟩
              case rest =>
                obtain ⟨rfl, hw⟩ := hcut
                subst hw
                go_upto_if 199 with fail
                go_cut [] from 192 to 205 (fun wx => Hid (∃ g1, SW B N C w0 wx g1 ∧ Pm a mid g g1 ∧ Srt R a mid g1))
                case first =>
                  cases t2b with
                  | true =>
                    have k := of_decide_eq_true (Ht2b.out).symm
                    have CC := Lib.hid (IH.out a i mid g _ (by have := F1.out; omega) RG.out k.1 k.2 (by have := F1.out; omega) PT.out.1)
                    clear k
                    go_wp2_with fail
                    refine CC.out.mono ?_
                    rintro e' w' ⟨rfl, R2⟩
                    have R2 := Lib.hid R2
                    go_wp2_with fail
                    go_meet
                    exact R2
                  | false =>
                    have k := of_decide_eq_false (Ht2b.out).symm
                    have R2 := Lib.hid (show Srt R a mid g by
                      have := F1.out
                      by_cases c1 : i = a
                      · have := PT.out.1.s2; rw [c1] at this; exact this
                      · have := PT.out.1.s1; rw [show i = mid by omega] at this; exact this)
                    clear k
                    go_wp2_with fail
                    go_meet
                    exact Lib.hid ⟨g, RG.out, Pm.refl _ _ _, R2.out⟩
                case rest =>
                  obtain ⟨g1, hS, hP, hR⟩ := hcut.out
                  have S1 := Lib.hid hS
                  have P1 := Lib.hid hP
                  have R1 := Lib.hid hR
                  have M2 := Lib.hid (PT.out.2.1.congr (g := g1) (by have := F1.out; omega) (by have := F1.out; omega) (fun k k1 k2 => hP.out (.inr k1)))
                  clear hS hP hR hcut RG PT
                  obtain ⟨t3b, ht3b⟩ : ∃ t3b, t3b = decide (mid < e ∧ e < b) := ⟨_, rfl⟩
                  have Ht3b := Lib.hid ht3b
                  clear ht3b
                  go_upto_region 43 with fail
                  go_cut [213] from 206 to 213 (fun v wx => v = .bool t3b ∧ wx = wc)
                  case first =>
                    rcases ite_cases (p := mid < e) (q := e < b) with k | ⟨k, l⟩ | ⟨k, l⟩
                    · have HZ := Lib.hid (show t3b = false from by rw [Ht3b.out]; simp [k])
                      have k2 : decide (mid < e) = false := decide_eq_false k
                      go_wp2_with fail
                      go_meet
                      exact ⟨by rw [HZ.out], rfl⟩
                    · have HZ := Lib.hid (show t3b = false from by rw [Ht3b.out]; simp [k, l])
                      have k2 : decide (mid < e) = true := decide_eq_true k
                      have l2 : decide (e < b) = false := decide_eq_false l
                      go_wp2_with fail
                      go_meet
                      exact ⟨by rw [HZ.out], rfl⟩
                    · have HZ := Lib.hid (show t3b = true from by rw [Ht3b.out]; simp [k, l])
                      have k2 : decide (mid < e) = true := decide_eq_true k
                      have l2 : decide (e < b) = true := decide_eq_true l
                      go_wp2_with fail
                      go_meet
                      exact ⟨by rw [HZ.out], rfl⟩
                  case rest =>
                    obtain ⟨rfl, hw⟩ := hcut
                    subst hw
                    cases t3b with
                    | true =>
                      have k := of_decide_eq_true (Ht3b.out).symm
                      have CC := Lib.hid (IH.out mid e b g1 _ (by have := F1.out; omega) S1.out k.1 k.2 (by have := F1.out; omega) M2.out)
                      clear k
                      go_wp2_with fail
                      refine CC.out.mono ?_
                      rintro e' w' ⟨rfl, g2, S2, P2, R2⟩
                      have S2 := Lib.hid S2
                      have F2 := Lib.hid (FIN.out g1 g2 P1.out R1.out P2 R2)
                      clear P2 R2
                      go_wp2_with fail
                      go_end0
                      exact ⟨rfl, g2, S2.out, F2.out⟩
                    | false =>
                      have k := of_decide_eq_false (Ht3b.out).symm
                      have F2 := Lib.hid (FIN.out g1 g1 P1.out R1.out (Pm.refl _ _ _) (by
                        have := F1.out
                        by_cases c1 : e = mid
                        · have := M2.out.s2; rw [c1] at this; exact this
                        · have := M2.out.s1; rw [show e = b by omega] at this; exact this))
                      clear k
                      go_wp2_with fail
                      go_end0
                      exact ⟨rfl, g1, S1.out, F2.out⟩
end Go.Proofs.Ytmdhmpfagekonaa
