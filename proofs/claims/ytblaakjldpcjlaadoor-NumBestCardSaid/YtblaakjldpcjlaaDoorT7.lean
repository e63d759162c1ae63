/- The reference's Best: the nearest, Den by Den. -/
import Derived.Test.YtblaakjldpcjlaaDoorT6
import Derived.Test.YtblaakjldpcjlaaDoorE1
namespace Go.Proofs.YtblaakjldpcjlaaDoor
open Go.RowKit
set_option linter.unusedVariables false
set_option linter.unusedSimpArgs false

theorem ediv_in' {n d B : Int} (h1 : -B ≤ n) (h2 : n ≤ B) (hd : 1 ≤ d) : -B ≤ n / d ∧ n / d ≤ B := by
  have e1 : n / d * d ≤ n := Int.ediv_mul_le n (by omega)
  have e2 : n < (n / d + 1) * d := Int.lt_ediv_add_one_mul_self n (by omega)
  rcases Int.lt_or_le (n / d) 0 with t | t
  · have : (n / d + 1) * d ≤ (n / d + 1) * 1 := Int.mul_le_mul_of_nonpos_left (by omega) hd
    omega
  · have : n / d * 1 ≤ n / d * d := Int.mul_le_mul_of_nonneg_left hd t
    omega
theorem floor_cases {x d : Int} (hd : 1 ≤ d) : (x.tmod d < 0 ∧ x.tdiv d - 1 = x / d) ∨ (¬ x.tmod d < 0 ∧ x.tdiv d = x / d) := by
  have m0 : 0 ≤ x % d := Int.emod_nonneg _ (by omega)
  have m1 : x % d < d := Int.emod_lt_of_pos _ (by omega)
  by_cases h : 0 ≤ x
  · exact .inr ⟨by rw [Int.tmod_eq_emod_of_nonneg h]; omega, Int.tdiv_eq_ediv_of_nonneg h⟩
  · by_cases hdv : d ∣ x
    · exact .inr ⟨by rw [Int.tmod_eq_zero_of_dvd hdv]; omega, by rw [Int.tdiv_eq_ediv, if_pos (Or.inr hdv)]; simp⟩
    · refine .inl ⟨?_, ?_⟩
      · rw [Int.tmod_eq_emod, if_neg (by rintro (a | a); omega; exact hdv a)]; omega
      · rw [Int.tdiv_eq_ediv, if_neg (by rintro (a | a); omega; exact hdv a), Int.sign_eq_one_of_pos (by omega)]; omega
/-- The reference's two variables: the result, 'best'. -/
structure BB (w0 w : World) (xn xd V D : Int) : Prop where
  x0 : w.cell? ⟨w0.heap.size, 0, none⟩ = some (.int .i64 xn)
  x1 : w.cell? ⟨w0.heap.size, 1, none⟩ = some (.int .i64 xd)
  b0 : w.cell? ⟨w0.heap.size + 1, 0, none⟩ = some (.int .i64 V)
  b1 : w.cell? ⟨w0.heap.size + 1, 1, none⟩ = some (.int .i64 D)
  fx0 : w.frozen? ⟨w0.heap.size, 0, none⟩ = false
  fx1 : w.frozen? ⟨w0.heap.size, 1, none⟩ = false
  fb0 : w.frozen? ⟨w0.heap.size + 1, 0, none⟩ = false
  fb1 : w.frozen? ⟨w0.heap.size + 1, 1, none⟩ = false
  sz : w0.heap.size + 1 < w.heap.size
  bl : Below w0.heap.size w0 w
theorem BB.setx0 {w0 w : World} {xn xd V D : Int} (s : BB w0 w xn xd V D) (v : Int) : BB w0 (w.setCell ⟨w0.heap.size, 0, none⟩ (.int .i64 v)) v xd V D := by
  obtain ⟨x0, x1, b0, b1, fx0, fx1, fb0, fb1, sz, bl⟩ := s
  refine ⟨?_, ?_, ?_, ?_, ?_, ?_, ?_, ?_, ?_, bl.setCell (by simp; try omega) _⟩
  all_goals (simp [go_sem, x0, x1, b0, b1, fx0, fx1, fb0, fb1, sz]; done)
theorem BB.setx1 {w0 w : World} {xn xd V D : Int} (s : BB w0 w xn xd V D) (v : Int) : BB w0 (w.setCell ⟨w0.heap.size, 1, none⟩ (.int .i64 v)) xn v V D := by
  obtain ⟨x0, x1, b0, b1, fx0, fx1, fb0, fb1, sz, bl⟩ := s
  refine ⟨?_, ?_, ?_, ?_, ?_, ?_, ?_, ?_, ?_, bl.setCell (by simp; try omega) _⟩
  all_goals (simp [go_sem, x0, x1, b0, b1, fx0, fx1, fb0, fb1, sz]; done)
theorem BB.setb0 {w0 w : World} {xn xd V D : Int} (s : BB w0 w xn xd V D) (v : Int) : BB w0 (w.setCell ⟨w0.heap.size + 1, 0, none⟩ (.int .i64 v)) xn xd v D := by
  obtain ⟨x0, x1, b0, b1, fx0, fx1, fb0, fb1, sz, bl⟩ := s
  refine ⟨?_, ?_, ?_, ?_, ?_, ?_, ?_, ?_, ?_, bl.setCell (by simp; try omega) _⟩
  all_goals (simp [go_sem, x0, x1, b0, b1, fx0, fx1, fb0, fb1, sz]; done)
theorem BB.setb1 {w0 w : World} {xn xd V D : Int} (s : BB w0 w xn xd V D) (v : Int) : BB w0 (w.setCell ⟨w0.heap.size + 1, 1, none⟩ (.int .i64 v)) xn xd V v := by
  obtain ⟨x0, x1, b0, b1, fx0, fx1, fb0, fb1, sz, bl⟩ := s
  refine ⟨?_, ?_, ?_, ?_, ?_, ?_, ?_, ?_, ?_, bl.setCell (by simp; try omega) _⟩
  all_goals (simp [go_sem, x0, x1, b0, b1, fx0, fx1, fb0, fb1, sz]; done)

/-- What the reference's Best comes to. -/
def BestN (n d most V D : Int) : Prop := 1 ≤ D ∧ D ≤ most ∧ ∀ r s : Int, 1 ≤ s → s ≤ most → Nearer n d V D r s
theorem Tried.done {n d most V D off : Int} (h : Tried n d (most + 1) 0 V D off) (hm : 1 ≤ most) : BestN n d most V D := by
  have z : 1 ≤ D := by rcases h.fst with a | a <;> omega
  exact ⟨z, by rcases h.fst with a | a <;> omega, fun r s hs hsm => h.all z r s hs (by omega)⟩

/-- Not taken. -/
def BadB (n d most : Int) : Prop := n < -1099511627776 ∨ (¬ n < -1099511627776 ∧ 1099511627776 < n) ∨ (¬ n < -1099511627776 ∧ ¬ 1099511627776 < n ∧ d < 1) ∨ (¬ n < -1099511627776 ∧ ¬ 1099511627776 < n ∧ ¬ d < 1 ∧ 1099511627776 < d)
  ∨ (¬ n < -1099511627776 ∧ ¬ 1099511627776 < n ∧ ¬ d < 1 ∧ ¬ 1099511627776 < d ∧ most < 1) ∨ (¬ n < -1099511627776 ∧ ¬ 1099511627776 < n ∧ ¬ d < 1 ∧ ¬ 1099511627776 < d ∧ ¬ most < 1 ∧ 1048576 < most)
set_option maxRecDepth 100000 in
set_option maxHeartbeats 2000000 in
theorem rBest_bad (n d most : Int) (h : BadB n d most) (w : World) :
    Calls Tryd.prog 19 #[.int .i64 n, .int .i64 d, .int .i64 most] w fun e w' => e = .returned (fracV 0 0 2) ∧ Below w.heap.size w w' := by
  unfold BadB at h
  rcases h with h1 | ⟨h1, h2⟩ | ⟨h1, h2, h3⟩ | ⟨h1, h2, h3, h4⟩ | ⟨h1, h2, h3, h4, h5⟩ | ⟨h1, h2, h3, h4, h5, h6⟩
  all_goals
    go_enter Tryd.func19, Tryd.ntmps19
    go_wp2_with fail
    exact bodyPost_ret (v := fracV 0 0 2) (by simp [results, Tryd.results19, go_sem, fracV]) rfl ⟨rfl, by go_grown⟩

set_option maxRecDepth 100000 in
set_option maxHeartbeats 4000000 in
theorem rBest_ok (n d most : Int) (n1 : -1099511627776 ≤ n) (n2 : n ≤ 1099511627776) (d1 : 1 ≤ d) (d2 : d ≤ 1099511627776) (m1 : 1 ≤ most) (m2 : most ≤ 1048576) (w : World) :
    Calls Tryd.prog 19 #[.int .i64 n, .int .i64 d, .int .i64 most] w fun e w' => ∃ V D, e = .returned (fracV V D 0) ∧ BestN n d most V D ∧ Below w.heap.size w w' := by
  go_enter Tryd.func19, Tryd.ntmps19
  have S0 : Hid (BB w ((w.alloc (Obj.cells #[Value.int IntKind.i64 0, Value.int IntKind.i64 0] 23)).alloc (Obj.cells #[Value.int IntKind.i64 0, Value.int IntKind.i64 0] 23)) 0 0 0 0) := by
    refine ⟨?_, ?_, ?_, ?_, ?_, ?_, ?_, ?_, ?_, (((Below.refl _ _).alloc (Nat.le_refl _) _).alloc (by simp) _)⟩
    all_goals (simp [go_sem]; done)
  have T0 := Lib.hid (Tried.start (n := n) d1)
  go_wp2_with fail
  go_loopw [9, 10] (fun ov qv wr => ∃ q V D off : Int, 1 ≤ q ∧ q ≤ most + 1 ∧ ov = .int .i64 off ∧ qv = .int .i64 q ∧ Hid (Tried n d q 0 V D off) ∧ Hid (BB w wr 0 0 V D)) (fun _ qv _ => (most + 1 - intOf qv).toNat)
  case atStart => exact ⟨1, 0, 0, 0, by omega, by omega, rfl, rfl, T0, S0⟩
  case round =>
    clear S0 T0
    obtain ⟨q, V, D, off, q1, q2, rfl, rfl, TR, S1⟩ := hrel
    by_cases hk : q ≤ most
    · obtain ⟨f1, f2⟩ := fr_mul n1 n2 q1 (show q ≤ 1048576 by omega)
      obtain ⟨l1, l2⟩ := ediv_in' f1 f2 d1
      have m0 : 0 ≤ n * q % d := Int.emod_nonneg _ (by omega)
      have m3 : n * q % d < d := Int.emod_lt_of_pos _ (by omega)
      have e1 : n * q - n * q / d * d = n * q % d := by have := Int.emod_add_mul_ediv (n * q) d; have := Int.mul_comm d (n * q / d); omega
      obtain ⟨p0, hp0⟩ : ∃ p, p = n * q / d := ⟨_, rfl⟩
      have P0 := Lib.hid hp0
      have TAKE0 := Lib.hid (fun (k V D off : Int) (h : Tried n d q k V D off) => h.take d1 q1)
      have KEEP0 := Lib.hid (fun (k V D off : Int) (h : Tried n d q k V D off) => h.keep d1 q1)
      have NEXT0 := Lib.hid (fun (V D off : Int) (h : Tried n d q 2 V D off) => h.next d1 q1 (by omega) (by omega))
      have CASE := floor_cases (x := n * q) d1
      rw [← hp0] at TAKE0 KEEP0 e1 l1 l2 CASE
      clear hp0
      have b1 : -1152921504606846976 ≤ (n * q).tdiv d := by omega
      have b2 : (n * q).tdiv d ≤ 1152921504606846977 := by omega
      have hz : (d == 0) = false := by simp; omega
      have CS := Lib.hid CASE
      clear CASE
      go_upto_if 53 with fail
      go_cut [11] from 54 to 55 (fun pv wx => pv = .int .i64 p0 ∧ wx = wr)
      case first =>
        clear TAKE0 KEEP0 NEXT0 e1
        rcases CS.out with ⟨c1, c2⟩ | ⟨c1, c2⟩
        · have C2 := Lib.hid c2
          clear c2 CS
          go_wp2_with fail
          go_meet
          exact ⟨by rw [C2.out], rfl⟩
        · have C2 := Lib.hid c2
          clear c2 CS
          go_wp2_with fail
          go_meet
          exact ⟨by rw [C2.out], rfl⟩
      case rest =>
        obtain ⟨rfl, rfl⟩ := hcut
        go_wp2_with fail
        go_loopw [9, 12] (fun ov kv wr => ∃ k V D off : Int, (k = 0 ∨ k = 1 ∨ k = 2) ∧ ov = .int .i64 off ∧ kv = .int .i64 k ∧ Hid (Tried n d q k V D off) ∧ Hid (BB w wr 0 0 V D)) (fun _ kv _ => (2 - intOf kv).toNat)
        case atStart => exact ⟨0, V, D, off, by omega, rfl, rfl, TR, S1⟩
        case round =>
          clear S1 TR
          obtain ⟨k, V, D, off, hk3, rfl, rfl, TR, S1⟩ := hrel
          obtain ⟨x0, x1, b0, b1, fx0, fx1, fb0, fb1, sz, bl⟩ := S1.out
          have o1 := TR.out.bnd.1
          have o2 := TR.out.bnd.2
          have Dq : 0 ≤ D ∧ D ≤ q := by rcases TR.out.fst with a | a <;> omega
          obtain ⟨D0, D1⟩ := Dq
          have g1 : 0 ≤ off * q := Int.mul_nonneg o1 (by omega)
          have g2 : off * q ≤ 1099511627776 * 1048576 := Int.mul_le_mul (by omega) (by omega) (by omega) (by omega)
          rcases hk3 with rfl | rfl | rfl
          · obtain ⟨F, hF0⟩ : ∃ F, F = n * q % d := ⟨_, rfl⟩
            rw [← hF0] at m0 m3 e1
            clear hF0
            have hF : ((n * q - p0 * d).natAbs : Int) = F := by omega
            have TAKE := TAKE0.out 0 V D off TR.out (.inl rfl)
            have KEEP := KEEP0.out 0 V D off TR.out (.inl rfl)
            rw [Int.add_zero, hF] at TAKE KEEP
            replace TAKE := TAKE (by omega)
            have g3 : 0 ≤ F * D := Int.mul_nonneg (by omega) D0
            have g4 : F * D ≤ 1099511627776 * 1048576 := Int.mul_le_mul (by omega) (by omega) (by omega) (by omega)
            clear hF TAKE0 KEEP0 NEXT0 TR
            rcases (by omega : D = 0 ∨ (D ≠ 0 ∧ F * D < off * q) ∨ (D ≠ 0 ∧ ¬ F * D < off * q)) with c | ⟨c0, c⟩ | ⟨c0, c⟩
            · have NX := Lib.hid (TAKE (.inl c))
              clear TAKE KEEP
              subst c
              go_wp2_with fail
              have S2 := Lib.hid ((S1.out.setb0 p0).setb1 q)
              clear x0 x1 b0 b1 fx0 fx1 fb0 fb1 sz bl S1
              go_roundw
              case rel => exact ⟨1, p0, q, F, by omega, rfl, rfl, NX, S2⟩
              case measure => simp [intOf]
            · have NX := Lib.hid (TAKE (.inr c))
              clear TAKE KEEP
              have cz : (D == 0) = false := by simpa using c0
              go_wp2_with fail
              have S2 := Lib.hid ((S1.out.setb0 p0).setb1 q)
              clear x0 x1 b0 b1 fx0 fx1 fb0 fb1 sz bl S1
              go_roundw
              case rel => exact ⟨1, p0, q, F, by omega, rfl, rfl, NX, S2⟩
              case measure => simp [intOf]
            · have NX := Lib.hid (KEEP c0 (by omega))
              clear TAKE KEEP
              have cz : (D == 0) = false := by simpa using c0
              go_wp2_with fail
              go_roundw
              case rel => exact ⟨1, V, D, off, by omega, rfl, rfl, NX, S1⟩
              case measure => simp [intOf]
          · have e2 : (p0 + 1) * d = p0 * d + d := by rw [Int.add_mul, Int.one_mul]
            obtain ⟨G, hG⟩ : ∃ G, n * q - (p0 + 1) * d = G := ⟨_, rfl⟩
            obtain ⟨F, hF⟩ : ∃ F, F = -G := ⟨_, rfl⟩
            have hA : ((n * q - (p0 + 1) * d).natAbs : Int) = F := by omega
            have TAKE := TAKE0.out 1 V D off TR.out (.inr rfl)
            have KEEP := KEEP0.out 1 V D off TR.out (.inr rfl)
            rw [hA] at TAKE KEEP
            replace TAKE := TAKE (by omega)
            have F0 : 0 ≤ F := by omega
            have F1 : F ≤ d := by omega
            have g3 : 0 ≤ F * D := Int.mul_nonneg F0 D0
            have g4 : F * D ≤ 1099511627776 * 1048576 := Int.mul_le_mul (by omega) (by omega) (by omega) (by omega)
            have wn : IntKind.i64.wrap (-G) = F := by rw [hF]; exact IntWalk.i64_in _ (by omega)
            have b3 : -2305843009213693952 ≤ (p0 + 1) * d := by omega
            have b4 : (p0 + 1) * d ≤ 2305843009213693952 := by omega
            have neg : G < 0 := by omega
            clear hF hA TAKE0 KEEP0 NEXT0 TR e1 e2 m0 m3
            rcases (by omega : D = 0 ∨ (D ≠ 0 ∧ F * D < off * q) ∨ (D ≠ 0 ∧ ¬ F * D < off * q)) with c | ⟨c0, c⟩ | ⟨c0, c⟩
            · have NX := Lib.hid (TAKE (.inl c))
              clear TAKE KEEP
              subst c
              go_wp2_with fail
              have S2 := Lib.hid ((S1.out.setb0 (p0 + 1)).setb1 q)
              clear x0 x1 b0 b1 fx0 fx1 fb0 fb1 sz bl S1
              go_roundw
              case rel => exact ⟨2, (p0 + 1), q, F, by omega, rfl, rfl, NX, S2⟩
              case measure => simp [intOf]
            · have NX := Lib.hid (TAKE (.inr c))
              clear TAKE KEEP
              have cz : (D == 0) = false := by simpa using c0
              go_wp2_with fail
              have S2 := Lib.hid ((S1.out.setb0 (p0 + 1)).setb1 q)
              clear x0 x1 b0 b1 fx0 fx1 fb0 fb1 sz bl S1
              go_roundw
              case rel => exact ⟨2, (p0 + 1), q, F, by omega, rfl, rfl, NX, S2⟩
              case measure => simp [intOf]
            · have NX := Lib.hid (KEEP c0 (by omega))
              clear TAKE KEEP
              have cz : (D == 0) = false := by simpa using c0
              go_wp2_with fail
              go_roundw
              case rel => exact ⟨2, V, D, off, by omega, rfl, rfl, NX, S1⟩
              case measure => simp [intOf]
          · have NX := Lib.hid (NEXT0.out V D off TR.out)
            clear TAKE0 KEEP0 NEXT0 TR
            go_wp2_with fail
            go_roundw
            case rel => exact ⟨q + 1, V, D, off, by omega, by omega, rfl, rfl, NX, S1⟩
            case measure => simp [intOf]; omega
    · have hq' : q = most + 1 := by omega
      subst hq'
      have FIN := Lib.hid (TR.out.done m1)
      obtain ⟨x0, x1, b0, b1, fx0, fx1, fb0, fb1, sz, bl⟩ := S1.out
      have z0 : w.heap.size < wr.heap.size := by omega
      go_wp2_with fail
      exact bodyPost_ret (v := fracV V D 0) (by simp [results, Tryd.results19, go_sem, fracV, x0, x1, b0, b1, z0, sz]) rfl ⟨V, D, rfl, FIN.out, ((S1.out.setx0 V).setx1 D).bl⟩
end Go.Proofs.YtblaakjldpcjlaaDoor
