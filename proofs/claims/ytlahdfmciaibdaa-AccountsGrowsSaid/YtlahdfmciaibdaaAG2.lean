/- The law AccountsGrows: its walk. -/
import Derived.Test.YtlahdfmciaibdaaAG1
import Derived.Test.YtlahdfmciaibdaaABA
namespace Go.Proofs.Ytlahdfmciaibdaa
open Go.RowKit
set_option linter.unusedVariables false
set_option linter.unusedSimpArgs false

theorem ChQ.bad {n : Int} {D : List (Int × Int)} {x E : Int} (h : ChQ n D x E) (hE : E ≠ 0) : x = 0 := by
  rcases h with ⟨a, b, c⟩ | ⟨a, b, c, d⟩ | ⟨a, b, c, d, e⟩ | ⟨a, b, c, d, e, f⟩ | ⟨a, b, c, d, e, f⟩
  · exact b
  · exact c
  · exact d
  · exact e
  · exact absurd f hE
theorem ChQ.good {n : Int} {D : List (Int × Int)} {x : Int} (h : ChQ n D x 0) : 0 ≤ n ∧ n ≤ 1099511627776 ∧ D.length ≤ 16 ∧ ScOk D D.length ∧ n ≤ lastU D D.length ∧ x = chg (pts n D D.length) := by
  rcases h with ⟨a, b, c⟩ | ⟨a, b, c, d⟩ | ⟨a, b, c, d, e⟩ | ⟨a, b, c, d, e, f⟩ | ⟨a, b, c, d, e, f⟩
  · omega
  · omega
  · omega
  · omega
  · exact ⟨a.1, a.2, b, c, d, e⟩
theorem ChQ.le {n : Int} {D : List (Int × Int)} {x : Int} (h : ChQ n D x 0) : 0 ≤ x ∧ x ≤ n := by
  obtain ⟨a, b, c, d, e, rfl⟩ := h.good
  have := pts_bound a d
  unfold chg
  omega
theorem ChQ.mono {a b : Int} {D : List (Int × Int)} {x y : Int} (h : ChQ a D x 0) (g : ChQ b D y 0) (hab : a ≤ b) : x ≤ y := by
  obtain ⟨_, _, _, d, _, rfl⟩ := h.good
  obtain ⟨_, _, _, _, _, rfl⟩ := g.good
  have := (pts_mono hab d).1
  unfold chg
  omega
theorem ScOk.first {D : List (Int × Int)} : ∀ {j : Nat}, ScOk D (j + 1) → pd D 0 ≤ lastU D (j + 1)
  | 0, _ => Int.le_refl _
  | j + 1, h => by
    have a := ScOk.first (j := j) (h.less (by omega))
    have b := (h (j + 1) (by omega)).1
    simp only [lastU] at a b ⊢
    omega
/-- Within the first band. -/
theorem pts_one {n : Int} {D : List (Int × Int)} (n0 : 0 ≤ n) (h : n ≤ pd D 0) : ∀ {j : Nat}, ScOk D (j + 1) → pts n D (j + 1) = n * sd D 0
  | 0, g => by
    simp only [pts, lastU]
    rw [show min n (pd D 0) - min n 0 = n by omega]; omega
  | j + 1, g => by
    have ih := pts_one n0 h (g.less (Nat.le_succ (j + 1)))
    have f1 := (g.less (Nat.le_succ (j + 1))).first
    have f2 := (g (j + 1) (by omega)).1
    show pts n D (j + 1) + (min n (pd D (j + 1)) - min n (lastU D (j + 1))) * sd D (j + 1) = _
    rw [show min n (pd D (j + 1)) - min n (lastU D (j + 1)) = 0 by omega, ih]; omega
theorem charge_add {a b : Int} {D : List (Int × Int)} {x y z E : Int} (h : ChQ a D x 0) (g : ChQ b D y 0) (k : ChQ (a + b) D z E) (hl : D.length ≠ 0) (hu : a + b ≤ pd D 0) : E = 0 ∧ x + y - 1 ≤ z ∧ z ≤ x + y + 1 := by
  obtain ⟨a0, _, l16, sc, _, rfl⟩ := h.good
  obtain ⟨b0, _, _, _, _, rfl⟩ := g.good
  obtain ⟨n, hn⟩ : ∃ n, D.length = n + 1 := ⟨D.length - 1, by omega⟩
  have sc' := sc
  rw [hn] at sc'
  have u0 := (sc' 0 (by omega)).2.1
  have f := sc'.first
  have hE : E = 0 ∧ z = chg (pts (a + b) D D.length) := by
    rcases k with ⟨c, _⟩ | ⟨_, c, _⟩ | ⟨_, _, c, _⟩ | ⟨_, _, _, c, _⟩ | ⟨_, _, _, _, c, d⟩
    · omega
    · omega
    · exact absurd sc c
    · rw [hn] at c; omega
    · exact ⟨d, c⟩
  obtain ⟨rfl, rfl⟩ := hE
  rw [hn, pts_one a0 (by omega) sc', pts_one b0 (by omega) sc', pts_one (by omega) hu sc', Int.add_mul]
  unfold chg
  generalize a * sd D 0 = p
  generalize b * sd D 0 = q
  omega
end Go.Proofs.Ytlahdfmciaibdaa
namespace Go.Proofs.Ytlahdfmciaibdaa.accountsGrows
open Go.RowKit
set_option linter.unusedVariables false
set_option linter.unusedSimpArgs false

set_option maxRecDepth 100000 in
set_option maxHeartbeats 8000000 in
theorem walk (a : Int) (g0 : -9223372036854775808 ≤ a ∧ a ≤ 9223372036854775807) (b : Int) (g1 : -9223372036854775808 ≤ b ∧ b ≤ 9223372036854775807) (p : Option Addr) (c : Nat) (D : List (Int × Int)) (w : World) (r : DmpR w p D) (ln : D.length ≤ 9223372036854775807) :
    Calls Try.prog 10 #[.int .i64 a, .int .i64 b, .slice p D.length c] w fun e w' => e = .returned (.bool true) ∧ Below w.heap.size w w' := by
  have R := Lib.hid r
  have C1 := Lib.hid (fun n W h (l : D.length ≤ 30) => Charge_any n p c D W h (by omega))
  have CA := Lib.hid (fun x y z E (h : ChQ a D x 0) (g : ChQ b D y 0) (k : ChQ (a + b) D z E) (hl : D.length ≠ 0) (hu : a + b ≤ pd D 0) => charge_add h g k hl hu)
  obtain ⟨z, hz⟩ : ∃ z, z = D.length := ⟨_, rfl⟩
  rw [← hz] at C1 CA ln ⊢
  have HZ := Lib.hid hz
  clear hz r g0 g1
  have KB : Hid (Below w.heap.size w w) := Below.refl _ _
  go_enter Try.func10, Try.ntmps10
  by_cases hf : 30 < z
  · clear C1 CA
    go_wp2_with fail
    refine (alive_any _).mono ?_
    rintro e wq ⟨rfl, hq⟩
    have B9 := Lib.hid (KB.out.trans ((show Below _ _ wq from by first | exact hq | exact ((Below.refl _ _).drew).trans hq | exact (below_drewN (Below.refl _ _) _).trans hq).mono KB.out.size))
    clear hq
    go_wp2_with fail
    go_ret
    exact ⟨rfl, (by first | exact B9.out | exact B9.out.drew | exact below_drewN B9.out _)⟩
  have hl : z ≤ 30 := by omega
  go_wp2_with fail
  refine (C1.out a _ R.out hl).mono ?_
  rintro e w1 ⟨x, E, rfl, q1, b1⟩
  have Q1 := Lib.hid q1
  replace KB := Lib.hid b1
  clear q1 b1
  have R1 := Lib.hid (R.out.below KB.out)
  go_wp2_with fail
  refine (C1.out b _ R1.out hl).mono ?_
  rintro e w2 ⟨y, F, rfl, q2, b1⟩
  have Q2 := Lib.hid q2
  replace KB := Lib.hid (KB.out.trans (b1.mono KB.out.size))
  clear q2 b1 R1
  by_cases hE : E = 0
  · subst hE
    by_cases hF : F = 0
    · subst hF
      obtain ⟨x0, x1⟩ := Q1.out.le
      obtain ⟨y0, y1⟩ := Q2.out.le
      obtain ⟨a0, a1, -⟩ := Q1.out.good
      obtain ⟨b0, b1, -⟩ := Q2.out.good
      have M1 := Lib.hid (fun h => Q1.out.mono Q2.out h)
      have M2 := Lib.hid (fun h => Q2.out.mono Q1.out h)
      have k1 : decide (x < 0) = false := decide_eq_false (by omega)
      have k2 : decide (y < 0) = false := decide_eq_false (by omega)
      have k3 : decide (a < x) = false := decide_eq_false (by omega)
      have k4 : decide (b < y) = false := decide_eq_false (by omega)
      have k5 : a ≤ b → decide (y < x) = false := fun h => decide_eq_false (by have := M1.out h; omega)
      have k6 : b ≤ a → decide (x < y) = false := fun h => decide_eq_false (by have := M2.out h; omega)
      have n1 : ¬ x < 0 := by omega
      have n2 : ¬ y < 0 := by omega
      have n3 : ¬ a < x := by omega
      have n4 : ¬ b < y := by omega
      have wab : IntKind.i64.wrap (a + b) = a + b := IntWalk.i64_in _ (by omega)
      have R2 := Lib.hid (R.out.below KB.out)
      have X0 := Lib.hid (show 0 ≤ x ∧ x ≤ a ∧ a ≤ 1099511627776 from ⟨x0, x1, a1⟩)
      have Y0 := Lib.hid (show 0 ≤ y ∧ y ≤ b ∧ b ≤ 1099511627776 from ⟨y0, y1, b1⟩)
      have KEY : (∃ h : a ≤ b, True) ∧ ¬ b ≤ a ∨ (b ≤ a ∧ ¬ a ≤ b) ∨ (a ≤ b ∧ b ≤ a) := by
        by_cases h : a ≤ b
        · by_cases g : b ≤ a
          · exact .inr (.inr ⟨h, g⟩)
          · exact .inl ⟨⟨h, trivial⟩, g⟩
        · exact .inr (.inl ⟨by omega, h⟩)
      have MID : ∃ u v : Bool, decide (a ≤ b) = u ∧ decide (b ≤ a) = v ∧ (u && decide (y < x)) = false ∧ (v && decide (x < y)) = false := by
        refine ⟨_, _, rfl, rfl, ?_, ?_⟩
        · by_cases h : a ≤ b
          · rw [k5 h]; simp
          · rw [decide_eq_false h]; rfl
        · by_cases h : b ≤ a
          · rw [k6 h]; simp
          · rw [decide_eq_false h]; rfl
      clear KEY M1 M2 x0 x1 y0 y1
      by_cases z0 : z = 0
      · subst z0
        by_cases hab : a ≤ b
        · by_cases hba : b ≤ a
          · have t1 : decide (a ≤ b) = true := decide_eq_true hab
            have t2 : decide (b ≤ a) = true := decide_eq_true hba
            have t3 := k5 hab
            have t4 := k6 hba
            clear C1 CA k5 k6 MID
            go_wp2_with fail
            try (go_quiet (fail))
            try (go_wp2_with fail)
            refine (alive_any _).mono ?_
            rintro e wq ⟨rfl, hq⟩
            have B9 := Lib.hid (KB.out.trans ((show Below _ _ wq from by first | exact hq | exact ((Below.refl _ _).drew).trans hq | exact (below_drewN (Below.refl _ _) _).trans hq).mono KB.out.size))
            clear hq
            go_wp2_with fail
            go_ret
            exact ⟨rfl, (by first | exact B9.out | exact B9.out.drew | exact below_drewN B9.out _)⟩
          · have t1 : decide (a ≤ b) = true := decide_eq_true hab
            have t2 : decide (b ≤ a) = false := decide_eq_false hba
            have t3 := k5 hab
            clear C1 CA k5 k6 MID
            go_wp2_with fail
            try (go_quiet (fail))
            try (go_wp2_with fail)
            refine (alive_any _).mono ?_
            rintro e wq ⟨rfl, hq⟩
            have B9 := Lib.hid (KB.out.trans ((show Below _ _ wq from by first | exact hq | exact ((Below.refl _ _).drew).trans hq | exact (below_drewN (Below.refl _ _) _).trans hq).mono KB.out.size))
            clear hq
            go_wp2_with fail
            go_ret
            exact ⟨rfl, (by first | exact B9.out | exact B9.out.drew | exact below_drewN B9.out _)⟩
        · have t1 : decide (a ≤ b) = false := decide_eq_false hab
          have t2 : decide (b ≤ a) = true := decide_eq_true (by omega)
          have t4 := k6 (by omega)
          clear C1 CA k5 k6 MID
          go_wp2_with fail
          try (go_quiet (fail))
          try (go_wp2_with fail)
          refine (alive_any _).mono ?_
          rintro e wq ⟨rfl, hq⟩
          have B9 := Lib.hid (KB.out.trans ((show Below _ _ wq from by first | exact hq | exact ((Below.refl _ _).drew).trans hq | exact (below_drewN (Below.refl _ _) _).trans hq).mono KB.out.size))
          clear hq
          go_wp2_with fail
          go_ret
          exact ⟨rfl, (by first | exact B9.out | exact B9.out.drew | exact below_drewN B9.out _)⟩
      · obtain ⟨xa, rfl, kx, cx, dx⟩ := R2.out 0 (by have := HZ.out; omega)
        have zb : ((z : Int) == 0) = false := beq_eq_false_iff_ne.2 (by omega)
        have zc : (0 : Int) < (z : Int) := by omega
        have CB := Lib.hid (fun zz E k hu => CA.out x y zz E Q1.out Q2.out k z0 hu)
        have cx1 : w2.cell? xa = some (.int .i64 (pd D 0)) := by simpa [Addr.add] using cx
        generalize pd D 0 = U at *
        clear CA Q1 Q2 dx kx MID
        by_cases hu : U < a + b
        · have ub : decide (U < a + b) = true := decide_eq_true hu
          by_cases hab : a ≤ b
          · by_cases hba : b ≤ a
            · have t1 : decide (a ≤ b) = true := decide_eq_true hab
              have t2 : decide (b ≤ a) = true := decide_eq_true hba
              have t3 := k5 hab
              have t4 := k6 hba
              clear C1 CB k5 k6
              go_wp2_with fail
              try (go_quiet (fail))
              try (go_wp2_with fail)
              refine (alive_any _).mono ?_
              rintro e wq ⟨rfl, hq⟩
              have B9 := Lib.hid (KB.out.trans ((show Below _ _ wq from by first | exact hq | exact ((Below.refl _ _).drew).trans hq | exact (below_drewN (Below.refl _ _) _).trans hq).mono KB.out.size))
              clear hq
              go_wp2_with fail
              go_ret
              exact ⟨rfl, (by first | exact B9.out | exact B9.out.drew | exact below_drewN B9.out _)⟩
            · have t1 : decide (a ≤ b) = true := decide_eq_true hab
              have t2 : decide (b ≤ a) = false := decide_eq_false hba
              have t3 := k5 hab
              clear C1 CB k5 k6
              go_wp2_with fail
              try (go_quiet (fail))
              try (go_wp2_with fail)
              refine (alive_any _).mono ?_
              rintro e wq ⟨rfl, hq⟩
              have B9 := Lib.hid (KB.out.trans ((show Below _ _ wq from by first | exact hq | exact ((Below.refl _ _).drew).trans hq | exact (below_drewN (Below.refl _ _) _).trans hq).mono KB.out.size))
              clear hq
              go_wp2_with fail
              go_ret
              exact ⟨rfl, (by first | exact B9.out | exact B9.out.drew | exact below_drewN B9.out _)⟩
          · have t1 : decide (a ≤ b) = false := decide_eq_false hab
            have t2 : decide (b ≤ a) = true := decide_eq_true (by omega)
            have t4 := k6 (by omega)
            clear C1 CB k5 k6
            go_wp2_with fail
            try (go_quiet (fail))
            try (go_wp2_with fail)
            refine (alive_any _).mono ?_
            rintro e wq ⟨rfl, hq⟩
            have B9 := Lib.hid (KB.out.trans ((show Below _ _ wq from by first | exact hq | exact ((Below.refl _ _).drew).trans hq | exact (below_drewN (Below.refl _ _) _).trans hq).mono KB.out.size))
            clear hq
            go_wp2_with fail
            go_ret
            exact ⟨rfl, (by first | exact B9.out | exact B9.out.drew | exact below_drewN B9.out _)⟩
        · have ub : decide (U < a + b) = false := decide_eq_false hu
          have R3 := R2
          by_cases hab : a ≤ b
          · by_cases hba : b ≤ a
            · have t1 : decide (a ≤ b) = true := decide_eq_true hab
              have t2 : decide (b ≤ a) = true := decide_eq_true hba
              have t3 := k5 hab
              have t4 := k6 hba
              clear k5 k6
              go_wp2_with fail
              try (go_quiet (fail))
              try (go_wp2_with fail)
              refine (C1.out (a + b) _ (by first | exact R3.out | exact R3.out.below ((Below.refl _ _).drew) | exact R3.out.below (below_drewN (Below.refl _ _) _)) hl).mono ?_
              rintro e w3 ⟨zz, G, rfl, q3, b3⟩
              obtain ⟨rfl, z1, z2⟩ := CB.out _ _ q3 (by omega)
              replace KB := Lib.hid (KB.out.trans ((show Below _ _ w3 from by first | exact b3 | exact ((Below.refl _ _).drew).trans b3 | exact (below_drewN (Below.refl _ _) _).trans b3).mono KB.out.size))
              obtain ⟨x0, x1, x2⟩ := X0.out
              obtain ⟨y0, y1, y2⟩ := Y0.out
              have v1 : IntKind.i64.wrap (x + y) = x + y := IntWalk.i64_in _ (by omega)
              have v2 : IntKind.i64.wrap (x + y - 1) = x + y - 1 := IntWalk.i64_in _ (by omega)
              have v3 : IntKind.i64.wrap (x + y + 1) = x + y + 1 := IntWalk.i64_in _ (by omega)
              have v4 : decide (x + y - 1 ≤ zz) = true := decide_eq_true z1
              have v5 : decide (zz ≤ x + y + 1) = true := decide_eq_true z2
              clear q3 b3 CB C1 t1 t2 ub x0 x1 x2 y0 y1 y2
              go_wp2_with fail
              try (go_quiet (fail))
              try (go_wp2_with fail)
              refine (alive_any _).mono ?_
              rintro e wq ⟨rfl, hq⟩
              have B9 := Lib.hid (KB.out.trans ((show Below _ _ wq from by first | exact hq | exact ((Below.refl _ _).drew).trans hq | exact (below_drewN (Below.refl _ _) _).trans hq).mono KB.out.size))
              clear hq
              go_wp2_with fail
              go_ret
              exact ⟨rfl, (by first | exact B9.out | exact B9.out.drew | exact below_drewN B9.out _)⟩
            · have t1 : decide (a ≤ b) = true := decide_eq_true hab
              have t2 : decide (b ≤ a) = false := decide_eq_false hba
              have t3 := k5 hab
              clear k5 k6
              go_wp2_with fail
              try (go_quiet (fail))
              try (go_wp2_with fail)
              refine (C1.out (a + b) _ (by first | exact R3.out | exact R3.out.below ((Below.refl _ _).drew) | exact R3.out.below (below_drewN (Below.refl _ _) _)) hl).mono ?_
              rintro e w3 ⟨zz, G, rfl, q3, b3⟩
              obtain ⟨rfl, z1, z2⟩ := CB.out _ _ q3 (by omega)
              replace KB := Lib.hid (KB.out.trans ((show Below _ _ w3 from by first | exact b3 | exact ((Below.refl _ _).drew).trans b3 | exact (below_drewN (Below.refl _ _) _).trans b3).mono KB.out.size))
              obtain ⟨x0, x1, x2⟩ := X0.out
              obtain ⟨y0, y1, y2⟩ := Y0.out
              have v1 : IntKind.i64.wrap (x + y) = x + y := IntWalk.i64_in _ (by omega)
              have v2 : IntKind.i64.wrap (x + y - 1) = x + y - 1 := IntWalk.i64_in _ (by omega)
              have v3 : IntKind.i64.wrap (x + y + 1) = x + y + 1 := IntWalk.i64_in _ (by omega)
              have v4 : decide (x + y - 1 ≤ zz) = true := decide_eq_true z1
              have v5 : decide (zz ≤ x + y + 1) = true := decide_eq_true z2
              clear q3 b3 CB C1 t1 t2 ub x0 x1 x2 y0 y1 y2
              go_wp2_with fail
              try (go_quiet (fail))
              try (go_wp2_with fail)
              refine (alive_any _).mono ?_
              rintro e wq ⟨rfl, hq⟩
              have B9 := Lib.hid (KB.out.trans ((show Below _ _ wq from by first | exact hq | exact ((Below.refl _ _).drew).trans hq | exact (below_drewN (Below.refl _ _) _).trans hq).mono KB.out.size))
              clear hq
              go_wp2_with fail
              go_ret
              exact ⟨rfl, (by first | exact B9.out | exact B9.out.drew | exact below_drewN B9.out _)⟩
          · have t1 : decide (a ≤ b) = false := decide_eq_false hab
            have t2 : decide (b ≤ a) = true := decide_eq_true (by omega)
            have t4 := k6 (by omega)
            clear k5 k6
            go_wp2_with fail
            try (go_quiet (fail))
            try (go_wp2_with fail)
            refine (C1.out (a + b) _ (by first | exact R3.out | exact R3.out.below ((Below.refl _ _).drew) | exact R3.out.below (below_drewN (Below.refl _ _) _)) hl).mono ?_
            rintro e w3 ⟨zz, G, rfl, q3, b3⟩
            obtain ⟨rfl, z1, z2⟩ := CB.out _ _ q3 (by omega)
            replace KB := Lib.hid (KB.out.trans ((show Below _ _ w3 from by first | exact b3 | exact ((Below.refl _ _).drew).trans b3 | exact (below_drewN (Below.refl _ _) _).trans b3).mono KB.out.size))
            obtain ⟨x0, x1, x2⟩ := X0.out
            obtain ⟨y0, y1, y2⟩ := Y0.out
            have v1 : IntKind.i64.wrap (x + y) = x + y := IntWalk.i64_in _ (by omega)
            have v2 : IntKind.i64.wrap (x + y - 1) = x + y - 1 := IntWalk.i64_in _ (by omega)
            have v3 : IntKind.i64.wrap (x + y + 1) = x + y + 1 := IntWalk.i64_in _ (by omega)
            have v4 : decide (x + y - 1 ≤ zz) = true := decide_eq_true z1
            have v5 : decide (zz ≤ x + y + 1) = true := decide_eq_true z2
            clear q3 b3 CB C1 t1 t2 ub x0 x1 x2 y0 y1 y2
            go_wp2_with fail
            try (go_quiet (fail))
            try (go_wp2_with fail)
            refine (alive_any _).mono ?_
            rintro e wq ⟨rfl, hq⟩
            have B9 := Lib.hid (KB.out.trans ((show Below _ _ wq from by first | exact hq | exact ((Below.refl _ _).drew).trans hq | exact (below_drewN (Below.refl _ _) _).trans hq).mono KB.out.size))
            clear hq
            go_wp2_with fail
            go_ret
            exact ⟨rfl, (by first | exact B9.out | exact B9.out.drew | exact below_drewN B9.out _)⟩
    · have fb : (F != 0) = true := by simpa using hF
      have fc : (F == 0) = false := beq_eq_false_iff_ne.2 hF
      obtain rfl := Q2.out.bad hF
      clear C1 CA hF Q1 Q2
      go_wp2_with fail
      try (go_quiet (fail))
      try (go_wp2_with fail)
      refine (alive_any _).mono ?_
      rintro e wq ⟨rfl, hq⟩
      have B9 := Lib.hid (KB.out.trans ((show Below _ _ wq from by first | exact hq | exact ((Below.refl _ _).drew).trans hq | exact (below_drewN (Below.refl _ _) _).trans hq).mono KB.out.size))
      clear hq
      go_wp2_with fail
      go_ret
      exact ⟨rfl, (by first | exact B9.out | exact B9.out.drew | exact below_drewN B9.out _)⟩
  · have eb : (E != 0) = true := by simpa using hE
    have ec : (E == 0) = false := beq_eq_false_iff_ne.2 hE
    obtain rfl := Q1.out.bad hE
    clear C1 CA hE Q1
    by_cases hF : F = 0
    · subst hF
      clear Q2
      go_wp2_with fail
      try (go_quiet (fail))
      try (go_wp2_with fail)
      refine (alive_any _).mono ?_
      rintro e wq ⟨rfl, hq⟩
      have B9 := Lib.hid (KB.out.trans ((show Below _ _ wq from by first | exact hq | exact ((Below.refl _ _).drew).trans hq | exact (below_drewN (Below.refl _ _) _).trans hq).mono KB.out.size))
      clear hq
      go_wp2_with fail
      go_ret
      exact ⟨rfl, (by first | exact B9.out | exact B9.out.drew | exact below_drewN B9.out _)⟩
    · have fb : (F != 0) = true := by simpa using hF
      have fc : (F == 0) = false := beq_eq_false_iff_ne.2 hF
      obtain rfl := Q2.out.bad hF
      clear hF Q2
      go_wp2_with fail
      try (go_quiet (fail))
      try (go_wp2_with fail)
      refine (alive_any _).mono ?_
      rintro e wq ⟨rfl, hq⟩
      have B9 := Lib.hid (KB.out.trans ((show Below _ _ wq from by first | exact hq | exact ((Below.refl _ _).drew).trans hq | exact (below_drewN (Below.refl _ _) _).trans hq).mono KB.out.size))
      clear hq
      go_wp2_with fail
      go_ret
      exact ⟨rfl, (by first | exact B9.out | exact B9.out.drew | exact below_drewN B9.out _)⟩
end Go.Proofs.Ytlahdfmciaibdaa.accountsGrows
