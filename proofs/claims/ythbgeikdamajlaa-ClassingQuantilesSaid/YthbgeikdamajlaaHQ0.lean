/- Classing: the comparison of fractions; a share is a fraction within the limits. -/
import Derived.Test.YthbgeikdamajlaaB5
import Derived.Test.YthbgeikdamajlaaHA6
namespace Go.Proofs.Ythbgeikdamajlaa
open Go.RowKit
set_option linter.unusedVariables false
set_option linter.unusedSimpArgs false

def cmpZ (a b : Int) : Int := if a < b then -1 else if b < a then 1 else 0
/-- Two boxed fractions. -/
structure Fr2 (w v : World) (an ad bn bd : Int) : Prop where
  a0 : v.cell? ⟨w.heap.size, 0, none⟩ = some (.int .i64 an)
  a1 : v.cell? ⟨w.heap.size, 1, none⟩ = some (.int .i64 ad)
  b0 : v.cell? ⟨w.heap.size + 1, 0, none⟩ = some (.int .i64 bn)
  b1 : v.cell? ⟨w.heap.size + 1, 1, none⟩ = some (.int .i64 bd)
  sz : w.heap.size + 1 < v.heap.size
  bel : Below w.heap.size w v
theorem Fr2.below {w v v' : World} {an ad bn bd : Int} (h : Fr2 w v an ad bn bd) (hb : Below v.heap.size v v') : Fr2 w v' an ad bn bd := by
  obtain ⟨h1, h2, h3, h4, h5, h6⟩ := h
  have z0 : w.heap.size < v.heap.size := by omega
  exact ⟨(hb.cell (p := ⟨w.heap.size, 0, none⟩) z0).trans h1, (hb.cell (p := ⟨w.heap.size, 1, none⟩) z0).trans h2, (hb.cell (p := ⟨w.heap.size + 1, 0, none⟩) h5).trans h3, (hb.cell (p := ⟨w.heap.size + 1, 1, none⟩) h5).trans h4, Nat.lt_of_lt_of_le h5 hb.size, h6.trans (hb.mono h6.size)⟩
theorem Fr2.new (w : World) (an ad bn bd : Int) : Fr2 w ((w.alloc (Obj.cells #[Value.int .i64 an, Value.int .i64 ad] 32)).alloc (Obj.cells #[Value.int .i64 bn, Value.int .i64 bd] 32)) an ad bn bd := by
  refine ⟨?_, ?_, ?_, ?_, ?_, by go_grown⟩ <;> simp [go_sem]
theorem cmpi_any (a b : Int) (w : World) :
    Calls Try.prog 63 #[.int .i64 a, .int .i64 b] w fun e w' => e = .returned (.int .i64 (cmpZ a b)) ∧ w = w' := by
  unfold cmpZ
  rcases (by omega : a < b ∨ b < a ∨ (a ≤ b ∧ b ≤ a)) with h | h | ⟨h, h'⟩
  · rw [if_pos h]
    go_enter Try.func63, Try.ntmps63
    go_wp2
    go_ret
    exact ⟨rfl, rfl⟩
  · rw [if_neg (by omega), if_pos h]
    go_enter Try.func63, Try.ntmps63
    go_wp2
    go_ret
    exact ⟨rfl, rfl⟩
  · rw [if_neg (by omega), if_neg (by omega)]
    go_enter Try.func63, Try.ntmps63
    go_wp2
    go_ret
    exact ⟨rfl, rfl⟩

theorem Cmp_ok (an ad bn bd : Int) (ha : vldB an ad = true) (hb : vldB bn bd = true) (w : World) :
    Calls Try.prog 21 #[.agg #[.int .i64 an, .int .i64 ad], .agg #[.int .i64 bn, .int .i64 bd]] w fun e w' => e = .returned (.tuple #[.int .i64 (cmpZ (an * bd) (bn * ad)), .int .i64 0]) ∧ Below w.heap.size w w' := by
  obtain ⟨a1, a2, a3, a4, a5⟩ := vldB_true.1 ha
  obtain ⟨b1, b2, b3, b4, b5⟩ := vldB_true.1 hb
  have HA := Lib.hid ha; clear ha a5
  have HB := Lib.hid hb; clear hb b5
  obtain ⟨p1, p2⟩ := fr_mul a3 a4 b1 b2
  obtain ⟨q1, q2⟩ := fr_mul b3 b4 a1 a2
  go_enter Try.func21, Try.ntmps21
  go_wp2_with fail
  refine (Valid_any _ _ (by omega) (by omega) _).mono ?_
  rintro e w1 ⟨rfl, hb1⟩
  have K1 := Lib.hid ((Fr2.new w an ad bn bd).below hb1)
  rw [HA.out]
  clear hb1
  obtain ⟨k1, k2, k3, k4, ksz, kb⟩ := K1.out
  go_wp2_with fail
  refine (Valid_any _ _ (by omega) (by omega) _).mono ?_
  rintro e w2 ⟨rfl, hb2⟩
  have K0 := Lib.hid (K1.out.below hb2)
  rw [HB.out]
  clear hb2 k1 k2 k3 k4 ksz kb K1 HA HB
  obtain ⟨k1, k2, k3, k4, ksz, kb⟩ := K0.out
  go_wp2_with fail
  refine (cmpi_any _ _ _).mono ?_
  rintro e w' ⟨rfl, rfl⟩
  go_wp2_with fail
  go_ret2
  exact ⟨rfl, kb⟩
theorem Cmp_bad (an ad bn bd : Int) (x1 : -9223372036854775808 ≤ an) (x2 : an ≤ 9223372036854775807) (x3 : -9223372036854775808 ≤ bn) (x4 : bn ≤ 9223372036854775807) (h : vldB an ad = false ∨ vldB bn bd = false) (w : World) :
    Calls Try.prog 21 #[.agg #[.int .i64 an, .int .i64 ad], .agg #[.int .i64 bn, .int .i64 bd]] w fun e w' => e = .returned (.tuple #[.int .i64 0, .int .i64 2]) ∧ Below w.heap.size w w' := by
  by_cases ha : vldB an ad = true
  · have hb : vldB bn bd = false := by rcases h with h | h; (rw [ha] at h; cases h); exact h
    have HA := Lib.hid ha; clear ha
    have HB := Lib.hid hb; clear hb h
    go_enter Try.func21, Try.ntmps21
    go_wp2_with fail
    refine (Valid_any _ _ (by omega) (by omega) _).mono ?_
    rintro e w1 ⟨rfl, hb1⟩
    have K1 := Lib.hid ((Fr2.new w an ad bn bd).below hb1)
    rw [HA.out]
    clear hb1
    obtain ⟨k1, k2, k3, k4, ksz, kb⟩ := K1.out
    go_wp2_with fail
    refine (Valid_any _ _ (by omega) (by omega) _).mono ?_
    rintro e w2 ⟨rfl, hb2⟩
    have K0 := Lib.hid (K1.out.below hb2)
    rw [HB.out]
    clear hb2 k1 k2 k3 k4 ksz kb K1 HA HB
    obtain ⟨k1, k2, k3, k4, ksz, kb⟩ := K0.out
    go_wp2_with fail
    go_ret2
    exact ⟨rfl, kb⟩
  · have ha' : vldB an ad = false := by simpa using ha
    have HA := Lib.hid ha'; clear ha ha' h
    go_enter Try.func21, Try.ntmps21
    go_wp2_with fail
    refine (Valid_any _ _ (by omega) (by omega) _).mono ?_
    rintro e w1 ⟨rfl, hb1⟩
    have K1 := Lib.hid ((Fr2.new w an ad bn bd).below hb1)
    rw [HA.out]
    clear hb1
    obtain ⟨k1, k2, k3, k4, ksz, kb⟩ := K1.out
    go_wp2_with fail
    go_ret2
    exact ⟨rfl, kb⟩


/-- A share of at most 2^20 is a fraction. -/
theorem frac_share {n d V D E : Int} (n0 : 0 ≤ n) (nd : n ≤ d) (d1 : 1 ≤ d) (d2 : d ≤ 1048576) (h : IsFrac n d V D E) : E = 0 ∧ vldB V D = true ∧ V * d = n * D := by
  rcases h with ⟨h1, h2, h3⟩ | ⟨h1, h2, h3, h4⟩
  · exact ⟨h1, h2, h3⟩
  · exfalso
    have g1 : 0 < Int.gcd n d := Int.gcd_pos_of_ne_zero_right _ (by omega)
    obtain ⟨g, hg⟩ : ∃ g : Int, g = (Int.gcd n d : Int) := ⟨_, rfl⟩
    have g0 : 0 < g := by omega
    have k1 : g ∣ n := by rw [hg]; exact Int.gcd_dvd_left ..
    have k2 : g ∣ d := by rw [hg]; exact Int.gcd_dvd_right ..
    obtain ⟨x, hx⟩ := k1
    obtain ⟨y, hy⟩ := k2
    have cop : Int.gcd x y = 1 := by
      have := Int.gcd_ediv_gcd_ediv_gcd g1
      rw [← hg, hx, hy, Int.mul_ediv_cancel_left _ (by omega), Int.mul_ediv_cancel_left _ (by omega)] at this
      exact this
    have y1 : 1 ≤ y := by
      have : 0 < g * y := by rw [← hy]; omega
      have := Int.pos_of_mul_pos_right this (by omega)
      omega
    have x0 : 0 ≤ x := by
      apply Classical.byContradiction; intro q
      have : g * x < 0 := Int.mul_neg_of_pos_of_neg g0 (by omega)
      omega
    have le : ∀ z : Int, 0 ≤ z → z ≤ g * z := fun z hz => by
      have := Int.mul_le_mul_of_nonneg_right (show (1 : Int) ≤ g by omega) hz
      rw [Int.one_mul] at this; exact this
    have lx := le x x0
    have ly := le y (by omega)
    refine h4 x y (vldB_true.2 ⟨y1, by omega, by omega, by omega, cop⟩) ?_
    rw [hx, hy]
    grind
end Go.Proofs.Ythbgeikdamajlaa
