/- Cmp of package num. -/
import Derived.Test.YtbnbbekfackaiaaDoorR20
import Derived.Test.YtbnbbekfackaiaaDoorB5
namespace Go.Proofs.YtbnbbekfackaiaaDoor
open Go.RowKit
set_option linter.unusedVariables false
set_option linter.unusedSimpArgs false

theorem cmpi_any (a b : Int) (w : World) :
    Calls Tryd.prog 64 #[.int .i64 a, .int .i64 b] w fun e w' => e = .returned (.int .i64 (cmpZ a b)) ∧ w = w' := by
  unfold cmpZ
  rcases (by omega : a < b ∨ b < a ∨ (a ≤ b ∧ b ≤ a)) with h | h | ⟨h, h'⟩
  · rw [if_pos h]
    go_enter Tryd.func64, Tryd.ntmps64
    go_wp2
    go_ret
    exact ⟨rfl, rfl⟩
  · rw [if_neg (by omega), if_pos h]
    go_enter Tryd.func64, Tryd.ntmps64
    go_wp2
    go_ret
    exact ⟨rfl, rfl⟩
  · rw [if_neg (by omega), if_neg (by omega)]
    go_enter Tryd.func64, Tryd.ntmps64
    go_wp2
    go_ret
    exact ⟨rfl, rfl⟩

theorem Cmp_ok (an ad bn bd : Int) (ha : vldB an ad = true) (hb : vldB bn bd = true) (w : World) :
    Calls Tryd.prog 22 #[.agg #[.int .i64 an, .int .i64 ad], .agg #[.int .i64 bn, .int .i64 bd]] w fun e w' => e = .returned (.tuple #[.int .i64 (cmpZ (an * bd) (bn * ad)), .int .i64 0]) ∧ Below w.heap.size w w' := by
  obtain ⟨a1, a2, a3, a4, a5⟩ := vldB_true.1 ha
  obtain ⟨b1, b2, b3, b4, b5⟩ := vldB_true.1 hb
  have HA := Lib.hid ha; clear ha a5
  have HB := Lib.hid hb; clear hb b5
  obtain ⟨p1, p2⟩ := fr_mul a3 a4 b1 b2
  obtain ⟨q1, q2⟩ := fr_mul b3 b4 a1 a2
  go_enter Tryd.func22, Tryd.ntmps22
  go_wp2_with fail
  refine (Valid_any _ _ (by omega) (by omega) _).mono ?_
  rintro e w1 ⟨rfl, hb1⟩
  have K1 := Lib.hid ((Fr2.new w an ad bn bd).below hb1)
  rw [HA.out]
  clear hb1
  obtain ⟨k1, k2, k3, k4, ksz, kb⟩ := K1.out
  go_wp2_with fail
  refine (Valid_any _ _ (by omega) (by omega) _).mono ?_
  rintro e w2 ⟨rfl, hb2⟩
  have K0 := Lib.hid (K1.out.below hb2)
  rw [HB.out]
  clear hb2 k1 k2 k3 k4 ksz kb K1 HA HB
  obtain ⟨k1, k2, k3, k4, ksz, kb⟩ := K0.out
  go_wp2_with fail
  refine (cmpi_any _ _ _).mono ?_
  rintro e w' ⟨rfl, rfl⟩
  go_wp2_with fail
  go_ret2
  exact ⟨rfl, kb⟩
theorem Cmp_bad (an ad bn bd : Int) (x1 : -9223372036854775808 ≤ an) (x2 : an ≤ 9223372036854775807) (x3 : -9223372036854775808 ≤ bn) (x4 : bn ≤ 9223372036854775807) (h : vldB an ad = false ∨ vldB bn bd = false) (w : World) :
    Calls Tryd.prog 22 #[.agg #[.int .i64 an, .int .i64 ad], .agg #[.int .i64 bn, .int .i64 bd]] w fun e w' => e = .returned (.tuple #[.int .i64 0, .int .i64 2]) ∧ Below w.heap.size w w' := by
  by_cases ha : vldB an ad = true
  · have hb : vldB bn bd = false := by rcases h with h | h; (rw [ha] at h; cases h); exact h
    have HA := Lib.hid ha; clear ha
    have HB := Lib.hid hb; clear hb h
    go_enter Tryd.func22, Tryd.ntmps22
    go_wp2_with fail
    refine (Valid_any _ _ (by omega) (by omega) _).mono ?_
    rintro e w1 ⟨rfl, hb1⟩
    have K1 := Lib.hid ((Fr2.new w an ad bn bd).below hb1)
    rw [HA.out]
    clear hb1
    obtain ⟨k1, k2, k3, k4, ksz, kb⟩ := K1.out
    go_wp2_with fail
    refine (Valid_any _ _ (by omega) (by omega) _).mono ?_
    rintro e w2 ⟨rfl, hb2⟩
    have K0 := Lib.hid (K1.out.below hb2)
    rw [HB.out]
    clear hb2 k1 k2 k3 k4 ksz kb K1 HA HB
    obtain ⟨k1, k2, k3, k4, ksz, kb⟩ := K0.out
    go_wp2_with fail
    go_ret2
    exact ⟨rfl, kb⟩
  · have ha' : vldB an ad = false := by simpa using ha
    have HA := Lib.hid ha'; clear ha ha' h
    go_enter Tryd.func22, Tryd.ntmps22
    go_wp2_with fail
    refine (Valid_any _ _ (by omega) (by omega) _).mono ?_
    rintro e w1 ⟨rfl, hb1⟩
    have K1 := Lib.hid ((Fr2.new w an ad bn bd).below hb1)
    rw [HA.out]
    clear hb1
    obtain ⟨k1, k2, k3, k4, ksz, kb⟩ := K1.out
    go_wp2_with fail
    go_ret2
    exact ⟨rfl, kb⟩

/-- Cmp for every two operands. -/
def CmpR (v : Bool) (x y C E : Int) : Prop := (v = true ∧ C = cmpZ x y ∧ E = 0) ∨ (v = false ∧ C = 0 ∧ E = 2)
theorem CmpR.unique {v : Bool} {x y C E C' E' : Int} (h : CmpR v x y C E) (h' : CmpR v x y C' E') : C' = C ∧ E' = E := by
  rcases h with ⟨a, b, c⟩ | ⟨a, b, c⟩ <;> rcases h' with ⟨a', b', c'⟩ | ⟨a', b', c'⟩
  · exact ⟨by omega, by omega⟩
  · rw [a] at a'; cases a'
  · rw [a] at a'; cases a'
  · exact ⟨by omega, by omega⟩
def ResC (R : Int → Int → Prop) (w : World) (e : Ending) (w' : World) : Prop := ∃ C E, R C E ∧ e = .returned (.tuple #[.int .i64 C, .int .i64 E]) ∧ Below w.heap.size w w'
theorem Cmp_all (an ad bn bd : Int) (x1 : -9223372036854775808 ≤ an) (x2 : an ≤ 9223372036854775807) (x3 : -9223372036854775808 ≤ bn) (x4 : bn ≤ 9223372036854775807) (w : World) :
    Calls Tryd.prog 22 #[.agg #[.int .i64 an, .int .i64 ad], .agg #[.int .i64 bn, .int .i64 bd]] w (ResC (CmpR (vldB an ad && vldB bn bd) (an * bd) (bn * ad)) w) := by
  cases h : (vldB an ad && vldB bn bd)
  · exact (Cmp_bad an ad bn bd x1 x2 x3 x4 (by cases h1 : vldB an ad <;> cases h2 : vldB bn bd <;> simp_all) w).mono fun _ _ ⟨a, b⟩ => ⟨0, 2, .inr ⟨rfl, rfl, rfl⟩, a, b⟩
  · rw [Bool.and_eq_true] at h
    exact (Cmp_ok an ad bn bd h.1 h.2 w).mono fun _ _ ⟨a, b⟩ => ⟨_, _, .inl ⟨rfl, rfl, rfl⟩, a, b⟩
theorem rCmp_all (an ad bn bd : Int) (x1 : -9223372036854775808 ≤ an) (x2 : an ≤ 9223372036854775807) (x3 : -9223372036854775808 ≤ bn) (x4 : bn ≤ 9223372036854775807) (w : World) :
    Calls Tryd.prog 23 #[.agg #[.int .i64 an, .int .i64 ad], .agg #[.int .i64 bn, .int .i64 bd]] w (ResC (CmpR (vldB an ad && vldB bn bd) (an * bd) (bn * ad)) w) := by
  cases h : (vldB an ad && vldB bn bd)
  · exact (rCmp_bad an ad bn bd x1 x2 x3 x4 (by cases h1 : vldB an ad <;> cases h2 : vldB bn bd <;> simp_all) w).mono fun _ _ ⟨a, b⟩ => ⟨0, 2, .inr ⟨rfl, rfl, rfl⟩, a, b⟩
  · rw [Bool.and_eq_true] at h
    exact (rCmp_ok an ad bn bd h.1 h.2 w).mono fun _ _ ⟨a, b⟩ => ⟨_, _, .inl ⟨rfl, rfl, rfl⟩, a, b⟩
end Go.Proofs.YtbnbbekfackaiaaDoor
