/- The law ClassingNobody: its walk. -/
import Derived.Test.YtlfffobfcledcaaCL4
import Derived.Test.YtlfffobfcledcaaCAA
namespace Go.Proofs.Ytlfffobfcledcaa
open Go.RowKit
set_option linter.unusedVariables false
set_option linter.unusedSimpArgs false

set_option maxRecDepth 100000 in
set_option maxHeartbeats 2000000 in
theorem nobody_zero (za zb zc zd ze : Int) (w : World) : Calls Try.prog 3 #[.agg #[.int .i64 za, .int .i64 zb, .int .i64 zc, .int .i64 zd, .int .i64 ze], .bool true] w fun e w' => e = .returned (.bool true) ∧ Below w.heap.size w w' := by
  go_enter Try.func3, Try.ntmps3
  go_wp2_with fail
  refine (Feed_zero _ ⟨w.heap.size + 1, 0, none⟩ (by simp) (by simp [go_sem]) za zb zc zd ze).mono ?_
  rintro e w1 ⟨rfl, hb⟩
  have k1 : Below w.heap.size w w1 := (((Below.refl w.heap.size w).alloc (Nat.le_refl _) _).alloc (by simp) _).trans (hb.mono (by simp; omega))
  have z1 : w1.cell? ⟨w.heap.size + 1, 0, none⟩ = some (.bool false) := (hb.cell (by simp)).trans (by simp [go_sem])
  have l1 : w.heap.size + 1 < w1.heap.size := Nat.lt_of_lt_of_le (by simp) hb.size
  clear hb
  go_wp2_with fail
  refine (Result_zero _ ⟨w.heap.size + 1, 0, none⟩ (by first | exact l1 | (simp; omega)) (by first | exact z1 | simp [go_sem, z1])).mono ?_
  rintro e w2 ⟨rfl, hb⟩
  have k2 : Below w.heap.size w w2 := k1.trans (hb.mono k1.size)
  have z2 : w2.cell? ⟨w.heap.size + 1, 0, none⟩ = some (.bool false) := (hb.cell (by first | exact l1 | (simp; omega))).trans z1
  have l2 : w.heap.size + 1 < w2.heap.size := Nat.lt_of_lt_of_le l1 hb.size
  clear hb
  go_wp2_with fail
  refine (found_any _).mono ?_
  rintro e w3 ⟨rfl, hb⟩
  have k3 : Below w.heap.size w w3 := (k2.alloc k2.size _).trans (hb.mono (by have := k2.size; simp; omega))
  have z3 : w3.cell? ⟨w.heap.size + 1, 0, none⟩ = some (.bool false) := (hb.cell (by simp; omega)).trans ((World.cell?_alloc_lt _ _ _ l2).trans z2)
  have l3 : w.heap.size + 1 < w3.heap.size := Nat.lt_of_lt_of_le (by simp; omega) hb.size
  clear hb
  go_wp2_with fail
  refine (State_zero _ ⟨w.heap.size + 1, 0, none⟩ (by first | exact l3 | (simp; omega)) (by first | exact z3 | simp [go_sem, z3])).mono ?_
  rintro e w4 ⟨rfl, hb⟩
  have k4 : Below w.heap.size w w4 := k3.trans (hb.mono k3.size)
  have z4 : w4.cell? ⟨w.heap.size + 1, 0, none⟩ = some (.bool false) := (hb.cell (by first | exact l3 | (simp; omega))).trans z3
  have l4 : w.heap.size + 1 < w4.heap.size := Nat.lt_of_lt_of_le l3 hb.size
  clear hb
  go_wp2_with fail
  refine (Need_zero _ ⟨w.heap.size + 1, 0, none⟩ (by first | exact l4 | (simp; omega)) (by first | exact z4 | simp [go_sem, z4])).mono ?_
  rintro e w5 ⟨rfl, hb⟩
  have k5 : Below w.heap.size w w5 := k4.trans (hb.mono k4.size)
  have z5 : w5.cell? ⟨w.heap.size + 1, 0, none⟩ = some (.bool false) := (hb.cell (by first | exact l4 | (simp; omega))).trans z4
  have l5 : w.heap.size + 1 < w5.heap.size := Nat.lt_of_lt_of_le l4 hb.size
  clear hb
  go_wp2_with fail
  refine (alive_any _).mono ?_
  rintro e w6 ⟨rfl, hb⟩
  have k6 : Below w.heap.size w w6 := k5.trans (hb.mono k5.size)
  have z6 : w6.cell? ⟨w.heap.size + 1, 0, none⟩ = some (.bool false) := (hb.cell (by first | exact l5 | (simp; omega))).trans z5
  have l6 : w.heap.size + 1 < w6.heap.size := Nat.lt_of_lt_of_le l5 hb.size
  clear hb
  go_wp2_with fail
  go_ret
  exact ⟨rfl, k6⟩

set_option maxRecDepth 100000 in
set_option maxHeartbeats 2000000 in
theorem nobody_nil (za zb zc zd ze : Int) (w : World) : Calls Try.prog 3 #[.agg #[.int .i64 za, .int .i64 zb, .int .i64 zc, .int .i64 zd, .int .i64 ze], .bool false] w fun e w' => e = .returned (.bool true) ∧ Below w.heap.size w w' := by
  go_enter Try.func3, Try.ntmps3
  go_wp2_with fail
  refine (Feed_nil _ za zb zc zd ze).mono ?_
  rintro e w1 ⟨rfl, hb⟩
  have k1 : Below w.heap.size w w1 := ((Below.refl w.heap.size w).alloc (Nat.le_refl _) _).trans (hb.mono (by simp))
  clear hb
  go_wp2_with fail
  refine (Result_nil _).mono ?_
  rintro e w2 ⟨rfl, hb⟩
  have k2 : Below w.heap.size w w2 := k1.trans (hb.mono k1.size)
  clear hb
  go_wp2_with fail
  refine (found_any _).mono ?_
  rintro e w3 ⟨rfl, hb⟩
  have k3 : Below w.heap.size w w3 := (k2.alloc k2.size _).trans (hb.mono (by have := k2.size; simp; omega))
  clear hb
  go_wp2_with fail
  refine (State_nil _).mono ?_
  rintro e w4 ⟨rfl, hb⟩
  have k4 : Below w.heap.size w w4 := k3.trans (hb.mono k3.size)
  clear hb
  go_wp2_with fail
  refine (Need_nil _).mono ?_
  rintro e w5 ⟨rfl, hb⟩
  have k5 : Below w.heap.size w w5 := k4.trans (hb.mono k4.size)
  clear hb
  go_wp2_with fail
  refine (alive_any _).mono ?_
  rintro e w6 ⟨rfl, hb⟩
  have k6 : Below w.heap.size w w6 := k5.trans (hb.mono k5.size)
  clear hb
  go_wp2_with fail
  go_ret
  exact ⟨rfl, k6⟩

theorem nobody_any (a b c d e : Int) (plain : Bool) (w : World) : Calls Try.prog 3 #[.agg #[.int .i64 a, .int .i64 b, .int .i64 c, .int .i64 d, .int .i64 e], .bool plain] w fun e w' => e = .returned (.bool true) ∧ Below w.heap.size w w' := by
  cases plain
  · exact nobody_nil a b c d e w
  · exact nobody_zero a b c d e w
end Go.Proofs.Ytlfffobfcledcaa
