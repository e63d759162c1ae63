/- The law NumBetween: its walk. -/
import Derived.Test.YtbnbbekfackaiaaDoorS6
namespace Go.Proofs.YtbnbbekfackaiaaDoor.numBetween
open Go.RowKit Go.Proofs.YtbnbbekfackaiaaDoor.numSimplest
set_option linter.unusedVariables false
set_option linter.unusedSimpArgs false

set_option maxRecDepth 100000 in
set_option maxHeartbeats 4000000 in
theorem walk (an ad bn bd : Int) (x1 : -9223372036854775808 ≤ an) (x2 : an ≤ 9223372036854775807) (x3 : -9223372036854775808 ≤ bn) (x4 : bn ≤ 9223372036854775807) (w : World) :
    Calls Tryd.prog 7 #[.agg #[.int .i64 an, .int .i64 ad], .agg #[.int .i64 bn, .int .i64 bd]] w fun e w' => e = .returned (.bool true) ∧ Below w.heap.size w w' := by
  have K0 := Lib.hid (Fr2.new w an ad bn bd)
  go_enter Tryd.func7, Tryd.ntmps7
  go_wp2_with fail
  generalize ((w.alloc (Obj.cells #[Value.int .i64 an, Value.int .i64 ad] 23)).alloc (Obj.cells #[Value.int .i64 bn, Value.int .i64 bd] 23)) = v at *
  obtain ⟨k1, k2, k3, k4, ksz, kb⟩ := K0.out
  refine (Between_all an ad bn bd x1 x2 x3 x4 _).mono ?_
  rintro e w1 ⟨V, D, E, R, rfl, hq⟩
  unfold fracV
  have HR := Lib.hid R
  have K1 := Lib.hid (K0.out.below hq)
  clear hq R k1 k2 k3 k4 ksz kb K0
  have J0 : Hid (Sx w (w1.alloc (Obj.cells #[Value.int .i64 V, Value.int .i64 D] 23)) w1.heap.size an ad bn bd V D) :=
    ⟨K1.out.below ((Below.refl _ _).alloc (Nat.le_refl _) _), by simp [go_sem], by simp [go_sem], by simp⟩
  clear K1
  go_upto_region 2 with fail
  generalize (w1.alloc (Obj.cells #[Value.int .i64 V, Value.int .i64 D] 23)) = v1 at *
  generalize w1.heap.size = g at *
  obtain ⟨⟨k1, k2, k3, k4, ksz, kb⟩, c0, c1, cz⟩ := J0.out
  go_wp2_with fail
  refine (rBetween_rel an ad bn bd V D E x1 x2 x3 x4 HR.out _).mono ?_
  rintro e w2 ⟨rfl, hq⟩
  unfold fracV
  have J1 := Lib.hid ((J0.out.below hq).below ((Below.refl _ w2).alloc (Nat.le_refl _) (Obj.cells #[Value.int .i64 V, Value.int .i64 D] 23)))
  have y0 : (w2.alloc (Obj.cells #[Value.int .i64 V, Value.int .i64 D] 23)).cell? ⟨w2.heap.size, 0, none⟩ = some (.int .i64 V) := by simp [go_sem]
  have y1 : (w2.alloc (Obj.cells #[Value.int .i64 V, Value.int .i64 D] 23)).cell? ⟨w2.heap.size, 1, none⟩ = some (.int .i64 D) := by simp [go_sem]
  have yz : w2.heap.size < (w2.alloc (Obj.cells #[Value.int .i64 V, Value.int .i64 D] 23)).heap.size := by simp
  clear hq HR J0 k1 k2 k3 k4 ksz kb c0 c1 cz
  go_upto_region 3 with fail
  generalize (w2.alloc (Obj.cells #[Value.int .i64 V, Value.int .i64 D] 23)) = v2 at *
  generalize w2.heap.size = g2 at *
  obtain ⟨⟨k1, k2, k3, k4, ksz, kb⟩, c0, c1, cz⟩ := J1.out
  go_wp2_with fail
  refine (alive_any _).mono ?_
  rintro e wq ⟨rfl, hq⟩
  have J9 := Lib.hid (J1.out.below (by first | exact hq | exact ((Below.refl _ _).drew).trans hq | exact (below_drewN (Below.refl _ _) _).trans hq))
  clear hq y0 y1 yz k1 k2 k3 k4 ksz kb c0 c1 cz
  obtain ⟨⟨k1, k2, k3, k4, ksz, kb⟩, c0, c1, cz⟩ := J9.out
  go_wp2_with fail
  go_ret
  exact ⟨rfl, by first | exact kb | exact kb.drew | exact below_drewN kb _⟩
end Go.Proofs.YtbnbbekfackaiaaDoor.numBetween
