/- The law NumBest: its walk. -/
import Derived.Test.YtblaakjldpcjlaaDoorT4
import Derived.Test.YtblaakjldpcjlaaDoorT7
namespace Go.Proofs.YtblaakjldpcjlaaDoor
open Go.RowKit
set_option linter.unusedVariables false
set_option linter.unusedSimpArgs false

theorem rBest_rel (n d most V D E : Int) (R : (E = 0 ∧ BestR n d most V D ∧ -1099511627776 ≤ n ∧ n ≤ 1099511627776 ∧ 1 ≤ d ∧ d ≤ 1099511627776 ∧ 1 ≤ most ∧ most ≤ 1048576) ∨ (E = 2 ∧ V = 0 ∧ D = 0 ∧ ¬ ((-1099511627776 ≤ n ∧ n ≤ 1099511627776) ∧ 1 ≤ d ∧ d ≤ 1099511627776 ∧ 1 ≤ most ∧ most ≤ 1048576))) (w : World) :
    Calls Tryd.prog 19 #[.int .i64 n, .int .i64 d, .int .i64 most] w fun e w' => e = .returned (fracV V D E) ∧ Below w.heap.size w w' := by
  rcases R with ⟨rfl, ⟨b1, b2, b3⟩, n1, n2, d1, d2, m1, m2⟩ | ⟨rfl, rfl, rfl, h⟩
  · refine (rBest_ok n d most n1 n2 d1 d2 m1 m2 w).mono ?_
    rintro e w' ⟨V', D', rfl, ⟨c1, c2, c3⟩, hb⟩
    obtain ⟨rfl, rfl⟩ := (b3 V' D' c1 c2).uniq (c3 V D (vldB_true.1 b2).1 b1)
    exact ⟨rfl, hb⟩
  · exact rBest_bad n d most (by unfold BadB; omega) w
end Go.Proofs.YtblaakjldpcjlaaDoor
namespace Go.Proofs.YtblaakjldpcjlaaDoor.numBest
open Go.RowKit
set_option linter.unusedVariables false
set_option linter.unusedSimpArgs false

set_option maxRecDepth 100000 in
set_option maxHeartbeats 4000000 in
theorem walk (n d most : Int) (w : World) :
    Calls Tryd.prog 4 #[.int .i64 n, .int .i64 d, .int .i64 most] w fun e w' => e = .returned (.bool true) ∧ Below w.heap.size w w' := by
  go_enter Tryd.func4, Tryd.ntmps4
  go_wp2_with fail
  refine (Best_all n d most _).mono ?_
  rintro e w1 ⟨V, D, E, rfl, R, hq⟩
  unfold fracV
  have HR := Lib.hid R
  have J0 : Hid (Sm w (w1.alloc (Obj.cells #[Value.int IntKind.i64 V, Value.int IntKind.i64 D] 23)) w1.heap.size V D) :=
    ⟨by simp [go_sem], by simp [go_sem], by simp, hq.alloc hq.size _⟩
  clear hq R
  go_upto_region 2 with fail
  generalize (w1.alloc (Obj.cells #[Value.int IntKind.i64 V, Value.int IntKind.i64 D] 23)) = v1 at *
  generalize w1.heap.size = g at *
  obtain ⟨xc0, xc1, xz, kb⟩ := J0.out
  go_wp2_with fail
  refine (rBest_rel n d most V D E HR.out _).mono ?_
  rintro e w2 ⟨rfl, hq⟩
  unfold fracV
  have J1 := Lib.hid ((J0.out.below hq).below ((Below.refl _ w2).alloc (Nat.le_refl _) (Obj.cells #[Value.int .i64 V, Value.int .i64 D] 23)))
  have y0 : (w2.alloc (Obj.cells #[Value.int .i64 V, Value.int .i64 D] 23)).cell? ⟨w2.heap.size, 0, none⟩ = some (.int .i64 V) := by simp [go_sem]
  have y1 : (w2.alloc (Obj.cells #[Value.int .i64 V, Value.int .i64 D] 23)).cell? ⟨w2.heap.size, 1, none⟩ = some (.int .i64 D) := by simp [go_sem]
  have yz : w2.heap.size < (w2.alloc (Obj.cells #[Value.int .i64 V, Value.int .i64 D] 23)).heap.size := by simp
  clear hq HR J0 xc0 xc1 xz kb
  go_upto_region 3 with fail
  generalize (w2.alloc (Obj.cells #[Value.int .i64 V, Value.int .i64 D] 23)) = v2 at *
  generalize w2.heap.size = g2 at *
  obtain ⟨xc0, xc1, xz, kb⟩ := J1.out
  go_wp2_with fail
  refine (alive_any _).mono ?_
  rintro e wq ⟨rfl, hq⟩
  have J9 := Lib.hid (J1.out.below (by first | exact hq | exact ((Below.refl _ _).drew).trans hq | exact (below_drewN (Below.refl _ _) _).trans hq))
  clear hq y0 y1 yz xc0 xc1 xz kb
  obtain ⟨xc0, xc1, xz, kb⟩ := J9.out
  go_wp2_with fail
  go_ret
  exact ⟨rfl, by first | exact kb | exact kb.drew | exact below_drewN kb _⟩
end Go.Proofs.YtblaakjldpcjlaaDoor.numBest
