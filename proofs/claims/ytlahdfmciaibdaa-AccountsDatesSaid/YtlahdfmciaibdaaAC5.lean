/- The law AccountsDates: its walk. -/
import Derived.Test.YtlahdfmciaibdaaAC4
import Derived.Test.YtlahdfmciaibdaaABA
namespace Go.Proofs.Ytlahdfmciaibdaa.accountsDates
open Go.RowKit
set_option linter.unusedVariables false
set_option linter.unusedSimpArgs false

set_option maxRecDepth 100000 in
set_option maxHeartbeats 8000000 in
theorem walk (y m d day : Int) (w : World) :
    Calls Try.prog 3 #[.agg #[.int .i64 y, .int .i64 m, .int .i64 d], .int .i64 day] w fun e w' => e = .returned (.bool true) ∧ Below w.heap.size w w' := by
  have D1 := Lib.hid (fun W => DayOf_any y m d W)
  have D2 := Lib.hid (fun W => rDayOf_any y m d W)
  have T1 := Lib.hid (fun W => DateOf_any day W)
  have T2 := Lib.hid (fun W => rDateOf_any day W)
  go_enter Try.func3, Try.ntmps3
  go_upto_region 1 with fail
  have KB := Lib.hid ((Below.refl w.heap.size w).alloc (Nat.le_refl _) (Obj.cells #[Value.int IntKind.i64 y, Value.int IntKind.i64 m, Value.int IntKind.i64 d] 23))
  obtain ⟨cY, cM, cD⟩ := box3 w (.int .i64 y) (.int .i64 m) (.int .i64 d) 23
  have pz : w.heap.size < (w.alloc (Obj.cells #[Value.int IntKind.i64 y, Value.int IntKind.i64 m, Value.int IntKind.i64 d] 23)).heap.size := by simp
  generalize w.alloc (Obj.cells #[Value.int IntKind.i64 y, Value.int IntKind.i64 m, Value.int IntKind.i64 d] 23) = w1 at *
  obtain ⟨p, hp⟩ : ∃ p, w.heap.size = p := ⟨_, rfl⟩
  rw [hp] at cY cM cD pz ⊢
  clear hp
  go_wp2_with fail
  refine (D1.out _).mono ?_
  rintro e w2 ⟨n, E, rfl, q1, b2⟩
  have Q1 := Lib.hid q1
  replace cY := cellB b2 pz cY
  replace cM := cellB b2 pz cM
  replace cD := cellB b2 pz cD
  replace KB := Lib.hid (KB.out.trans (b2.mono KB.out.size))
  clear q1 b2 D1 pz
  go_wp2_with fail
  refine (D2.out _).mono ?_
  rintro e w3 ⟨n', E', rfl, q2, b2⟩
  obtain ⟨rfl, rfl⟩ := Q1.out.det q2
  replace KB := Lib.hid (KB.out.trans (b2.mono KB.out.size))
  clear q2 b2 D2 Q1 cY cM cD
  go_wp2_with fail
  refine (T1.out _).mono ?_
  rintro e w4 ⟨Y, M, D, F, rfl, q1, b2⟩
  have Q1 := Lib.hid q1
  replace KB := Lib.hid (KB.out.trans (b2.mono KB.out.size))
  clear q1 b2 T1
  go_wp2_with fail
  replace KB := Lib.hid (KB.out.alloc KB.out.size (Obj.cells #[Value.int IntKind.i64 Y, Value.int IntKind.i64 M, Value.int IntKind.i64 D] 23))
  obtain ⟨a0, a1, a2⟩ := box3 w4 (.int .i64 Y) (.int .i64 M) (.int .i64 D) 23
  have az : w4.heap.size < (w4.alloc (Obj.cells #[Value.int IntKind.i64 Y, Value.int IntKind.i64 M, Value.int IntKind.i64 D] 23)).heap.size := by simp
  generalize w4.alloc (Obj.cells #[Value.int IntKind.i64 Y, Value.int IntKind.i64 M, Value.int IntKind.i64 D] 23) = w5 at *
  obtain ⟨a, ha⟩ : ∃ a, w4.heap.size = a := ⟨_, rfl⟩
  rw [ha] at a0 a1 a2 az ⊢
  clear ha
  refine (T2.out _).mono ?_
  rintro e w6 ⟨Y', M', D', F', rfl, q2, b2⟩
  obtain ⟨rfl, rfl, rfl, rfl⟩ := Q1.out.det q2
  replace a0 := cellB b2 az a0
  replace a1 := cellB b2 az a1
  replace a2 := cellB b2 az a2
  have az6 : a < w6.heap.size := Nat.lt_of_lt_of_le az b2.size
  replace KB := Lib.hid (KB.out.trans (b2.mono KB.out.size))
  clear q2 b2 T2 Q1 az
  go_upto_region 5 with fail
  replace KB := Lib.hid (KB.out.alloc KB.out.size (Obj.cells #[Value.int IntKind.i64 Y, Value.int IntKind.i64 M, Value.int IntKind.i64 D] 23))
  obtain ⟨c0, c1, c2⟩ := box3 w6 (.int .i64 Y) (.int .i64 M) (.int .i64 D) 23
  have g0 : (w6.alloc (Obj.cells #[Value.int IntKind.i64 Y, Value.int IntKind.i64 M, Value.int IntKind.i64 D] 23)).cell? ⟨a, 0, none⟩ = some (.int .i64 Y) := by
    rw [← a0]; exact ((Below.refl w6.heap.size w6).alloc (Nat.le_refl _) _).cell (p := ⟨a, 0, none⟩) az6
  have g1 : (w6.alloc (Obj.cells #[Value.int IntKind.i64 Y, Value.int IntKind.i64 M, Value.int IntKind.i64 D] 23)).cell? ⟨a, 1, none⟩ = some (.int .i64 M) := by
    rw [← a1]; exact ((Below.refl w6.heap.size w6).alloc (Nat.le_refl _) _).cell (p := ⟨a, 1, none⟩) az6
  have g2 : (w6.alloc (Obj.cells #[Value.int IntKind.i64 Y, Value.int IntKind.i64 M, Value.int IntKind.i64 D] 23)).cell? ⟨a, 2, none⟩ = some (.int .i64 D) := by
    rw [← a2]; exact ((Below.refl w6.heap.size w6).alloc (Nat.le_refl _) _).cell (p := ⟨a, 2, none⟩) az6
  generalize w6.alloc (Obj.cells #[Value.int IntKind.i64 Y, Value.int IntKind.i64 M, Value.int IntKind.i64 D] 23) = w7 at *
  obtain ⟨b, hb⟩ : ∃ b, w6.heap.size = b := ⟨_, rfl⟩
  rw [hb] at c0 c1 c2 ⊢
  clear hb az6 a0 a1 a2
  have e1 : (n == n) = true := by simp
  have e2 : (E == E) = true := by simp
  have e3 : (F == F) = true := by simp
  go_wp2_with fail
  refine (alive_any _).mono ?_
  rintro e wq ⟨rfl, hq⟩
  have B9 := Lib.hid (KB.out.trans ((show Below _ _ wq from by first | exact hq | exact ((Below.refl _ _).drew).trans hq | exact (below_drewN (Below.refl _ _) _).trans hq).mono KB.out.size))
  clear hq
  go_wp2_with fail
  go_ret
  exact ⟨rfl, (by first | exact B9.out | exact B9.out.drew | exact below_drewN B9.out _)⟩
theorem walkF (y m d day : Int) (g : -9223372036854775808 ≤ day ∧ day ≤ 9223372036854775807) (w : World) :
    Calls Try.prog 3 #[.agg #[.int .i64 y, .int .i64 m, .int .i64 d], .int .i64 day] w fun e w' => e = .returned (.bool true) ∧ Below w.heap.size w w' := walk y m d day w
end Go.Proofs.Ytlahdfmciaibdaa.accountsDates
