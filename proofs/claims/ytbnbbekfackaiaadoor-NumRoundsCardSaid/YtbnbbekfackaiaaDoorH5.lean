/- The law NumRounds: its walk. -/
import Derived.Test.YtbnbbekfackaiaaDoorR27
import Derived.Test.YtbnbbekfackaiaaDoorE1
namespace Go.Proofs.YtbnbbekfackaiaaDoor.numRounds
open Go.RowKit
set_option linter.unusedVariables false
set_option linter.unusedSimpArgs false

set_option maxRecDepth 100000 in
set_option maxHeartbeats 4000000 in
theorem walk (n d a b c m : Int) (n1 : -9223372036854775808 ≤ n) (n2 : n ≤ 9223372036854775807) (w : World) :
    Calls Tryd.prog 5 #[.agg #[.int .i64 n, .int .i64 d], .int .i64 a, .int .i64 b, .int .i64 c, .int .i64 m] w fun e w' => e = .returned (.bool true) ∧ Below w.heap.size w w' := by
  have K0 := Lib.hid (Fr1.new w n d)
  have R1 := Lib.hid (fun W => Round_all n d m n1 n2 W)
  have R2 := Lib.hid (fun W => rRound_all n d m n1 n2 W)
  have S1 := Lib.hid (fun W => Scale_all a n d m n1 n2 W)
  have S2 := Lib.hid (fun W => rScale_all a n d m n1 n2 W)
  have M1 := Lib.hid (fun W => MulDiv_all a b c m W)
  have M2 := Lib.hid (fun W => rMulDiv_all a b c m W)
  generalize rdV n d m = V1 at *
  generalize rdE n d m = E1 at *
  generalize scV a n d m = V2 at *
  generalize scE a n d m = E2 at *
  generalize mdV a b c m = V3 at *
  generalize mdE a b c m = E3 at *
  go_enter Tryd.func5, Tryd.ntmps5
  go_upto_region 1 with fail
  generalize w.alloc (Obj.cells #[Value.int .i64 n, Value.int .i64 d] 23) = v at *
  obtain ⟨k1, k2, ksz, kb⟩ := K0.out
  go_wp2_with fail
  refine (R1.out _).mono ?_
  rintro e w1 ⟨rfl, hb⟩
  have K1 := Lib.hid (K0.out.below hb)
  clear hb k1 k2 ksz kb R1
  obtain ⟨k1, k2, ksz, kb⟩ := K1.out
  go_wp2_with fail
  refine (R2.out _).mono ?_
  rintro e w2 ⟨rfl, hb⟩
  have K2 := Lib.hid (K1.out.below hb)
  clear hb k1 k2 ksz kb R2
  obtain ⟨k1, k2, ksz, kb⟩ := K2.out
  go_wp2_with fail
  refine (S1.out _).mono ?_
  rintro e w3 ⟨rfl, hb⟩
  have K3 := Lib.hid (K2.out.below hb)
  clear hb k1 k2 ksz kb S1
  obtain ⟨k1, k2, ksz, kb⟩ := K3.out
  go_wp2_with fail
  refine (S2.out _).mono ?_
  rintro e w4 ⟨rfl, hb⟩
  have K4 := Lib.hid (K3.out.below hb)
  clear hb k1 k2 ksz kb S2
  obtain ⟨k1, k2, ksz, kb⟩ := K4.out
  go_wp2_with fail
  refine (M1.out _).mono ?_
  rintro e w5 ⟨rfl, hb⟩
  have K5 := Lib.hid (K4.out.below hb)
  clear hb k1 k2 ksz kb M1
  obtain ⟨k1, k2, ksz, kb⟩ := K5.out
  go_wp2_with fail
  refine (M2.out _).mono ?_
  rintro e w6 ⟨rfl, hb⟩
  have K6 := Lib.hid (K5.out.below hb)
  clear hb k1 k2 ksz kb M2
  obtain ⟨k1, k2, ksz, kb⟩ := K6.out
  go_wp2_with fail
  refine (alive_any _).mono ?_
  rintro e w7 ⟨rfl, hb⟩
  have K7 := Lib.hid (K6.out.below hb)
  clear hb k1 k2 ksz kb
  obtain ⟨k1, k2, ksz, kb⟩ := K7.out
  go_wp2_with fail
  go_ret
  exact ⟨rfl, kb⟩
end Go.Proofs.YtbnbbekfackaiaaDoor.numRounds
