/- Suits, the program's and the reference's: what they answer. -/
import Derived.Test.YtalgjpclccmknaaProg
import Derived.WalkKit
import Derived.BigQuiet
import Derived.Lib.Hide
namespace Go.Proofs.Ytalgjpclccmknaa
open Go.RowKit
set_option linter.unusedVariables false
set_option linter.unusedSimpArgs false

def suitB (price mic veg wprice low high wveg : Int) : Bool := decide (low ≤ mic) && decide (mic ≤ high) && decide (veg ≤ wveg) && decide (price ≤ wprice)

set_option maxRecDepth 100000 in
set_option maxHeartbeats 1000000 in
theorem suits_any (bales price mic veg store wbales wprice low high wveg port : Int) (w : World) :
    Calls Try.prog 34 #[.agg #[.int .i64 bales, .int .i64 price, .int .i64 mic, .int .i64 veg, .int .i64 store], .agg #[.int .i64 wbales, .int .i64 wprice, .int .i64 low, .int .i64 high, .int .i64 wveg, .int .i64 port]] w
      fun e w' => e = .returned (.bool (suitB price mic veg wprice low high wveg)) ∧ Below w.heap.size w w' := by
  have HB : Hid (Below w.heap.size w ((w.alloc (.cells #[.int .i64 bales, .int .i64 price, .int .i64 mic, .int .i64 veg, .int .i64 store] 45)).alloc (.cells #[.int .i64 wbales, .int .i64 wprice, .int .i64 low, .int .i64 high, .int .i64 wveg, .int .i64 port] 47))) :=
    Lib.hid (((Below.refl _ w).alloc (Nat.le_refl _) _).alloc (by simp) _)
  by_cases c1 : low ≤ mic
  · by_cases c2 : mic ≤ high
    · by_cases c3 : veg ≤ wveg
      · have HS := Lib.hid (show suitB price mic veg wprice low high wveg = decide (price ≤ wprice) by simp [suitB, c1, c2, c3])
        generalize suitB price mic veg wprice low high wveg = S at *
        have d1 : decide (low ≤ mic) = true := by simp [c1]
        have d2 : decide (mic ≤ high) = true := by simp [c2]
        have d3 : decide (veg ≤ wveg) = true := by simp [c3]
        go_enter Try.func34, Try.ntmps34
        go_wp2_with fail
        go_ret
        exact ⟨by rw [HS.out]; rfl, HB.out⟩
      · have HS := Lib.hid (show suitB price mic veg wprice low high wveg = false by simp [suitB, c3])
        generalize suitB price mic veg wprice low high wveg = S at *
        have d1 : decide (low ≤ mic) = true := by simp [c1]
        have d2 : decide (mic ≤ high) = true := by simp [c2]
        have d3 : decide (veg ≤ wveg) = false := by simp [c3]
        go_enter Try.func34, Try.ntmps34
        go_wp2_with fail
        go_ret
        exact ⟨by rw [HS.out]; rfl, HB.out⟩
    · have HS := Lib.hid (show suitB price mic veg wprice low high wveg = false by simp [suitB, c2])
      generalize suitB price mic veg wprice low high wveg = S at *
      have d1 : decide (low ≤ mic) = true := by simp [c1]
      have d2 : decide (mic ≤ high) = false := by simp [c2]
      go_enter Try.func34, Try.ntmps34
      go_wp2_with fail
      go_ret
      exact ⟨by rw [HS.out]; rfl, HB.out⟩
  · have HS := Lib.hid (show suitB price mic veg wprice low high wveg = false by simp [suitB, c1])
    generalize suitB price mic veg wprice low high wveg = S at *
    have d1 : decide (low ≤ mic) = false := by simp [c1]
    go_enter Try.func34, Try.ntmps34
    go_wp2_with fail
    go_ret
    exact ⟨by rw [HS.out]; rfl, HB.out⟩

set_option maxRecDepth 100000 in
set_option maxHeartbeats 1000000 in
theorem rsuits_any (bales price mic veg store wbales wprice low high wveg port : Int) (w : World) :
    Calls Try.prog 35 #[.agg #[.int .i64 bales, .int .i64 price, .int .i64 mic, .int .i64 veg, .int .i64 store], .agg #[.int .i64 wbales, .int .i64 wprice, .int .i64 low, .int .i64 high, .int .i64 wveg, .int .i64 port]] w
      fun e w' => e = .returned (.bool (suitB price mic veg wprice low high wveg)) ∧ Below w.heap.size w w' := by
  have HB : Hid (Below w.heap.size w ((w.alloc (.cells #[.int .i64 bales, .int .i64 price, .int .i64 mic, .int .i64 veg, .int .i64 store] 45)).alloc (.cells #[.int .i64 wbales, .int .i64 wprice, .int .i64 low, .int .i64 high, .int .i64 wveg, .int .i64 port] 47))) :=
    Lib.hid (((Below.refl _ w).alloc (Nat.le_refl _) _).alloc (by simp) _)
  by_cases c1 : low ≤ mic
  · by_cases c2 : mic ≤ high
    · by_cases c3 : veg ≤ wveg
      · have HS := Lib.hid (show suitB price mic veg wprice low high wveg = decide (price ≤ wprice) by simp [suitB, c1, c2, c3])
        generalize suitB price mic veg wprice low high wveg = S at *
        have d1 : decide (low ≤ mic) = true := by simp [c1]
        have d2 : decide (mic ≤ high) = true := by simp [c2]
        have d3 : decide (veg ≤ wveg) = true := by simp [c3]
        go_enter Try.func35, Try.ntmps35
        go_wp2_with fail
        go_ret
        exact ⟨by rw [HS.out]; rfl, HB.out⟩
      · have HS := Lib.hid (show suitB price mic veg wprice low high wveg = false by simp [suitB, c3])
        generalize suitB price mic veg wprice low high wveg = S at *
        have d1 : decide (low ≤ mic) = true := by simp [c1]
        have d2 : decide (mic ≤ high) = true := by simp [c2]
        have d3 : decide (veg ≤ wveg) = false := by simp [c3]
        go_enter Try.func35, Try.ntmps35
        go_wp2_with fail
        go_ret
        exact ⟨by rw [HS.out]; rfl, HB.out⟩
    · have HS := Lib.hid (show suitB price mic veg wprice low high wveg = false by simp [suitB, c2])
      generalize suitB price mic veg wprice low high wveg = S at *
      have d1 : decide (low ≤ mic) = true := by simp [c1]
      have d2 : decide (mic ≤ high) = false := by simp [c2]
      go_enter Try.func35, Try.ntmps35
      go_wp2_with fail
      go_ret
      exact ⟨by rw [HS.out]; rfl, HB.out⟩
  · have HS := Lib.hid (show suitB price mic veg wprice low high wveg = false by simp [suitB, c1])
    generalize suitB price mic veg wprice low high wveg = S at *
    have d1 : decide (low ≤ mic) = false := by simp [c1]
    go_enter Try.func35, Try.ntmps35
    go_wp2_with fail
    go_ret
    exact ⟨by rw [HS.out]; rfl, HB.out⟩

end Go.Proofs.Ytalgjpclccmknaa
