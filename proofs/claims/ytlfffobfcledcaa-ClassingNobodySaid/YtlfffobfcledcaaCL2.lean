/- ClassingNobody: what the methods answer at no test, (Result and the law's walk are not here yet). -/
import Derived.Test.YtlfffobfcledcaaCL1
import Derived.WalkKit
import Derived.BigQuiet
import Derived.Lib.Hide
namespace Go.Proofs.Ytlfffobfcledcaa
open Go.RowKit
set_option linter.unusedVariables false
set_option linter.unusedSimpArgs false

set_option maxRecDepth 100000 in
set_option maxHeartbeats 1000000 in
theorem isTest_nil (w : World) : Calls Try.prog 31 #[.pointer none] w fun e w' => e = .returned (.bool false) ∧ Below w.heap.size w w' := by
  have HB := Lib.hid (Below.refl w.heap.size w)
  go_enter Try.func31, Try.ntmps31
  go_wp2_with fail
  go_ret
  exact ⟨rfl, HB.out⟩
set_option maxRecDepth 100000 in
set_option maxHeartbeats 1000000 in
theorem isTest_zero (w : World) (p : Addr) (h : w.cell? p = some (.bool false)) : Calls Try.prog 31 #[.pointer (some p)] w fun e w' => e = .returned (.bool false) ∧ Below w.heap.size w w' := by
  have HB := Lib.hid (Below.refl w.heap.size w)
  go_enter Try.func31, Try.ntmps31
  go_wp2_with fail
  go_ret
  exact ⟨rfl, HB.out⟩
theorem found_any (w : World) : Calls Try.prog 10 #[.agg #[.int .i64 0, .int .i64 0, .int .i64 0, .slice none 0 0], .agg #[.int .i64 0, .int .i64 0, .int .i64 0, .slice none 0 0]] w fun e w' => e = .returned (.bool true) ∧ Below w.heap.size w w' :=
  Ev.closed_true (n := 500) (by kernel_rfl) clX_ok (Ev.listQ_ok clQ_ok) (args := [.agg #[.int .i64 0, .int .i64 0, .int .i64 0, .slice none 0 0], .agg #[.int .i64 0, .int .i64 0, .int .i64 0, .slice none 0 0]]) rfl (by kernel_rfl) ⟨_, _, Try.func10, by kernel_rfl, rfl⟩ w

set_option maxRecDepth 100000 in
set_option maxHeartbeats 1000000 in
theorem State_nil (w : World) : Calls Try.prog 11 #[.pointer none] w fun x w' => x = .returned (.int .i64 2) ∧ Below w.heap.size w w' := by
  have HB := Lib.hid (Below.refl w.heap.size w)
  go_enter Try.func11, Try.ntmps11
  go_wp2_with (first | (go_at_call 31; (with_reducible refine (isTest_nil _).mono ?_); rintro e w1 ⟨rfl, hb⟩))
  go_ret
  exact ⟨rfl, HB.out.trans (hb.mono HB.out.size)⟩

set_option maxRecDepth 100000 in
set_option maxHeartbeats 1000000 in
theorem State_zero (w : World) (p : Addr) (hp : p.block < w.heap.size) (h : w.cell? p = some (.bool false)) : Calls Try.prog 11 #[.pointer (some p)] w fun x w' => x = .returned (.int .i64 2) ∧ Below w.heap.size w w' := by
  have HB := Lib.hid (Below.refl w.heap.size w)
  have HK := Lib.hid (fun (v : World) (hv : Below w.heap.size w v) => (hv.cell (p := p) hp).trans h)
  go_enter Try.func11, Try.ntmps11
  go_wp2_with (first | (go_at_call 31; (with_reducible refine (isTest_zero _ p (HK.out _ HB.out)).mono ?_); rintro e w1 ⟨rfl, hb⟩))
  go_ret
  exact ⟨rfl, HB.out.trans (hb.mono HB.out.size)⟩

set_option maxRecDepth 100000 in
set_option maxHeartbeats 1000000 in
theorem Need_nil (w : World) : Calls Try.prog 12 #[.pointer none] w fun x w' => x = .returned (.int .i64 0) ∧ Below w.heap.size w w' := by
  have HB := Lib.hid (Below.refl w.heap.size w)
  go_enter Try.func12, Try.ntmps12
  go_wp2_with (first | (go_at_call 31; (with_reducible refine (isTest_nil _).mono ?_); rintro e w1 ⟨rfl, hb⟩))
  go_ret
  exact ⟨rfl, HB.out.trans (hb.mono HB.out.size)⟩

set_option maxRecDepth 100000 in
set_option maxHeartbeats 1000000 in
theorem Need_zero (w : World) (p : Addr) (hp : p.block < w.heap.size) (h : w.cell? p = some (.bool false)) : Calls Try.prog 12 #[.pointer (some p)] w fun x w' => x = .returned (.int .i64 0) ∧ Below w.heap.size w w' := by
  have HB := Lib.hid (Below.refl w.heap.size w)
  have HK := Lib.hid (fun (v : World) (hv : Below w.heap.size w v) => (hv.cell (p := p) hp).trans h)
  go_enter Try.func12, Try.ntmps12
  go_wp2_with (first | (go_at_call 31; (with_reducible refine (isTest_zero _ p (HK.out _ HB.out)).mono ?_); rintro e w1 ⟨rfl, hb⟩))
  go_ret
  exact ⟨rfl, HB.out.trans (hb.mono HB.out.size)⟩



set_option maxRecDepth 100000 in
set_option maxHeartbeats 1000000 in
theorem Feed_nil (w : World) (za zb zc zd ze : Int) : Calls Try.prog 8 #[.pointer none, .agg #[.int .i64 za, .int .i64 zb, .int .i64 zc, .int .i64 zd, .int .i64 ze]] w fun x w' => x = .returned (.int .i64 1) ∧ Below w.heap.size w w' := by
  have HB := Lib.hid (((Below.refl w.heap.size w)).alloc (Nat.le_refl _) (.cells #[.int .i64 za, .int .i64 zb, .int .i64 zc, .int .i64 zd, .int .i64 ze] 23))
  go_enter Try.func8, Try.ntmps8
  go_wp2_with (first | (go_at_call 31; (with_reducible refine (isTest_nil _).mono ?_); rintro e w1 ⟨rfl, hb⟩))
  go_ret
  exact ⟨rfl, HB.out.trans (hb.mono HB.out.size)⟩

set_option maxRecDepth 100000 in
set_option maxHeartbeats 1000000 in
theorem Feed_zero (w : World) (p : Addr) (hp : p.block < w.heap.size) (h : w.cell? p = some (.bool false)) (za zb zc zd ze : Int) : Calls Try.prog 8 #[.pointer (some p), .agg #[.int .i64 za, .int .i64 zb, .int .i64 zc, .int .i64 zd, .int .i64 ze]] w fun x w' => x = .returned (.int .i64 1) ∧ Below w.heap.size w w' := by
  have HB := Lib.hid (((Below.refl w.heap.size w)).alloc (Nat.le_refl _) (.cells #[.int .i64 za, .int .i64 zb, .int .i64 zc, .int .i64 zd, .int .i64 ze] 23))
  have HK := Lib.hid (fun (v : World) (hv : Below w.heap.size w v) => (hv.cell (p := p) hp).trans h)
  go_enter Try.func8, Try.ntmps8
  go_wp2_with (first | (go_at_call 31; (with_reducible refine (isTest_zero _ p (HK.out _ HB.out)).mono ?_); rintro e w1 ⟨rfl, hb⟩))
  go_ret
  exact ⟨rfl, HB.out.trans (hb.mono HB.out.size)⟩
end Go.Proofs.Ytlfffobfcledcaa
