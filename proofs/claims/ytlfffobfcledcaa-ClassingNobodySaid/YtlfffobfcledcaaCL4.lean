/- ClassingNobody: Result at no test. -/
import Derived.Test.YtlfffobfcledcaaCL2
import Derived.Deep.Cut
import Derived.Deep.CutRange
import Derived.Deep.RegionHeld3
import Derived.Handy
namespace Go.Proofs.Ytlfffobfcledcaa
open Go.RowKit
set_option linter.unusedVariables false
set_option linter.unusedSimpArgs false

theorem setSame {w : World} {a b : Addr} {v u : Value} (h : w.cell? a = some v) (hb : w.cell? b = some u) (hu : a = b → u = v) : (w.setCell a v).cell? b = some u := by
  by_cases e : a = b
  · subst e; rw [hu rfl]; exact World.cell?_setCell_same _ _ _ h
  · rw [World.cell?_setCell_other _ _ _ _ e]; exact hb
set_option maxRecDepth 100000 in
set_option maxHeartbeats 1000000 in
theorem Result_nil (w : World) : Calls Try.prog 9 #[.pointer none] w fun x w' => x = .returned (.tuple #[.agg #[.int .i64 0, .int .i64 0, .int .i64 0, .slice none 0 0], .int .i64 1]) ∧ Below w.heap.size w w' := by
  have HB := Lib.hid ((Below.refl w.heap.size w).alloc (Nat.le_refl _) (Obj.cells #[.int .i64 0, .int .i64 0, .int .i64 0, .slice none 0 0] 32))
  go_enter Try.func9, Try.ntmps9
  go_wp2_with (first | (go_at_call 31; (with_reducible refine (isTest_nil _).mono ?_); rintro e w1 ⟨rfl, hb⟩; have c0 : w1.cell? ⟨w.heap.size, 0, none⟩ = some (.int .i64 0) := (hb.cell (by simp)).trans (by simp [go_sem]); have c1 : w1.cell? ⟨w.heap.size, 1, none⟩ = some (.int .i64 0) := (hb.cell (by simp)).trans (by simp [go_sem]); have c2 : w1.cell? ⟨w.heap.size, 2, none⟩ = some (.int .i64 0) := (hb.cell (by simp)).trans (by simp [go_sem]); have c3 : w1.cell? ⟨w.heap.size, 3, none⟩ = some (.slice none 0 0) := (hb.cell (by simp)).trans (by simp [go_sem]); have f0 : w1.frozen? ⟨w.heap.size, 0, none⟩ = false := (hb.frozen (by simp)).trans (by simp [go_sem]); have f1 : w1.frozen? ⟨w.heap.size, 1, none⟩ = false := (hb.frozen (by simp)).trans (by simp [go_sem]); have f2 : w1.frozen? ⟨w.heap.size, 2, none⟩ = false := (hb.frozen (by simp)).trans (by simp [go_sem]); have f3 : w1.frozen? ⟨w.heap.size, 3, none⟩ = false := (hb.frozen (by simp)).trans (by simp [go_sem]); have s1 : w.heap.size < w1.heap.size := Nat.lt_of_lt_of_le (by simp) hb.size; have HB1 := Lib.hid ((((Below.refl w.heap.size w)).alloc (Nat.le_refl _) _).trans (hb.mono (by simp))); clear hb))

  have q0 := setSame c0 c0 (fun _ => rfl)
  have q1 := setSame c0 c1 (fun h => by simp at h)
  have q2 := setSame c0 c2 (fun h => by simp at h)
  have q3 := setSame c0 c3 (fun h => by simp at h)
  have r0 := setSame q1 q0 (fun h => by simp at h)
  have r1 := setSame q1 q1 (fun _ => rfl)
  have r2 := setSame q1 q2 (fun h => by simp at h)
  have r3 := setSame q1 q3 (fun h => by simp at h)
  have t0 := setSame r2 r0 (fun h => by simp at h)
  have t1 := setSame r2 r1 (fun h => by simp at h)
  have t2 := setSame r2 r2 (fun _ => rfl)
  have t3 := setSame r2 r3 (fun h => by simp at h)
  have g0 := setSame t3 t0 (fun h => by simp at h)
  have g1 := setSame t3 t1 (fun h => by simp at h)
  have g2 := setSame t3 t2 (fun h => by simp at h)
  have g3 := setSame t3 t3 (fun _ => rfl)
  clear q0 q1 q2 q3 r0 r1 r2 r3 t0 t1 t2 t3
  have hB : Below w.heap.size w ((((w1.setCell ⟨w.heap.size, 0, none⟩ (.int .i64 0)).setCell ⟨w.heap.size, 1, none⟩ (.int .i64 0)).setCell ⟨w.heap.size, 2, none⟩ (.int .i64 0)).setCell ⟨w.heap.size, 3, none⟩ (.slice none 0 0)) :=
    Below.setCell (Below.setCell (Below.setCell (Below.setCell HB1.out (Nat.le_refl _) _) (Nat.le_refl _) _) (Nat.le_refl _) _) (Nat.le_refl _) _
  generalize ((((w1.setCell ⟨w.heap.size, 0, none⟩ (.int .i64 0)).setCell ⟨w.heap.size, 1, none⟩ (.int .i64 0)).setCell ⟨w.heap.size, 2, none⟩ (.int .i64 0)).setCell ⟨w.heap.size, 3, none⟩ (.slice none 0 0)) = W at *
  (try simp only [Exit.inBlock, Exit.then])
  refine bodyPost_ret (by simp [results, Try.results9, go_sem, g0, g1, g2, g3]; try rfl) rfl ?_
  exact ⟨rfl, hB⟩
set_option maxRecDepth 100000 in
set_option maxHeartbeats 1000000 in
theorem Result_zero (w : World) (p : Addr) (hp : p.block < w.heap.size) (h : w.cell? p = some (.bool false)) : Calls Try.prog 9 #[.pointer (some p)] w fun x w' => x = .returned (.tuple #[.agg #[.int .i64 0, .int .i64 0, .int .i64 0, .slice none 0 0], .int .i64 1]) ∧ Below w.heap.size w w' := by
  have HB := Lib.hid ((Below.refl w.heap.size w).alloc (Nat.le_refl _) (Obj.cells #[.int .i64 0, .int .i64 0, .int .i64 0, .slice none 0 0] 32))
  have HK := Lib.hid (fun (v : World) (hv : Below w.heap.size w v) => (hv.cell (p := p) hp).trans h)
  go_enter Try.func9, Try.ntmps9
  go_wp2_with (first | (go_at_call 31; (with_reducible refine (isTest_zero _ p (HK.out _ HB.out)).mono ?_); rintro e w1 ⟨rfl, hb⟩; have c0 : w1.cell? ⟨w.heap.size, 0, none⟩ = some (.int .i64 0) := (hb.cell (by simp)).trans (by simp [go_sem]); have c1 : w1.cell? ⟨w.heap.size, 1, none⟩ = some (.int .i64 0) := (hb.cell (by simp)).trans (by simp [go_sem]); have c2 : w1.cell? ⟨w.heap.size, 2, none⟩ = some (.int .i64 0) := (hb.cell (by simp)).trans (by simp [go_sem]); have c3 : w1.cell? ⟨w.heap.size, 3, none⟩ = some (.slice none 0 0) := (hb.cell (by simp)).trans (by simp [go_sem]); have f0 : w1.frozen? ⟨w.heap.size, 0, none⟩ = false := (hb.frozen (by simp)).trans (by simp [go_sem]); have f1 : w1.frozen? ⟨w.heap.size, 1, none⟩ = false := (hb.frozen (by simp)).trans (by simp [go_sem]); have f2 : w1.frozen? ⟨w.heap.size, 2, none⟩ = false := (hb.frozen (by simp)).trans (by simp [go_sem]); have f3 : w1.frozen? ⟨w.heap.size, 3, none⟩ = false := (hb.frozen (by simp)).trans (by simp [go_sem]); have s1 : w.heap.size < w1.heap.size := Nat.lt_of_lt_of_le (by simp) hb.size; have HB1 := Lib.hid ((((Below.refl w.heap.size w)).alloc (Nat.le_refl _) _).trans (hb.mono (by simp))); clear hb))

  have q0 := setSame c0 c0 (fun _ => rfl)
  have q1 := setSame c0 c1 (fun h => by simp at h)
  have q2 := setSame c0 c2 (fun h => by simp at h)
  have q3 := setSame c0 c3 (fun h => by simp at h)
  have r0 := setSame q1 q0 (fun h => by simp at h)
  have r1 := setSame q1 q1 (fun _ => rfl)
  have r2 := setSame q1 q2 (fun h => by simp at h)
  have r3 := setSame q1 q3 (fun h => by simp at h)
  have t0 := setSame r2 r0 (fun h => by simp at h)
  have t1 := setSame r2 r1 (fun h => by simp at h)
  have t2 := setSame r2 r2 (fun _ => rfl)
  have t3 := setSame r2 r3 (fun h => by simp at h)
  have g0 := setSame t3 t0 (fun h => by simp at h)
  have g1 := setSame t3 t1 (fun h => by simp at h)
  have g2 := setSame t3 t2 (fun h => by simp at h)
  have g3 := setSame t3 t3 (fun _ => rfl)
  clear q0 q1 q2 q3 r0 r1 r2 r3 t0 t1 t2 t3
  have hB : Below w.heap.size w ((((w1.setCell ⟨w.heap.size, 0, none⟩ (.int .i64 0)).setCell ⟨w.heap.size, 1, none⟩ (.int .i64 0)).setCell ⟨w.heap.size, 2, none⟩ (.int .i64 0)).setCell ⟨w.heap.size, 3, none⟩ (.slice none 0 0)) :=
    Below.setCell (Below.setCell (Below.setCell (Below.setCell HB1.out (Nat.le_refl _) _) (Nat.le_refl _) _) (Nat.le_refl _) _) (Nat.le_refl _) _
  generalize ((((w1.setCell ⟨w.heap.size, 0, none⟩ (.int .i64 0)).setCell ⟨w.heap.size, 1, none⟩ (.int .i64 0)).setCell ⟨w.heap.size, 2, none⟩ (.int .i64 0)).setCell ⟨w.heap.size, 3, none⟩ (.slice none 0 0)) = W at *
  (try simp only [Exit.inBlock, Exit.then])
  refine bodyPost_ret (by simp [results, Try.results9, go_sem, g0, g1, g2, g3]; try rfl) rfl ?_
  exact ⟨rfl, hB⟩
end Go.Proofs.Ytlfffobfcledcaa
