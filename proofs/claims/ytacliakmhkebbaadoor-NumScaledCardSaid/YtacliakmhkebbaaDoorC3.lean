/- Best at the law's own example: the walk. -/
import Derived.Test.YtacliakmhkebbaaDoorC2
import Derived.Test.YtacliakmhkebbaaDoorA3
import Derived.Deep.RegionLaw
namespace Go.Proofs.YtacliakmhkebbaaDoor
open Go.RowKit
set_option linter.unusedVariables false
set_option linter.unusedSimpArgs false

theorem BS.other {w0 w : World} {xn xd bn bd ln ld : Int} (s : BS w0 w xn xd bn bd ln ld) (a : Addr) (x : Value) (h0 : ¬ a.block = w0.heap.size) (h1 : ¬ a.block = w0.heap.size + 1) (h2 : ¬ a.block = w0.heap.size + 1 + 1) (hB : w0.heap.size ≤ a.block) : BS w0 (w.setCell a x) xn xd bn bd ln ld := by
  have k0 : (w.setCell a x).heap[w0.heap.size]? = w.heap[w0.heap.size]? := Below.heap_setCell _ _ _ _ (fun h => h0 h.symm)
  have k1 : (w.setCell a x).heap[w0.heap.size + 1]? = w.heap[w0.heap.size + 1]? := Below.heap_setCell _ _ _ _ (fun h => h1 h.symm)
  have k2 : (w.setCell a x).heap[w0.heap.size + 1 + 1]? = w.heap[w0.heap.size + 1 + 1]? := Below.heap_setCell _ _ _ _ (fun h => h2 h.symm)
  exact ⟨(cell_kept k0).trans s.x0, (cell_kept k0).trans s.x1, (cell_kept k1).trans s.b0, (cell_kept k1).trans s.b1, (cell_kept k2).trans s.l0, (cell_kept k2).trans s.l1,
    (frozen_kept k0).trans s.fx0, (frozen_kept k0).trans s.fx1, (frozen_kept k1).trans s.fb0, (frozen_kept k1).trans s.fb1, (frozen_kept k2).trans s.fl0, (frozen_kept k2).trans s.fl1, by simpa using s.sz, s.bl.setCell hB _⟩

def BestAt (w : World) (vt vb : Value) (wr : World) : Prop := (vt = .int .i64 355 ∧ vb = .int .i64 113 ∧ BS w wr 0 0 0 1 1 0) ∨ (vt = .int .i64 113 ∧ vb = .int .i64 16 ∧ BS w wr 0 0 1 0 3 1) ∨ (vt = .int .i64 16 ∧ vb = .int .i64 1 ∧ BS w wr 0 0 3 1 22 7)

set_option maxRecDepth 100000 in
set_option maxHeartbeats 4000000 in
theorem best3 (w : World) :
    Calls Tryd.prog 31 #[.int .i64 355, .int .i64 113, .int .i64 10] w fun e w' => e = .returned (fracV 22 7 0) ∧ Below w.heap.size w w' := by
  go_enter Tryd.func31, Tryd.ntmps31
  go_wp2_with fail
  refine (within_any _ _ (by decide) (by decide) _).mono ?_
  rintro e w' ⟨rfl, rfl⟩
  rw [show wthB 355 1099511627776 = true from by decide]
  go_wp2_with fail
  have s0 : BS w (((w.alloc (Obj.cells #[Value.int IntKind.i64 0, Value.int IntKind.i64 0] 44)).alloc (Obj.cells #[Value.int IntKind.i64 0, Value.int IntKind.i64 1] 44)).alloc (Obj.cells #[Value.int IntKind.i64 1, Value.int IntKind.i64 0] 44)) 0 0 0 1 1 0 := by
    refine ⟨?_, ?_, ?_, ?_, ?_, ?_, ?_, ?_, ?_, ?_, ?_, ?_, ?_, ((((Below.refl _ _).alloc (Nat.le_refl _) _).alloc (by simp) _).alloc (by simp; omega) _)⟩
    all_goals (simp [go_sem]; done)
  have S0 := Lib.hid s0; clear s0
  generalize ((w.alloc (Obj.cells #[Value.int IntKind.i64 0, Value.int IntKind.i64 0] 44)).alloc (Obj.cells #[Value.int IntKind.i64 0, Value.int IntKind.i64 1] 44)).alloc (Obj.cells #[Value.int IntKind.i64 1, Value.int IntKind.i64 0] 44) = w1 at S0 ⊢
  go_loopw [10, 11] (fun vt vb wr => BestAt w vt vb wr) (fun _ vb _ => (intOf vb).toNat)
  case atStart => exact Or.inl ⟨rfl, rfl, S0.out⟩
  case round =>
    clear S0
    rcases hrel with ⟨rfl, rfl, s0⟩ | ⟨rfl, rfl, s0⟩ | ⟨rfl, rfl, s0⟩
    · obtain ⟨x0, x1, b0, b1, l0, l1, fx0, fx1, fb0, fb1, fl0, fl1, sz, -⟩ := id s0
      go_wp2_with fail
      refine (floor_any 355 113 (by decide) (by decide) (by decide) (by decide) _).mono ?_
      rintro e w' ⟨rfl, rfl⟩
      rw [show (355 : Int) / 113 = 3 from by decide]
      go_wp2_with fail
      go_region_law (first | (go_simp; go_at_call 60; refine (along_any 0 1 1 0 3 (by decide) (by decide) (by decide) (by decide) (by decide) (by decide) (by decide) (by decide) _).mono ?_; rintro e w2 ⟨rfl, hq⟩; (first | replace s0 := s0.below hq | replace s0 := s0.drew.below hq | replace s0 := (s0.drewN _).below hq); clear x0 x1 b0 b1 l0 l1 fx0 fx1 fb0 fb1 fl0 fl1 sz; obtain ⟨x0, x1, b0, b1, l0, l1, fx0, fx1, fb0, fb1, fl0, fl1, sz, -⟩ := id s0))
      all_goals
        replace s0 := (((s0.setb0 1).setb1 0).setl0 3).setl1 1
        clear x0 x1 b0 b1 l0 l1 fx0 fx1 fb0 fb1 fl0 fl1 sz
        have S0 := Lib.hid s0; clear s0
        go_wp2_with fail
        go_roundw
        case rel => exact Or.inr (Or.inl ⟨rfl, rfl, S0.out⟩)
        case measure => simp [intOf]
    · obtain ⟨x0, x1, b0, b1, l0, l1, fx0, fx1, fb0, fb1, fl0, fl1, sz, -⟩ := id s0
      go_wp2_with fail
      refine (floor_any 113 16 (by decide) (by decide) (by decide) (by decide) _).mono ?_
      rintro e w' ⟨rfl, rfl⟩
      rw [show (113 : Int) / 16 = 7 from by decide]
      go_wp2_with fail
      go_region_law (first | (go_simp; go_at_call 60; refine (along_any 1 0 3 1 7 (by decide) (by decide) (by decide) (by decide) (by decide) (by decide) (by decide) (by decide) _).mono ?_; rintro e w2 ⟨rfl, hq⟩; (first | replace s0 := s0.below hq | replace s0 := s0.drew.below hq | replace s0 := (s0.drewN _).below hq); clear x0 x1 b0 b1 l0 l1 fx0 fx1 fb0 fb1 fl0 fl1 sz; obtain ⟨x0, x1, b0, b1, l0, l1, fx0, fx1, fb0, fb1, fl0, fl1, sz, -⟩ := id s0))
      all_goals
        replace s0 := (((s0.setb0 3).setb1 1).setl0 22).setl1 7
        clear x0 x1 b0 b1 l0 l1 fx0 fx1 fb0 fb1 fl0 fl1 sz
        have S0 := Lib.hid s0; clear s0
        go_wp2_with fail
        go_roundw
        case rel => exact Or.inr (Or.inr ⟨rfl, rfl, S0.out⟩)
        case measure => simp [intOf]
    · obtain ⟨x0, x1, b0, b1, l0, l1, fx0, fx1, fb0, fb1, fl0, fl1, sz, -⟩ := id s0
      go_wp2_with fail
      refine (floor_any 16 1 (by decide) (by decide) (by decide) (by decide) _).mono ?_
      rintro e w' ⟨rfl, rfl⟩
      rw [show (16 : Int) / 1 = 16 from by decide]
      go_wp2_with fail
      have z1 : w.heap.size + 1 < wr.heap.size := by omega
      have z0 : w.heap.size < wr.heap.size := by omega
      have hB0 : w.heap.size ≤ wr.heap.size := by omega
      have q0 : ¬ w.heap.size = wr.heap.size := by omega
      have q1 : ¬ w.heap.size + 1 = wr.heap.size := by omega
      have q2 : ¬ w.heap.size + 1 + 1 = wr.heap.size := by omega
      have p0 : ¬ wr.heap.size = w.heap.size := by omega
      have p1 : ¬ wr.heap.size = w.heap.size + 1 := by omega
      have p2 : ¬ wr.heap.size = w.heap.size + 1 + 1 := by omega
      go_region_held3 (fun w' => w'.cell? ⟨w.heap.size + 1, 0, none⟩ = some (.int .i64 3) ∧ w'.cell? ⟨w.heap.size + 1, 1, none⟩ = some (.int .i64 1) ∧ w'.cell? ⟨w.heap.size + 1 + 1, 0, none⟩ = some (.int .i64 22) ∧ w'.cell? ⟨w.heap.size + 1 + 1, 1, none⟩ = some (.int .i64 7))
        (first | exact ⟨b0, b1, l0, l1⟩ | (refine ⟨?_, ?_, ?_, ?_⟩ <;> simp [go_sem, b0, b1, l0, l1, sz, z1, z0, q1, q2, p1, p2]; done) | go_keep)
        (first | (go_at_call 60; rw [show IntKind.i64.wrap ((IntKind.i64.wrap 9).tdiv 7) = 1 from by decide]; refine (along_any 3 1 22 7 1 (by decide) (by decide) (by decide) (by decide) (by decide) (by decide) (by decide) (by decide) _).mono ?_; rintro e w2 ⟨rfl, hq⟩; (first | replace s0 := s0.drew.below hq | (replace s0 := ((s0.below ((Below.refl _ _).alloc (Nat.le_refl _) _)).drew).below hq; have a1 := hq.cell (p := ⟨wr.heap.size, 0, none⟩) (by simp); have a2 := hq.cell (p := ⟨wr.heap.size, 1, none⟩) (by simp); have a3 := hq.frozen (p := ⟨wr.heap.size, 0, none⟩) (by simp); have a4 := hq.frozen (p := ⟨wr.heap.size, 1, none⟩) (by simp); have a5 := hq.size; simp [go_sem] at a1 a2 a3 a4 a5)); clear x0 x1 b0 b1 l0 l1 fx0 fx1 fb0 fb1 fl0 fl1 sz; obtain ⟨x0, x1, b0, b1, l0, l1, fx0, fx1, fb0, fb1, fl0, fl1, sz, -⟩ := id s0; replace z1 : w.heap.size + 1 < w2.heap.size := (by omega); replace z0 : w.heap.size < w2.heap.size := (by omega)))
      · have o0 : (w2.alloc (Obj.cells #[Value.int IntKind.i64 25, Value.int IntKind.i64 8] 44)).cell? ⟨w2.heap.size, 0, none⟩ = some (.int .i64 25) := by simp [go_sem]
        have o1 : (w2.alloc (Obj.cells #[Value.int IntKind.i64 25, Value.int IntKind.i64 8] 44)).cell? ⟨w2.heap.size, 1, none⟩ = some (.int .i64 8) := by simp [go_sem]
        replace s0 := s0.below ((Below.refl _ _).alloc (Nat.le_refl _) (Obj.cells #[Value.int IntKind.i64 25, Value.int IntKind.i64 8] 44))
        generalize w2.alloc (Obj.cells #[Value.int IntKind.i64 25, Value.int IntKind.i64 8] 44) = v at s0 o0 o1 ⊢
        clear z1 z0
        clear x0 x1 b0 b1 l0 l1 fx0 fx1 fb0 fb1 fl0 fl1 sz
        obtain ⟨x0, x1, b0, b1, l0, l1, fx0, fx1, fb0, fb1, fl0, fl1, sz, -⟩ := id s0
        go_wp2_with fail
        refine (nearer_any 355 113 22 7 25 8 (by decide) (by decide) (by decide) (by decide) (by decide) (by decide) (by decide) (by decide) (by decide) (by decide) (by decide) (by decide) _).mono ?_
        rintro e w3 ⟨rfl, hr⟩
        rw [if_neg (by decide)]
        replace s0 := s0.below hr
        clear x0 x1 b0 b1 l0 l1 fx0 fx1 fb0 fb1 fl0 fl1 sz
        obtain ⟨x0, x1, b0, b1, l0, l1, fx0, fx1, fb0, fb1, fl0, fl1, sz, -⟩ := id s0
        have z0 : w.heap.size < w3.heap.size := by omega
        go_wp2_with fail
        exact bodyPost_ret (v := fracV 22 7 0) (by simp [results, Tryd.results31, go_sem, fracV, x0, x1, z0]) rfl ⟨rfl, ((s0.setx0 22).setx1 7).bl⟩
      · have o0 : ((w2.setCell ⟨wr.heap.size, 0, none⟩ (Value.int IntKind.i64 25)).setCell ⟨wr.heap.size, 1, none⟩ (Value.int IntKind.i64 8)).cell? ⟨wr.heap.size, 0, none⟩ = some (.int .i64 25) := by simp [go_sem, a1, a2]
        have o1 : ((w2.setCell ⟨wr.heap.size, 0, none⟩ (Value.int IntKind.i64 25)).setCell ⟨wr.heap.size, 1, none⟩ (Value.int IntKind.i64 8)).cell? ⟨wr.heap.size, 1, none⟩ = some (.int .i64 8) := by simp [go_sem, a1, a2]
        have hB := hB0
        replace s0 := (s0.other ⟨wr.heap.size, 0, none⟩ (Value.int IntKind.i64 25) p0 p1 p2 hB).other ⟨wr.heap.size, 1, none⟩ (Value.int IntKind.i64 8) p0 p1 p2 hB
        generalize (w2.setCell ⟨wr.heap.size, 0, none⟩ (Value.int IntKind.i64 25)).setCell ⟨wr.heap.size, 1, none⟩ (Value.int IntKind.i64 8) = v at s0 o0 o1 ⊢
        clear z1 z0
        clear x0 x1 b0 b1 l0 l1 fx0 fx1 fb0 fb1 fl0 fl1 sz
        obtain ⟨x0, x1, b0, b1, l0, l1, fx0, fx1, fb0, fb1, fl0, fl1, sz, -⟩ := id s0
        go_wp2_with fail
        refine (nearer_any 355 113 22 7 25 8 (by decide) (by decide) (by decide) (by decide) (by decide) (by decide) (by decide) (by decide) (by decide) (by decide) (by decide) (by decide) _).mono ?_
        rintro e w3 ⟨rfl, hr⟩
        rw [if_neg (by decide)]
        replace s0 := s0.below hr
        clear x0 x1 b0 b1 l0 l1 fx0 fx1 fb0 fb1 fl0 fl1 sz
        obtain ⟨x0, x1, b0, b1, l0, l1, fx0, fx1, fb0, fb1, fl0, fl1, sz, -⟩ := id s0
        have z0 : w.heap.size < w3.heap.size := by omega
        go_wp2_with fail
        exact bodyPost_ret (v := fracV 22 7 0) (by simp [results, Tryd.results31, go_sem, fracV, x0, x1, z0]) rfl ⟨rfl, ((s0.setx0 22).setx1 7).bl⟩
end Go.Proofs.YtacliakmhkebbaaDoor
