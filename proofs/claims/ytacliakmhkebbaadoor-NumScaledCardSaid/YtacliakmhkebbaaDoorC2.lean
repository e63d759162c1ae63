/- Best at the law's own example. -/
import Derived.Test.YtacliakmhkebbaaDoorC1
namespace Go.Proofs.YtacliakmhkebbaaDoor
open Go.RowKit
set_option linter.unusedVariables false
set_option linter.unusedSimpArgs false

/-- Best's three variables: the result, 'before', 'last'. -/
structure BS (w0 w : World) (xn xd bn bd ln ld : Int) : Prop where
  x0 : w.cell? ⟨w0.heap.size, 0, none⟩ = some (.int .i64 xn)
  x1 : w.cell? ⟨w0.heap.size, 1, none⟩ = some (.int .i64 xd)
  b0 : w.cell? ⟨w0.heap.size + 1, 0, none⟩ = some (.int .i64 bn)
  b1 : w.cell? ⟨w0.heap.size + 1, 1, none⟩ = some (.int .i64 bd)
  l0 : w.cell? ⟨w0.heap.size + 1 + 1, 0, none⟩ = some (.int .i64 ln)
  l1 : w.cell? ⟨w0.heap.size + 1 + 1, 1, none⟩ = some (.int .i64 ld)
  fx0 : w.frozen? ⟨w0.heap.size, 0, none⟩ = false
  fx1 : w.frozen? ⟨w0.heap.size, 1, none⟩ = false
  fb0 : w.frozen? ⟨w0.heap.size + 1, 0, none⟩ = false
  fb1 : w.frozen? ⟨w0.heap.size + 1, 1, none⟩ = false
  fl0 : w.frozen? ⟨w0.heap.size + 1 + 1, 0, none⟩ = false
  fl1 : w.frozen? ⟨w0.heap.size + 1 + 1, 1, none⟩ = false
  sz : w0.heap.size + 1 + 1 < w.heap.size
  bl : Below w0.heap.size w0 w
theorem BS.drew {w0 w : World} {xn xd bn bd ln ld : Int} (s : BS w0 w xn xd bn bd ln ld) : BS w0 w.drew xn xd bn bd ln ld :=
  ⟨s.x0, s.x1, s.b0, s.b1, s.l0, s.l1, s.fx0, s.fx1, s.fb0, s.fb1, s.fl0, s.fl1, s.sz, s.bl.drew⟩
theorem BS.drewN {w0 w : World} {xn xd bn bd ln ld : Int} (s : BS w0 w xn xd bn bd ln ld) (n : Nat) : BS w0 (w.drewN n) xn xd bn bd ln ld :=
  ⟨s.x0, s.x1, s.b0, s.b1, s.l0, s.l1, s.fx0, s.fx1, s.fb0, s.fb1, s.fl0, s.fl1, s.sz, below_drewN s.bl n⟩
theorem BS.below {w0 w w' : World} {xn xd bn bd ln ld : Int} (s : BS w0 w xn xd bn bd ln ld) (h : Below w.heap.size w w') : BS w0 w' xn xd bn bd ln ld := by
  have z := s.sz
  have z1 : w0.heap.size + 1 < w.heap.size := by omega
  have z0 : w0.heap.size < w.heap.size := by omega
  exact ⟨(h.cell z0).trans s.x0, (h.cell z0).trans s.x1, (h.cell z1).trans s.b0, (h.cell z1).trans s.b1, (h.cell z).trans s.l0, (h.cell z).trans s.l1,
    (h.frozen z0).trans s.fx0, (h.frozen z0).trans s.fx1, (h.frozen z1).trans s.fb0, (h.frozen z1).trans s.fb1, (h.frozen z).trans s.fl0, (h.frozen z).trans s.fl1, Nat.lt_of_lt_of_le z h.size, s.bl.trans (h.mono s.bl.size)⟩
theorem BS.setx0 {w0 w : World} {xn xd bn bd ln ld : Int} (s : BS w0 w xn xd bn bd ln ld) (v : Int) : BS w0 (w.setCell ⟨w0.heap.size, 0, none⟩ (.int .i64 v)) v xd bn bd ln ld := by
  obtain ⟨x0, x1, b0, b1, l0, l1, fx0, fx1, fb0, fb1, fl0, fl1, sz, bl⟩ := s
  refine ⟨?_, ?_, ?_, ?_, ?_, ?_, ?_, ?_, ?_, ?_, ?_, ?_, ?_, bl.setCell (by simp; try omega) _⟩
  all_goals (simp [go_sem, x0, x1, b0, b1, l0, l1, fx0, fx1, fb0, fb1, fl0, fl1, sz]; done)
theorem BS.setx1 {w0 w : World} {xn xd bn bd ln ld : Int} (s : BS w0 w xn xd bn bd ln ld) (v : Int) : BS w0 (w.setCell ⟨w0.heap.size, 1, none⟩ (.int .i64 v)) xn v bn bd ln ld := by
  obtain ⟨x0, x1, b0, b1, l0, l1, fx0, fx1, fb0, fb1, fl0, fl1, sz, bl⟩ := s
  refine ⟨?_, ?_, ?_, ?_, ?_, ?_, ?_, ?_, ?_, ?_, ?_, ?_, ?_, bl.setCell (by simp; try omega) _⟩
  all_goals (simp [go_sem, x0, x1, b0, b1, l0, l1, fx0, fx1, fb0, fb1, fl0, fl1, sz]; done)
theorem BS.setb0 {w0 w : World} {xn xd bn bd ln ld : Int} (s : BS w0 w xn xd bn bd ln ld) (v : Int) : BS w0 (w.setCell ⟨w0.heap.size + 1, 0, none⟩ (.int .i64 v)) xn xd v bd ln ld := by
  obtain ⟨x0, x1, b0, b1, l0, l1, fx0, fx1, fb0, fb1, fl0, fl1, sz, bl⟩ := s
  refine ⟨?_, ?_, ?_, ?_, ?_, ?_, ?_, ?_, ?_, ?_, ?_, ?_, ?_, bl.setCell (by simp; try omega) _⟩
  all_goals (simp [go_sem, x0, x1, b0, b1, l0, l1, fx0, fx1, fb0, fb1, fl0, fl1, sz]; done)
theorem BS.setb1 {w0 w : World} {xn xd bn bd ln ld : Int} (s : BS w0 w xn xd bn bd ln ld) (v : Int) : BS w0 (w.setCell ⟨w0.heap.size + 1, 1, none⟩ (.int .i64 v)) xn xd bn v ln ld := by
  obtain ⟨x0, x1, b0, b1, l0, l1, fx0, fx1, fb0, fb1, fl0, fl1, sz, bl⟩ := s
  refine ⟨?_, ?_, ?_, ?_, ?_, ?_, ?_, ?_, ?_, ?_, ?_, ?_, ?_, bl.setCell (by simp; try omega) _⟩
  all_goals (simp [go_sem, x0, x1, b0, b1, l0, l1, fx0, fx1, fb0, fb1, fl0, fl1, sz]; done)
theorem BS.setl0 {w0 w : World} {xn xd bn bd ln ld : Int} (s : BS w0 w xn xd bn bd ln ld) (v : Int) : BS w0 (w.setCell ⟨w0.heap.size + 1 + 1, 0, none⟩ (.int .i64 v)) xn xd bn bd v ld := by
  obtain ⟨x0, x1, b0, b1, l0, l1, fx0, fx1, fb0, fb1, fl0, fl1, sz, bl⟩ := s
  refine ⟨?_, ?_, ?_, ?_, ?_, ?_, ?_, ?_, ?_, ?_, ?_, ?_, ?_, bl.setCell (by simp; try omega) _⟩
  all_goals (simp [go_sem, x0, x1, b0, b1, l0, l1, fx0, fx1, fb0, fb1, fl0, fl1, sz]; done)
theorem BS.setl1 {w0 w : World} {xn xd bn bd ln ld : Int} (s : BS w0 w xn xd bn bd ln ld) (v : Int) : BS w0 (w.setCell ⟨w0.heap.size + 1 + 1, 1, none⟩ (.int .i64 v)) xn xd bn bd ln v := by
  obtain ⟨x0, x1, b0, b1, l0, l1, fx0, fx1, fb0, fb1, fl0, fl1, sz, bl⟩ := s
  refine ⟨?_, ?_, ?_, ?_, ?_, ?_, ?_, ?_, ?_, ?_, ?_, ?_, ?_, bl.setCell (by simp; try omega) _⟩
  all_goals (simp [go_sem, x0, x1, b0, b1, l0, l1, fx0, fx1, fb0, fb1, fl0, fl1, sz]; done)
end Go.Proofs.YtacliakmhkebbaaDoor
