/- The closed example that every statement of the layer asks: it answers true, whatever the memory. -/
import Derived.Test.YtbphmcjjanchlaaK21v
namespace Go.Proofs.Ytbphmcjjanchlaa.Mis
open Go.RowKit
set_option linter.unusedVariables false
set_option linter.unusedSimpArgs false

set_option maxRecDepth 100000 in
set_option maxHeartbeats 1000000 in
theorem alive_any (w : World) :
    Calls Try.prog 14 #[] w fun e w' => e = .returned (.bool true) ∧ Below w.heap.size w w' := by
  have HB : Hid (∀ w0, w.alloc (Obj.cells #[Value.int IntKind.i64 1, Value.string ⟨#[97]⟩, Value.int IntKind.i64 3, Value.string ⟨#[99]⟩, Value.int IntKind.i64 5, Value.string ⟨#[101]⟩] 101) = w0 → Below w.heap.size w w0 ∧ Ex3 w0 w.heap.size) := Lib.hid (fun w0 e => by
    subst e; exact ⟨(Below.refl _ _).alloc (Nat.le_refl _) _, by simp [go_sem], by simp [go_sem], by simp [go_sem], by simp [go_sem], by simp [go_sem], by simp [go_sem]⟩)
  go_enter Try.func14, Try.ntmps14
  go_wp2_with fail
  generalize e0 : w.alloc (Obj.cells #[Value.int IntKind.i64 1, Value.string ⟨#[97]⟩, Value.int IntKind.i64 3, Value.string ⟨#[99]⟩, Value.int IntKind.i64 5, Value.string ⟨#[101]⟩] 101) = w0
  obtain ⟨bel, ex⟩ := HB.out w0 e0
  refine (Of_ex _ w0 ex).mono ?_
  rintro e w1 ⟨q, t, rfl, a1, g1, st1⟩
  have BL := Lib.hid (bel.trans (st1.mono bel.size))
  clear HB e0 bel ex st1
  have HD : Hid (∀ w2, w1.alloc (Obj.cells #[Value.pointer q] 97) = w2 → Below w.heap.size w w2 ∧ w2.cell? ⟨w1.heap.size, 0, none⟩ = some (.pointer q) ∧ At w2 q t) := Lib.hid (fun w2 e => by
    subst e; exact ⟨BL.out.alloc BL.out.size _, by simp [go_sem], a1.alloc _⟩)
  have sa : Asc t.rows := by rw [g1.rows]; exact ex_asc
  have sz : t.sz = 3 := g1.sz
  have dp : t.dep = 2 := g1.dep
  have F := Lib.hid (fun W hW => Floor_ex q t W hW g1.rows)
  have L := Lib.hid (fun W hW => Len_any q t 3 W hW (by omega))
  have D := Lib.hid (fun W hW => Depth_any q t 2 W hW (by omega))
  have R := Lib.hid (fun W hW => Rank_any q t 4 W hW sa (by omega))
  rw [g1.rows, show rnk exL (4 : Int) = 2 from by decide] at R
  clear a1 g1 sa sz dp BL
  go_wp2_with fail
  generalize e2 : w1.alloc (Obj.cells #[Value.pointer q] 97) = w2
  obtain ⟨bel, k1, tt⟩ := HD.out w2 e2
  have BL := Lib.hid bel
  have TT := Lib.hid tt
  clear HD e2 bel tt
  refine (F.out _ TT.out).mono ?_
  rintro e w3 ⟨rfl, st0⟩
  have st : Below w2.heap.size w2 w3 := (by first | exact st0 | exact Below.of_dr st0)
  replace k1 := cell_gr st k1
  replace TT := Lib.hid (TT.out.grow st)
  replace BL := Lib.hid (BL.out.trans (st.mono BL.out.size))
  clear st st0
  go_wp2_with fail
  refine (L.out _ TT.out).mono ?_
  rintro e w4 ⟨rfl, st0⟩
  have st : Below w3.heap.size w3 w4 := (by first | exact st0 | exact Below.of_dr st0)
  replace k1 := cell_gr st k1
  replace TT := Lib.hid (TT.out.grow st)
  replace BL := Lib.hid (BL.out.trans (st.mono BL.out.size))
  clear st st0
  go_wp2_with fail
  refine (R.out _ TT.out).mono ?_
  rintro e w5 ⟨rfl, st0⟩
  have st : Below w4.heap.size w4 w5 := (by first | exact st0 | exact Below.of_dr st0)
  replace k1 := cell_gr st k1
  replace TT := Lib.hid (TT.out.grow st)
  replace BL := Lib.hid (BL.out.trans (st.mono BL.out.size))
  clear st st0
  go_wp2_with fail
  refine (D.out _ TT.out).mono ?_
  rintro e w6 ⟨rfl, st0⟩
  have st : Below w5.heap.size w5 w6 := (by first | exact st0 | exact Below.of_dr st0)
  replace k1 := cell_gr st k1
  replace TT := Lib.hid (TT.out.grow st)
  replace BL := Lib.hid (BL.out.trans (st.mono BL.out.size))
  clear st st0
  clear F L D R TT
  go_wp2_with fail
  go_ret
  exact ⟨rfl, BL.out⟩
end Go.Proofs.Ytbphmcjjanchlaa.Mis
