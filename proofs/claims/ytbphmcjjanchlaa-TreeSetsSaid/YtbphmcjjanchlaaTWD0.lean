/- The laws' do: one more map, whichever operation. -/
import Derived.Test.YtbphmcjjanchlaaTS1
import Derived.Deep.AppendLies
import Derived.Deep.Cut
import Derived.Deep.CutRange
import Derived.Deep.CutBlock
namespace Go.Proofs.Ytbphmcjjanchlaa
open Go.RowKit Go.Proofs.Ytbphmcjjanchlaa.Mii
set_option linter.unusedVariables false
set_option linter.unusedSimpArgs false

structure Box5 (w : World) (kind a b k v : Int) (w2 : World) : Prop where
  c0 : w2.cell? ⟨w.heap.size, 0, none⟩ = some (.int .u8 kind)
  c1 : w2.cell? ⟨w.heap.size, 1, none⟩ = some (.int .u8 a)
  c2 : w2.cell? ⟨w.heap.size, 2, none⟩ = some (.int .u8 b)
  c3 : w2.cell? ⟨w.heap.size, 3, none⟩ = some (.int .i64 k)
  c4 : w2.cell? ⟨w.heap.size, 4, none⟩ = some (.int .i64 v)
  bel : Below w.heap.size w w2
theorem box5 (w : World) (kind a b k v : Int) : ∀ w2, (w.alloc (Obj.cells #[.int .u8 kind, .int .u8 a, .int .u8 b, .int .i64 k, .int .i64 v] 107)) = w2 → Box5 w kind a b k v w2 := fun w2 e => by
  subst e
  exact ⟨by simp [go_sem], by simp [go_sem], by simp [go_sem], by simp [go_sem], by simp [go_sem], (Below.refl _ w).alloc (Nat.le_refl _) _⟩

theorem RowsR.grow {A B : World} {q : Option Addr} {L : List (Int × Int)} (st : Below A.heap.size A B) (r : RowsR A q L) : RowsR B q L := r.below st
theorem RowsR.drew {A : World} {q : Option Addr} {L : List (Int × Int)} (r : RowsR A q L) : RowsR A.drew q L := r.below (Below.refl _ A).drew
theorem RowZ.grow {A B : World} {v : Value} {L : List (Int × Int)} (st : Below A.heap.size A B) (r : RowZ A v L) : RowZ B v L := r.keep (KeepI.below st)
theorem RowZ.drew {A : World} {v : Value} {L : List (Int × Int)} (r : RowZ A v L) : RowZ A.drew v L := r.grow (Below.refl _ A).drew
theorem info_map : (Try.prog.info? 35).map (fun i => (i.zero, i.size, i.bytes)) = some (some (.agg #[.pointer none]), 1, 8) := by kernel_rfl
theorem info_rows : (Try.prog.info? 36).map (fun i => (i.zero, i.size, i.bytes)) = some (some (.slice none 0 0), 1, 24) := by kernel_rfl
/-- The new map is stored into its box. -/
theorem leaf {W w2 : World} {KS : List Int} {x : Ent} {B1 : Nat} {y : Option Addr} (c : w2.cell? ⟨B1, 0, none⟩ = some (.pointer y)) (O : EntOk w2 KS x) (bl : Below W.heap.size W w2) (hB : W.heap.size ≤ B1) :
    EntOk (w2.setCell ⟨B1, 0, none⟩ (.pointer x.p)) KS x ∧ (w2.setCell ⟨B1, 0, none⟩ (.pointer x.p)).cell? ⟨B1, 0, none⟩ = some (.pointer x.p) ∧ Below W.heap.size W (w2.setCell ⟨B1, 0, none⟩ (.pointer x.p)) :=
  ⟨O.keep (KeepI.set _ fun z hz => by rw [c] at hz; cases hz), World.cell?_setCell_same' _ _ _ (by rw [c]; rfl), bl.setCell (p := ⟨B1, 0, none⟩) hB _⟩

end Go.Proofs.Ytbphmcjjanchlaa
