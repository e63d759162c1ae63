/- Flow: rows of parcels. -/
import Derived.Test.YtapffmaihkimkaaFN1
import Derived.Test.YtapffmaihkimkaaFP1
namespace Go.Proofs.Ytapffmaihkimkaa
open Go.RowKit
set_option linter.unusedVariables false
set_option linter.unusedSimpArgs false

/-- A parcel. -/
structure Pa where
  ba : Int
  pr : Int
  mi : Int
  ve : Int
  st : Int
structure PaAt (w : World) (x : Addr) (r : Pa) : Prop where
  blk : x.block < w.heap.size
  c0 : w.cell? x = some (.int .i64 r.ba)
  c1 : w.cell? ⟨x.block, x.off + 1, none⟩ = some (.int .i64 r.pr)
  c2 : w.cell? ⟨x.block, x.off + 2, none⟩ = some (.int .i64 r.mi)
  c3 : w.cell? ⟨x.block, x.off + 3, none⟩ = some (.int .i64 r.ve)
  c4 : w.cell? ⟨x.block, x.off + 4, none⟩ = some (.int .i64 r.st)
theorem PaAt.keep {w w' : World} {x : Addr} {r : Pa} (h : PaAt w x r) (s : w.heap.size ≤ w'.heap.size) (e : w'.heap[x.block]? = w.heap[x.block]?) : PaAt w' x r := by
  have c : ∀ p : Addr, p.block = x.block → w'.cell? p = w.cell? p := fun p hp => by unfold World.cell?; rw [hp, e]
  exact ⟨Nat.lt_of_lt_of_le h.blk s, (c x rfl).trans h.c0, (c ⟨x.block, x.off + 1, none⟩ rfl).trans h.c1, (c ⟨x.block, x.off + 2, none⟩ rfl).trans h.c2, (c ⟨x.block, x.off + 3, none⟩ rfl).trans h.c3, (c ⟨x.block, x.off + 4, none⟩ rfl).trans h.c4⟩
theorem PaAt.below {w w' : World} {x : Addr} {r : Pa} (h : PaAt w x r) (hb : Below w.heap.size w w') : PaAt w' x r := h.keep hb.size (hb.block _ h.blk)
/-- .. as these parcels. -/
def PaR (w : World) (p : Option Addr) (n : Nat) (A : Nat → Pa) : Prop := ∀ i, i < n → ∃ x : Addr, p = some x ∧ PaAt w (x.add (i * 5)) (A i)
theorem PaR.below {w w' : World} {p : Option Addr} {n : Nat} {A : Nat → Pa} (h : PaR w p n A) (hb : Below w.heap.size w w') : PaR w' p n A := fun i hi => by
  obtain ⟨x, e, k⟩ := h i hi
  exact ⟨x, e, k.below hb⟩
/-- What the run may change lies behind. -/
theorem PaR.fm {w w' : World} {M : Nat → Prop} {p : Option Addr} {n : Nat} {A : Nat → Pa} (h : PaR w p n A) (f : Fm M w w') (q : ∀ x, p = some x → ¬ M x.block) : PaR w' p n A := fun i hi => by
  obtain ⟨x, e, k⟩ := h i hi
  refine ⟨x, e, k.keep f.size (f.block _ k.blk ?_)⟩
  rw [addB]
  exact q x e

end Go.Proofs.Ytapffmaihkimkaa
