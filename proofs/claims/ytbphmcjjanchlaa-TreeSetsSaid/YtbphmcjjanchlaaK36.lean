/- Pairs, of any map of numbers. -/
import Derived.Test.YtbphmcjjanchlaaK35
import Derived.CallsIn
namespace Go.Proofs.Ytbphmcjjanchlaa.Mii
open Go.RowKit Go.Shelf
set_option linter.unusedVariables false
set_option linter.unusedSimpArgs false

theorem szRows (t : Tr Int Value) : t.sz = t.rows.length := by
  induction t with
  | nil => rfl
  | node k v l r hl hr => simp [Tr.sz, Tr.rows, hl, hr]; omega
theorem encL_inj : ∀ {A B : List (Int × Int)}, encL A = encL B → A = B
  | [], [], _ => rfl
  | [], _ :: _, h => by simp [encL] at h
  | _ :: _, [], h => by simp [encL] at h
  | (a, b) :: A, (c, d) :: B, h => by
    simp only [encL, List.map_cons, List.cons.injEq, Prod.mk.injEq, Value.int.injEq, true_and] at h
    obtain ⟨⟨rfl, rfl⟩, h⟩ := h
    rw [encL_inj (A := A) (B := B) h]

theorem Pairs_any (p : Option Addr) (t : Tr Int Value) (L : List (Int × Int)) (w : World) (h : At w p t) (hL : t.rows = encL L) (hlen : L.length * 16 ≤ 140737488355328) :
    Calls Try.prog 26 #[.agg #[.pointer p]] w fun e w' => ∃ v, e = .returned v ∧ w'.ownsRow w.heap.size 52 2 v L.length (rowsV L) ∧ Below w.heap.size w w' := by
  obtain ⟨T, hT, hr⟩ := toI h (fun x hx => by
    rw [hL] at hx
    obtain ⟨y, _, rfl⟩ := List.mem_map.1 hx
    exact ⟨_, rfl⟩)
  have e : T.rows = L := encL_inj (hr.symm.trans hL)
  subst e
  exact callsIn_wide.1 (Pairs_in Fence.wide rfl 3 trivial trivial trivial trivial trivial rfl (Nat.le_refl _) p t T w h hT (by rw [szRows, hr]; simp [encL]) hlen)
end Go.Proofs.Ytbphmcjjanchlaa.Mii
