/- Len and Depth. -/
import Derived.Test.YtbphmcjjanchlaaP2
namespace Go.Proofs.Ytbphmcjjanchlaa.Mis
open Go.RowKit
set_option linter.unusedVariables false
set_option linter.unusedSimpArgs false

set_option maxRecDepth 100000 in
theorem Len_any (p : Option Addr) (t : Tr Int Value) (n : Int) (w : World) (h : At w p t) (hn : (t.sz : Int) = n) :
    Calls Try.prog 50 #[.agg #[.pointer p]] w fun e w' => e = .returned (.int .i64 n) ∧ Below w.heap.size w w' := by
  subst hn
  cases t with
  | nil =>
    obtain rfl : p = none := h
    unfold Tr.sz
    go_enter Try.func50, Try.ntmps50
    go_wp2
    go_ret
    exact ⟨rfl, (Below.refl _ _).alloc (Nat.le_refl _) _⟩
  | node k v l r =>
    obtain ⟨b, pl, pr, rfl, c0, c1, c2, c3, c4, c5, ov, hl, hr⟩ := h
    have hb : b < w.heap.size := World.block_lt_of_cell? w _ c0
    unfold Tr.sz
    generalize ((l.sz + 1 + r.sz : Nat) : Int) = x at *
    go_enter Try.func50, Try.ntmps50
    go_wp2
    go_ret
    exact ⟨rfl, (Below.refl _ _).alloc (Nat.le_refl _) _⟩
set_option maxRecDepth 100000 in
theorem Depth_any (p : Option Addr) (t : Tr Int Value) (d : Int) (w : World) (h : At w p t) (hd : (t.dep : Int) = d) :
    Calls Try.prog 52 #[.agg #[.pointer p]] w fun e w' => e = .returned (.int .i64 d) ∧ Below w.heap.size w w' := by
  subst hd
  cases t with
  | nil =>
    obtain rfl : p = none := h
    unfold Tr.dep
    go_enter Try.func52, Try.ntmps52
    go_wp2
    go_ret
    exact ⟨rfl, (Below.refl _ _).alloc (Nat.le_refl _) _⟩
  | node k v l r =>
    obtain ⟨b, pl, pr, rfl, c0, c1, c2, c3, c4, c5, ov, hl, hr⟩ := h
    have hb : b < w.heap.size := World.block_lt_of_cell? w _ c0
    unfold Tr.dep
    generalize ((max l.dep r.dep + 1 : Nat) : Int) = x at *
    go_enter Try.func52, Try.ntmps52
    go_wp2
    go_ret
    exact ⟨rfl, (Below.refl _ _).alloc (Nat.le_refl _) _⟩
end Go.Proofs.Ytbphmcjjanchlaa.Mis
