/- The pairs of a map one by one: the iterator's value. -/
import Derived.Test.YtbphmcjjanchlaaK33
namespace Go.Proofs.Ytbphmcjjanchlaa.Mii
open Go.RowKit Go.Shelf
set_option linter.unusedVariables false
set_option linter.unusedSimpArgs false
attribute [local go_sem] Oper.semAt_some

def encP (x : Int × Int) : Array Value := #[.int .i64 x.1, .int .i64 x.2]

set_option maxRecDepth 100000 in
set_option maxHeartbeats 2000000 in
theorem all1_in (F : Fence) (hd : F.depth = none) (n : Nat) (h5 : F.fn 88) (h6 : F.fn 89) (hro : F.round = none) (l Bt n₀ : Nat) (p0 : Option Addr) (T : Tr Int Int) (J Jx : List (Int × Int) → World → Prop)
    (hJal : ∀ pre W o, J pre W → J pre (W.alloc o)) (hJdr : ∀ pre W, J pre W → J pre W.drew)
    (hY : ∀ pre (x : Int × Int) W, J pre W → pre.length < T.rows.length → YieldAt F (n - 1) Try.prog l #[.int .i64 x.1, .int .i64 x.2] W fun e W' =>
      (e = .returned (.bool true) ∧ J (pre ++ [x]) W' ∧ Below n₀ W W') ∨ (e = .returned (.bool false) ∧ Jx (pre ++ [x]) W'))
    (W : World) (hz : n₀ ≤ W.heap.size) (hBt : W.cell? ⟨Bt, 0, none⟩ = some (.pointer p0)) (hT : AtI n₀ W p0 T) (h0 : J [] W) :
    CallsIn F n Try.prog 88 #[.func (.yield l) #[] #[], .pointer (some ⟨Bt, 0, none⟩)] W fun e W' => (∃ v, e = .returned v) ∧
      ((∃ ys, ys = T.rows ∧ J ys W') ∨ (∃ pre, pre <+: T.rows ∧ Jx pre W')) := by
  have hdd : ∀ k : Nat, (F.depth.isSome = true → 1 ≤ k) := fun k h => by rw [hd] at h; cases h
  have hp := ascend_in F hd h6 hro l n₀ T.rows.length J Jx hJal hJdr (fun m pre x W hj hl => yieldAny hd m (hY pre x W hj hl)) T (n - 1) p0 [] W hT h0 hz (by simp)
  refine callsIn_of_wp Try.func88 rfl h5 ?_ hro
  simp only [Try.ntmps88, List.size_toArray, List.length_cons, List.length_nil, Nat.reduceAdd, Nat.reduceSub, Array.replicate_succ, Array.replicate_zero, List.push_toArray, List.append_toArray, List.nil_append, List.cons_append]
  gi_wp2_with ((try refine ⟨hdd _, ?_⟩); gi_at_call 89; refine hp.mono ?_; clear hp; rintro e W1 (⟨rfl, hJ1, _⟩ | ⟨rfl, q, hq, hx⟩))
  · go_end0
    exact ⟨⟨_, rfl⟩, .inl ⟨_, rfl, by simpa using hJ1⟩⟩
  · go_end0
    exact ⟨⟨_, rfl⟩, .inr ⟨q, hq, by simpa using hx⟩⟩

set_option maxHeartbeats 1000000 in
theorem all_in (F : Fence) (n : Nat) (h4 : F.fn 61) (hro : F.round = none) (p0 : Option Addr) (w : World) :
    CallsIn F n Try.prog 61 #[.agg #[.pointer p0]] w fun e w' => e = .returned (.func (.func 88) #[] #[.pointer (some ⟨w.heap.size, 0, none⟩)]) ∧ w' = w.alloc (.cells #[.pointer p0] 35) := by
  refine callsIn_of_wp Try.func61 rfl h4 ?_ hro
  simp only [Try.ntmps61, List.size_toArray, List.length_cons, List.length_nil, Nat.reduceAdd, Nat.reduceSub, Array.replicate_succ, Array.replicate_zero, List.push_toArray, List.append_toArray, List.nil_append, List.cons_append]
  gi_wp2
  go_ret
  exact ⟨rfl, rfl⟩

theorem all_stops (F : Fence) (hd : F.depth = none) (n : Nat) (h5 : F.fn 88) (h6 : F.fn 89) (hro : F.round = none) (Bt n₀ : Nat) (p0 : Option Addr) (T : Tr Int Int) (w : World) (hBt : Bt < w.heap.size) (hn₀ : n₀ ≤ w.heap.size)
    (hc : w.cell? ⟨Bt, 0, none⟩ = some (.pointer p0)) (hT : AtI n₀ w p0 T) :
    SeqStopsK F n Try.prog 88 #[.pointer (some ⟨Bt, 0, none⟩)] (fun x : Int × Int => #[Value.int .i64 x.1, .int .i64 x.2]) (Below n₀) (fun ys => ys = T.rows) (fun pre => pre <+: T.rows) T.rows.length w := fun l J Jx W hW hJ _ hY h0 =>
  all1_in F hd n h5 h6 hro l Bt n₀ p0 T J Jx (fun pre W o h => hJ pre W _ none h (World.grownBy_alloc W o none) (fun r e => by cases e))
    (fun pre W h => hJ pre W W.drew none h ⟨rfl, rfl, rfl, Nat.le_refl _, fun _ _ _ => rfl⟩ (fun r e => by cases e)) hY W (Nat.le_trans hn₀ hW.size) ((hW.cell (p := ⟨Bt, 0, none⟩) hBt).trans hc) (hT.below (hW.mono hn₀)) h0
end Go.Proofs.Ytbphmcjjanchlaa.Mii
