/- Classing: Total. -/
import Derived.Test.YthbgeikdamajlaaHA0
import Derived.Deep.CutRange
import Derived.Deep.CutBlock
import Derived.Deep.RegionHeld3
namespace Go.Proofs.Ythbgeikdamajlaa
open Go.RowKit
set_option linter.unusedVariables false
set_option linter.unusedSimpArgs false

theorem hwI {x : Int} (h1 : -9223372036854775808 ≤ x) (h2 : x ≤ 9223372036854775807) : IntKind.i64.wrap x = x := IntWalk.i64_in _ ⟨h1, h2⟩
def hsum (H : Nat → Int) : Nat → Int
  | 0 => 0
  | k + 1 => hsum H k + H k
theorem hsum_mono {H : Nat → Int} {k : Nat} : ∀ {n : Nat}, (∀ j, j < n → 0 ≤ H j) → k ≤ n → hsum H k ≤ hsum H n
  | 0, _, h => by rw [show k = 0 by omega]; exact Int.le_refl _
  | n + 1, hz, h => by
    by_cases e : k = n + 1
    · rw [e]; exact Int.le_refl _
    · have := hsum_mono (k := k) (n := n) (fun j hj => hz j (by omega)) (by omega)
      have := hz n (by omega)
      show hsum H k ≤ hsum H n + H n
      omega
theorem hsum_congr {H G : Nat → Int} : ∀ {n : Nat}, (∀ j, j < n → H j = G j) → hsum H n = hsum G n
  | 0, _ => rfl
  | n + 1, h => by
    show hsum H n + H n = hsum G n + G n
    rw [hsum_congr (fun j hj => h j (by omega)), h n (by omega)]
theorem hsum_add (H G : Nat → Int) : ∀ n, hsum (fun k => H k + G k) n = hsum H n + hsum G n
  | 0 => rfl
  | n + 1 => by
    show hsum (fun k => H k + G k) n + (H n + G n) = hsum H n + H n + (hsum G n + G n)
    rw [hsum_add H G n]; omega
/-- The counts may be totalled. -/
def HOk (H : Nat → Int) (n : Nat) : Prop := (∀ j, j < n → 0 ≤ H j) ∧ hsum H n ≤ 1048576
theorem HOk.less {H : Nat → Int} {k n : Nat} (h : HOk H n) (hk : k ≤ n) : HOk H k := ⟨fun j hj => h.1 j (by omega), Int.le_trans (hsum_mono h.1 hk) h.2⟩
/-- What Total answers. -/
def TotQ (H : Nat → Int) (n x : Int) : Prop := (HOk H 64 ∧ x = 0 ∧ n = hsum H 64) ∨ (¬ HOk H 64 ∧ x = 2 ∧ n = 0)

set_option maxRecDepth 100000 in
set_option maxHeartbeats 4000000 in
theorem Total_any (H : Nat → Int) (w : World) :
    Calls Try.prog 17 #[hV H] w fun e w' => ∃ n x, e = .returned (.tuple #[.int .i64 n, .int .i64 x]) ∧ TotQ H n x ∧ Below w.heap.size w w' := by
  have HQ := Lib.hid (show ∀ n x, TotQ H n x = ((HOk H 64 ∧ x = 0 ∧ n = hsum H 64) ∨ (¬ HOk H 64 ∧ x = 2 ∧ n = 0)) from fun _ _ => rfl)
  have IX := Lib.hid (fun (k : Nat) (hk : k < 64) => index_hist H hk)
  have BD := Lib.hid (heap_alloc_new w (Obj.cells (hC H) 23))
  have B1 := Lib.hid (show Below w.heap.size w (w.alloc (Obj.cells (hC H) 23)) from (Below.refl _ w).alloc (Nat.le_refl _) _)
  go_enter Try.func17, Try.ntmps17
  go_upto_region 2 with fail
  generalize w.alloc (Obj.cells (hC H) 23) = w1 at *
  obtain ⟨g, hg⟩ : ∃ g, g = w.heap.size := ⟨_, rfl⟩
  rw [← hg] at BD ⊢
  clear hg
  go_upto_region 3 with (refine wpList_load_row rfl _ _ rfl g rfl _ (hC H) (0, 0) _ BD.out Try.underlying23 rfl (histSize' H) ?_)
  clear BD
  go_loopw [4, 8] (fun sv kv wr => ∃ k : Nat, k ≤ 64 ∧ kv = .int .i64 k ∧ sv = .int .i64 (hsum H k) ∧ Hid (HOk H k) ∧ wr = w1) (fun _ kv _ => 64 - (intOf kv).toNat)
  case atStart => exact ⟨0, by omega, rfl, rfl, Lib.hid ⟨fun j hj => by omega, by simp [hsum]⟩, rfl⟩
  case round =>
    obtain ⟨k, hk, rfl, rfl, OK, rfl⟩ := hrel
    by_cases t1 : k < 64
    · have k2 : (k : Int) < 64 := by omega
      have ix := IX.out k t1
      have SS := Lib.hid (show hsum H (k + 1) = hsum H k + H k from rfl)
      have sb := OK.out.2
      have s0 : 0 ≤ hsum H k := by have := hsum_mono (k := 0) OK.out.1 (Nat.zero_le k); exact this
      have NO := Lib.hid (show ¬ HOk H (k + 1) → TotQ H 0 2 from fun h => by rw [HQ.out]; exact .inr ⟨fun g => h (g.less (by omega)), rfl, rfl⟩)
      have ST := Lib.hid (show ¬ H k < 0 → ¬ 1048576 - hsum H k < H k → HOk H (k + 1) from fun h1 h2 => ⟨fun j hj => by
        by_cases e : j = k
        · subst e; omega
        · exact OK.out.1 j (by omega), by rw [SS.out]; omega⟩)
      have N1 := Lib.hid (show H k < 0 → ¬ HOk H (k + 1) from fun h g => by have := g.1 k (by omega); omega)
      have N2 := Lib.hid (show 1048576 - hsum H k < H k → ¬ HOk H (k + 1) from fun h g => by have := g.2; rw [SS.out] at this; omega)
      clear OK HQ
      generalize hsum H k = S at *
      generalize H k = x at *
      have wD : IntKind.i64.wrap (1048576 - S) = 1048576 - S := hwI (by omega) (by omega)
      by_cases c1 : x < 0
      · have d1 : decide (x < 0) = true := decide_eq_true c1
        have FF := Lib.hid (NO.out (N1.out c1))
        clear NO ST N1 N2 SS c1
        go_wp2_with fail
        go_ret2
        exact ⟨0, 2, rfl, FF.out, B1.out⟩
      have d1 : decide (x < 0) = false := decide_eq_false c1
      by_cases c2 : 1048576 - S < x
      · have d2 : decide (1048576 - S < x) = true := decide_eq_true c2
        have FF := Lib.hid (NO.out (N2.out c2))
        clear NO ST N1 N2 SS c1
        go_wp2_with fail
        go_ret2
        exact ⟨0, 2, rfl, FF.out, B1.out⟩
      have d2 : decide (1048576 - S < x) = false := decide_eq_false c2
      have O2 := Lib.hid (ST.out c1 c2)
      have wS : IntKind.i64.wrap (S + x) = S + x := hwI (by omega) (by omega)
      clear NO ST N1 N2 c1
      go_wp2_with fail
      go_roundw
      case rel => exact ⟨k + 1, by omega, by go_num, by rw [SS.out], O2, by first | rfl | trivial⟩
      case measure => simp [intOf]; omega
    obtain rfl : k = 64 := by omega
    have FF := Lib.hid (show TotQ H (hsum H 64) 0 from by rw [HQ.out]; exact .inl ⟨OK.out, rfl, rfl⟩)
    clear OK HQ IX
    generalize hsum H 64 = S at *
    go_wp2_with fail
    go_ret2
    exact ⟨S, 0, rfl, FF.out, B1.out⟩
end Go.Proofs.Ythbgeikdamajlaa
