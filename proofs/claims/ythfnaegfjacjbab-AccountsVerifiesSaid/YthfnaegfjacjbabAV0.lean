/- Accounts: the hash of an entry, plain; the program's add and number. -/
import Derived.Test.YthfnaegfjacjbabAP0
import Derived.BigRegion
namespace Go.Proofs.Ythfnaegfjacjbab
open Go.RowKit
set_option linter.unusedVariables false
set_option linter.unusedSimpArgs false

/-- One byte taken in. -/
def stp (h b : Int) : Int := IntKind.u64.wrap (bits BinOp.xor IntKind.u64 h (IntKind.u64.wrap b) * 1099511628211)
/-- The lowest bytes of a number, the lowest first. -/
def bys : Nat → Int → List Int
  | 0, _ => []
  | k + 1, n => n % 256 :: bys k (n / 256)
/-- The hash so far lies in its box. -/
structure HashAt (g : Nat) (h : Int) (W : World) : Prop where
  cell : W.cell? ⟨g, 0, none⟩ = some (.int .u64 h)
  fr : W.frozen? ⟨g, 0, none⟩ = false
  sz : g < W.heap.size
theorem HashAt.put {g : Nat} {h : Int} {W : World} (a : HashAt g h W) (k : Int) : HashAt g k (W.setCell ⟨g, 0, none⟩ (.int .u64 k)) := by
  obtain ⟨h1, h2, h3⟩ := a
  refine ⟨?_, ?_, by simpa [World.setCell] using h3⟩ <;> simp [go_sem, h1, h2, h3]
/-- Nothing but block g has another value. -/
structure But (g : Nat) (w w' : World) : Prop where
  size : w'.heap.size = w.heap.size
  cell : ∀ a : Addr, a.block ≠ g → w'.cell? a = w.cell? a
  below : ∀ B, B ≤ g → Below B w w'
theorem But.refl (g : Nat) (w : World) : But g w w := ⟨rfl, fun _ _ => rfl, fun _ _ => Below.refl _ _⟩
theorem But.trans {g : Nat} {a b c : World} (h : But g a b) (k : But g b c) : But g a c :=
  ⟨k.size.trans h.size, fun x hx => (k.cell x hx).trans (h.cell x hx), fun B hB => (h.below B hB).trans (k.below B hB)⟩
theorem But.put {g : Nat} {w w' : World} (h : But g w w') (v : Value) : But g w (w'.setCell ⟨g, 0, none⟩ v) :=
  ⟨by simpa [World.setCell] using h.size, fun a ha => by rw [World.cell?_setCell_other _ _ _ _ (fun e => ha (by subst e; rfl))]; exact h.cell a ha, fun B hB => (h.below B hB).setCell hB v⟩

theorem add_any (g : Nat) (h b : Int) (w : World) (a : HashAt g h w) :
    Calls Try.prog 96 #[.pointer (some ⟨g, 0, none⟩), .int .u8 b] w fun e w' => e = .returned (.tuple #[]) ∧ HashAt g (stp h b) w' ∧ But g w w' := by
  have A := Lib.hid a
  obtain ⟨k1, k2, k3⟩ := a
  go_enter Try.func96, Try.ntmps96
  go_wp2_with fail
  go_end0
  exact ⟨rfl, A.out.put _, (But.refl _ _).put _⟩

set_option maxHeartbeats 1000000 in
theorem number_any (g : Nat) (h n : Int) (n0 : 0 ≤ n) (n1 : n < 18446744073709551616) (w : World) (a : HashAt g h w) :
    Calls Try.prog 95 #[.pointer (some ⟨g, 0, none⟩), .int .u64 n] w fun e w' => e = .returned (.tuple #[]) ∧ HashAt g (List.foldl stp h (bys 8 n)) w' ∧ But g w w' := by
  have A := Lib.hid a
  have N0 := Lib.hid n0
  have N1 := Lib.hid n1
  clear a n0 n1
  go_enter Try.func95, Try.ntmps95
  go_wp2_with fail
  go_loopw [1, 4] (fun nv iv wr => ∃ (i : Nat) (m k : Int), i ≤ 8 ∧ iv = .int .i64 i ∧ nv = .int .u64 m ∧ 0 ≤ m ∧ m < 18446744073709551616 ∧ Hid (HashAt g k wr) ∧ Hid (But g w wr) ∧ Hid (List.foldl stp k (bys (8 - i) m) = List.foldl stp h (bys 8 n))) (fun _ iv _ => 8 - (intOf iv).toNat)
  case atStart => exact ⟨0, n, h, by omega, rfl, rfl, N0.out, N1.out, A, Lib.hid (But.refl _ _), Lib.hid rfl⟩
  case round =>
    clear A N0 N1
    obtain ⟨i, m, k, hi, rfl, rfl, m0, m1, A, B, E⟩ := hrel
    by_cases t : i < 8
    · have t1 : (i : Int) < 8 := by omega
      have C := Lib.hid (add_any g k (m % 256) wr A.out)
      have E2 := Lib.hid (show List.foldl stp (stp k (m % 256)) (bys (8 - (i + 1)) (m / 256)) = List.foldl stp h (bys 8 n) from by
        rw [← E.out, show 8 - i = (8 - (i + 1)) + 1 by omega]; rfl)
      have q0 : 0 ≤ m / 256 := by omega
      have q1 : m / 256 < 18446744073709551616 := by omega
      clear E A
      go_wp2_with fail
      refine (C.out).mono ?_
      rintro e wx ⟨rfl, A1, B1⟩
      replace A1 := Lib.hid A1
      replace B := Lib.hid (B.out.trans B1)
      clear B1 C
      go_wp2_with fail
      go_roundw
      case rel => exact ⟨i + 1, m / 256, stp k (m % 256), by omega, by go_num, by first | rfl | go_num, q0, q1, A1, B, E2⟩
      case measure => simp [intOf]; omega
    · obtain rfl : i = 8 := by omega
      go_wp2_with fail
      go_end0
      exact ⟨rfl, by have := E.out; rw [← this]; exact A.out, B.out⟩
end Go.Proofs.Ythfnaegfjacjbab
