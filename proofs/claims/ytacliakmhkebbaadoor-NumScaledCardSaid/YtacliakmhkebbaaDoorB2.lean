/- Products and quotients of 128 bits, rounding: what each call comes to. -/
import Derived.Test.YtacliakmhkebbaaDoorB1
namespace Go.Proofs.YtacliakmhkebbaaDoor
open Go.RowKit
set_option linter.unusedVariables false
set_option linter.unusedSimpArgs false

theorem ret_ii {k l : IntKind} {a b c d : Int} (h : a = b) (h' : c = d) : Ending.returned (.tuple #[.int k a, .int l c]) = .returned (.tuple #[.int k b, .int l d]) := by rw [h, h']

/-- Mul64: the contract off the shelf, over Int. -/
theorem mul64_any (x y : Int) (hx : 0 ≤ x) (hy : 0 ≤ y) (hx' : x ≤ 18446744073709551615) (hy' : y ≤ 18446744073709551615) (w : World) :
    Calls Tryd.prog 73 #[.int .u64 x, .int .u64 y] w fun e w' => e = .returned (.tuple #[.int .u64 (x * y / 18446744073709551616), .int .u64 (x * y % 18446744073709551616)]) ∧ w = w' := by
  obtain ⟨x, rfl⟩ := Int.eq_ofNat_of_zero_le hx
  obtain ⟨y, rfl⟩ := Int.eq_ofNat_of_zero_le hy
  refine (Tryd.bits_Mul64 x y (by omega) (by omega) w).mono fun e w' ⟨h, e'⟩ => ⟨?_, e'.symm⟩
  rw [h]
  simp only [Int.natCast_mul, Int.natCast_ediv, Int.natCast_emod]
  rfl

theorem div64_lo (lo y : Int) (h0 : 0 ≤ lo) (h1 : lo ≤ 18446744073709551615) (hy : 1 ≤ y) (hy' : y ≤ 18446744073709551615) (w : World) :
    Calls Tryd.prog 74 #[.int .u64 0, .int .u64 lo, .int .u64 y] w fun e w' => e = .returned (.tuple #[.int .u64 (lo / y), .int .u64 (lo % y)]) ∧ ∃ n, w' = w.drewN n := by
  have e0 : (y == 0) = false := by simp; omega
  go_enter Tryd.func74, Tryd.ntmps74
  go_wp2_with fail
  go_quiet (fail)
  go_wp2
  go_ret2
  exact ⟨rfl, _, rfl⟩

theorem div64_any (hi lo y : Int) (hh : hi = 0) (h' : hi < y) (h0 : 0 ≤ lo) (h1 : lo ≤ 18446744073709551615) (hy' : y ≤ 18446744073709551615) (w : World) :
    Calls Tryd.prog 74 #[.int .u64 hi, .int .u64 lo, .int .u64 y] w fun e w' => e = .returned (.tuple #[.int .u64 ((hi * 18446744073709551616 + lo) / y), .int .u64 ((hi * 18446744073709551616 + lo) % y)]) ∧ ∃ n, w' = w.drewN n := by
  subst hh
  refine (div64_lo lo y h0 h1 (by omega) hy' w).mono fun e w' ⟨a, b⟩ => ⟨?_, b⟩
  rw [a]; simp

/-- isUp, as a Bool. -/
def upB (neg : Bool) (q r c m : Int) : Bool :=
  if m = 0 then neg && decide (0 < r) else if m = 1 then !neg && decide (0 < r) else if m = 2 then false
  else if m = 3 then decide (c < 2 * r) || (decide (2 * r = c) && !neg) else decide (c < 2 * r) || (decide (2 * r = c) && decide (q % 2 = 1))

theorem cmpu_lt (a b : Int) (h : a < b) (w : World) :
    Calls Tryd.prog 36 #[.int .u64 a, .int .u64 b] w fun e w' => e = .returned (.int .i64 (-1)) ∧ w = w' := by
  go_enter Tryd.func36, Tryd.ntmps36
  go_wp2
  go_ret
  exact ⟨rfl, rfl⟩
theorem cmpu_gt (a b : Int) (h : b < a) (w : World) :
    Calls Tryd.prog 36 #[.int .u64 a, .int .u64 b] w fun e w' => e = .returned (.int .i64 1) ∧ w = w' := by
  go_enter Tryd.func36, Tryd.ntmps36
  go_wp2
  go_ret
  exact ⟨rfl, rfl⟩
theorem cmpu_eq (a b : Int) (h : a ≤ b) (h' : b ≤ a) (w : World) :
    Calls Tryd.prog 36 #[.int .u64 a, .int .u64 b] w fun e w' => e = .returned (.int .i64 0) ∧ w = w' := by
  go_enter Tryd.func36, Tryd.ntmps36
  go_wp2
  go_ret
  exact ⟨rfl, rfl⟩

/-- What rounding comes to: the whole number, without its sign. -/
def rndQ (neg : Bool) (p c m : Int) : Int := p / c + (bif upB neg (p / c) (p % c) c m then 1 else 0)
def rndV (neg : Bool) (p c m : Int) : Int := if rndQ neg p c m ≤ 1125899906842624 then (bif neg then -rndQ neg p c m else rndQ neg p c m) else 0
def rndE (neg : Bool) (p c m : Int) : Int := if rndQ neg p c m ≤ 1125899906842624 then 0 else 4

theorem rnd_big {neg : Bool} {p c m : Int} (h : 1125899906842624 < rndQ neg p c m) : rndV neg p c m = 0 ∧ rndE neg p c m = 4 := by
  unfold rndV rndE; rw [if_neg (by omega), if_neg (by omega)]; exact ⟨rfl, rfl⟩
theorem rnd_ok {neg : Bool} {p c m : Int} (h : rndQ neg p c m ≤ 1125899906842624) : rndV neg p c m = (bif neg then -rndQ neg p c m else rndQ neg p c m) ∧ rndE neg p c m = 0 := by
  unfold rndV rndE; rw [if_pos h, if_pos h]; exact ⟨rfl, rfl⟩
theorem rnd_up {neg : Bool} {p c m : Int} (h : upB neg (p / c) (p % c) c m = true) : rndQ neg p c m = p / c + 1 := by unfold rndQ; rw [h]; rfl
theorem rnd_down {neg : Bool} {p c m : Int} (h : upB neg (p / c) (p % c) c m = false) : rndQ neg p c m = p / c := by unfold rndQ; rw [h]; exact Int.add_zero _
theorem rnd_ge (neg : Bool) (p c m : Int) : p / c ≤ rndQ neg p c m := by
  cases h : upB neg (p / c) (p % c) c m
  · rw [rnd_down h]; omega
  · rw [rnd_up h]; omega

end Go.Proofs.YtacliakmhkebbaaDoor
