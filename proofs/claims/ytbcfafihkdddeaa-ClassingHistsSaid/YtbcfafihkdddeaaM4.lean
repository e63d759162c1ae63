/- What math/bits.Div64 makes of its numbers before the two digits. -/
import Derived.Test.YtbcfafihkdddeaaM3
import Derived.Laws.Bits64b
import Derived.Laws.BitsLemmas
import Derived.Lib.BitFns
import Derived.Lib.ItoaNum
namespace Go.Proofs.Ytbcfafihkdddeaa
open Go.RowKit
set_option linter.unusedVariables false
set_option linter.unusedSimpArgs false

structure Nrm (hi lo y s P u c : Int) : Prop where
  s0 : 0 ≤ s
  s1 : s ≤ 63
  hP : (2 : Int) ^ s.toNat = P
  P1 : 1 ≤ P
  eY : IntKind.u64.wrap (y * 2 ^ s.toNat) = y * P
  Y1 : 9223372036854775808 ≤ y * P
  Y2 : y * P < 18446744073709551616
  eu : bits .or .u64 (IntKind.u64.wrap (hi * 2 ^ s.toNat)) (lo / 2 ^ (64 - s).toNat) = u
  ec : IntKind.u64.wrap (lo * 2 ^ s.toNat) = c
  u0 : 0 ≤ u
  u1 : u < y * P
  c0 : 0 ≤ c
  c1 : c < 18446744073709551616
  e : u * 18446744073709551616 + c = (hi * 18446744073709551616 + lo) * P

theorem nrm_nat (hi lo y : Nat) (hh : 1 ≤ hi) (h' : hi < y) (h1 : lo < 18446744073709551616) (hy : y < 18446744073709551616) :
    ∃ P u c : Nat, Nrm hi lo y (64 - (Lib.bitLen y : Int)) P u c := by
  have hb := Lib.bitLenAux_bounds 64 y (by omega) (by omega)
  have hb' : Lib.bitLen y ≤ 64 := Lib.bitLen_le y 64 (by omega) (by omega)
  have hb1 : 1 ≤ Lib.bitLen y ∧ 2 ^ (Lib.bitLen y - 1) ≤ y ∧ y < 2 ^ Lib.bitLen y := hb
  generalize Lib.bitLen y = l at hb1 hb'
  obtain ⟨l1, l2, l3⟩ := hb1
  have a1 : (64 - (l : Int)).toNat = 64 - l := by omega
  have a2 : (64 - (64 - (l : Int))).toNat = l := by omega
  have p1 : 2 ^ (64 - l) * 2 ^ l = 18446744073709551616 := by rw [← Nat.pow_add, show 64 - l + l = 64 by omega]
  have p2 : 2 ^ (64 - l) * 2 ^ (l - 1) = 9223372036854775808 := by rw [← Nat.pow_add, show 64 - l + (l - 1) = 63 by omega]
  have p0 : 1 ≤ 2 ^ (64 - l) := Nat.one_le_two_pow
  have p3 : 1 ≤ 2 ^ l := Nat.one_le_two_pow
  have pb : ∀ b, b < 2 ^ (64 - l) → 2 ^ (64 - l) * hi + b = 2 ^ (64 - l) * hi ||| b := fun b h => Nat.two_pow_add_eq_or_of_lt h hi
  have a3 : (2 : Int) ^ (64 - l) = ((2 ^ (64 - l) : Nat) : Int) := by push_cast; rfl
  have a4 : (2 : Int) ^ l = ((2 ^ l : Nat) : Int) := by push_cast; rfl
  generalize 2 ^ (l - 1) = H at *
  generalize 2 ^ (64 - l) = P at *
  generalize 2 ^ l = R at *
  have k1 : y * P < 18446744073709551616 := by rw [← p1, Nat.mul_comm]; exact (Nat.mul_lt_mul_left (by omega)).2 l3
  have k2 : 9223372036854775808 ≤ y * P := by rw [← p2, Nat.mul_comm]; exact Nat.mul_le_mul_right P l2
  have k3 : hi * P + P ≤ y * P := by rw [← Nat.succ_mul]; exact Nat.mul_le_mul_right P h'
  have k4 : lo / R < P := by rw [Nat.div_lt_iff_lt_mul (by omega), p1]; omega
  have k5 : lo / R * R + lo % R = lo := by rw [Nat.mul_comm]; exact Nat.div_add_mod lo R
  have k6 : lo % R < R := Nat.mod_lt _ (by omega)
  have k7 : lo % R * P < 18446744073709551616 := by rw [← p1, Nat.mul_comm]; exact (Nat.mul_lt_mul_left (by omega)).2 k6
  have k8 : lo * P = lo / R * 18446744073709551616 + lo % R * P := by
    have : (lo / R * R + lo % R) * P = lo / R * (P * R) + lo % R * P := by rw [Nat.add_mul, Nat.mul_assoc, Nat.mul_comm R P]
    rw [k5, p1] at this; exact this
  have k9 := pb _ k4
  have c1 := Int.natCast_mul y P
  have c2 := Int.natCast_mul (lo % R) P
  have c3 := Int.natCast_mul hi P
  have c4 := Int.natCast_mul lo P
  refine ⟨P, (hi * P + lo / R : Nat), (lo % R * P : Nat), by omega, by omega, by rw [a1, a3], by omega, ?_, by omega, by omega, ?_, ?_, by omega, ?_, by omega, by omega, ?_⟩
  · rw [a1, a3, IntKind.wrap_u64]
    omega
  · rw [a1, a2, a3, a4]
    have t : IntKind.u64.wrap ((hi : Int) * (P : Int)) = ((P * hi : Nat) : Int) := by
      rw [IntKind.wrap_u64]
      rw [Nat.mul_comm P hi]
      omega
    rw [t, show ((lo : Int) / (R : Int)) = ((lo / R : Nat) : Int) by push_cast; rfl, bits_or_u64_nat _ _ (by rw [Nat.mul_comm]; omega) (by omega), ← k9, Nat.mul_comm]
  · rw [a1, a3, IntKind.wrap_u64]
    omega
  · omega
  · have : (hi * P + lo / R) * 18446744073709551616 + lo % R * P = (hi * 18446744073709551616 + lo) * P := by
      rw [Nat.add_mul, Nat.add_mul, k8, Nat.mul_assoc, Nat.mul_comm P, ← Nat.mul_assoc]; omega
    have c5 := Int.natCast_mul (hi * 18446744073709551616 + lo) P
    have c6 : ((hi * 18446744073709551616 + lo : Nat) : Int) = (hi : Int) * 18446744073709551616 + (lo : Int) := by omega
    rw [c6] at c5
    omega

theorem nrm_any (hi lo y : Int) (hh : 1 ≤ hi) (h' : hi < y) (h0 : 0 ≤ lo) (h1 : lo ≤ 18446744073709551615) (hy : y ≤ 18446744073709551615) :
    ∃ P u c : Int, Nrm hi lo y (64 - (Lib.bitLen y.toNat : Int)) P u c := by
  obtain ⟨hi, rfl⟩ := Int.eq_ofNat_of_zero_le (show 0 ≤ hi by omega)
  obtain ⟨lo, rfl⟩ := Int.eq_ofNat_of_zero_le h0
  obtain ⟨y, rfl⟩ := Int.eq_ofNat_of_zero_le (show 0 ≤ y by omega)
  obtain ⟨P, u, c, h⟩ := nrm_nat hi lo y (by omega) (by omega) (by omega) (by omega)
  exact ⟨P, u, c, h⟩

theorem and_low (x : Int) (h0 : 0 ≤ x) (h1 : x < 18446744073709551616) : bits .and .u64 x 4294967295 = x % 4294967296 := by
  have h := bits_mask .u64 64 (by decide) (fun n a b => by rw [IntKind.wrap_u64]; omega) 32 (by decide) x h0 (by omega)
  simpa using h
/-- The two digits together. -/
theorem digits (N y P u c c1 c0 r1 q1 q0 r0 : Int) (hy : 1 ≤ y) (hP : 1 ≤ P) (e : u * 18446744073709551616 + c = N * P) (hc : c = c1 * 4294967296 + c0)
    (e1 : u * 4294967296 + c1 - q1 * (y * P) = r1) (e0 : r1 * 4294967296 + c0 - q0 * (y * P) = r0) (h0 : 0 ≤ r0) (h1 : r0 < y * P) :
    q1 * 4294967296 + q0 = N / y ∧ r0 / P = N % y := by
  have k : N * P = (q1 * 4294967296 + q0) * (y * P) + r0 := by
    rw [← e, Int.add_mul, Int.mul_assoc, Int.mul_comm 4294967296, ← Int.mul_assoc]; omega
  have k' : N * P = P * ((q1 * 4294967296 + q0) * y) + r0 := by rw [k, ← Int.mul_assoc, Int.mul_comm P]
  have d : r0 = (N - (q1 * 4294967296 + q0) * y) * P := by rw [Int.sub_mul, Int.mul_comm ((q1 * 4294967296 + q0) * y) P]; omega
  generalize hm : N - (q1 * 4294967296 + q0) * y = m at d
  have m0 : 0 ≤ m := by
    have : 0 ≤ m * P := by omega
    exact Int.nonneg_of_mul_nonneg_left this (by omega)
  have m1 : m < y := by
    have : m * P < y * P := by omega
    exact Int.lt_of_mul_lt_mul_right this (by omega)
  have q : N = m + y * (q1 * 4294967296 + q0) := by rw [Int.mul_comm y]; omega
  constructor
  · rw [q, Int.add_mul_ediv_left _ _ (by omega), Int.ediv_eq_zero_of_lt m0 m1]; omega
  · rw [d, Int.mul_ediv_cancel _ (by omega), q, Int.add_mul_emod_self_left, Int.emod_eq_of_lt m0 m1]
end Go.Proofs.Ytbcfafihkdddeaa
