/- A slice that came in; compareProducts, share, sumOf. -/
import Derived.Test.YtacliakmhkebbaaDoorU0
import Derived.Test.YtacliakmhkebbaaDoorR4
import Derived.Test.YtacliakmhkebbaaDoorA2
import Derived.Test.YtacliakmhkebbaaDoorB8
namespace Go.Proofs.YtacliakmhkebbaaDoor
open Go.RowKit
set_option linter.unusedVariables false
set_option linter.unusedSimpArgs false

/-- The slice, wherever it lies, reads as this row. -/
def RowA (w : World) (p : Option Addr) (l : List Int) : Prop := ∀ i (h : i < l.length), ∃ x : Addr, p = some x ∧ x.block < w.heap.size ∧ w.cell? (x.add i) = some (.int .i64 (gd l i))
theorem add_block (x : Addr) (i : Nat) : (x.add i).block = x.block := by unfold Addr.add; split <;> rfl
theorem RowA.below {w w' : World} {p : Option Addr} {l : List Int} (r : RowA w p l) (hb : Below w.heap.size w w') : RowA w' p l := fun i h => by
  obtain ⟨x, e, k, c⟩ := r i h
  exact ⟨x, e, Nat.lt_of_lt_of_le k hb.size, by rw [hb.cell (p := x.add i) (by rw [add_block]; exact k)]; exact c⟩
theorem RowA.drewN {w : World} {p : Option Addr} {l : List Int} (r : RowA w p l) (n : Nat) : RowA (w.drewN n) p l := r.below (below_drewN (Below.refl _ _) n)

theorem cmpZ_hi {x y M : Int} (hM : 0 < M) (h : x / M ≠ y / M) : cmpZ (x / M) (y / M) = cmpZ x y := by
  have a1 := Int.emod_add_mul_ediv x M
  have a2 := Int.emod_add_mul_ediv y M
  have b1 := Int.emod_nonneg x (show M ≠ 0 by omega)
  have b2 := Int.emod_lt_of_pos x hM
  have c1 := Int.emod_nonneg y (show M ≠ 0 by omega)
  have c2 := Int.emod_lt_of_pos y hM
  rcases (by omega : x / M < y / M ∨ y / M < x / M) with t | t
  · have : M * (x / M + 1) ≤ M * (y / M) := Int.mul_le_mul_of_nonneg_left (by omega) (by omega)
    rw [Int.mul_add, Int.mul_one] at this
    unfold cmpZ; rw [if_pos t, if_pos (by omega)]
  · have : M * (y / M + 1) ≤ M * (x / M) := Int.mul_le_mul_of_nonneg_left (by omega) (by omega)
    rw [Int.mul_add, Int.mul_one] at this
    unfold cmpZ; rw [if_neg (by omega), if_pos t, if_neg (by omega), if_pos (by omega)]
theorem cmpZ_lo {x y M : Int} (h : x / M = y / M) : cmpZ (x % M) (y % M) = cmpZ x y := by
  have a1 := Int.emod_add_mul_ediv x M
  have a2 := Int.emod_add_mul_ediv y M
  rw [h] at a1
  unfold cmpZ
  rcases (by omega : x < y ∨ y < x ∨ x = y) with t | t | t
  · rw [if_pos t, if_pos (by omega)]
  · rw [if_neg (show ¬ x < y by omega), if_pos t, if_neg (by omega), if_pos (by omega)]
  · subst t; rw [if_neg (by omega), if_neg (by omega), if_neg (by omega), if_neg (by omega)]

set_option maxRecDepth 100000 in
theorem compare_any (a b c d : Int) (a0 : 0 ≤ a) (a1 : a ≤ 4611686018427387904) (b0 : 0 ≤ b) (b1 : b ≤ 4611686018427387904) (c0 : 0 ≤ c) (c1 : c ≤ 4611686018427387904) (d0 : 0 ≤ d) (d1 : d ≤ 4611686018427387904) (w : World) :
    Calls Tryd.prog 77 #[.int .i64 a, .int .i64 b, .int .i64 c, .int .i64 d] w fun e w' => e = .returned (.int .i64 (cmpZ (a * b) (c * d))) ∧ w = w' := by
  have EA := Lib.hid (show (a.natAbs : Int) = a by omega)
  have EB := Lib.hid (show (b.natAbs : Int) = b by omega)
  have EC := Lib.hid (show (c.natAbs : Int) = c by omega)
  have ED := Lib.hid (show (d.natAbs : Int) = d by omega)
  have M1 := Lib.hid (fun W => mul64_any a b a0 b0 (by omega) (by omega) W)
  have M2 := Lib.hid (fun W => mul64_any c d c0 d0 (by omega) (by omega) W)
  have HI := Lib.hid (fun h => cmpZ_hi (x := a * b) (y := c * d) (M := 18446744073709551616) (by omega) h)
  have LO := Lib.hid (fun h => cmpZ_lo (x := a * b) (y := c * d) (M := 18446744073709551616) h)
  generalize cmpZ (a * b) (c * d) = Z at *
  generalize a * b / 18446744073709551616 = h1 at *
  generalize a * b % 18446744073709551616 = l1 at *
  generalize c * d / 18446744073709551616 = h2 at *
  generalize c * d % 18446744073709551616 = l2 at *
  go_enter Tryd.func77, Tryd.ntmps77
  go_wp2_with fail
  refine (size_any _ (by omega) (by omega) _).mono ?_
  rintro e w1 ⟨rfl, rfl⟩
  rw [EA.out]
  go_wp2_with fail
  refine (size_any _ (by omega) (by omega) _).mono ?_
  rintro e w1 ⟨rfl, rfl⟩
  rw [EB.out]
  go_wp2_with fail
  refine (M1.out _).mono ?_
  rintro e w1 ⟨rfl, rfl⟩
  go_wp2_with fail
  refine (size_any _ (by omega) (by omega) _).mono ?_
  rintro e w1 ⟨rfl, rfl⟩
  rw [EC.out]
  go_wp2_with fail
  refine (size_any _ (by omega) (by omega) _).mono ?_
  rintro e w1 ⟨rfl, rfl⟩
  rw [ED.out]
  go_wp2_with fail
  refine (M2.out _).mono ?_
  rintro e w1 ⟨rfl, rfl⟩
  by_cases h : h1 = h2
  · have K := Lib.hid (LO.out h)
    have hb : (h1 != h2) = false := by simpa using h
    clear h LO HI
    go_wp2_with fail
    refine (cmpu_any _ _ _).mono ?_
    rintro e w1 ⟨rfl, rfl⟩
    go_wp2_with fail
    go_ret
    exact ⟨ret_i K.out, rfl⟩
  · have K := Lib.hid (HI.out h)
    have hb : (h1 != h2) = true := by simpa using h
    clear h LO HI
    go_wp2_with fail
    refine (cmpu_any _ _ _).mono ?_
    rintro e w1 ⟨rfl, rfl⟩
    go_wp2_with fail
    go_ret
    exact ⟨ret_i K.out, rfl⟩

set_option maxRecDepth 100000 in
/-- share, where the quotient fits. -/
theorem share_any (t m s : Int) (h1 : 0 ≤ t) (h2 : 0 ≤ m) (h3 : 1 ≤ s) (h4 : s ≤ 4611686018427387904) (h5 : t ≤ 4611686018427387904) (h6 : m ≤ s) (w : World) :
    Calls Tryd.prog 33 #[.int .i64 t, .int .i64 m, .int .i64 s] w fun e w' => e = .returned (.tuple #[.int .i64 (t * m / s), .int .u64 (t * m % s)]) ∧ ∃ n, w' = w.drewN n := by
  have p0 : 0 ≤ t * m := Int.mul_nonneg h1 h2
  have p1 : t * m ≤ t * s := Int.mul_le_mul_of_nonneg_left h6 h1
  have q0 : 0 ≤ t * m / s := Int.ediv_nonneg p0 (by omega)
  have q1 : t * m / s ≤ t := by
    have := Int.ediv_le_ediv (show 0 < s by omega) p1
    rwa [Int.mul_ediv_cancel _ (by omega)] at this
  have q2 : t * m / s ≤ 9223372036854775807 := by omega
  have hi0 : 0 ≤ t * m / 18446744073709551616 := Int.ediv_nonneg p0 (by omega)
  have hi1 : t * m / 18446744073709551616 < s := by
    refine Int.ediv_lt_of_lt_mul (by omega) ?_
    have : t * s < 18446744073709551616 * s := Int.mul_lt_mul_of_pos_right (by omega) (by omega)
    have := Int.mul_comm s 18446744073709551616
    omega
  have lo0 : 0 ≤ t * m % 18446744073709551616 := Int.emod_nonneg _ (by omega)
  have lo1 : t * m % 18446744073709551616 ≤ 18446744073709551615 := by have := Int.emod_lt_of_pos (t * m) (show (0 : Int) < 18446744073709551616 by omega); omega
  have DV := fun W => div64_all (t * m / 18446744073709551616) (t * m % 18446744073709551616) s hi0 hi1 lo0 lo1 (by omega) W
  rw [show t * m / 18446744073709551616 * 18446744073709551616 + t * m % 18446744073709551616 = t * m from by have := Int.emod_add_mul_ediv (t * m) 18446744073709551616; omega] at DV
  replace DV := Lib.hid DV
  have M1 := Lib.hid (fun W => mul64_any t m h1 h2 (by omega) (by omega) W)
  have E1 := Lib.hid (show (t.natAbs : Int) = t by omega)
  have E2 := Lib.hid (show (m.natAbs : Int) = m by omega)
  have E3 := Lib.hid (show (s.natAbs : Int) = s by omega)
  clear hi0 hi1 lo0 lo1 p1 q1
  generalize t * m / s = Q at *
  generalize t * m % s = R at *
  generalize t * m / 18446744073709551616 = H at *
  generalize t * m % 18446744073709551616 = L at *
  clear p0
  go_enter Tryd.func33, Tryd.ntmps33
  go_wp2_with fail
  refine (size_any _ (by omega) (by omega) _).mono ?_
  rintro e w1 ⟨rfl, rfl⟩
  rw [E1.out]
  go_wp2_with fail
  refine (size_any _ (by omega) (by omega) _).mono ?_
  rintro e w1 ⟨rfl, rfl⟩
  rw [E2.out]
  go_wp2_with fail
  refine (M1.out _).mono ?_
  rintro e w1 ⟨rfl, rfl⟩
  go_wp2_with fail
  refine (size_any _ (by omega) (by omega) _).mono ?_
  rintro e w1 ⟨rfl, rfl⟩
  rw [E3.out]
  go_wp2_with fail
  refine (DV.out _).mono ?_
  rintro e w1 ⟨rfl, n1, rfl⟩
  go_wp2_with fail
  go_ret2
  exact ⟨rfl, _, rfl⟩

/-- What the divisions take. -/
def Takes (t : Int) (l : List Int) : Prop := l.length ≤ 256 ∧ (0 ≤ t ∧ t ≤ 1125899906842624) ∧ ∀ i, i < l.length → 0 ≤ gd l i ∧ gd l i ≤ 1073741824
/-- What sumOf returns. -/
def SumR (t : Int) (l : List Int) (S E : Int) : Prop :=
  (256 < l.length ∧ S = 0 ∧ E = 3) ∨ (l.length ≤ 256 ∧ (¬ (0 ≤ t ∧ t ≤ 1125899906842624) ∨ ∃ i, i < l.length ∧ ¬ (0 ≤ gd l i ∧ gd l i ≤ 1073741824)) ∧ S = 0 ∧ E = 2) ∨ (Takes t l ∧ l.sum = 0 ∧ 0 < t ∧ S = 0 ∧ E = 5) ∨ (Takes t l ∧ (l.sum = 0 → t = 0) ∧ S = l.sum ∧ E = 0)

set_option maxRecDepth 100000 in
set_option maxHeartbeats 1000000 in
theorem sumOf_any (t : Int) (p : Option Addr) (c : Nat) (l : List Int) (w : World) (r : RowA w p l) (ln : l.length ≤ 1000000) :
    Calls Tryd.prog 32 #[.int .i64 t, .slice p l.length c] w fun e w' => (∃ S E, e = .returned (.tuple #[.int .i64 S, .int .i64 E]) ∧ SumR t l S E) ∧ w = w' := by
  obtain ⟨x, hx⟩ : ∃ x, x = l.length := ⟨_, rfl⟩
  rw [← hx] at ln ⊢
  by_cases h1 : 256 < x
  · have F := Lib.hid (show SumR t l 0 3 from .inl ⟨by omega, rfl, rfl⟩)
    clear hx r
    go_enter Tryd.func32, Tryd.ntmps32
    go_wp2_with fail
    go_ret2
    exact ⟨⟨_, _, rfl, F.out⟩, rfl⟩
  by_cases h2 : 0 ≤ t ∧ t ≤ 1125899906842624
  · have B := Lib.hid (show (decide (0 ≤ t) && decide (t ≤ 1125899906842624)) = true by simp [h2])
    have HX := Lib.hid hx
    have R := Lib.hid r
    have T := Lib.hid h2
    obtain ⟨t0, t1⟩ := h2
    clear hx r
    go_enter Tryd.func32, Tryd.ntmps32
    go_wp2_with fail
    refine (isAmount_any _ _).mono ?_
    rintro e w1 ⟨rfl, rfl⟩
    rw [B.out]
    go_wp2_with fail
    go_loop [6, 17] (fun sv kv => ∃ (k : Nat) (S : Int), k ≤ x ∧ sv = .int .i64 S ∧ kv = .int .i64 k ∧ 0 ≤ S ∧ S ≤ k * 1073741824 ∧ Hid (S = (l.take k).sum ∧ ∀ i, i < k → 0 ≤ gd l i ∧ gd l i ≤ 1073741824)) (fun _ kv => x - (intOf kv).toNat)
    case atStart => exact ⟨0, 0, Nat.zero_le _, rfl, rfl, by omega, by omega, by show _ ∧ _; exact ⟨rfl, by omega⟩⟩
    case round =>
      obtain ⟨k, S, hk, rfl, rfl, s0, s1, HS⟩ := hrel
      by_cases t2 : k < x
      · have l1 : k < l.length := by have := HX.out; omega
        obtain ⟨xa, rfl, kx, cx⟩ := R.out k l1
        have ST := sum_take_succ l1
        have NX : Hid (0 ≤ gd l k ∧ gd l k ≤ 1073741824 → S + gd l k = (l.take (k + 1)).sum ∧ ∀ i, i < k + 1 → 0 ≤ gd l i ∧ gd l i ≤ 1073741824) := fun g => ⟨by rw [ST, HS.out.1], fun i hi => by
          rcases (by omega : i < k ∨ i = k) with z | z
          · exact HS.out.2 i z
          · subst z; exact g⟩
        have BD : Hid (¬ (0 ≤ gd l k ∧ gd l k ≤ 1073741824) → SumR t l 0 2) := fun g => .inr (.inl ⟨by have := HX.out; omega, .inr ⟨k, l1, g⟩, rfl, rfl⟩)
        have i3 : (k : Int) < (x : Int) := by omega
        clear ST HS
        generalize gd l k = v at *
        by_cases gv : 0 ≤ v ∧ v ≤ 1073741824
        · have WV := Lib.hid (show (decide (0 ≤ v) && decide (v ≤ 1073741824)) = true by simp [gv])
          have NY := Lib.hid (NX.out gv)
          obtain ⟨g0, g1⟩ := gv
          clear NX BD
          go_wp2_with fail
          refine (isWeight_any _ _).mono ?_
          rintro e w1 ⟨rfl, rfl⟩
          rw [WV.out]
          go_wp2_with fail
          go_round
          case rel => exact ⟨k + 1, S + v, by omega, rfl, by go_num, by omega, by omega, NY⟩
          case measure => simp [intOf]; omega
        · have WV := Lib.hid (show (decide (0 ≤ v) && decide (v ≤ 1073741824)) = false by rw [Bool.and_eq_false_iff]; simp only [decide_eq_false_iff_not]; omega)
          have F := Lib.hid (BD.out gv)
          clear NX BD gv
          go_wp2_with fail
          refine (isWeight_any _ _).mono ?_
          rintro e w1 ⟨rfl, rfl⟩
          rw [WV.out]
          go_wp2_with fail
          go_ret2
          exact ⟨⟨_, _, rfl, F.out⟩, rfl⟩
      · have kx : k = l.length := by have := HX.out; omega
        have SE : S = l.sum := by rw [HS.out.1, kx, List.take_length]
        have TK : Takes t l := ⟨by have := HX.out; omega, T.out, fun i hi => HS.out.2 i (by omega)⟩
        clear HS
        rcases (by omega : (S = 0 ∧ 0 < t) ∨ ¬ (S = 0 ∧ 0 < t)) with ⟨z1, z2⟩ | z
        · have F := Lib.hid (show SumR t l 0 5 from .inr (.inr (.inl ⟨TK, by omega, z2, rfl, rfl⟩)))
          subst z1
          clear SE TK
          go_wp2_with fail
          go_ret2
          exact ⟨⟨_, _, rfl, F.out⟩, rfl⟩
        · have F := Lib.hid (show SumR t l S 0 from .inr (.inr (.inr ⟨TK, by omega, SE, rfl⟩)))
          clear SE TK
          rcases (by omega : ¬ S = 0 ∨ (S = 0 ∧ ¬ 0 < t)) with z1 | ⟨z1, z2⟩
          · have zb : (S == 0) = false := by simpa using z1
            clear z
            go_wp2_with fail
            go_ret2
            exact ⟨⟨_, _, rfl, F.out⟩, rfl⟩
          · subst z1
            clear z
            go_wp2_with fail
            go_ret2
            exact ⟨⟨_, _, rfl, F.out⟩, rfl⟩
  · have B := Lib.hid (show (decide (0 ≤ t) && decide (t ≤ 1125899906842624)) = false by rw [Bool.and_eq_false_iff]; simp only [decide_eq_false_iff_not]; omega)
    have F := Lib.hid (show SumR t l 0 2 from .inr (.inl ⟨by omega, .inl h2, rfl, rfl⟩))
    clear hx r h2
    go_enter Tryd.func32, Tryd.ntmps32
    go_wp2_with fail
    refine (isAmount_any _ _).mono ?_
    rintro e w1 ⟨rfl, rfl⟩
    rw [B.out]
    go_wp2_with fail
    go_ret2
    exact ⟨⟨_, _, rfl, F.out⟩, rfl⟩
end Go.Proofs.YtacliakmhkebbaaDoor
