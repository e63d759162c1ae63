/- Add, Sub, Mul, Div and Cmp of package num, by what their results are. -/
import Derived.Test.YtbnbbekfackaiaaDoorB4
namespace Go.Proofs.YtbnbbekfackaiaaDoor
open Go.RowKit
set_option linter.unusedVariables false
set_option linter.unusedSimpArgs false

theorem mul_le_abs {x y X Y : Int} (h1 : -X ≤ x) (h2 : x ≤ X) (h3 : 0 ≤ y) (h4 : y ≤ Y) (hX : 0 ≤ X) : -(X * Y) ≤ x * y ∧ x * y ≤ X * Y := by
  have a : x * y ≤ X * y := Int.mul_le_mul_of_nonneg_right h2 h3
  have b : X * y ≤ X * Y := Int.mul_le_mul_of_nonneg_left h4 hX
  have c : -X * y ≤ x * y := Int.mul_le_mul_of_nonneg_right h1 h3
  rw [Int.neg_mul] at c
  omega
theorem fr_mul {n d : Int} (h1 : -1099511627776 ≤ n) (h2 : n ≤ 1099511627776) (h3 : 1 ≤ d) (h4 : d ≤ 1048576) : -1152921504606846976 ≤ n * d ∧ n * d ≤ 1152921504606846976 := by
  have := mul_le_abs (X := 1099511627776) (Y := 1048576) h1 h2 (by omega) h4 (by omega); omega
theorem den_mul {n d : Int} (h1 : 1 ≤ n) (h2 : n ≤ 1048576) (h3 : 1 ≤ d) (h4 : d ≤ 1048576) : 1 ≤ n * d ∧ n * d ≤ 1099511627776 := by
  have := mul_le_abs (X := 1048576) (Y := 1048576) (x := n) (y := d) (by omega) h2 (by omega) h4 (by omega)
  have : 0 < n * d := Int.mul_pos (by omega) (by omega)
  omega

theorem Add_ok (an ad bn bd : Int) (ha : vldB an ad = true) (hb : vldB bn bd = true) (w : World) :
    Calls Tryd.prog 58 #[.agg #[.int .i64 an, .int .i64 ad], .agg #[.int .i64 bn, .int .i64 bd]] w (Res (IsFrac (an * bd + bn * ad) (ad * bd)) w) := by
  obtain ⟨a1, a2, a3, a4, a5⟩ := vldB_true.1 ha
  obtain ⟨b1, b2, b3, b4, b5⟩ := vldB_true.1 hb
  have HA := Lib.hid ha; clear ha a5
  have HB := Lib.hid hb; clear hb b5
  obtain ⟨p1, p2⟩ := fr_mul a3 a4 b1 b2
  obtain ⟨q1, q2⟩ := fr_mul b3 b4 a1 a2
  obtain ⟨r1, r2⟩ := den_mul a1 a2 b1 b2
  go_enter Tryd.func58, Tryd.ntmps58
  go_wp2_with fail
  refine (Valid_any _ _ (by omega) (by omega) _).mono ?_
  rintro e w1 ⟨rfl, hb1⟩
  rw [HA.out]
  obtain ⟨hc1, hf1⟩ := bcell hb1
  have hz1 : w.heap.size + 2 < w1.heap.size := by have := hb1.size; simp at this; omega
  go_wp2_with fail
  refine (Valid_any _ _ (by omega) (by omega) _).mono ?_
  rintro e w2 ⟨rfl, hb2⟩
  rw [HB.out]
  have hb := hb1.trans (hb2.mono hb1.size)
  clear hb1 hb2 hc1 hf1 hz1
  obtain ⟨hc, hf⟩ := bcell hb
  have hz : w.heap.size + 2 < w2.heap.size := by have := hb.size; simp at this; omega
  go_wp2_with fail
  refine (Make_any _ _ (by omega) (by omega) (by omega) (by omega) (by omega) _).mono ?_
  rintro e w3 ⟨V, D, E, hF, rfl, hb3⟩
  unfold fracV
  have HF := Lib.hid hF; clear hF
  replace hb := hb.trans (hb3.mono hb.size)
  clear hb3 hc hf hz
  obtain ⟨hc, hf⟩ := bcell hb
  have hz : w.heap.size + 2 < w3.heap.size := by have := hb.size; simp at this; omega
  go_wp2_with fail
  refine bodyPost_ret (v := fracV V D E) (by simp [results, Tryd.results58, go_sem, fracV, hc, hz]) rfl ⟨V, D, E, HF.out, rfl, ?_⟩
  exact by repeat' (first | exact Below.refl _ _ | refine below_drewN ?_ _ | refine Below.setCell ?_ ?_ _ | refine Below.alloc ?_ ?_ _ | (with_reducible refine Below.trans ?_ (Below.mono hb ?_)) | (simp; done) | (simp; omega) | omega)

theorem Add_bad (an ad bn bd : Int) (x1 : -9223372036854775808 ≤ an) (x2 : an ≤ 9223372036854775807) (x3 : -9223372036854775808 ≤ bn) (x4 : bn ≤ 9223372036854775807) (h : vldB an ad = false ∨ vldB bn bd = false) (w : World) :
    Calls Tryd.prog 58 #[.agg #[.int .i64 an, .int .i64 ad], .agg #[.int .i64 bn, .int .i64 bd]] w fun e w' => e = .returned (fracV 0 0 2) ∧ Below w.heap.size w w' := by
  by_cases ha : vldB an ad = true
  · have hb : vldB bn bd = false := by rcases h with h | h; (rw [ha] at h; cases h); exact h
    have HA := Lib.hid ha; clear ha
    have HB := Lib.hid hb; clear hb h
    go_enter Tryd.func58, Tryd.ntmps58
    go_wp2_with fail
    refine (Valid_any _ _ (by omega) (by omega) _).mono ?_
    rintro e w1 ⟨rfl, hb1⟩
    rw [HA.out]
    obtain ⟨hc1, hf1⟩ := bcell hb1
    have hz1 : w.heap.size + 2 < w1.heap.size := by have := hb1.size; simp at this; omega
    go_wp2_with fail
    refine (Valid_any _ _ (by omega) (by omega) _).mono ?_
    rintro e w2 ⟨rfl, hb2⟩
    rw [HB.out]
    have hb := hb1.trans (hb2.mono hb1.size)
    clear hb1 hb2 hc1 hf1 hz1
    obtain ⟨hc, hf⟩ := bcell hb
    have hz : w.heap.size + 2 < w2.heap.size := by have := hb.size; simp at this; omega
    go_wp2_with fail
    refine bodyPost_ret (v := fracV 0 0 2) (by simp [results, Tryd.results58, go_sem, fracV, hc, hz]) rfl ⟨rfl, ?_⟩
    exact by repeat' (first | exact Below.refl _ _ | refine below_drewN ?_ _ | refine Below.setCell ?_ ?_ _ | refine Below.alloc ?_ ?_ _ | (with_reducible refine Below.trans ?_ (Below.mono hb ?_)) | (simp; done) | (simp; omega) | omega)
  · have ha' : vldB an ad = false := by simpa using ha
    have HA := Lib.hid ha'; clear ha ha' h
    go_enter Tryd.func58, Tryd.ntmps58
    go_wp2_with fail
    refine (Valid_any _ _ (by omega) (by omega) _).mono ?_
    rintro e w1 ⟨rfl, hb⟩
    rw [HA.out]
    obtain ⟨hc, hf⟩ := bcell hb
    have hz : w.heap.size + 2 < w1.heap.size := by have := hb.size; simp at this; omega
    go_wp2_with fail
    refine bodyPost_ret (v := fracV 0 0 2) (by simp [results, Tryd.results58, go_sem, fracV, hc, hz]) rfl ⟨rfl, ?_⟩
    exact by repeat' (first | exact Below.refl _ _ | refine below_drewN ?_ _ | refine Below.setCell ?_ ?_ _ | refine Below.alloc ?_ ?_ _ | (with_reducible refine Below.trans ?_ (Below.mono hb ?_)) | (simp; done) | (simp; omega) | omega)


theorem Sub_ok (an ad bn bd : Int) (ha : vldB an ad = true) (hb : vldB bn bd = true) (w : World) :
    Calls Tryd.prog 59 #[.agg #[.int .i64 an, .int .i64 ad], .agg #[.int .i64 bn, .int .i64 bd]] w (Res (IsFrac (an * bd + -bn * ad) (ad * bd)) w) := by
  have hb' : vldB (-bn) bd = true := by rw [vldB_true] at hb ⊢; simpa [Int.neg_le_neg_iff, and_comm, and_left_comm, and_assoc] using (by omega : 1 ≤ bd ∧ bd ≤ 1048576 ∧ -1099511627776 ≤ -bn ∧ -bn ≤ 1099511627776 ∧ Int.gcd bn bd = 1)
  have HA := Lib.hid ha; clear ha
  have HB := Lib.hid hb; clear hb
  have HB' := Lib.hid hb'; clear hb'
  go_enter Tryd.func59, Tryd.ntmps59
  go_wp2_with fail
  refine (Neg_ok _ _ HB.out _).mono ?_
  rintro e w1 ⟨rfl, hb⟩
  obtain ⟨hc, hf⟩ := bcell hb
  have hz : w.heap.size + 2 < w1.heap.size := by have := hb.size; simp at this; omega
  have hz0 : w.heap.size < w1.heap.size := by omega
  have hz1 : w.heap.size + 1 < w1.heap.size := by omega
  go_wp2_with fail
  refine (Add_ok _ _ _ _ HA.out HB'.out _).mono ?_
  rintro e w3 ⟨V, D, E, hF, rfl, hb3⟩
  unfold fracV
  have HF := Lib.hid hF; clear hF
  replace hb := (hb.alloc hb.size _).trans (hb3.mono (by have := hb.size; simp at this ⊢; omega))
  clear hb3 hc hf hz hz0 hz1
  obtain ⟨hc, hf⟩ := bcell hb
  have hz : w.heap.size + 2 < w3.heap.size := by have := hb.size; simp at this; omega
  go_wp2_with fail
  refine bodyPost_ret (v := fracV V D E) (by simp [results, Tryd.results59, go_sem, fracV, hc, hz]) rfl ⟨V, D, E, HF.out, rfl, ?_⟩
  exact by repeat' (first | exact Below.refl _ _ | refine below_drewN ?_ _ | refine Below.setCell ?_ ?_ _ | refine Below.alloc ?_ ?_ _ | (with_reducible refine Below.trans ?_ (Below.mono hb ?_)) | (simp; done) | (simp; omega) | omega)

theorem Sub_bad1 (an ad bn bd : Int) (x3 : -9223372036854775808 ≤ bn) (x4 : bn ≤ 9223372036854775807) (h : vldB bn bd = false) (w : World) :
    Calls Tryd.prog 59 #[.agg #[.int .i64 an, .int .i64 ad], .agg #[.int .i64 bn, .int .i64 bd]] w fun e w' => e = .returned (fracV 0 0 2) ∧ Below w.heap.size w w' := by
  have HB := Lib.hid h; clear h
  go_enter Tryd.func59, Tryd.ntmps59
  go_wp2_with fail
  refine (Neg_bad _ _ x3 x4 HB.out _).mono ?_
  rintro e w1 ⟨rfl, hb⟩
  obtain ⟨hc, hf⟩ := bcell hb
  have hz : w.heap.size + 2 < w1.heap.size := by have := hb.size; simp at this; omega
  have hz0 : w.heap.size < w1.heap.size := by omega
  have hz1 : w.heap.size + 1 < w1.heap.size := by omega
  go_wp2_with fail
  refine bodyPost_ret (v := fracV 0 0 2) (by simp [results, Tryd.results59, go_sem, fracV, hc, hz]) rfl ⟨rfl, ?_⟩
  exact by repeat' (first | exact Below.refl _ _ | refine below_drewN ?_ _ | refine Below.setCell ?_ ?_ _ | refine Below.alloc ?_ ?_ _ | (with_reducible refine Below.trans ?_ (Below.mono hb ?_)) | (simp; done) | (simp; omega) | omega)

theorem Sub_bad2 (an ad bn bd : Int) (x1 : -9223372036854775808 ≤ an) (x2 : an ≤ 9223372036854775807) (h : vldB bn bd = true) (ha : vldB an ad = false) (w : World) :
    Calls Tryd.prog 59 #[.agg #[.int .i64 an, .int .i64 ad], .agg #[.int .i64 bn, .int .i64 bd]] w fun e w' => e = .returned (fracV 0 0 2) ∧ Below w.heap.size w w' := by
  obtain ⟨b1, b2, b3, b4, b5⟩ := vldB_true.1 h
  clear b5
  have HA := Lib.hid ha; clear ha
  have HB := Lib.hid h; clear h
  go_enter Tryd.func59, Tryd.ntmps59
  go_wp2_with fail
  refine (Neg_ok _ _ HB.out _).mono ?_
  rintro e w1 ⟨rfl, hb⟩
  obtain ⟨hc, hf⟩ := bcell hb
  have hz : w.heap.size + 2 < w1.heap.size := by have := hb.size; simp at this; omega
  have hz0 : w.heap.size < w1.heap.size := by omega
  have hz1 : w.heap.size + 1 < w1.heap.size := by omega
  go_wp2_with fail
  refine (Add_bad _ _ _ _ x1 x2 (by omega) (by omega) (Or.inl HA.out) _).mono ?_
  rintro e w3 ⟨rfl, hb3⟩
  unfold fracV
  replace hb := (hb.alloc hb.size _).trans (hb3.mono (by have := hb.size; simp at this ⊢; omega))
  clear hb3 hc hf hz hz0 hz1
  obtain ⟨hc, hf⟩ := bcell hb
  have hz : w.heap.size + 2 < w3.heap.size := by have := hb.size; simp at this; omega
  go_wp2_with fail
  refine bodyPost_ret (v := fracV 0 0 2) (by simp [results, Tryd.results59, go_sem, fracV, hc, hz]) rfl ⟨rfl, ?_⟩
  exact by repeat' (first | exact Below.refl _ _ | refine below_drewN ?_ _ | refine Below.setCell ?_ ?_ _ | refine Below.alloc ?_ ?_ _ | (with_reducible refine Below.trans ?_ (Below.mono hb ?_)) | (simp; done) | (simp; omega) | omega)
end Go.Proofs.YtbnbbekfackaiaaDoor
