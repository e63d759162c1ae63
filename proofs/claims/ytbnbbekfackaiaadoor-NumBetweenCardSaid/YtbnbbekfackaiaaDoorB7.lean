/- Div and Cmp of package num, and what is refused. -/
import Derived.Test.YtbnbbekfackaiaaDoorB6
namespace Go.Proofs.YtbnbbekfackaiaaDoor
open Go.RowKit
set_option linter.unusedVariables false
set_option linter.unusedSimpArgs false

theorem Mul_bad (an ad bn bd : Int) (x1 : -9223372036854775808 ≤ an) (x2 : an ≤ 9223372036854775807) (x3 : -9223372036854775808 ≤ bn) (x4 : bn ≤ 9223372036854775807) (h : vldB an ad = false ∨ vldB bn bd = false) (w : World) :
    Calls Tryd.prog 60 #[.agg #[.int .i64 an, .int .i64 ad], .agg #[.int .i64 bn, .int .i64 bd]] w fun e w' => e = .returned (fracV 0 0 2) ∧ Below w.heap.size w w' := by
  by_cases ha : vldB an ad = true
  · have hb : vldB bn bd = false := by rcases h with h | h; (rw [ha] at h; cases h); exact h
    have HA := Lib.hid ha; clear ha
    have HB := Lib.hid hb; clear hb h
    go_enter Tryd.func60, Tryd.ntmps60
    go_wp2_with fail
    refine (Valid_any _ _ (by omega) (by omega) _).mono ?_
    rintro e w1 ⟨rfl, hb1⟩
    rw [HA.out]
    obtain ⟨hc1, hf1⟩ := bcell hb1
    have hz1 : w.heap.size + 2 < w1.heap.size := by have := hb1.size; simp at this; omega
    go_wp2_with fail
    refine (Valid_any _ _ (by omega) (by omega) _).mono ?_
    rintro e w2 ⟨rfl, hb2⟩
    rw [HB.out]
    have hb := hb1.trans (hb2.mono hb1.size)
    clear hb1 hb2 hc1 hf1 hz1
    obtain ⟨hc, hf⟩ := bcell hb
    have hz : w.heap.size + 2 < w2.heap.size := by have := hb.size; simp at this; omega
    go_wp2_with fail
    refine bodyPost_ret (v := fracV 0 0 2) (by simp [results, Tryd.results60, go_sem, fracV, hc, hz]) rfl ⟨rfl, ?_⟩
    exact by repeat' (first | exact Below.refl _ _ | refine below_drewN ?_ _ | refine Below.drew ?_ | refine Below.setCell ?_ ?_ _ | refine Below.alloc ?_ ?_ _ | (with_reducible refine Below.trans ?_ (Below.mono hb ?_)) | (simp; done) | (simp; omega) | omega)
  · have ha' : vldB an ad = false := by simpa using ha
    have HA := Lib.hid ha'; clear ha ha' h
    go_enter Tryd.func60, Tryd.ntmps60
    go_wp2_with fail
    refine (Valid_any _ _ (by omega) (by omega) _).mono ?_
    rintro e w1 ⟨rfl, hb⟩
    rw [HA.out]
    obtain ⟨hc, hf⟩ := bcell hb
    have hz : w.heap.size + 2 < w1.heap.size := by have := hb.size; simp at this; omega
    go_wp2_with fail
    refine bodyPost_ret (v := fracV 0 0 2) (by simp [results, Tryd.results60, go_sem, fracV, hc, hz]) rfl ⟨rfl, ?_⟩
    exact by repeat' (first | exact Below.refl _ _ | refine below_drewN ?_ _ | refine Below.drew ?_ | refine Below.setCell ?_ ?_ _ | refine Below.alloc ?_ ?_ _ | (with_reducible refine Below.trans ?_ (Below.mono hb ?_)) | (simp; done) | (simp; omega) | omega)

theorem Div_bad (an ad bn bd : Int) (x1 : -9223372036854775808 ≤ an) (x2 : an ≤ 9223372036854775807) (x3 : -9223372036854775808 ≤ bn) (x4 : bn ≤ 9223372036854775807) (h : vldB an ad = false ∨ vldB bn bd = false) (w : World) :
    Calls Tryd.prog 61 #[.agg #[.int .i64 an, .int .i64 ad], .agg #[.int .i64 bn, .int .i64 bd]] w fun e w' => e = .returned (fracV 0 0 2) ∧ Below w.heap.size w w' := by
  by_cases ha : vldB an ad = true
  · have hb : vldB bn bd = false := by rcases h with h | h; (rw [ha] at h; cases h); exact h
    have HA := Lib.hid ha; clear ha
    have HB := Lib.hid hb; clear hb h
    go_enter Tryd.func61, Tryd.ntmps61
    go_wp2_with fail
    refine (Valid_any _ _ (by omega) (by omega) _).mono ?_
    rintro e w1 ⟨rfl, hb1⟩
    rw [HA.out]
    obtain ⟨hc1, hf1⟩ := bcell hb1
    have hz1 : w.heap.size + 2 < w1.heap.size := by have := hb1.size; simp at this; omega
    go_wp2_with fail
    refine (Valid_any _ _ (by omega) (by omega) _).mono ?_
    rintro e w2 ⟨rfl, hb2⟩
    rw [HB.out]
    have hb := hb1.trans (hb2.mono hb1.size)
    clear hb1 hb2 hc1 hf1 hz1
    obtain ⟨hc, hf⟩ := bcell hb
    have hz : w.heap.size + 2 < w2.heap.size := by have := hb.size; simp at this; omega
    go_wp2_with fail
    refine bodyPost_ret (v := fracV 0 0 2) (by simp [results, Tryd.results61, go_sem, fracV, hc, hz]) rfl ⟨rfl, ?_⟩
    exact by repeat' (first | exact Below.refl _ _ | refine below_drewN ?_ _ | refine Below.drew ?_ | refine Below.setCell ?_ ?_ _ | refine Below.alloc ?_ ?_ _ | (with_reducible refine Below.trans ?_ (Below.mono hb ?_)) | (simp; done) | (simp; omega) | omega)
  · have ha' : vldB an ad = false := by simpa using ha
    have HA := Lib.hid ha'; clear ha ha' h
    go_enter Tryd.func61, Tryd.ntmps61
    go_wp2_with fail
    refine (Valid_any _ _ (by omega) (by omega) _).mono ?_
    rintro e w1 ⟨rfl, hb⟩
    rw [HA.out]
    obtain ⟨hc, hf⟩ := bcell hb
    have hz : w.heap.size + 2 < w1.heap.size := by have := hb.size; simp at this; omega
    go_wp2_with fail
    refine bodyPost_ret (v := fracV 0 0 2) (by simp [results, Tryd.results61, go_sem, fracV, hc, hz]) rfl ⟨rfl, ?_⟩
    exact by repeat' (first | exact Below.refl _ _ | refine below_drewN ?_ _ | refine Below.drew ?_ | refine Below.setCell ?_ ?_ _ | refine Below.alloc ?_ ?_ _ | (with_reducible refine Below.trans ?_ (Below.mono hb ?_)) | (simp; done) | (simp; omega) | omega)

theorem Div_ok (an ad bn bd : Int) (ha : vldB an ad = true) (hb : vldB bn bd = true) (h0 : bn ≠ 0) (w : World) :
    Calls Tryd.prog 61 #[.agg #[.int .i64 an, .int .i64 ad], .agg #[.int .i64 bn, .int .i64 bd]] w (Res (IsFrac (an * bd) (ad * bn)) w) := by
  obtain ⟨a1, a2, a3, a4, a5⟩ := vldB_true.1 ha
  obtain ⟨b1, b2, b3, b4, b5⟩ := vldB_true.1 hb
  have HA := Lib.hid ha; clear ha a5
  have HB := Lib.hid hb; clear hb b5
  have hnz : ad * bn ≠ 0 := Int.mul_ne_zero (by omega) h0
  have HNZ := Lib.hid hnz; clear hnz h0
  obtain ⟨p1, p2⟩ := fr_mul a3 a4 b1 b2
  obtain ⟨q1, q2⟩ := fr_mul b3 b4 a1 a2
  rw [Int.mul_comm bn ad] at q1 q2
  go_enter Tryd.func61, Tryd.ntmps61
  go_wp2_with fail
  refine (Valid_any _ _ (by omega) (by omega) _).mono ?_
  rintro e w1 ⟨rfl, hb1⟩
  rw [HA.out]
  obtain ⟨hc1, hf1⟩ := bcell hb1
  have hz1 : w.heap.size + 2 < w1.heap.size := by have := hb1.size; simp at this; omega
  go_wp2_with fail
  refine (Valid_any _ _ (by omega) (by omega) _).mono ?_
  rintro e w2 ⟨rfl, hb2⟩
  rw [HB.out]
  have hb := hb1.trans (hb2.mono hb1.size)
  clear hb1 hb2 hc1 hf1 hz1
  obtain ⟨hc, hf⟩ := bcell hb
  have hz : w.heap.size + 2 < w2.heap.size := by have := hb.size; simp at this; omega
  go_wp2_with fail
  refine (Make_any _ _ (by omega) (by omega) (by omega) (by omega) HNZ.out _).mono ?_
  rintro e w3 ⟨V, D, E, hF, rfl, hb3⟩
  unfold fracV
  have HF := Lib.hid hF; clear hF
  replace hb := hb.trans (hb3.mono hb.size)
  clear hb3 hc hf hz
  obtain ⟨hc, hf⟩ := bcell hb
  have hz : w.heap.size + 2 < w3.heap.size := by have := hb.size; simp at this; omega
  go_wp2_with fail
  refine bodyPost_ret (v := fracV V D E) (by simp [results, Tryd.results61, go_sem, fracV, hc, hz]) rfl ⟨V, D, E, HF.out, rfl, ?_⟩
  exact by repeat' (first | exact Below.refl _ _ | refine below_drewN ?_ _ | refine Below.drew ?_ | refine Below.setCell ?_ ?_ _ | refine Below.alloc ?_ ?_ _ | (with_reducible refine Below.trans ?_ (Below.mono hb ?_)) | (simp; done) | (simp; omega) | omega)

theorem Div_zero (an ad bd : Int) (ha : vldB an ad = true) (hb : vldB 0 bd = true) (w : World) :
    Calls Tryd.prog 61 #[.agg #[.int .i64 an, .int .i64 ad], .agg #[.int .i64 0, .int .i64 bd]] w fun e w' => e = .returned (fracV 0 0 5) ∧ Below w.heap.size w w' := by
  obtain ⟨a1, a2, a3, a4, a5⟩ := vldB_true.1 ha
  obtain ⟨b1, b2, b3, b4, b5⟩ := vldB_true.1 hb
  have HA := Lib.hid ha; clear ha a5
  have HB := Lib.hid hb; clear hb b5
  obtain ⟨p1, p2⟩ := fr_mul a3 a4 b1 b2
  go_enter Tryd.func61, Tryd.ntmps61
  go_wp2_with fail
  refine (Valid_any _ _ (by omega) (by omega) _).mono ?_
  rintro e w1 ⟨rfl, hb1⟩
  rw [HA.out]
  obtain ⟨hc1, hf1⟩ := bcell hb1
  have hz1 : w.heap.size + 2 < w1.heap.size := by have := hb1.size; simp at this; omega
  go_wp2_with fail
  refine (Valid_any _ _ (by omega) (by omega) _).mono ?_
  rintro e w2 ⟨rfl, hb2⟩
  rw [HB.out]
  have hb := hb1.trans (hb2.mono hb1.size)
  clear hb1 hb2 hc1 hf1 hz1
  obtain ⟨hc, hf⟩ := bcell hb
  have hz : w.heap.size + 2 < w2.heap.size := by have := hb.size; simp at this; omega
  go_wp2_with fail
  refine (Make_zero _ _).mono ?_
  rintro e w3 ⟨V, D, E, ⟨rfl, rfl, rfl⟩, rfl, hb3⟩
  unfold fracV
  replace hb := hb.trans (hb3.mono hb.size)
  clear hb3 hc hf hz
  obtain ⟨hc, hf⟩ := bcell hb
  have hz : w.heap.size + 2 < w3.heap.size := by have := hb.size; simp at this; omega
  go_wp2_with fail
  refine bodyPost_ret (v := fracV 0 0 5) (by simp [results, Tryd.results61, go_sem, fracV, hc, hz]) rfl ⟨rfl, ?_⟩
  exact by repeat' (first | exact Below.refl _ _ | refine below_drewN ?_ _ | refine Below.drew ?_ | refine Below.setCell ?_ ?_ _ | refine Below.alloc ?_ ?_ _ | (with_reducible refine Below.trans ?_ (Below.mono hb ?_)) | (simp; done) | (simp; omega) | omega)
end Go.Proofs.YtbnbbekfackaiaaDoor
