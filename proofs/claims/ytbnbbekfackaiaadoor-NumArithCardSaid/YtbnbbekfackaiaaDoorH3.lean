/- The law NumArith: its walk. -/
import Derived.Test.YtbnbbekfackaiaaDoorR22a
import Derived.Test.YtbnbbekfackaiaaDoorR22b
import Derived.Test.YtbnbbekfackaiaaDoorR22c
import Derived.Test.YtbnbbekfackaiaaDoorR22d
import Derived.Test.YtbnbbekfackaiaaDoorR20
import Derived.Test.YtbnbbekfackaiaaDoorB5
import Derived.Test.YtbnbbekfackaiaaDoorG2
import Derived.Test.YtbnbbekfackaiaaDoorE1
namespace Go.Proofs.YtbnbbekfackaiaaDoor
open Go.RowKit
set_option linter.unusedVariables false
set_option linter.unusedSimpArgs false

theorem cmpi_any (a b : Int) (w : World) :
    Calls Tryd.prog 64 #[.int .i64 a, .int .i64 b] w fun e w' => e = .returned (.int .i64 (cmpZ a b)) ∧ w = w' := by
  unfold cmpZ
  rcases (by omega : a < b ∨ b < a ∨ (a ≤ b ∧ b ≤ a)) with h | h | ⟨h, h'⟩
  · rw [if_pos h]
    go_enter Tryd.func64, Tryd.ntmps64
    go_wp2
    go_ret
    exact ⟨rfl, rfl⟩
  · rw [if_neg (by omega), if_pos h]
    go_enter Tryd.func64, Tryd.ntmps64
    go_wp2
    go_ret
    exact ⟨rfl, rfl⟩
  · rw [if_neg (by omega), if_neg (by omega)]
    go_enter Tryd.func64, Tryd.ntmps64
    go_wp2
    go_ret
    exact ⟨rfl, rfl⟩

theorem Cmp_ok (an ad bn bd : Int) (ha : vldB an ad = true) (hb : vldB bn bd = true) (w : World) :
    Calls Tryd.prog 22 #[.agg #[.int .i64 an, .int .i64 ad], .agg #[.int .i64 bn, .int .i64 bd]] w fun e w' => e = .returned (.tuple #[.int .i64 (cmpZ (an * bd) (bn * ad)), .int .i64 0]) ∧ Below w.heap.size w w' := by
  obtain ⟨a1, a2, a3, a4, a5⟩ := vldB_true.1 ha
  obtain ⟨b1, b2, b3, b4, b5⟩ := vldB_true.1 hb
  have HA := Lib.hid ha; clear ha a5
  have HB := Lib.hid hb; clear hb b5
  obtain ⟨p1, p2⟩ := fr_mul a3 a4 b1 b2
  obtain ⟨q1, q2⟩ := fr_mul b3 b4 a1 a2
  go_enter Tryd.func22, Tryd.ntmps22
  go_wp2_with fail
  refine (Valid_any _ _ (by omega) (by omega) _).mono ?_
  rintro e w1 ⟨rfl, hb1⟩
  have K1 := Lib.hid ((Fr2.new w an ad bn bd).below hb1)
  rw [HA.out]
  clear hb1
  obtain ⟨k1, k2, k3, k4, ksz, kb⟩ := K1.out
  go_wp2_with fail
  refine (Valid_any _ _ (by omega) (by omega) _).mono ?_
  rintro e w2 ⟨rfl, hb2⟩
  have K0 := Lib.hid (K1.out.below hb2)
  rw [HB.out]
  clear hb2 k1 k2 k3 k4 ksz kb K1 HA HB
  obtain ⟨k1, k2, k3, k4, ksz, kb⟩ := K0.out
  go_wp2_with fail
  refine (cmpi_any _ _ _).mono ?_
  rintro e w' ⟨rfl, rfl⟩
  go_wp2_with fail
  go_ret2
  exact ⟨rfl, kb⟩
theorem Cmp_bad (an ad bn bd : Int) (x1 : -9223372036854775808 ≤ an) (x2 : an ≤ 9223372036854775807) (x3 : -9223372036854775808 ≤ bn) (x4 : bn ≤ 9223372036854775807) (h : vldB an ad = false ∨ vldB bn bd = false) (w : World) :
    Calls Tryd.prog 22 #[.agg #[.int .i64 an, .int .i64 ad], .agg #[.int .i64 bn, .int .i64 bd]] w fun e w' => e = .returned (.tuple #[.int .i64 0, .int .i64 2]) ∧ Below w.heap.size w w' := by
  by_cases ha : vldB an ad = true
  · have hb : vldB bn bd = false := by rcases h with h | h; (rw [ha] at h; cases h); exact h
    have HA := Lib.hid ha; clear ha
    have HB := Lib.hid hb; clear hb h
    go_enter Tryd.func22, Tryd.ntmps22
    go_wp2_with fail
    refine (Valid_any _ _ (by omega) (by omega) _).mono ?_
    rintro e w1 ⟨rfl, hb1⟩
    have K1 := Lib.hid ((Fr2.new w an ad bn bd).below hb1)
    rw [HA.out]
    clear hb1
    obtain ⟨k1, k2, k3, k4, ksz, kb⟩ := K1.out
    go_wp2_with fail
    refine (Valid_any _ _ (by omega) (by omega) _).mono ?_
    rintro e w2 ⟨rfl, hb2⟩
    have K0 := Lib.hid (K1.out.below hb2)
    rw [HB.out]
    clear hb2 k1 k2 k3 k4 ksz kb K1 HA HB
    obtain ⟨k1, k2, k3, k4, ksz, kb⟩ := K0.out
    go_wp2_with fail
    go_ret2
    exact ⟨rfl, kb⟩
  · have ha' : vldB an ad = false := by simpa using ha
    have HA := Lib.hid ha'; clear ha ha' h
    go_enter Tryd.func22, Tryd.ntmps22
    go_wp2_with fail
    refine (Valid_any _ _ (by omega) (by omega) _).mono ?_
    rintro e w1 ⟨rfl, hb1⟩
    have K1 := Lib.hid ((Fr2.new w an ad bn bd).below hb1)
    rw [HA.out]
    clear hb1
    obtain ⟨k1, k2, k3, k4, ksz, kb⟩ := K1.out
    go_wp2_with fail
    go_ret2
    exact ⟨rfl, kb⟩

/-- Cmp for every two operands. -/
def CmpR (v : Bool) (x y C E : Int) : Prop := (v = true ∧ C = cmpZ x y ∧ E = 0) ∨ (v = false ∧ C = 0 ∧ E = 2)
theorem CmpR.unique {v : Bool} {x y C E C' E' : Int} (h : CmpR v x y C E) (h' : CmpR v x y C' E') : C' = C ∧ E' = E := by
  rcases h with ⟨a, b, c⟩ | ⟨a, b, c⟩ <;> rcases h' with ⟨a', b', c'⟩ | ⟨a', b', c'⟩
  · exact ⟨by omega, by omega⟩
  · rw [a] at a'; cases a'
  · rw [a] at a'; cases a'
  · exact ⟨by omega, by omega⟩
def ResC (R : Int → Int → Prop) (w : World) (e : Ending) (w' : World) : Prop := ∃ C E, R C E ∧ e = .returned (.tuple #[.int .i64 C, .int .i64 E]) ∧ Below w.heap.size w w'
theorem Cmp_all (an ad bn bd : Int) (x1 : -9223372036854775808 ≤ an) (x2 : an ≤ 9223372036854775807) (x3 : -9223372036854775808 ≤ bn) (x4 : bn ≤ 9223372036854775807) (w : World) :
    Calls Tryd.prog 22 #[.agg #[.int .i64 an, .int .i64 ad], .agg #[.int .i64 bn, .int .i64 bd]] w (ResC (CmpR (vldB an ad && vldB bn bd) (an * bd) (bn * ad)) w) := by
  cases h : (vldB an ad && vldB bn bd)
  · exact (Cmp_bad an ad bn bd x1 x2 x3 x4 (by cases h1 : vldB an ad <;> cases h2 : vldB bn bd <;> simp_all) w).mono fun _ _ ⟨a, b⟩ => ⟨0, 2, .inr ⟨rfl, rfl, rfl⟩, a, b⟩
  · rw [Bool.and_eq_true] at h
    exact (Cmp_ok an ad bn bd h.1 h.2 w).mono fun _ _ ⟨a, b⟩ => ⟨_, _, .inl ⟨rfl, rfl, rfl⟩, a, b⟩
theorem rCmp_all (an ad bn bd : Int) (x1 : -9223372036854775808 ≤ an) (x2 : an ≤ 9223372036854775807) (x3 : -9223372036854775808 ≤ bn) (x4 : bn ≤ 9223372036854775807) (w : World) :
    Calls Tryd.prog 23 #[.agg #[.int .i64 an, .int .i64 ad], .agg #[.int .i64 bn, .int .i64 bd]] w (ResC (CmpR (vldB an ad && vldB bn bd) (an * bd) (bn * ad)) w) := by
  cases h : (vldB an ad && vldB bn bd)
  · exact (rCmp_bad an ad bn bd x1 x2 x3 x4 (by cases h1 : vldB an ad <;> cases h2 : vldB bn bd <;> simp_all) w).mono fun _ _ ⟨a, b⟩ => ⟨0, 2, .inr ⟨rfl, rfl, rfl⟩, a, b⟩
  · rw [Bool.and_eq_true] at h
    exact (rCmp_ok an ad bn bd h.1 h.2 w).mono fun _ _ ⟨a, b⟩ => ⟨_, _, .inl ⟨rfl, rfl, rfl⟩, a, b⟩
end Go.Proofs.YtbnbbekfackaiaaDoor
namespace Go.Proofs.YtbnbbekfackaiaaDoor.numArith
open Go.RowKit
set_option linter.unusedVariables false
set_option linter.unusedSimpArgs false

/-- What operation k comes to. -/
def ArR (k an ad bn bd V D E : Int) : Prop :=
  (k = 0 ∧ OpR (vldB an ad && vldB bn bd) (an * bd + bn * ad) (ad * bd) V D E) ∨ (k = 1 ∧ OpR (vldB an ad && vldB bn bd) (an * bd + -bn * ad) (ad * bd) V D E) ∨
  (k = 2 ∧ OpR (vldB an ad && vldB bn bd) (an * bn) (ad * bd) V D E) ∨ (k = 3 ∧ DivR (vldB an ad && vldB bn bd) an ad bn bd V D E)
theorem DivR_unique {an ad bn bd V D E V' D' E' : Int} (h : DivR (vldB an ad && vldB bn bd) an ad bn bd V D E) (h' : DivR (vldB an ad && vldB bn bd) an ad bn bd V' D' E') : V = V' ∧ D = D' ∧ E = E' := by
  rcases h with ⟨a, b, c⟩ | ⟨a, b, c, d, e⟩ | ⟨a, c, d, e⟩ <;> rcases h' with ⟨a', b', c'⟩ | ⟨a', b', c', d', e'⟩ | ⟨a', c', d', e'⟩
  · rw [Bool.and_eq_true] at a
    have h1 := den_pos a.1
    exact frac_unique (Int.mul_ne_zero (by omega) b) c c'
  · exact absurd b' b
  · rw [a] at a'; cases a'
  · exact absurd b b'
  · exact ⟨by omega, by omega, by omega⟩
  · rw [a] at a'; cases a'
  · rw [a] at a'; cases a'
  · rw [a] at a'; cases a'
  · exact ⟨by omega, by omega, by omega⟩
theorem ArR.op {an ad bn bd n V D E V' D' E' : Int} (h : OpR (vldB an ad && vldB bn bd) n (ad * bd) V D E) (h' : OpR (vldB an ad && vldB bn bd) n (ad * bd) V' D' E') : V' = V ∧ D' = D ∧ E' = E := by
  obtain ⟨p, q, r⟩ := OpR_unique den_ne h h'; exact ⟨p.symm, q.symm, r.symm⟩
theorem ArR.dv {an ad bn bd V D E V' D' E' : Int} (h : DivR (vldB an ad && vldB bn bd) an ad bn bd V D E) (h' : DivR (vldB an ad && vldB bn bd) an ad bn bd V' D' E') : V' = V ∧ D' = D ∧ E' = E := by
  obtain ⟨p, q, r⟩ := DivR_unique h h'; exact ⟨p.symm, q.symm, r.symm⟩
theorem ArR.unique {k an ad bn bd V D E V' D' E' : Int} (h : ArR k an ad bn bd V D E) (h' : ArR k an ad bn bd V' D' E') : V' = V ∧ D' = D ∧ E' = E := by
  rcases h with ⟨a, h⟩ | ⟨a, h⟩ | ⟨a, h⟩ | ⟨a, h⟩ <;> rcases h' with ⟨a', h'⟩ | ⟨a', h'⟩ | ⟨a', h'⟩ | ⟨a', h'⟩
  all_goals first
    | (exfalso; omega)
    | exact ArR.op h h'
    | exact ArR.dv h h'
theorem DivR_bd {v : Bool} {an ad bn bd V D E : Int} (h : DivR v an ad bn bd V D E) : -1099511627776 ≤ V ∧ V ≤ 1099511627776 := by
  rcases h with ⟨_, _, ⟨_, hv, _⟩ | ⟨_, h1, _, _⟩⟩ | ⟨_, _, h1, _⟩ | ⟨_, h1, _⟩
  · obtain ⟨a1, a2, a3, a4, a5⟩ := vldB_true.1 hv; omega
  all_goals omega

theorem arith_0 (an ad bn bd : Int) (x1 : -9223372036854775808 ≤ an) (x2 : an ≤ 9223372036854775807) (x3 : -9223372036854775808 ≤ bn) (x4 : bn ≤ 9223372036854775807) (w : World) :
    Calls Tryd.prog 18 #[.int .i64 0, .agg #[.int .i64 an, .int .i64 ad], .agg #[.int .i64 bn, .int .i64 bd]] w (Res (OpR (vldB an ad && vldB bn bd) (an * bd + bn * ad) (ad * bd)) w) := by
  go_enter Tryd.func18, Tryd.ntmps18
  go_wp2_with fail
  refine (Add_all an ad bn bd x1 x2 x3 x4 _).mono ?_
  rintro e w1 ⟨V, D, E, R, rfl, hq⟩
  unfold fracV
  have K := (Fr3.new w an ad bn bd).below hq
  have HR := Lib.hid R
  clear hq R
  obtain ⟨k1, k2, k3, k4, k5, k6, k7, k8, ksz, kb⟩ := K
  go_wp2_with fail
  exact bodyPost_ret (v := fracV V D E) (by simp [results, Tryd.results18, go_sem, fracV, k5, k6, ksz]) rfl ⟨V, D, E, HR.out, rfl, (kb.setCell (by simp; omega) _).setCell (by simp; omega) _⟩
theorem arith_1 (an ad bn bd : Int) (x1 : -9223372036854775808 ≤ an) (x2 : an ≤ 9223372036854775807) (x3 : -9223372036854775808 ≤ bn) (x4 : bn ≤ 9223372036854775807) (w : World) :
    Calls Tryd.prog 18 #[.int .i64 1, .agg #[.int .i64 an, .int .i64 ad], .agg #[.int .i64 bn, .int .i64 bd]] w (Res (OpR (vldB an ad && vldB bn bd) (an * bd + -bn * ad) (ad * bd)) w) := by
  go_enter Tryd.func18, Tryd.ntmps18
  go_wp2_with fail
  refine (Sub_all an ad bn bd x1 x2 x3 x4 _).mono ?_
  rintro e w1 ⟨V, D, E, R, rfl, hq⟩
  unfold fracV
  have K := (Fr3.new w an ad bn bd).below hq
  have HR := Lib.hid R
  clear hq R
  obtain ⟨k1, k2, k3, k4, k5, k6, k7, k8, ksz, kb⟩ := K
  go_wp2_with fail
  exact bodyPost_ret (v := fracV V D E) (by simp [results, Tryd.results18, go_sem, fracV, k5, k6, ksz]) rfl ⟨V, D, E, HR.out, rfl, (kb.setCell (by simp; omega) _).setCell (by simp; omega) _⟩
theorem arith_2 (an ad bn bd : Int) (x1 : -9223372036854775808 ≤ an) (x2 : an ≤ 9223372036854775807) (x3 : -9223372036854775808 ≤ bn) (x4 : bn ≤ 9223372036854775807) (w : World) :
    Calls Tryd.prog 18 #[.int .i64 2, .agg #[.int .i64 an, .int .i64 ad], .agg #[.int .i64 bn, .int .i64 bd]] w (Res (OpR (vldB an ad && vldB bn bd) (an * bn) (ad * bd)) w) := by
  go_enter Tryd.func18, Tryd.ntmps18
  go_wp2_with fail
  refine (Mul_all an ad bn bd x1 x2 x3 x4 _).mono ?_
  rintro e w1 ⟨V, D, E, R, rfl, hq⟩
  unfold fracV
  have K := (Fr3.new w an ad bn bd).below hq
  have HR := Lib.hid R
  clear hq R
  obtain ⟨k1, k2, k3, k4, k5, k6, k7, k8, ksz, kb⟩ := K
  go_wp2_with fail
  exact bodyPost_ret (v := fracV V D E) (by simp [results, Tryd.results18, go_sem, fracV, k5, k6, ksz]) rfl ⟨V, D, E, HR.out, rfl, (kb.setCell (by simp; omega) _).setCell (by simp; omega) _⟩
theorem arith_3 (an ad bn bd : Int) (x1 : -9223372036854775808 ≤ an) (x2 : an ≤ 9223372036854775807) (x3 : -9223372036854775808 ≤ bn) (x4 : bn ≤ 9223372036854775807) (w : World) :
    Calls Tryd.prog 18 #[.int .i64 3, .agg #[.int .i64 an, .int .i64 ad], .agg #[.int .i64 bn, .int .i64 bd]] w (Res (DivR (vldB an ad && vldB bn bd) an ad bn bd) w) := by
  go_enter Tryd.func18, Tryd.ntmps18
  go_wp2_with fail
  refine (Div_all an ad bn bd x1 x2 x3 x4 _).mono ?_
  rintro e w1 ⟨V, D, E, R, rfl, hq⟩
  unfold fracV
  have K := (Fr3.new w an ad bn bd).below hq
  have HR := Lib.hid R
  clear hq R
  obtain ⟨k1, k2, k3, k4, k5, k6, k7, k8, ksz, kb⟩ := K
  go_wp2_with fail
  exact bodyPost_ret (v := fracV V D E) (by simp [results, Tryd.results18, go_sem, fracV, k5, k6, ksz]) rfl ⟨V, D, E, HR.out, rfl, (kb.setCell (by simp; omega) _).setCell (by simp; omega) _⟩
theorem arith_all (k an ad bn bd : Int) (k0 : 0 ≤ k) (k3 : k ≤ 3) (x1 : -9223372036854775808 ≤ an) (x2 : an ≤ 9223372036854775807) (x3 : -9223372036854775808 ≤ bn) (x4 : bn ≤ 9223372036854775807) (w : World) :
    Calls Tryd.prog 18 #[.int .i64 k, .agg #[.int .i64 an, .int .i64 ad], .agg #[.int .i64 bn, .int .i64 bd]] w (Res (ArR k an ad bn bd) w) := by
  rcases (by omega : k = 0 ∨ k = 1 ∨ k = 2 ∨ k = 3) with rfl | rfl | rfl | rfl
  · exact (arith_0 an ad bn bd x1 x2 x3 x4 w).mono fun _ _ ⟨V, D, E, r, a, b⟩ => ⟨V, D, E, .inl ⟨rfl, r⟩, a, b⟩
  · exact (arith_1 an ad bn bd x1 x2 x3 x4 w).mono fun _ _ ⟨V, D, E, r, a, b⟩ => ⟨V, D, E, .inr (.inl ⟨rfl, r⟩), a, b⟩
  · exact (arith_2 an ad bn bd x1 x2 x3 x4 w).mono fun _ _ ⟨V, D, E, r, a, b⟩ => ⟨V, D, E, .inr (.inr (.inl ⟨rfl, r⟩)), a, b⟩
  · exact (arith_3 an ad bn bd x1 x2 x3 x4 w).mono fun _ _ ⟨V, D, E, r, a, b⟩ => ⟨V, D, E, .inr (.inr (.inr ⟨rfl, r⟩)), a, b⟩
theorem rarith_all (k an ad bn bd : Int) (k0 : 0 ≤ k) (k3 : k ≤ 3) (x1 : -9223372036854775808 ≤ an) (x2 : an ≤ 9223372036854775807) (x3 : -9223372036854775808 ≤ bn) (x4 : bn ≤ 9223372036854775807) (w : World) :
    Calls Tryd.prog 19 #[.int .i64 k, .agg #[.int .i64 an, .int .i64 ad], .agg #[.int .i64 bn, .int .i64 bd]] w (Res (ArR k an ad bn bd) w) := by
  cases h : (vldB an ad && vldB bn bd)
  · refine (rArith_bad k an ad bn bd x1 x2 x3 x4 (by cases h1 : vldB an ad <;> cases h2 : vldB bn bd <;> simp_all) w).mono fun _ _ ⟨a, b⟩ => ⟨0, 0, 2, ?_, a, b⟩
    have o : ∀ n d, OpR (vldB an ad && vldB bn bd) n d 0 0 2 := fun n d => .inr ⟨h, rfl, rfl, rfl⟩
    rcases (by omega : k = 0 ∨ k = 1 ∨ k = 2 ∨ k = 3) with rfl | rfl | rfl | rfl
    · exact .inl ⟨rfl, o _ _⟩
    · exact .inr (.inl ⟨rfl, o _ _⟩)
    · exact .inr (.inr (.inl ⟨rfl, o _ _⟩))
    · exact .inr (.inr (.inr ⟨rfl, .inr (.inr ⟨h, rfl, rfl, rfl⟩)⟩))
  · have hh := h
    rw [Bool.and_eq_true] at h
    rcases (by omega : k = 0 ∨ k = 1 ∨ k = 2 ∨ k = 3) with rfl | rfl | rfl | rfl
    · exact (rArith_0 an ad bn bd h.1 h.2 w).mono fun _ _ ⟨V, D, E, r, a, b⟩ => ⟨V, D, E, .inl ⟨rfl, .inl ⟨hh, r⟩⟩, a, b⟩
    · exact (rArith_1 an ad bn bd h.1 h.2 w).mono fun _ _ ⟨V, D, E, r, a, b⟩ => ⟨V, D, E, .inr (.inl ⟨rfl, .inl ⟨hh, by rwa [show an * bd - bn * ad = an * bd + -bn * ad from by rw [Int.neg_mul]; omega] at r⟩⟩), a, b⟩
    · exact (rArith_2 an ad bn bd h.1 h.2 w).mono fun _ _ ⟨V, D, E, r, a, b⟩ => ⟨V, D, E, .inr (.inr (.inl ⟨rfl, .inl ⟨hh, r⟩⟩)), a, b⟩
    · by_cases h0 : bn = 0
      · exact (rArith_30 an ad bn bd h.1 h.2 h0 w).mono fun _ _ ⟨a, b⟩ => ⟨0, 0, 5, .inr (.inr (.inr ⟨rfl, .inr (.inl ⟨hh, h0, rfl, rfl, rfl⟩)⟩)), a, b⟩
      · exact (rArith_3 an ad bn bd h.1 h.2 h0 w).mono fun _ _ ⟨V, D, E, r, a, b⟩ => ⟨V, D, E, .inr (.inr (.inr ⟨rfl, .inl ⟨hh, h0, r⟩⟩)), a, b⟩
theorem neg_all (n d : Int) (n1 : -9223372036854775808 ≤ n) (n2 : n ≤ 9223372036854775807) (w : World) :
    Calls Tryd.prog 20 #[.agg #[.int .i64 n, .int .i64 d]] w fun e w' => e = .returned (fracV (bif vldB n d then -n else 0) (bif vldB n d then d else 0) (bif vldB n d then 0 else 2)) ∧ Below w.heap.size w w' := by
  cases h : vldB n d
  · exact Neg_bad n d n1 n2 h w
  · exact Neg_ok n d h w
theorem opp_all (n d : Int) (n1 : -9223372036854775808 ≤ n) (n2 : n ≤ 9223372036854775807) (w : World) :
    Calls Tryd.prog 21 #[.agg #[.int .i64 n, .int .i64 d]] w fun e w' => e = .returned (fracV (bif vldB n d then -n else 0) (bif vldB n d then d else 0) (bif vldB n d then 0 else 2)) ∧ Below w.heap.size w w' := by
  cases h : vldB n d
  · exact Opp_bad n d n1 n2 h w
  · exact Opp_ok n d h w

set_option maxRecDepth 100000 in
set_option maxHeartbeats 4000000 in
theorem walk (an ad bn bd : Int) (x1 : -9223372036854775808 ≤ an) (x2 : an ≤ 9223372036854775807) (x3 : -9223372036854775808 ≤ bn) (x4 : bn ≤ 9223372036854775807) (w : World) :
    Calls Tryd.prog 4 #[.agg #[.int .i64 an, .int .i64 ad], .agg #[.int .i64 bn, .int .i64 bd]] w fun e w' => e = .returned (.bool true) ∧ Below w.heap.size w w' := by
  have K0 := Lib.hid (Fr2.new w an ad bn bd)
  go_enter Tryd.func4, Tryd.ntmps4
  go_wp2_with fail
  generalize ((w.alloc (Obj.cells #[Value.int .i64 an, Value.int .i64 ad] 23)).alloc (Obj.cells #[Value.int .i64 bn, Value.int .i64 bd] 23)) = v at *
  go_loopw [5] (fun kv wr => ∃ k : Int, 0 ≤ k ∧ k ≤ 4 ∧ kv = .int .i64 k ∧ Hid (Fr2 w wr an ad bn bd)) (fun kv _ => (4 - intOf kv).toNat)
  case atStart => exact ⟨0, by omega, by omega, rfl, K0⟩
  case round =>
    obtain ⟨k, q0, q4, rfl, K⟩ := hrel
    by_cases hk : k ≤ 3
    · obtain ⟨k1, k2, k3, k4, ksz, kb⟩ := K.out
      go_wp2_with fail
      refine (arith_all k an ad bn bd q0 hk x1 x2 x3 x4 _).mono ?_
      rintro e w1 ⟨V, D, E, R, rfl, hq⟩
      unfold fracV
      have HR := Lib.hid R
      have K1 := Lib.hid (K.out.below hq)
      clear hq R k1 k2 k3 k4 ksz kb
      obtain ⟨k1, k2, k3, k4, ksz, kb⟩ := K1.out
      have kz : w.heap.size < w1.heap.size := by omega
      go_wp2_with fail
      refine (rarith_all k an ad bn bd q0 hk x1 x2 x3 x4 _).mono ?_
      rintro e w2 ⟨V', D', E', R, rfl, hq⟩
      obtain ⟨rfl, rfl, rfl⟩ := HR.out.unique R
      unfold fracV
      have c0 : w2.cell? ⟨w1.heap.size, 0, none⟩ = some (.int .i64 V') := (hq.cell (p := ⟨w1.heap.size, 0, none⟩) (by simp)).trans (by simp [go_sem])
      have c1 : w2.cell? ⟨w1.heap.size, 1, none⟩ = some (.int .i64 D') := (hq.cell (p := ⟨w1.heap.size, 1, none⟩) (by simp)).trans (by simp [go_sem])
      have hq' : Below w1.heap.size w1 w2 := ((Below.refl _ w1).alloc (Nat.le_refl _) _).trans (hq.mono (by simp))
      have K2 := Lib.hid (K1.out.below hq')
      have K3 := Lib.hid (K2.out.below ((Below.refl _ w2).alloc (Nat.le_refl _) (Obj.cells #[Value.int .i64 V', Value.int .i64 D'] 23)))
      have cz : w1.heap.size < w2.heap.size := World.block_lt_of_cell? w2 _ c0
      clear hq hq' R HR k1 k2 k3 k4 ksz kb
      generalize w1.heap.size = gx at *
      go_wp2_with fail
      go_roundw
      case rel => exact ⟨k + 1, by omega, by omega, rfl, K3⟩
      case measure => simp [intOf]; omega
    · have hk' : 3 < k := by omega
      obtain ⟨k1, k2, k3, k4, ksz, kb⟩ := K.out
      go_wp2_with fail
      refine (neg_all an ad x1 x2 _).mono ?_
      rintro e w1 ⟨rfl, hq⟩
      unfold fracV
      have K1 := Lib.hid (K.out.below hq)
      clear hq k1 k2 k3 k4 ksz kb
      obtain ⟨k1, k2, k3, k4, ksz, kb⟩ := K1.out
      have kz : w.heap.size < w1.heap.size := by omega
      obtain ⟨V, hV⟩ : ∃ V, V = (bif vldB an ad then -an else 0) := ⟨_, rfl⟩
      obtain ⟨D, hD⟩ : ∃ D, D = (bif vldB an ad then ad else 0) := ⟨_, rfl⟩
      obtain ⟨E, hE⟩ : ∃ E, E = (bif vldB an ad then (0 : Int) else 2) := ⟨_, rfl⟩
      rw [← hV, ← hD, ← hE]
      have HV := Lib.hid hV.symm
      have HD := Lib.hid hD.symm
      have HE := Lib.hid hE.symm
      clear hV hD hE
      go_wp2_with fail
      refine (opp_all an ad x1 x2 _).mono ?_
      rw [HV.out, HD.out, HE.out]
      rintro e w2 ⟨rfl, hq⟩
      unfold fracV
      have c0 : w2.cell? ⟨w1.heap.size, 0, none⟩ = some (.int .i64 V) := (hq.cell (p := ⟨w1.heap.size, 0, none⟩) (by simp)).trans (by simp [go_sem])
      have c1 : w2.cell? ⟨w1.heap.size, 1, none⟩ = some (.int .i64 D) := (hq.cell (p := ⟨w1.heap.size, 1, none⟩) (by simp)).trans (by simp [go_sem])
      have hq' : Below w1.heap.size w1 w2 := ((Below.refl _ w1).alloc (Nat.le_refl _) _).trans (hq.mono (by simp))
      have K2 := Lib.hid (K1.out.below hq')
      have cz : w1.heap.size < w2.heap.size := World.block_lt_of_cell? w2 _ c0
      clear hq hq' k1 k2 k3 k4 ksz kb kz HV HD HE
      generalize w1.heap.size = gx at *
      obtain ⟨k1, k2, k3, k4, ksz, kb⟩ := K2.out
      have kz : w.heap.size < w2.heap.size := by omega
      go_wp2_with fail
      refine (Cmp_all an ad bn bd x1 x2 x3 x4 _).mono ?_
      rintro e w3 ⟨C, E2, R, rfl, hq⟩
      have HR := Lib.hid R
      have d0 : w3.cell? ⟨w2.heap.size, 0, none⟩ = some (.int .i64 V) := (hq.cell (p := ⟨w2.heap.size, 0, none⟩) (by simp)).trans (by simp [go_sem])
      have d1 : w3.cell? ⟨w2.heap.size, 1, none⟩ = some (.int .i64 D) := (hq.cell (p := ⟨w2.heap.size, 1, none⟩) (by simp)).trans (by simp [go_sem])
      have hq' : Below w2.heap.size w2 w3 := ((Below.refl _ w2).alloc (Nat.le_refl _) _).trans (hq.mono (by simp))
      have K3 := Lib.hid (K2.out.below hq')
      replace c0 := (hq'.cell (p := ⟨gx, 0, none⟩) cz).trans c0
      replace c1 := (hq'.cell (p := ⟨gx, 1, none⟩) cz).trans c1
      replace cz := Nat.lt_of_lt_of_le cz hq'.size
      have dz : w2.heap.size < w3.heap.size := World.block_lt_of_cell? w3 _ d0
      clear hq hq' R k1 k2 k3 k4 ksz kb kz
      generalize w2.heap.size = gy at *
      obtain ⟨k1, k2, k3, k4, ksz, kb⟩ := K3.out
      have kz : w.heap.size < w3.heap.size := by omega
      go_wp2_with fail
      refine (rCmp_all an ad bn bd x1 x2 x3 x4 _).mono ?_
      rintro e w4 ⟨C', E2', R, rfl, hq⟩
      obtain ⟨rfl, rfl⟩ := HR.out.unique R
      have K4 := Lib.hid (K3.out.below hq)
      replace c0 := (hq.cell (p := ⟨gx, 0, none⟩) cz).trans c0
      replace c1 := (hq.cell (p := ⟨gx, 1, none⟩) cz).trans c1
      replace d0 := (hq.cell (p := ⟨gy, 0, none⟩) dz).trans d0
      replace d1 := (hq.cell (p := ⟨gy, 1, none⟩) dz).trans d1
      clear hq R HR k1 k2 k3 k4 ksz kb kz
      obtain ⟨k1, k2, k3, k4, ksz, kb⟩ := K4.out
      go_wp2_with fail
      refine (alive_any _).mono ?_
      rintro e w5 ⟨rfl, hq⟩
      have K5 := Lib.hid (K4.out.below hq)
      clear hq k1 k2 k3 k4 ksz kb c0 c1 d0 d1
      obtain ⟨k1, k2, k3, k4, ksz, kb⟩ := K5.out
      go_wp2_with fail
      go_ret
      exact ⟨rfl, kb⟩
end Go.Proofs.YtbnbbekfackaiaaDoor.numArith
