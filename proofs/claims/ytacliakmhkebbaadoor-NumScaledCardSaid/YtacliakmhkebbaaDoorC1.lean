/- The small functions of near.go: floor, along, apart, nearer. -/
import Derived.Test.YtacliakmhkebbaaDoorB7
namespace Go.Proofs.YtacliakmhkebbaaDoor
open Go.RowKit
set_option linter.unusedVariables false
set_option linter.unusedSimpArgs false

theorem floor_any (n d : Int) (h1 : -4611686018427387904 ≤ n) (h2 : n ≤ 4611686018427387904) (hd : 1 ≤ d) (hd' : d ≤ 4611686018427387904) (w : World) :
    Calls Tryd.prog 55 #[.int .i64 n, .int .i64 d] w fun e w' => e = .returned (.int .i64 (n / d)) ∧ w = w' := by
  by_cases h : 0 ≤ n
  · have q0 : 0 ≤ n % d := Int.emod_nonneg _ (by omega)
    go_enter Tryd.func55, Tryd.ntmps55
    go_wp2
    go_ret
    exact ⟨rfl, rfl⟩
  · have hz : (d == 0) = false := by simp; omega
    have e2 : n / d < 0 := Int.ediv_neg_of_neg_of_pos (a := n) (b := d) (by omega) (by omega)
    have e3 : n ≤ n / d := by
      rw [Int.le_ediv_iff_mul_le (by omega)]
      have : n * d ≤ n * 1 := Int.mul_le_mul_of_nonpos_left (by omega) hd
      omega
    have m0 : 0 ≤ n % d := Int.emod_nonneg _ (by omega)
    have m1 : n % d < d := Int.emod_lt_of_pos _ (by omega)
    by_cases hdv : d ∣ n
    · have t0 : n.tdiv d = n / d := by rw [Int.tdiv_eq_ediv, if_pos (Or.inr hdv)]; simp
      have t1 : n.tmod d = 0 := Int.tmod_eq_zero_of_dvd hdv
      have T0 := Lib.hid t0
      have b1 : -9223372036854775808 ≤ n.tdiv d := by omega
      have b2 : n.tdiv d ≤ 9223372036854775807 := by omega
      have b3 : 0 ≤ n.tmod d := by omega
      clear t0 t1
      go_enter Tryd.func55, Tryd.ntmps55
      go_wp2
      go_ret
      exact ⟨ret_i T0.out, rfl⟩
    · have t0 : n.tdiv d = n / d + 1 := by rw [Int.tdiv_eq_ediv, if_neg (by rintro (a | a); omega; exact hdv a), Int.sign_eq_one_of_pos (by omega)]
      have t1 : n.tmod d = n % d - d := by rw [Int.tmod_eq_emod, if_neg (by rintro (a | a); omega; exact hdv a)]; omega
      have T0 := Lib.hid t0
      have b1 : -9223372036854775807 ≤ n.tdiv d := by omega
      have b2 : n.tdiv d ≤ 9223372036854775807 := by omega
      have b3 : n.tmod d < 0 := by omega
      clear t0 t1 hdv
      go_enter Tryd.func55, Tryd.ntmps55
      go_wp2
      go_ret
      exact ⟨ret_i (by have := T0.out; omega), rfl⟩

theorem along_any (bn bd ln ld s : Int) (h1 : -4611686018427387904 ≤ s * ln) (h2 : s * ln ≤ 4611686018427387903) (h3 : -4611686018427387904 ≤ bn) (h4 : bn ≤ 4611686018427387904)
    (k1 : -4611686018427387904 ≤ s * ld) (k2 : s * ld ≤ 4611686018427387903) (k3 : -4611686018427387904 ≤ bd) (k4 : bd ≤ 4611686018427387904) (w : World) :
    Calls Tryd.prog 60 #[.agg #[.int .i64 bn, .int .i64 bd], .agg #[.int .i64 ln, .int .i64 ld], .int .i64 s] w fun e w' => e = .returned (.agg #[.int .i64 (s * ln + bn), .int .i64 (s * ld + bd)]) ∧ Below w.heap.size w w' := by
  go_enter Tryd.func60, Tryd.ntmps60
  go_wp2
  refine bodyPost_ret (v := .agg #[.int .i64 (s * ln + bn), .int .i64 (s * ld + bd)]) (by simp [results, Tryd.results60, go_sem]) rfl ⟨rfl, ?_⟩
  repeat' (first | exact Below.refl _ _ | refine below_drewN ?_ _ | refine Below.setCell ?_ ?_ _ | refine Below.alloc ?_ ?_ _ | (simp; done) | (simp; omega) | omega)

theorem apart_any (n d fn fd : Int) (h1 : -4611686018427387904 ≤ n * fd) (h2 : n * fd ≤ 4611686018427387903) (k1 : -4611686018427387904 ≤ fn * d) (k2 : fn * d ≤ 4611686018427387903) (w : World) :
    Calls Tryd.prog 92 #[.int .i64 n, .int .i64 d, .agg #[.int .i64 fn, .int .i64 fd]] w fun e w' => e = .returned (.int .i64 ((n * fd - fn * d).natAbs : Int)) ∧ Below w.heap.size w w' := by
  by_cases h : n * fd - fn * d < 0
  · go_enter Tryd.func92, Tryd.ntmps92
    go_wp2
    go_ret
    exact ⟨ret_i (by omega), (Below.refl _ _).alloc (Nat.le_refl _) _⟩
  · go_enter Tryd.func92, Tryd.ntmps92
    go_wp2
    go_ret
    exact ⟨ret_i (by omega), (Below.refl _ _).alloc (Nat.le_refl _) _⟩
theorem nearer_any (n d ln ld on od : Int) (h1 : -4611686018427387904 ≤ n * ld) (h2 : n * ld ≤ 4611686018427387903) (k1 : -4611686018427387904 ≤ ln * d) (k2 : ln * d ≤ 4611686018427387903)
    (h3 : -4611686018427387904 ≤ n * od) (h4 : n * od ≤ 4611686018427387903) (k3 : -4611686018427387904 ≤ on * d) (k4 : on * d ≤ 4611686018427387903)
    (m1 : -9223372036854775808 ≤ ((n * od - on * d).natAbs : Int) * ld) (m2 : ((n * od - on * d).natAbs : Int) * ld ≤ 9223372036854775807)
    (m3 : -9223372036854775808 ≤ ((n * ld - ln * d).natAbs : Int) * od) (m4 : ((n * ld - ln * d).natAbs : Int) * od ≤ 9223372036854775807) (w : World) :
    Calls Tryd.prog 72 #[.int .i64 n, .int .i64 d, .agg #[.int .i64 ln, .int .i64 ld], .agg #[.int .i64 on, .int .i64 od]] w fun e w' =>
      e = .returned (if ((n * od - on * d).natAbs : Int) * ld < ((n * ld - ln * d).natAbs : Int) * od then .agg #[.int .i64 on, .int .i64 od] else .agg #[.int .i64 ln, .int .i64 ld]) ∧ Below w.heap.size w w' := by
  have e1 : IntKind.i64.wrap (((n * od - on * d).natAbs : Int) * ld) = ((n * od - on * d).natAbs : Int) * ld := IntWalk.i64_in _ ⟨m1, m2⟩
  have e2 : IntKind.i64.wrap (((n * ld - ln * d).natAbs : Int) * od) = ((n * ld - ln * d).natAbs : Int) * od := IntWalk.i64_in _ ⟨m3, m4⟩
  clear m1 m2 m3 m4
  have fin : ∀ (c : Bool), c = decide (((n * od - on * d).natAbs : Int) * ld < ((n * ld - ln * d).natAbs : Int) * od) → (if ((n * od - on * d).natAbs : Int) * ld < ((n * ld - ln * d).natAbs : Int) * od then (Value.agg #[.int .i64 on, .int .i64 od]) else .agg #[.int .i64 ln, .int .i64 ld]) = bif c then .agg #[.int .i64 on, .int .i64 od] else .agg #[.int .i64 ln, .int .i64 ld] := by
    rintro c rfl
    by_cases h : ((n * od - on * d).natAbs : Int) * ld < ((n * ld - ln * d).natAbs : Int) * od <;> simp [h]
  by_cases hlt : ((n * od - on * d).natAbs : Int) * ld < ((n * ld - ln * d).natAbs : Int) * od
  all_goals
    first | rw [if_pos hlt] | rw [if_neg hlt]
    clear fin
    go_enter Tryd.func72, Tryd.ntmps72
    go_wp2_with fail
    have hb : Below w.heap.size w (((w.alloc (Obj.cells #[Value.int IntKind.i64 ln, Value.int IntKind.i64 ld] 44)).alloc (Obj.cells #[Value.int IntKind.i64 on, Value.int IntKind.i64 od] 44)).alloc (Obj.cells #[Value.int IntKind.i64 0, Value.int IntKind.i64 0] 44)) := by repeat' (first | exact Below.refl _ _ | (with_reducible assumption) | refine below_drewN ?_ _ | refine Below.drew ?_ | refine Below.setCell ?_ ?_ _ | refine Below.alloc ?_ ?_ _ | (simp; done) | (simp; omega) | omega)
    have t1 : (((w.alloc (Obj.cells #[Value.int IntKind.i64 ln, Value.int IntKind.i64 ld] 44)).alloc (Obj.cells #[Value.int IntKind.i64 on, Value.int IntKind.i64 od] 44)).alloc (Obj.cells #[Value.int IntKind.i64 0, Value.int IntKind.i64 0] 44)).cell? ⟨w.heap.size, 0, none⟩ = some (.int .i64 ln) := by simp [go_sem]
    have t2 : (((w.alloc (Obj.cells #[Value.int IntKind.i64 ln, Value.int IntKind.i64 ld] 44)).alloc (Obj.cells #[Value.int IntKind.i64 on, Value.int IntKind.i64 od] 44)).alloc (Obj.cells #[Value.int IntKind.i64 0, Value.int IntKind.i64 0] 44)).cell? ⟨w.heap.size, 1, none⟩ = some (.int .i64 ld) := by simp [go_sem]
    have t3 : (((w.alloc (Obj.cells #[Value.int IntKind.i64 ln, Value.int IntKind.i64 ld] 44)).alloc (Obj.cells #[Value.int IntKind.i64 on, Value.int IntKind.i64 od] 44)).alloc (Obj.cells #[Value.int IntKind.i64 0, Value.int IntKind.i64 0] 44)).cell? ⟨w.heap.size + 1, 0, none⟩ = some (.int .i64 on) := by simp [go_sem]
    have t4 : (((w.alloc (Obj.cells #[Value.int IntKind.i64 ln, Value.int IntKind.i64 ld] 44)).alloc (Obj.cells #[Value.int IntKind.i64 on, Value.int IntKind.i64 od] 44)).alloc (Obj.cells #[Value.int IntKind.i64 0, Value.int IntKind.i64 0] 44)).cell? ⟨w.heap.size + 1, 1, none⟩ = some (.int .i64 od) := by simp [go_sem]
    have t5 : (((w.alloc (Obj.cells #[Value.int IntKind.i64 ln, Value.int IntKind.i64 ld] 44)).alloc (Obj.cells #[Value.int IntKind.i64 on, Value.int IntKind.i64 od] 44)).alloc (Obj.cells #[Value.int IntKind.i64 0, Value.int IntKind.i64 0] 44)).cell? ⟨w.heap.size + 1 + 1, 0, none⟩ = some (.int .i64 0) := by simp [go_sem]
    have t6 : (((w.alloc (Obj.cells #[Value.int IntKind.i64 ln, Value.int IntKind.i64 ld] 44)).alloc (Obj.cells #[Value.int IntKind.i64 on, Value.int IntKind.i64 od] 44)).alloc (Obj.cells #[Value.int IntKind.i64 0, Value.int IntKind.i64 0] 44)).cell? ⟨w.heap.size + 1 + 1, 1, none⟩ = some (.int .i64 0) := by simp [go_sem]
    have u5 : (((w.alloc (Obj.cells #[Value.int IntKind.i64 ln, Value.int IntKind.i64 ld] 44)).alloc (Obj.cells #[Value.int IntKind.i64 on, Value.int IntKind.i64 od] 44)).alloc (Obj.cells #[Value.int IntKind.i64 0, Value.int IntKind.i64 0] 44)).frozen? ⟨w.heap.size + 1 + 1, 0, none⟩ = false := by simp [go_sem]
    have u6 : (((w.alloc (Obj.cells #[Value.int IntKind.i64 ln, Value.int IntKind.i64 ld] 44)).alloc (Obj.cells #[Value.int IntKind.i64 on, Value.int IntKind.i64 od] 44)).alloc (Obj.cells #[Value.int IntKind.i64 0, Value.int IntKind.i64 0] 44)).frozen? ⟨w.heap.size + 1 + 1, 1, none⟩ = false := by simp [go_sem]
    have hz : w.heap.size + 1 + 1 < (((w.alloc (Obj.cells #[Value.int IntKind.i64 ln, Value.int IntKind.i64 ld] 44)).alloc (Obj.cells #[Value.int IntKind.i64 on, Value.int IntKind.i64 od] 44)).alloc (Obj.cells #[Value.int IntKind.i64 0, Value.int IntKind.i64 0] 44)).heap.size := by simp
    generalize (((w.alloc (Obj.cells #[Value.int IntKind.i64 ln, Value.int IntKind.i64 ld] 44)).alloc (Obj.cells #[Value.int IntKind.i64 on, Value.int IntKind.i64 od] 44)).alloc (Obj.cells #[Value.int IntKind.i64 0, Value.int IntKind.i64 0] 44)) = v at *
    go_region_held3 (fun w' => w'.cell? ⟨w.heap.size, 0, none⟩ = some (.int .i64 ln) ∧ w'.cell? ⟨w.heap.size, 1, none⟩ = some (.int .i64 ld) ∧ w'.cell? ⟨w.heap.size + 1, 0, none⟩ = some (.int .i64 on) ∧ w'.cell? ⟨w.heap.size + 1, 1, none⟩ = some (.int .i64 od))
      (first | exact ⟨t1, t2, t3, t4⟩)
      (first | (go_at_call 92; refine (apart_any _ _ _ _ (by omega) (by omega) (by omega) (by omega) _).mono ?_; rintro e w' ⟨rfl, hq⟩; replace t1 := (hq.cell (p := ⟨w.heap.size, 0, none⟩) (show w.heap.size < _ from Nat.lt_of_succ_lt (Nat.lt_of_succ_lt hz))).trans t1; replace t2 := (hq.cell (p := ⟨w.heap.size, 1, none⟩) (show w.heap.size < _ from Nat.lt_of_succ_lt (Nat.lt_of_succ_lt hz))).trans t2; replace t3 := (hq.cell (p := ⟨w.heap.size + 1, 0, none⟩) (show w.heap.size + 1 < _ from Nat.lt_of_succ_lt hz)).trans t3; replace t4 := (hq.cell (p := ⟨w.heap.size + 1, 1, none⟩) (show w.heap.size + 1 < _ from Nat.lt_of_succ_lt hz)).trans t4; replace t5 := (hq.cell (p := ⟨w.heap.size + 1 + 1, 0, none⟩) hz).trans t5; replace t6 := (hq.cell (p := ⟨w.heap.size + 1 + 1, 1, none⟩) hz).trans t6; replace u5 := (hq.frozen (p := ⟨w.heap.size + 1 + 1, 0, none⟩) hz).trans u5; replace u6 := (hq.frozen (p := ⟨w.heap.size + 1 + 1, 1, none⟩) hz).trans u6; (first | replace hb := hb.trans (hq.mono hb.size) | replace hb := hb.drew.trans (hq.mono hb.drew.size)); replace hz := Nat.lt_of_lt_of_le hz hq.size))
    go_wp2_with fail
    first
      | exact bodyPost_ret (v := .agg #[.int .i64 on, .int .i64 od]) (by simp [results, Tryd.results72, go_sem, t5, t6, hz]) rfl ⟨rfl, by repeat' (first | exact Below.refl _ _ | (with_reducible assumption) | refine below_drewN ?_ _ | refine Below.drew ?_ | refine Below.setCell ?_ ?_ _ | refine Below.alloc ?_ ?_ _ | (simp; done) | (simp; omega) | omega)⟩
      | exact bodyPost_ret (v := .agg #[.int .i64 ln, .int .i64 ld]) (by simp [results, Tryd.results72, go_sem, t5, t6, hz]) rfl ⟨rfl, by repeat' (first | exact Below.refl _ _ | (with_reducible assumption) | refine below_drewN ?_ _ | refine Below.drew ?_ | refine Below.setCell ?_ ?_ _ | refine Below.alloc ?_ ?_ _ | (simp; done) | (simp; omega) | omega)⟩
end Go.Proofs.YtacliakmhkebbaaDoor
