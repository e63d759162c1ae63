/- The reference's Make, Opposite. -/
import Derived.Test.YtbnbbekfackaiaaDoorR17
import Derived.Test.YtbnbbekfackaiaaDoorR1
namespace Go.Proofs.YtbnbbekfackaiaaDoor
open Go.RowKit
set_option linter.unusedVariables false
set_option linter.unusedSimpArgs false

theorem ext0 (a b : Value) (W : World) : (Instr.extract (.tuple #[a, b]) 0).run Tryd.prog W = .ok a W := rfl
theorem BigR.drew {n : Nat} {w : World} {p : Option Addr} {l : List Int} {x : Int} (r : BigR n w p l x) : BigR n w.drew p l x := ⟨r.can, r.size, r.row⟩
theorem BigR.drewN {n : Nat} {w : World} {p : Option Addr} {l : List Int} {x : Int} (r : BigR n w p l x) (k : Nat) : BigR n (w.drewN k) p l x := ⟨r.can, r.size, r.row⟩

theorem Lowest_any {N : Nat} (p q : Option Addr) (c d : Nat) (l m : List Int) (X Y : Int) (w : World) (A : BigR N w p l X) (B : BigR N w q m Y) (hY : Y ≠ 0) (hN : N ≤ 80000) :
    Calls Tryd.prog 53 #[.agg #[.bool (decide (X < 0)), .slice p l.length c], .agg #[.bool (decide (Y < 0)), .slice q m.length d]] w (Res (IsFrac X Y) w) := by
  rcases (by omega : 0 < Y ∨ Y < 0) with h | h
  · exact Lowest_pos p q c d l m X Y w A B h hN
  · exact Lowest_neg p q c d l m X Y w A B h hN

theorem rMake_zero (n : Int) (w : World) :
    Calls Tryd.prog 14 #[.int .i64 n, .int .i64 0] w (Res (fun V D E => V = 0 ∧ D = 0 ∧ E = 5) w) := by
  go_enter Tryd.func14, Tryd.ntmps14
  go_wp2_with fail
  exact bodyPost_ret (v := fracV 0 0 5) (by simp [results, Tryd.results14, go_sem, fracV]) rfl ⟨0, 0, 5, ⟨rfl, rfl, rfl⟩, rfl, by go_grown⟩

set_option maxHeartbeats 1000000 in
theorem rMake_any (n d : Int) (n1 : -9223372036854775808 ≤ n) (n2 : n ≤ 9223372036854775807) (d1 : -9223372036854775808 ≤ d) (d2 : d ≤ 9223372036854775807) (hd : d ≠ 0) (w : World) :
    Calls Tryd.prog 14 #[.int .i64 n, .int .i64 d] w (Res (IsFrac n d) w) := by
  have hd' : (d == 0) = false := by simpa using hd
  have HD := Lib.hid hd; clear hd
  have ON := Lib.hid (fun W => Of_any n n1 n2 W)
  have OD := Lib.hid (fun W => Of_any d d1 d2 W)
  have LO := Lib.hid (fun p q c e l m W (A : BigR 5 W p l n) (B : BigR 5 W q m d) => Lowest_any p q c e l m n d W A B HD.out (by omega))
  obtain ⟨sn, hsn⟩ : ∃ b, b = decide (n < 0) := ⟨_, rfl⟩
  obtain ⟨sd, hsd⟩ : ∃ b, b = decide (d < 0) := ⟨_, rfl⟩
  unfold BigRes at ON OD
  rw [← hsn] at ON LO
  rw [← hsd] at OD LO
  clear hsn hsd
  go_enter Tryd.func14, Tryd.ntmps14
  go_wp2_with fail
  refine (ON.out _).mono ?_
  rintro e w1 ⟨p1, l1, c1, rfl, r1, r2, r3⟩
  have R1 := Lib.hid r1
  have hb := ((Below.refl w.heap.size w).alloc (Nat.le_refl _) (Obj.cells #[Value.int .i64 0, Value.int .i64 0] 23)).trans (r3.mono (by simp))
  have z1 : w.heap.size < w1.heap.size := by have := r3.size; simp at this; omega
  have k1 := r3.cell (p := ⟨w.heap.size, 0, none⟩) (by simp)
  have k2 := r3.cell (p := ⟨w.heap.size, 1, none⟩) (by simp)
  have k3 := r3.frozen (p := ⟨w.heap.size, 0, none⟩) (by simp)
  have k4 := r3.frozen (p := ⟨w.heap.size, 1, none⟩) (by simp)
  simp [go_sem] at k1 k2 k3 k4
  clear r1 r2 r3
  go_wp2_with fail
  refine (OD.out _).mono ?_
  rintro e w2 ⟨p2, l2, c2, rfl, r1, r2, r3⟩
  have R1' := Lib.hid (R1.out.below r3)
  have R2 := Lib.hid r1
  replace hb := hb.trans (r3.mono hb.size)
  replace k1 := (r3.cell (p := ⟨w.heap.size, 0, none⟩) z1).trans k1
  replace k2 := (r3.cell (p := ⟨w.heap.size, 1, none⟩) z1).trans k2
  replace k3 := (r3.frozen (p := ⟨w.heap.size, 0, none⟩) z1).trans k3
  replace k4 := (r3.frozen (p := ⟨w.heap.size, 1, none⟩) z1).trans k4
  replace z1 := Nat.lt_of_lt_of_le z1 r3.size
  clear r1 r2 r3
  go_wp2_with fail
  refine (LO.out _ _ _ _ _ _ _ R1'.out R2.out).mono ?_
  rintro e w3 ⟨V, D, E, hF, rfl, r3⟩
  unfold fracV
  have HF := Lib.hid hF
  replace hb := hb.trans (r3.mono hb.size)
  replace k1 := (r3.cell (p := ⟨w.heap.size, 0, none⟩) z1).trans k1
  replace k2 := (r3.cell (p := ⟨w.heap.size, 1, none⟩) z1).trans k2
  replace k3 := (r3.frozen (p := ⟨w.heap.size, 0, none⟩) z1).trans k3
  replace k4 := (r3.frozen (p := ⟨w.heap.size, 1, none⟩) z1).trans k4
  replace z1 := Nat.lt_of_lt_of_le z1 r3.size
  clear r3 hF ON OD LO
  go_wp2_with fail
  refine bodyPost_ret (v := fracV V D E) (by simp [results, Tryd.results14, go_sem, fracV, k1, k2, z1]) rfl ⟨V, D, E, HF.out, rfl, ?_⟩
  exact (hb.setCell (Nat.le_refl _) _).setCell (Nat.le_refl _) _

theorem Opp_ok (n d : Int) (hv : vldB n d = true) (w : World) :
    Calls Tryd.prog 21 #[.agg #[.int .i64 n, .int .i64 d]] w fun e w' => e = .returned (.tuple #[.agg #[.int .i64 (-n), .int .i64 d], .int .i64 0]) ∧ Below w.heap.size w w' := by
  obtain ⟨b1, b2, b3, b4, b5⟩ := vldB_true.1 hv
  have HV := Lib.hid hv; clear hv
  clear b5
  go_enter Tryd.func21, Tryd.ntmps21
  go_wp2_with fail
  refine (rValid_any _ _ (by omega) (by omega) _).mono ?_
  rintro e w1 ⟨rfl, hb1⟩
  rw [HV.out]
  obtain ⟨hc, hf⟩ := bcell hb1
  have hz : w.heap.size + 1 < w1.heap.size := by have := hb1.size; simp at this; omega
  go_wp2_with fail
  refine bodyPost_ret (v := .tuple #[.agg #[.int .i64 (-n), .int .i64 d], .int .i64 0]) (by simp [results, Tryd.results21, go_sem, hc, hz]) rfl ⟨rfl, ?_⟩
  exact by repeat' (first | exact Below.refl _ _ | refine below_drewN ?_ _ | refine Below.setCell ?_ ?_ _ | refine Below.alloc ?_ ?_ _ | (with_reducible refine Below.trans ?_ (Below.mono hb1 ?_)) | (simp; done) | (simp; omega) | omega)
theorem Opp_bad (n d : Int) (hn1 : -9223372036854775808 ≤ n) (hn2 : n ≤ 9223372036854775807) (hv : vldB n d = false) (w : World) :
    Calls Tryd.prog 21 #[.agg #[.int .i64 n, .int .i64 d]] w fun e w' => e = .returned (.tuple #[.agg #[.int .i64 0, .int .i64 0], .int .i64 2]) ∧ Below w.heap.size w w' := by
  have HV := Lib.hid hv; clear hv
  go_enter Tryd.func21, Tryd.ntmps21
  go_wp2_with fail
  refine (rValid_any _ _ (by omega) (by omega) _).mono ?_
  rintro e w1 ⟨rfl, hb1⟩
  rw [HV.out]
  obtain ⟨hc, hf⟩ := bcell hb1
  have hz : w.heap.size + 1 < w1.heap.size := by have := hb1.size; simp at this; omega
  go_wp2_with fail
  refine bodyPost_ret (v := .tuple #[.agg #[.int .i64 0, .int .i64 0], .int .i64 2]) (by simp [results, Tryd.results21, go_sem, hc, hz]) rfl ⟨rfl, ?_⟩
  exact by repeat' (first | exact Below.refl _ _ | refine below_drewN ?_ _ | refine Below.setCell ?_ ?_ _ | refine Below.alloc ?_ ?_ _ | (with_reducible refine Below.trans ?_ (Below.mono hb1 ?_)) | (simp; done) | (simp; omega) | omega)
end Go.Proofs.YtbnbbekfackaiaaDoor
