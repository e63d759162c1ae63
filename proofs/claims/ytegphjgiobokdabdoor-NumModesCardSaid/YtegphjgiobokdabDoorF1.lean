/- The law NumModes: its walk. -/
import Derived.Test.YtegphjgiobokdabDoorE1
namespace Go.Proofs.YtegphjgiobokdabDoor.numModes
open Go.RowKit
set_option linter.unusedVariables false
set_option linter.unusedSimpArgs false

theorem Round_val (n d m V : Int) (hv : vldB n d = true) (hm : modB m = true) (h : rndV (decide (n < 0)) n.natAbs d m = V) (hE : rndE (decide (n < 0)) n.natAbs d m = 0) (w : World) :
    Calls Tryd.prog 32 #[.agg #[.int .i64 n, .int .i64 d], .int .i64 m] w fun e w' => e = .returned (.tuple #[.int .i64 V, .int .i64 0]) ∧ Below w.heap.size w w' := by
  have := Round_ok n d m hv hm w
  rw [h, hE] at this
  exact this

set_option maxRecDepth 100000 in
theorem walk_bad (n d : Int) (n1 : -9223372036854775808 ≤ n) (n2 : n ≤ 9223372036854775807) (hv : vldB n d = false) (w : World) :
    Calls Tryd.prog 8 #[.agg #[.int .i64 n, .int .i64 d]] w fun e w' => e = .returned (.bool true) ∧ Below w.heap.size w w' := by
  have HV := Lib.hid hv; clear hv
  go_enter Tryd.func8, Tryd.ntmps8
  go_wp2_with fail
  refine (Valid_any _ _ n1 n2 _).mono ?_
  rintro e w1 ⟨rfl, hb⟩
  rw [HV.out]
  obtain ⟨hc, hf⟩ := bcell hb
  go_wp2_with fail
  refine (Round_bad _ _ _ n1 n2 (Or.inl HV.out) _).mono ?_
  rintro e w2 ⟨rfl, hb2⟩
  replace hb := hb.trans (hb2.mono hb.size)
  clear hb2 hc hf
  go_wp2_with fail
  refine (alive_any _).mono ?_
  rintro e w3 ⟨rfl, hb3⟩
  replace hb := hb.trans (hb3.mono hb.size)
  clear hb3
  go_wp2_with fail
  go_ret
  exact ⟨rfl, by repeat' (first | exact Below.refl _ _ | (with_reducible assumption) | refine Below.alloc ?_ ?_ _ | (with_reducible refine Below.trans ?_ (Below.mono hb ?_)) | (simp; done) | (simp; omega) | omega)⟩

/-- What the values of the five modes are, case by case. -/
def MC (n d q0 q1 q2 q3 q4 qb : Int) : Prop :=
  (1 = d ∧ q0 = q1 ∧ -q0 = qb ∧ q0 = q2 ∧ q0 = q3 ∧ q0 = q4) ∨
  (2 ≤ d ∧ q0 + 1 = q1 ∧ -(q0 + 1) = qb ∧ ((0 ≤ n ∧ q0 = q2) ∨ (n < 0 ∧ q0 + 1 = q2)) ∧
    ((3 ≤ d ∧ ((q0 = q3 ∧ q0 = q4) ∨ (q0 + 1 = q3 ∧ q0 + 1 = q4))) ∨ (2 = d ∧ q0 + 1 = q3 ∧ ((q0 = q4 ∧ q0.tmod 2 = 0) ∨ (q0 + 1 = q4 ∧ (q0 + 1).tmod 2 = 0)))))

set_option maxRecDepth 100000 in
set_option maxHeartbeats 4000000 in
theorem walk_good (n d q0 q1 q2 q3 q4 qb : Int) (hv : vldB n d = true)
    (h0 : rndV (decide (n < 0)) n.natAbs d 0 = q0) (h1 : rndV (decide (n < 0)) n.natAbs d 1 = q1) (h2 : rndV (decide (n < 0)) n.natAbs d 2 = q2) (h3 : rndV (decide (n < 0)) n.natAbs d 3 = q3) (h4 : rndV (decide (n < 0)) n.natAbs d 4 = q4)
    (hb' : rndV (decide (-n < 0)) (-n).natAbs d 0 = qb) (hE : ∀ m, rndE (decide (n < 0)) n.natAbs d m = 0) (hE' : ∀ m, rndE (decide (-n < 0)) (-n).natAbs d m = 0) (HC : Hid (MC n d q0 q1 q2 q3 q4 qb)) (z1 : -1099511627777 ≤ q0) (z2 : q0 ≤ 1099511627777) (w : World) :
    Calls Tryd.prog 8 #[.agg #[.int .i64 n, .int .i64 d]] w fun e w' => e = .returned (.bool true) ∧ Below w.heap.size w w' := by
  obtain ⟨b1, b2, b3, b4, b5⟩ := vldB_true.1 hv
  have hv' : vldB (-n) d = true := vldB_true.2 ⟨b1, b2, by omega, by omega, by simpa using b5⟩
  have HV := Lib.hid hv; clear hv b5
  have HV' := Lib.hid hv'; clear hv'
  have H0 := Lib.hid h0; have H1 := Lib.hid h1; have H2 := Lib.hid h2; have H3 := Lib.hid h3; have H4 := Lib.hid h4; have HB := Lib.hid hb'; have HE := Lib.hid hE; have HE' := Lib.hid hE'
  clear h0 h1 h2 h3 h4 hb' hE hE'
  go_enter Tryd.func8, Tryd.ntmps8
  go_wp2_with fail
  refine (Valid_any _ _ (by omega) (by omega) _).mono ?_
  rintro e w1 ⟨rfl, hb⟩
  rw [HV.out]
  have f0 : w1.cell? ⟨w.heap.size, 0, none⟩ = some (.int .i64 n) := (hb.cell (p := ⟨w.heap.size, 0, none⟩) (by simp)).trans (by simp [go_sem])
  have f1 : w1.cell? ⟨w.heap.size, 1, none⟩ = some (.int .i64 d) := (hb.cell (p := ⟨w.heap.size, 1, none⟩) (by simp)).trans (by simp [go_sem])
  replace hb := ((Below.refl _ w).alloc (Nat.le_refl _) _).trans (hb.mono (by simp))
  have hz : w.heap.size < w1.heap.size := World.block_lt_of_cell? w1 _ f0
  go_wp2_with fail
  refine (Neg_ok _ _ HV.out _).mono ?_
  rintro e w2 ⟨rfl, hb2⟩
  replace f0 := (hb2.cell (p := ⟨w.heap.size, 0, none⟩) hz).trans f0
  replace f1 := (hb2.cell (p := ⟨w.heap.size, 1, none⟩) hz).trans f1
  replace hb := hb.trans (hb2.mono hb.size)
  replace hz : w.heap.size < w2.heap.size := Nat.lt_of_lt_of_le hz hb2.size
  clear hb2
  go_wp2_with fail
  refine (Round_val n d 0 q0 HV.out (by decide) H0.out (HE.out 0) _).mono ?_
  rintro e w3 ⟨rfl, hb3⟩
  have g0 : w3.cell? ⟨w2.heap.size, 0, none⟩ = some (.int .i64 (-n)) := (hb3.cell (p := ⟨w2.heap.size, 0, none⟩) (by simp)).trans (by simp [go_sem])
  have g1 : w3.cell? ⟨w2.heap.size, 1, none⟩ = some (.int .i64 d) := (hb3.cell (p := ⟨w2.heap.size, 1, none⟩) (by simp)).trans (by simp [go_sem])
  replace hb3 : Below w2.heap.size w2 w3 := ((Below.refl _ w2).alloc (Nat.le_refl _) _).trans (hb3.mono (by simp))
  replace f0 := (hb3.cell (p := ⟨w.heap.size, 0, none⟩) hz).trans f0
  replace f1 := (hb3.cell (p := ⟨w.heap.size, 1, none⟩) hz).trans f1
  replace hb := hb.trans (hb3.mono hb.size)
  replace hz : w.heap.size < w3.heap.size := Nat.lt_of_lt_of_le hz hb3.size
  have hy : w2.heap.size < w3.heap.size := World.block_lt_of_cell? w3 _ g0
  clear hb3
  generalize w2.heap.size = G at g0 g1 hy ⊢
  go_wp2_with fail
  refine (Round_val n d 1 q1 HV.out (by decide) H1.out (HE.out 1) _).mono ?_
  rintro e w4 ⟨rfl, hb4⟩
  replace g0 := (hb4.cell (p := ⟨G, 0, none⟩) hy).trans g0
  replace g1 := (hb4.cell (p := ⟨G, 1, none⟩) hy).trans g1
  replace f0 := (hb4.cell (p := ⟨w.heap.size, 0, none⟩) hz).trans f0
  replace f1 := (hb4.cell (p := ⟨w.heap.size, 1, none⟩) hz).trans f1
  replace hb := hb.trans (hb4.mono hb.size)
  replace hz : w.heap.size < w4.heap.size := Nat.lt_of_lt_of_le hz hb4.size
  replace hy : G < w4.heap.size := Nat.lt_of_lt_of_le hy hb4.size
  clear hb4
  go_wp2_with fail
  refine (Round_val (-n) d 0 qb HV'.out (by decide) HB.out (HE'.out 0) _).mono ?_
  rintro e w5 ⟨rfl, hb5⟩
  replace g0 := (hb5.cell (p := ⟨G, 0, none⟩) hy).trans g0
  replace g1 := (hb5.cell (p := ⟨G, 1, none⟩) hy).trans g1
  replace f0 := (hb5.cell (p := ⟨w.heap.size, 0, none⟩) hz).trans f0
  replace f1 := (hb5.cell (p := ⟨w.heap.size, 1, none⟩) hz).trans f1
  replace hb := hb.trans (hb5.mono hb.size)
  replace hz : w.heap.size < w5.heap.size := Nat.lt_of_lt_of_le hz hb5.size
  replace hy : G < w5.heap.size := Nat.lt_of_lt_of_le hy hb5.size
  clear hb5
  go_wp2_with fail
  refine (Round_val n d 2 q2 HV.out (by decide) H2.out (HE.out 2) _).mono ?_
  rintro e w6 ⟨rfl, hb6⟩
  replace g0 := (hb6.cell (p := ⟨G, 0, none⟩) hy).trans g0
  replace g1 := (hb6.cell (p := ⟨G, 1, none⟩) hy).trans g1
  replace f0 := (hb6.cell (p := ⟨w.heap.size, 0, none⟩) hz).trans f0
  replace f1 := (hb6.cell (p := ⟨w.heap.size, 1, none⟩) hz).trans f1
  replace hb := hb.trans (hb6.mono hb.size)
  replace hz : w.heap.size < w6.heap.size := Nat.lt_of_lt_of_le hz hb6.size
  replace hy : G < w6.heap.size := Nat.lt_of_lt_of_le hy hb6.size
  clear hb6
  go_wp2_with fail
  refine (Round_val n d 3 q3 HV.out (by decide) H3.out (HE.out 3) _).mono ?_
  rintro e w7 ⟨rfl, hb7⟩
  replace g0 := (hb7.cell (p := ⟨G, 0, none⟩) hy).trans g0
  replace g1 := (hb7.cell (p := ⟨G, 1, none⟩) hy).trans g1
  replace f0 := (hb7.cell (p := ⟨w.heap.size, 0, none⟩) hz).trans f0
  replace f1 := (hb7.cell (p := ⟨w.heap.size, 1, none⟩) hz).trans f1
  replace hb := hb.trans (hb7.mono hb.size)
  replace hz : w.heap.size < w7.heap.size := Nat.lt_of_lt_of_le hz hb7.size
  replace hy : G < w7.heap.size := Nat.lt_of_lt_of_le hy hb7.size
  clear hb7
  go_wp2_with fail
  refine (Round_val n d 4 q4 HV.out (by decide) H4.out (HE.out 4) _).mono ?_
  rintro e w8 ⟨rfl, hb8⟩
  replace g0 := (hb8.cell (p := ⟨G, 0, none⟩) hy).trans g0
  replace g1 := (hb8.cell (p := ⟨G, 1, none⟩) hy).trans g1
  replace f0 := (hb8.cell (p := ⟨w.heap.size, 0, none⟩) hz).trans f0
  replace f1 := (hb8.cell (p := ⟨w.heap.size, 1, none⟩) hz).trans f1
  replace hb := hb.trans (hb8.mono hb.size)
  replace hz : w.heap.size < w8.heap.size := Nat.lt_of_lt_of_le hz hb8.size
  replace hy : G < w8.heap.size := Nat.lt_of_lt_of_le hy hb8.size
  clear hb8
  clear g0 g1 hy H0 H1 H2 H3 H4 HB HE HE' HV HV' b3 b4
  rcases HC.out with ⟨rfl, rfl, rfl, rfl, rfl, rfl⟩ | ⟨hd, rfl, rfl, ⟨hn, rfl⟩ | ⟨hn, rfl⟩, ⟨hd3, ⟨rfl, rfl⟩ | ⟨rfl, rfl⟩⟩ | ⟨rfl, rfl, ⟨rfl, ht⟩ | ⟨rfl, ht⟩⟩⟩
  all_goals clear HC
  · go_wp2_with (go_at_call 10; refine (alive_any _).mono ?_; rintro e w9 ⟨rfl, hb9⟩; replace hb := hb.trans (hb9.mono hb.size); clear hb9)
    all_goals (go_ret; exact ⟨rfl, hb⟩)
  · have e1 : (d == 1) = false := by simp; omega
    have e2 : (d == 2) = false := by simp; omega
    have e1' : (d != 1) = true := by simp; omega
    have e2' : (d != 2) = true := by simp; omega
    have e3 : (q0 + 1 - q0 == 0) = false := by simp; omega
    have e4 : (q0 != q0 + 1) = true := by simp; omega
    have e5 : (q0 + 1 != q0) = true := by simp; omega
    go_wp2_with (go_at_call 10; refine (alive_any _).mono ?_; rintro e w9 ⟨rfl, hb9⟩; replace hb := hb.trans (hb9.mono hb.size); clear hb9)
    all_goals (go_ret; exact ⟨rfl, hb⟩)
  · have e1 : (d == 1) = false := by simp; omega
    have e2 : (d == 2) = false := by simp; omega
    have e1' : (d != 1) = true := by simp; omega
    have e2' : (d != 2) = true := by simp; omega
    have e3 : (q0 + 1 - q0 == 0) = false := by simp; omega
    have e4 : (q0 != q0 + 1) = true := by simp; omega
    have e5 : (q0 + 1 != q0) = true := by simp; omega
    go_wp2_with (go_at_call 10; refine (alive_any _).mono ?_; rintro e w9 ⟨rfl, hb9⟩; replace hb := hb.trans (hb9.mono hb.size); clear hb9)
    all_goals (go_ret; exact ⟨rfl, hb⟩)
  · have e3 : (q0 + 1 - q0 == 0) = false := by simp; omega
    have e4 : (q0 != q0 + 1) = true := by simp; omega
    have e5 : (q0 + 1 != q0) = true := by simp; omega
    go_wp2_with (go_at_call 10; refine (alive_any _).mono ?_; rintro e w9 ⟨rfl, hb9⟩; replace hb := hb.trans (hb9.mono hb.size); clear hb9)
    all_goals (go_ret; exact ⟨rfl, hb⟩)
  · have e3 : (q0 + 1 - q0 == 0) = false := by simp; omega
    have e4 : (q0 != q0 + 1) = true := by simp; omega
    have e5 : (q0 + 1 != q0) = true := by simp; omega
    go_wp2_with (go_at_call 10; refine (alive_any _).mono ?_; rintro e w9 ⟨rfl, hb9⟩; replace hb := hb.trans (hb9.mono hb.size); clear hb9)
    all_goals (go_ret; exact ⟨rfl, hb⟩)
  · have e1 : (d == 1) = false := by simp; omega
    have e2 : (d == 2) = false := by simp; omega
    have e1' : (d != 1) = true := by simp; omega
    have e2' : (d != 2) = true := by simp; omega
    have e3 : (q0 + 1 - q0 == 0) = false := by simp; omega
    have e4 : (q0 != q0 + 1) = true := by simp; omega
    have e5 : (q0 + 1 != q0) = true := by simp; omega
    go_wp2_with (go_at_call 10; refine (alive_any _).mono ?_; rintro e w9 ⟨rfl, hb9⟩; replace hb := hb.trans (hb9.mono hb.size); clear hb9)
    all_goals (go_ret; exact ⟨rfl, hb⟩)
  · have e1 : (d == 1) = false := by simp; omega
    have e2 : (d == 2) = false := by simp; omega
    have e1' : (d != 1) = true := by simp; omega
    have e2' : (d != 2) = true := by simp; omega
    have e3 : (q0 + 1 - q0 == 0) = false := by simp; omega
    have e4 : (q0 != q0 + 1) = true := by simp; omega
    have e5 : (q0 + 1 != q0) = true := by simp; omega
    go_wp2_with (go_at_call 10; refine (alive_any _).mono ?_; rintro e w9 ⟨rfl, hb9⟩; replace hb := hb.trans (hb9.mono hb.size); clear hb9)
    all_goals (go_ret; exact ⟨rfl, hb⟩)
  · have e3 : (q0 + 1 - q0 == 0) = false := by simp; omega
    have e4 : (q0 != q0 + 1) = true := by simp; omega
    have e5 : (q0 + 1 != q0) = true := by simp; omega
    go_wp2_with (go_at_call 10; refine (alive_any _).mono ?_; rintro e w9 ⟨rfl, hb9⟩; replace hb := hb.trans (hb9.mono hb.size); clear hb9)
    all_goals (go_ret; exact ⟨rfl, hb⟩)
  · have e3 : (q0 + 1 - q0 == 0) = false := by simp; omega
    have e4 : (q0 != q0 + 1) = true := by simp; omega
    have e5 : (q0 + 1 != q0) = true := by simp; omega
    go_wp2_with (go_at_call 10; refine (alive_any _).mono ?_; rintro e w9 ⟨rfl, hb9⟩; replace hb := hb.trans (hb9.mono hb.size); clear hb9)
    all_goals (go_ret; exact ⟨rfl, hb⟩)
end Go.Proofs.YtegphjgiobokdabDoor.numModes
