/- The law NumField: its walk. -/
import Derived.Test.YtegphjgiobokdabDoorG2
import Derived.Test.YtegphjgiobokdabDoorE1
import Derived.Deep.Cut
import Derived.Deep.CutRange
import Derived.Deep.DeepCutAuto
namespace Go.Proofs.YtegphjgiobokdabDoor.numField
open Go.RowKit
set_option linter.unusedVariables false
set_option linter.unusedSimpArgs false

set_option maxRecDepth 100000 in
set_option maxHeartbeats 4000000 in
theorem walk (an ad bn bd cn cd : Int) (x1 : -9223372036854775808 ≤ an) (x2 : an ≤ 9223372036854775807) (x3 : -9223372036854775808 ≤ bn) (x4 : bn ≤ 9223372036854775807) (x5 : -9223372036854775808 ≤ cn) (x6 : cn ≤ 9223372036854775807) (w : World) :
    Calls Tryd.prog 7 #[.agg #[.int .i64 an, .int .i64 ad], .agg #[.int .i64 bn, .int .i64 bd], .agg #[.int .i64 cn, .int .i64 cd]] w fun e w' => e = .returned (.bool true) ∧ Below w.heap.size w w' := by
  go_enter Tryd.func7, Tryd.ntmps7
  go_wp2_with fail
  refine (Add_all an ad bn bd (by omega) (by omega) (by omega) (by omega) _).mono ?_
  rintro e w1 ⟨V1, D1, E1, R1, rfl, hb1⟩
  unfold fracV
  have a0 : w1.cell? ⟨w.heap.size, 0, none⟩ = some (.int .i64 an) := (hb1.cell (p := ⟨w.heap.size, 0, none⟩) (by simp; try omega)).trans (by simp [go_sem])
  have a1 : w1.cell? ⟨w.heap.size, 1, none⟩ = some (.int .i64 ad) := (hb1.cell (p := ⟨w.heap.size, 1, none⟩) (by simp; try omega)).trans (by simp [go_sem])
  have za : w.heap.size < w1.heap.size := World.block_lt_of_cell? w1 _ a0
  have b0 : w1.cell? ⟨w.heap.size + 1, 0, none⟩ = some (.int .i64 bn) := (hb1.cell (p := ⟨w.heap.size + 1, 0, none⟩) (by simp; try omega)).trans (by simp [go_sem])
  have b1 : w1.cell? ⟨w.heap.size + 1, 1, none⟩ = some (.int .i64 bd) := (hb1.cell (p := ⟨w.heap.size + 1, 1, none⟩) (by simp; try omega)).trans (by simp [go_sem])
  have zb : w.heap.size + 1 < w1.heap.size := World.block_lt_of_cell? w1 _ b0
  have c0 : w1.cell? ⟨w.heap.size + 1 + 1, 0, none⟩ = some (.int .i64 cn) := (hb1.cell (p := ⟨w.heap.size + 1 + 1, 0, none⟩) (by simp; try omega)).trans (by simp [go_sem])
  have c1 : w1.cell? ⟨w.heap.size + 1 + 1, 1, none⟩ = some (.int .i64 cd) := (hb1.cell (p := ⟨w.heap.size + 1 + 1, 1, none⟩) (by simp; try omega)).trans (by simp [go_sem])
  have zc : w.heap.size + 1 + 1 < w1.heap.size := World.block_lt_of_cell? w1 _ c0
  have hb : Below w.heap.size w w1 := ((((Below.refl _ w).alloc (Nat.le_refl _) _).alloc (by simp) _).alloc (by simp; omega) _).trans (hb1.mono (by simp; omega))
  clear hb1
  obtain ⟨m1, n1⟩ := OpR_bd R1
  have H1 := Lib.hid R1; clear R1
  go_wp2_with fail
  refine (Add_all bn bd an ad (by omega) (by omega) (by omega) (by omega) _).mono ?_
  rintro e w2 ⟨V2, D2, E2, R2, rfl, hb2⟩
  unfold fracV
  have p0 : w2.cell? ⟨w1.heap.size, 0, none⟩ = some (.int .i64 V1) := (hb2.cell (p := ⟨w1.heap.size, 0, none⟩) (by simp)).trans (by simp [go_sem])
  have p1 : w2.cell? ⟨w1.heap.size, 1, none⟩ = some (.int .i64 D1) := (hb2.cell (p := ⟨w1.heap.size, 1, none⟩) (by simp)).trans (by simp [go_sem])
  replace hb2 : Below w1.heap.size w1 w2 := ((Below.refl _ w1).alloc (Nat.le_refl _) _).trans (hb2.mono (by simp))
  replace a0 := (hb2.cell (p := ⟨w.heap.size, 0, none⟩) za).trans a0
  replace a1 := (hb2.cell (p := ⟨w.heap.size, 1, none⟩) za).trans a1
  replace za : w.heap.size < w2.heap.size := Nat.lt_of_lt_of_le za hb2.size
  replace b0 := (hb2.cell (p := ⟨w.heap.size + 1, 0, none⟩) zb).trans b0
  replace b1 := (hb2.cell (p := ⟨w.heap.size + 1, 1, none⟩) zb).trans b1
  replace zb : w.heap.size + 1 < w2.heap.size := Nat.lt_of_lt_of_le zb hb2.size
  replace c0 := (hb2.cell (p := ⟨w.heap.size + 1 + 1, 0, none⟩) zc).trans c0
  replace c1 := (hb2.cell (p := ⟨w.heap.size + 1 + 1, 1, none⟩) zc).trans c1
  replace zc : w.heap.size + 1 + 1 < w2.heap.size := Nat.lt_of_lt_of_le zc hb2.size
  replace hb := hb.trans (hb2.mono hb.size)
  have zp : w1.heap.size < w2.heap.size := World.block_lt_of_cell? w2 _ p0
  clear hb2
  generalize w1.heap.size = Gp at p0 p1 zp ⊢
  have q2 := add_comm_res H1.out R2
  obtain ⟨q21, q22, q23⟩ := q2; subst q21 q22 q23; clear R2
  go_wp2_with fail
  refine (Sub_all V1 D1 bn bd (by omega) (by omega) (by omega) (by omega) _).mono ?_
  rintro e w3 ⟨V3, D3, E3, R3, rfl, hb3⟩
  unfold fracV
  have ba0 : w3.cell? ⟨w2.heap.size, 0, none⟩ = some (.int .i64 V1) := (hb3.cell (p := ⟨w2.heap.size, 0, none⟩) (by simp)).trans (by simp [go_sem])
  have ba1 : w3.cell? ⟨w2.heap.size, 1, none⟩ = some (.int .i64 D1) := (hb3.cell (p := ⟨w2.heap.size, 1, none⟩) (by simp)).trans (by simp [go_sem])
  replace hb3 : Below w2.heap.size w2 w3 := ((Below.refl _ w2).alloc (Nat.le_refl _) _).trans (hb3.mono (by simp))
  replace a0 := (hb3.cell (p := ⟨w.heap.size, 0, none⟩) za).trans a0
  replace a1 := (hb3.cell (p := ⟨w.heap.size, 1, none⟩) za).trans a1
  replace za : w.heap.size < w3.heap.size := Nat.lt_of_lt_of_le za hb3.size
  replace b0 := (hb3.cell (p := ⟨w.heap.size + 1, 0, none⟩) zb).trans b0
  replace b1 := (hb3.cell (p := ⟨w.heap.size + 1, 1, none⟩) zb).trans b1
  replace zb : w.heap.size + 1 < w3.heap.size := Nat.lt_of_lt_of_le zb hb3.size
  replace c0 := (hb3.cell (p := ⟨w.heap.size + 1 + 1, 0, none⟩) zc).trans c0
  replace c1 := (hb3.cell (p := ⟨w.heap.size + 1 + 1, 1, none⟩) zc).trans c1
  replace zc : w.heap.size + 1 + 1 < w3.heap.size := Nat.lt_of_lt_of_le zc hb3.size
  replace p0 := (hb3.cell (p := ⟨Gp, 0, none⟩) zp).trans p0
  replace p1 := (hb3.cell (p := ⟨Gp, 1, none⟩) zp).trans p1
  replace zp : Gp < w3.heap.size := Nat.lt_of_lt_of_le zp hb3.size
  replace hb := hb.trans (hb3.mono hb.size)
  have zba : w2.heap.size < w3.heap.size := World.block_lt_of_cell? w3 _ ba0
  clear hb3
  generalize w2.heap.size = Gba at ba0 ba1 zba ⊢
  clear ba0 ba1 zba
  obtain ⟨m3, n3⟩ := OpR_bd R3
  have H3 := Lib.hid R3; clear R3
  go_upto_region 6 with (fail)
  have hz3 : w.heap.size < (w3.alloc (Obj.cells #[Value.int IntKind.i64 V3, Value.int IntKind.i64 D3] 42)).heap.size := by simp; omega
  go_cut [60] from 50 to 60 (fun s60 wx => s60 = .bool false ∧ wx = w3.alloc (Obj.cells #[Value.int IntKind.i64 V3, Value.int IntKind.i64 D3] 42))
  case first =>
    by_cases hE : E1 = 0
    · obtain ⟨e1, e2, e3⟩ := sub_back H1.out H3.out hE
      subst hE e1 e2 e3
      go_wp2_with fail
      go_meet
      exact ⟨rfl, rfl⟩
    · have hE' : (E1 == 0) = false := by simpa using hE
      clear hE
      go_wp2_with fail
      go_meet
      exact ⟨rfl, rfl⟩
  case rest =>
    obtain ⟨rfl, rfl⟩ := hcut
    clear hz3
    go_wp2_with fail
    refine (Mul_all an ad bn bd (by omega) (by omega) (by omega) (by omega) _).mono ?_
    rintro e w4 ⟨V4, D4, E4, R4, rfl, hb4⟩
    unfold fracV
    replace hb4 : Below w3.heap.size w3 w4 := ((Below.refl _ w3).alloc (Nat.le_refl _) _).trans (hb4.mono (by simp))
    replace a0 := (hb4.cell (p := ⟨w.heap.size, 0, none⟩) za).trans a0
    replace a1 := (hb4.cell (p := ⟨w.heap.size, 1, none⟩) za).trans a1
    replace za : w.heap.size < w4.heap.size := Nat.lt_of_lt_of_le za hb4.size
    replace b0 := (hb4.cell (p := ⟨w.heap.size + 1, 0, none⟩) zb).trans b0
    replace b1 := (hb4.cell (p := ⟨w.heap.size + 1, 1, none⟩) zb).trans b1
    replace zb : w.heap.size + 1 < w4.heap.size := Nat.lt_of_lt_of_le zb hb4.size
    replace c0 := (hb4.cell (p := ⟨w.heap.size + 1 + 1, 0, none⟩) zc).trans c0
    replace c1 := (hb4.cell (p := ⟨w.heap.size + 1 + 1, 1, none⟩) zc).trans c1
    replace zc : w.heap.size + 1 + 1 < w4.heap.size := Nat.lt_of_lt_of_le zc hb4.size
    replace p0 := (hb4.cell (p := ⟨Gp, 0, none⟩) zp).trans p0
    replace p1 := (hb4.cell (p := ⟨Gp, 1, none⟩) zp).trans p1
    replace zp : Gp < w4.heap.size := Nat.lt_of_lt_of_le zp hb4.size
    replace hb := hb.trans (hb4.mono hb.size)
    clear hb4
    obtain ⟨m4, n4⟩ := OpR_bd R4
    have H4 := Lib.hid R4; clear R4
    go_wp2_with fail
    refine (Mul_all bn bd an ad (by omega) (by omega) (by omega) (by omega) _).mono ?_
    rintro e w5 ⟨V5, D5, E5, R5, rfl, hb5⟩
    unfold fracV
    have q0 : w5.cell? ⟨w4.heap.size, 0, none⟩ = some (.int .i64 V4) := (hb5.cell (p := ⟨w4.heap.size, 0, none⟩) (by simp)).trans (by simp [go_sem])
    have q1 : w5.cell? ⟨w4.heap.size, 1, none⟩ = some (.int .i64 D4) := (hb5.cell (p := ⟨w4.heap.size, 1, none⟩) (by simp)).trans (by simp [go_sem])
    replace hb5 : Below w4.heap.size w4 w5 := ((Below.refl _ w4).alloc (Nat.le_refl _) _).trans (hb5.mono (by simp))
    replace a0 := (hb5.cell (p := ⟨w.heap.size, 0, none⟩) za).trans a0
    replace a1 := (hb5.cell (p := ⟨w.heap.size, 1, none⟩) za).trans a1
    replace za : w.heap.size < w5.heap.size := Nat.lt_of_lt_of_le za hb5.size
    replace b0 := (hb5.cell (p := ⟨w.heap.size + 1, 0, none⟩) zb).trans b0
    replace b1 := (hb5.cell (p := ⟨w.heap.size + 1, 1, none⟩) zb).trans b1
    replace zb : w.heap.size + 1 < w5.heap.size := Nat.lt_of_lt_of_le zb hb5.size
    replace c0 := (hb5.cell (p := ⟨w.heap.size + 1 + 1, 0, none⟩) zc).trans c0
    replace c1 := (hb5.cell (p := ⟨w.heap.size + 1 + 1, 1, none⟩) zc).trans c1
    replace zc : w.heap.size + 1 + 1 < w5.heap.size := Nat.lt_of_lt_of_le zc hb5.size
    replace p0 := (hb5.cell (p := ⟨Gp, 0, none⟩) zp).trans p0
    replace p1 := (hb5.cell (p := ⟨Gp, 1, none⟩) zp).trans p1
    replace zp : Gp < w5.heap.size := Nat.lt_of_lt_of_le zp hb5.size
    replace hb := hb.trans (hb5.mono hb.size)
    have zq : w4.heap.size < w5.heap.size := World.block_lt_of_cell? w5 _ q0
    clear hb5
    generalize w4.heap.size = Gq at q0 q1 zq ⊢
    obtain ⟨q51, q52, q53⟩ := mul_comm_res H4.out R5; subst q51 q52 q53; clear R5
    go_wp2_with fail
    refine (Div_all V4 D4 bn bd (by omega) (by omega) (by omega) (by omega) _).mono ?_
    rintro e w6 ⟨V6, D6, E6, R6, rfl, hb6⟩
    unfold fracV
    have qp0 : w6.cell? ⟨w5.heap.size, 0, none⟩ = some (.int .i64 V4) := (hb6.cell (p := ⟨w5.heap.size, 0, none⟩) (by simp)).trans (by simp [go_sem])
    have qp1 : w6.cell? ⟨w5.heap.size, 1, none⟩ = some (.int .i64 D4) := (hb6.cell (p := ⟨w5.heap.size, 1, none⟩) (by simp)).trans (by simp [go_sem])
    replace hb6 : Below w5.heap.size w5 w6 := ((Below.refl _ w5).alloc (Nat.le_refl _) _).trans (hb6.mono (by simp))
    replace a0 := (hb6.cell (p := ⟨w.heap.size, 0, none⟩) za).trans a0
    replace a1 := (hb6.cell (p := ⟨w.heap.size, 1, none⟩) za).trans a1
    replace za : w.heap.size < w6.heap.size := Nat.lt_of_lt_of_le za hb6.size
    replace b0 := (hb6.cell (p := ⟨w.heap.size + 1, 0, none⟩) zb).trans b0
    replace b1 := (hb6.cell (p := ⟨w.heap.size + 1, 1, none⟩) zb).trans b1
    replace zb : w.heap.size + 1 < w6.heap.size := Nat.lt_of_lt_of_le zb hb6.size
    replace c0 := (hb6.cell (p := ⟨w.heap.size + 1 + 1, 0, none⟩) zc).trans c0
    replace c1 := (hb6.cell (p := ⟨w.heap.size + 1 + 1, 1, none⟩) zc).trans c1
    replace zc : w.heap.size + 1 + 1 < w6.heap.size := Nat.lt_of_lt_of_le zc hb6.size
    replace p0 := (hb6.cell (p := ⟨Gp, 0, none⟩) zp).trans p0
    replace p1 := (hb6.cell (p := ⟨Gp, 1, none⟩) zp).trans p1
    replace zp : Gp < w6.heap.size := Nat.lt_of_lt_of_le zp hb6.size
    replace q0 := (hb6.cell (p := ⟨Gq, 0, none⟩) zq).trans q0
    replace q1 := (hb6.cell (p := ⟨Gq, 1, none⟩) zq).trans q1
    replace zq : Gq < w6.heap.size := Nat.lt_of_lt_of_le zq hb6.size
    replace hb := hb.trans (hb6.mono hb.size)
    have zqp : w5.heap.size < w6.heap.size := World.block_lt_of_cell? w6 _ qp0
    clear hb6
    generalize w5.heap.size = Gqp at qp0 qp1 zqp ⊢
    clear qp0 qp1 zqp
    have H6 := Lib.hid R6; clear R6
    go_upto_region 13 with (fail)
    go_cut [102] from 87 to 102 (fun s102 wx => s102 = .bool false ∧ wx = w6.alloc (Obj.cells #[Value.int IntKind.i64 V6, Value.int IntKind.i64 D6] 42))
    case first =>
      by_cases hE : E4 = 0
      · by_cases h0 : bn = 0
        · subst hE h0
          go_wp2_with fail
          go_meet
          exact ⟨rfl, rfl⟩
        · obtain ⟨e1, e2, e3⟩ := div_back H4.out H6.out hE h0
          have h0' : (bn != 0) = true := by simpa using h0
          clear h0
          subst hE e1 e2 e3
          go_wp2_with fail
          go_meet
          exact ⟨rfl, rfl⟩
      · have hE' : (E4 == 0) = false := by simpa using hE
        clear hE
        go_wp2_with fail
        go_meet
        exact ⟨rfl, rfl⟩
    case rest =>
      obtain ⟨rfl, rfl⟩ := hcut
      go_wp2_with fail
      refine (Add_all V1 D1 cn cd (by omega) (by omega) (by omega) (by omega) _).mono ?_
      rintro e w7 ⟨V7, D7, E7, R7, rfl, hb7⟩
      unfold fracV
      replace hb7 : Below w6.heap.size w6 w7 := ((Below.refl _ w6).alloc (Nat.le_refl _) _).trans (hb7.mono (by simp))
      replace a0 := (hb7.cell (p := ⟨w.heap.size, 0, none⟩) za).trans a0
      replace a1 := (hb7.cell (p := ⟨w.heap.size, 1, none⟩) za).trans a1
      replace za : w.heap.size < w7.heap.size := Nat.lt_of_lt_of_le za hb7.size
      replace b0 := (hb7.cell (p := ⟨w.heap.size + 1, 0, none⟩) zb).trans b0
      replace b1 := (hb7.cell (p := ⟨w.heap.size + 1, 1, none⟩) zb).trans b1
      replace zb : w.heap.size + 1 < w7.heap.size := Nat.lt_of_lt_of_le zb hb7.size
      replace c0 := (hb7.cell (p := ⟨w.heap.size + 1 + 1, 0, none⟩) zc).trans c0
      replace c1 := (hb7.cell (p := ⟨w.heap.size + 1 + 1, 1, none⟩) zc).trans c1
      replace zc : w.heap.size + 1 + 1 < w7.heap.size := Nat.lt_of_lt_of_le zc hb7.size
      replace p0 := (hb7.cell (p := ⟨Gp, 0, none⟩) zp).trans p0
      replace p1 := (hb7.cell (p := ⟨Gp, 1, none⟩) zp).trans p1
      replace zp : Gp < w7.heap.size := Nat.lt_of_lt_of_le zp hb7.size
      replace q0 := (hb7.cell (p := ⟨Gq, 0, none⟩) zq).trans q0
      replace q1 := (hb7.cell (p := ⟨Gq, 1, none⟩) zq).trans q1
      replace zq : Gq < w7.heap.size := Nat.lt_of_lt_of_le zq hb7.size
      replace hb := hb.trans (hb7.mono hb.size)
      clear hb7
      obtain ⟨m7, n7⟩ := OpR_bd R7
      have H7 := Lib.hid R7; clear R7
      go_wp2_with fail
      refine (Add_all bn bd cn cd (by omega) (by omega) (by omega) (by omega) _).mono ?_
      rintro e w8 ⟨V8, D8, E8, R8, rfl, hb8⟩
      unfold fracV
      have l0 : w8.cell? ⟨w7.heap.size, 0, none⟩ = some (.int .i64 V7) := (hb8.cell (p := ⟨w7.heap.size, 0, none⟩) (by simp)).trans (by simp [go_sem])
      have l1 : w8.cell? ⟨w7.heap.size, 1, none⟩ = some (.int .i64 D7) := (hb8.cell (p := ⟨w7.heap.size, 1, none⟩) (by simp)).trans (by simp [go_sem])
      replace hb8 : Below w7.heap.size w7 w8 := ((Below.refl _ w7).alloc (Nat.le_refl _) _).trans (hb8.mono (by simp))
      replace a0 := (hb8.cell (p := ⟨w.heap.size, 0, none⟩) za).trans a0
      replace a1 := (hb8.cell (p := ⟨w.heap.size, 1, none⟩) za).trans a1
      replace za : w.heap.size < w8.heap.size := Nat.lt_of_lt_of_le za hb8.size
      replace b0 := (hb8.cell (p := ⟨w.heap.size + 1, 0, none⟩) zb).trans b0
      replace b1 := (hb8.cell (p := ⟨w.heap.size + 1, 1, none⟩) zb).trans b1
      replace zb : w.heap.size + 1 < w8.heap.size := Nat.lt_of_lt_of_le zb hb8.size
      replace c0 := (hb8.cell (p := ⟨w.heap.size + 1 + 1, 0, none⟩) zc).trans c0
      replace c1 := (hb8.cell (p := ⟨w.heap.size + 1 + 1, 1, none⟩) zc).trans c1
      replace zc : w.heap.size + 1 + 1 < w8.heap.size := Nat.lt_of_lt_of_le zc hb8.size
      replace p0 := (hb8.cell (p := ⟨Gp, 0, none⟩) zp).trans p0
      replace p1 := (hb8.cell (p := ⟨Gp, 1, none⟩) zp).trans p1
      replace zp : Gp < w8.heap.size := Nat.lt_of_lt_of_le zp hb8.size
      replace q0 := (hb8.cell (p := ⟨Gq, 0, none⟩) zq).trans q0
      replace q1 := (hb8.cell (p := ⟨Gq, 1, none⟩) zq).trans q1
      replace zq : Gq < w8.heap.size := Nat.lt_of_lt_of_le zq hb8.size
      replace hb := hb.trans (hb8.mono hb.size)
      have zl : w7.heap.size < w8.heap.size := World.block_lt_of_cell? w8 _ l0
      clear hb8
      generalize w7.heap.size = Gl at l0 l1 zl ⊢
      obtain ⟨m8, n8⟩ := OpR_bd R8
      have H8 := Lib.hid R8; clear R8
      go_wp2_with fail
      refine (Add_all an ad V8 D8 (by omega) (by omega) (by omega) (by omega) _).mono ?_
      rintro e w9 ⟨V9, D9, E9, R9, rfl, hb9⟩
      unfold fracV
      have g0 : w9.cell? ⟨w8.heap.size, 0, none⟩ = some (.int .i64 V8) := (hb9.cell (p := ⟨w8.heap.size, 0, none⟩) (by simp)).trans (by simp [go_sem])
      have g1 : w9.cell? ⟨w8.heap.size, 1, none⟩ = some (.int .i64 D8) := (hb9.cell (p := ⟨w8.heap.size, 1, none⟩) (by simp)).trans (by simp [go_sem])
      replace hb9 : Below w8.heap.size w8 w9 := ((Below.refl _ w8).alloc (Nat.le_refl _) _).trans (hb9.mono (by simp))
      replace a0 := (hb9.cell (p := ⟨w.heap.size, 0, none⟩) za).trans a0
      replace a1 := (hb9.cell (p := ⟨w.heap.size, 1, none⟩) za).trans a1
      replace za : w.heap.size < w9.heap.size := Nat.lt_of_lt_of_le za hb9.size
      replace b0 := (hb9.cell (p := ⟨w.heap.size + 1, 0, none⟩) zb).trans b0
      replace b1 := (hb9.cell (p := ⟨w.heap.size + 1, 1, none⟩) zb).trans b1
      replace zb : w.heap.size + 1 < w9.heap.size := Nat.lt_of_lt_of_le zb hb9.size
      replace c0 := (hb9.cell (p := ⟨w.heap.size + 1 + 1, 0, none⟩) zc).trans c0
      replace c1 := (hb9.cell (p := ⟨w.heap.size + 1 + 1, 1, none⟩) zc).trans c1
      replace zc : w.heap.size + 1 + 1 < w9.heap.size := Nat.lt_of_lt_of_le zc hb9.size
      replace p0 := (hb9.cell (p := ⟨Gp, 0, none⟩) zp).trans p0
      replace p1 := (hb9.cell (p := ⟨Gp, 1, none⟩) zp).trans p1
      replace zp : Gp < w9.heap.size := Nat.lt_of_lt_of_le zp hb9.size
      replace q0 := (hb9.cell (p := ⟨Gq, 0, none⟩) zq).trans q0
      replace q1 := (hb9.cell (p := ⟨Gq, 1, none⟩) zq).trans q1
      replace zq : Gq < w9.heap.size := Nat.lt_of_lt_of_le zq hb9.size
      replace l0 := (hb9.cell (p := ⟨Gl, 0, none⟩) zl).trans l0
      replace l1 := (hb9.cell (p := ⟨Gl, 1, none⟩) zl).trans l1
      replace zl : Gl < w9.heap.size := Nat.lt_of_lt_of_le zl hb9.size
      replace hb := hb.trans (hb9.mono hb.size)
      have zg : w8.heap.size < w9.heap.size := World.block_lt_of_cell? w9 _ g0
      clear hb9
      generalize w8.heap.size = Gg at g0 g1 zg ⊢
      obtain ⟨m9, n9⟩ := OpR_bd R9
      have H9 := Lib.hid R9; clear R9
      go_upto_region 18 with (fail)
      have zl' : Gl < (w9.alloc (Obj.cells #[Value.int IntKind.i64 V9, Value.int IntKind.i64 D9] 42)).heap.size := by simp; omega
      go_cut [135] from 121 to 135 (fun s135 wx => s135 = .bool false ∧ wx = w9.alloc (Obj.cells #[Value.int IntKind.i64 V9, Value.int IntKind.i64 D9] 42))
      case first =>
        by_cases e7 : E7 = 0
        · by_cases e8 : E8 = 0
          · by_cases e9 : E9 = 0
            · obtain ⟨i1, i2⟩ := assoc_res H1.out H7.out H8.out H9.out e7 e8 e9
              subst e7 e8 e9 i1 i2
              go_wp2_with fail
              go_meet
              exact ⟨rfl, rfl⟩
            · have e9' : (E9 == 0) = false := by simpa using e9
              clear e9
              subst e7 e8
              go_wp2_with fail
              go_meet
              exact ⟨rfl, rfl⟩
          · have e8' : (E8 == 0) = false := by simpa using e8
            clear e8
            subst e7
            go_wp2_with fail
            go_meet
            exact ⟨rfl, rfl⟩
        · have e7' : (E7 == 0) = false := by simpa using e7
          clear e7
          go_wp2_with fail
          go_meet
          exact ⟨rfl, rfl⟩
      case rest =>
        obtain ⟨rfl, rfl⟩ := hcut
        clear zl'
        clear l0 l1 zl
        go_wp2_with fail
        refine (Mul_all an ad V8 D8 (by omega) (by omega) (by omega) (by omega) _).mono ?_
        rintro e w10 ⟨V10, D10, E10, R10, rfl, hb10⟩
        unfold fracV
        replace hb10 : Below w9.heap.size w9 w10 := ((Below.refl _ w9).alloc (Nat.le_refl _) _).trans (hb10.mono (by simp))
        replace a0 := (hb10.cell (p := ⟨w.heap.size, 0, none⟩) za).trans a0
        replace a1 := (hb10.cell (p := ⟨w.heap.size, 1, none⟩) za).trans a1
        replace za : w.heap.size < w10.heap.size := Nat.lt_of_lt_of_le za hb10.size
        replace b0 := (hb10.cell (p := ⟨w.heap.size + 1, 0, none⟩) zb).trans b0
        replace b1 := (hb10.cell (p := ⟨w.heap.size + 1, 1, none⟩) zb).trans b1
        replace zb : w.heap.size + 1 < w10.heap.size := Nat.lt_of_lt_of_le zb hb10.size
        replace c0 := (hb10.cell (p := ⟨w.heap.size + 1 + 1, 0, none⟩) zc).trans c0
        replace c1 := (hb10.cell (p := ⟨w.heap.size + 1 + 1, 1, none⟩) zc).trans c1
        replace zc : w.heap.size + 1 + 1 < w10.heap.size := Nat.lt_of_lt_of_le zc hb10.size
        replace p0 := (hb10.cell (p := ⟨Gp, 0, none⟩) zp).trans p0
        replace p1 := (hb10.cell (p := ⟨Gp, 1, none⟩) zp).trans p1
        replace zp : Gp < w10.heap.size := Nat.lt_of_lt_of_le zp hb10.size
        replace q0 := (hb10.cell (p := ⟨Gq, 0, none⟩) zq).trans q0
        replace q1 := (hb10.cell (p := ⟨Gq, 1, none⟩) zq).trans q1
        replace zq : Gq < w10.heap.size := Nat.lt_of_lt_of_le zq hb10.size
        replace g0 := (hb10.cell (p := ⟨Gg, 0, none⟩) zg).trans g0
        replace g1 := (hb10.cell (p := ⟨Gg, 1, none⟩) zg).trans g1
        replace zg : Gg < w10.heap.size := Nat.lt_of_lt_of_le zg hb10.size
        replace hb := hb.trans (hb10.mono hb.size)
        clear hb10
        obtain ⟨m10, n10⟩ := OpR_bd R10
        have H10 := Lib.hid R10; clear R10
        go_wp2_with fail
        refine (Mul_all an ad cn cd (by omega) (by omega) (by omega) (by omega) _).mono ?_
        rintro e w11 ⟨V11, D11, E11, R11, rfl, hb11⟩
        unfold fracV
        have h0 : w11.cell? ⟨w10.heap.size, 0, none⟩ = some (.int .i64 V10) := (hb11.cell (p := ⟨w10.heap.size, 0, none⟩) (by simp)).trans (by simp [go_sem])
        have h1 : w11.cell? ⟨w10.heap.size, 1, none⟩ = some (.int .i64 D10) := (hb11.cell (p := ⟨w10.heap.size, 1, none⟩) (by simp)).trans (by simp [go_sem])
        replace hb11 : Below w10.heap.size w10 w11 := ((Below.refl _ w10).alloc (Nat.le_refl _) _).trans (hb11.mono (by simp))
        replace a0 := (hb11.cell (p := ⟨w.heap.size, 0, none⟩) za).trans a0
        replace a1 := (hb11.cell (p := ⟨w.heap.size, 1, none⟩) za).trans a1
        replace za : w.heap.size < w11.heap.size := Nat.lt_of_lt_of_le za hb11.size
        replace b0 := (hb11.cell (p := ⟨w.heap.size + 1, 0, none⟩) zb).trans b0
        replace b1 := (hb11.cell (p := ⟨w.heap.size + 1, 1, none⟩) zb).trans b1
        replace zb : w.heap.size + 1 < w11.heap.size := Nat.lt_of_lt_of_le zb hb11.size
        replace c0 := (hb11.cell (p := ⟨w.heap.size + 1 + 1, 0, none⟩) zc).trans c0
        replace c1 := (hb11.cell (p := ⟨w.heap.size + 1 + 1, 1, none⟩) zc).trans c1
        replace zc : w.heap.size + 1 + 1 < w11.heap.size := Nat.lt_of_lt_of_le zc hb11.size
        replace p0 := (hb11.cell (p := ⟨Gp, 0, none⟩) zp).trans p0
        replace p1 := (hb11.cell (p := ⟨Gp, 1, none⟩) zp).trans p1
        replace zp : Gp < w11.heap.size := Nat.lt_of_lt_of_le zp hb11.size
        replace q0 := (hb11.cell (p := ⟨Gq, 0, none⟩) zq).trans q0
        replace q1 := (hb11.cell (p := ⟨Gq, 1, none⟩) zq).trans q1
        replace zq : Gq < w11.heap.size := Nat.lt_of_lt_of_le zq hb11.size
        replace g0 := (hb11.cell (p := ⟨Gg, 0, none⟩) zg).trans g0
        replace g1 := (hb11.cell (p := ⟨Gg, 1, none⟩) zg).trans g1
        replace zg : Gg < w11.heap.size := Nat.lt_of_lt_of_le zg hb11.size
        replace hb := hb.trans (hb11.mono hb.size)
        have zh : w10.heap.size < w11.heap.size := World.block_lt_of_cell? w11 _ h0
        clear hb11
        generalize w10.heap.size = Gh at h0 h1 zh ⊢
        obtain ⟨m11, n11⟩ := OpR_bd R11
        have H11 := Lib.hid R11; clear R11
        go_wp2_with fail
        refine (Add_all V4 D4 V11 D11 (by omega) (by omega) (by omega) (by omega) _).mono ?_
        rintro e w12 ⟨V12, D12, E12, R12, rfl, hb12⟩
        unfold fracV
        have ac0 : w12.cell? ⟨w11.heap.size, 0, none⟩ = some (.int .i64 V11) := (hb12.cell (p := ⟨w11.heap.size, 0, none⟩) (by simp)).trans (by simp [go_sem])
        have ac1 : w12.cell? ⟨w11.heap.size, 1, none⟩ = some (.int .i64 D11) := (hb12.cell (p := ⟨w11.heap.size, 1, none⟩) (by simp)).trans (by simp [go_sem])
        replace hb12 : Below w11.heap.size w11 w12 := ((Below.refl _ w11).alloc (Nat.le_refl _) _).trans (hb12.mono (by simp))
        replace a0 := (hb12.cell (p := ⟨w.heap.size, 0, none⟩) za).trans a0
        replace a1 := (hb12.cell (p := ⟨w.heap.size, 1, none⟩) za).trans a1
        replace za : w.heap.size < w12.heap.size := Nat.lt_of_lt_of_le za hb12.size
        replace b0 := (hb12.cell (p := ⟨w.heap.size + 1, 0, none⟩) zb).trans b0
        replace b1 := (hb12.cell (p := ⟨w.heap.size + 1, 1, none⟩) zb).trans b1
        replace zb : w.heap.size + 1 < w12.heap.size := Nat.lt_of_lt_of_le zb hb12.size
        replace c0 := (hb12.cell (p := ⟨w.heap.size + 1 + 1, 0, none⟩) zc).trans c0
        replace c1 := (hb12.cell (p := ⟨w.heap.size + 1 + 1, 1, none⟩) zc).trans c1
        replace zc : w.heap.size + 1 + 1 < w12.heap.size := Nat.lt_of_lt_of_le zc hb12.size
        replace p0 := (hb12.cell (p := ⟨Gp, 0, none⟩) zp).trans p0
        replace p1 := (hb12.cell (p := ⟨Gp, 1, none⟩) zp).trans p1
        replace zp : Gp < w12.heap.size := Nat.lt_of_lt_of_le zp hb12.size
        replace q0 := (hb12.cell (p := ⟨Gq, 0, none⟩) zq).trans q0
        replace q1 := (hb12.cell (p := ⟨Gq, 1, none⟩) zq).trans q1
        replace zq : Gq < w12.heap.size := Nat.lt_of_lt_of_le zq hb12.size
        replace g0 := (hb12.cell (p := ⟨Gg, 0, none⟩) zg).trans g0
        replace g1 := (hb12.cell (p := ⟨Gg, 1, none⟩) zg).trans g1
        replace zg : Gg < w12.heap.size := Nat.lt_of_lt_of_le zg hb12.size
        replace h0 := (hb12.cell (p := ⟨Gh, 0, none⟩) zh).trans h0
        replace h1 := (hb12.cell (p := ⟨Gh, 1, none⟩) zh).trans h1
        replace zh : Gh < w12.heap.size := Nat.lt_of_lt_of_le zh hb12.size
        replace hb := hb.trans (hb12.mono hb.size)
        have zac : w11.heap.size < w12.heap.size := World.block_lt_of_cell? w12 _ ac0
        clear hb12
        generalize w11.heap.size = Gac at ac0 ac1 zac ⊢
        obtain ⟨m12, n12⟩ := OpR_bd R12
        have H12 := Lib.hid R12; clear R12
        by_cases e10 : E10 = 0
        · by_cases e11 : E11 = 0
          · by_cases e12 : E12 = 0
            · obtain ⟨i1, i2⟩ := distr_res H8.out H4.out H10.out H11.out H12.out e10 e11 e12
              subst e10 e11 e12 i1 i2
              go_wp2_with (go_at_call 10; refine (alive_any _).mono ?_; rintro e w13 ⟨rfl, hb13⟩; replace hb := (hb.alloc hb.size _).trans (hb13.mono (hb.alloc hb.size _).size); clear hb13)
              go_ret
              exact ⟨rfl, hb⟩
            · have e12' : (E12 != 0) = true := by simpa using e12
              clear e12
              subst e10 e11
              go_wp2_with (go_at_call 10; refine (alive_any _).mono ?_; rintro e w13 ⟨rfl, hb13⟩; replace hb := (hb.alloc hb.size _).trans (hb13.mono (hb.alloc hb.size _).size); clear hb13)
              go_ret
              exact ⟨rfl, hb⟩
          · have e11' : (E11 != 0) = true := by simpa using e11
            clear e11
            subst e10
            go_wp2_with (go_at_call 10; refine (alive_any _).mono ?_; rintro e w13 ⟨rfl, hb13⟩; replace hb := (hb.alloc hb.size _).trans (hb13.mono (hb.alloc hb.size _).size); clear hb13)
            go_ret
            exact ⟨rfl, hb⟩
        · have e10' : (E10 != 0) = true := by simpa using e10
          clear e10
          go_wp2_with (go_at_call 10; refine (alive_any _).mono ?_; rintro e w13 ⟨rfl, hb13⟩; replace hb := (hb.alloc hb.size _).trans (hb13.mono (hb.alloc hb.size _).size); clear hb13)
          go_ret
          exact ⟨rfl, hb⟩
end Go.Proofs.YtegphjgiobokdabDoor.numField
