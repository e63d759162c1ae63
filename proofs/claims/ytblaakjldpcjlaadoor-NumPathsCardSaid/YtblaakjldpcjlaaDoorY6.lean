/- The law NumPaths: its walk. -/
import Derived.Test.YtblaakjldpcjlaaDoorY5
import Derived.Test.YtblaakjldpcjlaaDoorE1
namespace Go.Proofs.YtblaakjldpcjlaaDoor
open Go.RowKit
set_option linter.unusedVariables false
set_option linter.unusedSimpArgs false

theorem few_p (p : Option Addr) (n c : Nat) (w : World) :
    Calls Tryd.prog 20 #[.slice p n c] w fun e w' => e = .returned (.bool (decide (n ≤ 300))) ∧ w = w' := by
  go_enter Tryd.func20, Tryd.ntmps20
  go_wp2
  all_goals go_ret
  all_goals exact ⟨ret_b (by rw [Bool.eq_iff_iff]; simp; try omega), rfl⟩
set_option maxRecDepth 100000 in
theorem same_big (p q : Option Addr) (c d : Nat) (l : List Int) (w : World) (r : RowA w p l) (s : RowA w q l) (ln : l.length ≤ 1000000000) :
    Calls Tryd.prog 32 #[.slice p l.length c, .slice q l.length d] w fun e w' => e = .returned (.bool true) ∧ ∃ n, w' = w.drewN n := by
  have R := Lib.hid r
  have S := Lib.hid s
  obtain ⟨x, hx⟩ : ∃ x, x = l.length := ⟨_, rfl⟩
  rw [← hx] at ln ⊢
  have HX := Lib.hid hx
  clear hx r s
  go_enter Tryd.func32, Tryd.ntmps32
  go_wp2_with fail
  go_loopw [5] (fun kv wr => ∃ k : Nat, k ≤ x ∧ kv = .int .i64 k ∧ ∃ n, wr = w.drewN n) (fun kv _ => x - (intOf kv).toNat)
  case atStart => exact ⟨0, Nat.zero_le _, rfl, 0, rfl⟩
  case round =>
    obtain ⟨k, hk, rfl, n, rfl⟩ := hrel
    by_cases t1 : k < x
    · have l1 : k < l.length := by have := HX.out; omega
      obtain ⟨xa, rfl, kx, cx⟩ := R.out k l1
      obtain ⟨xb, rfl, ky, cy⟩ := S.out k l1
      have i1 : (0 : Int) ≤ (k : Int) := by omega
      have i2 : (k : Int) < (x : Int) := by omega
      generalize gd l k = v at *
      go_wp2_with fail
      go_quiet (fail)
      go_wp2_with fail
      go_roundw
      case rel => exact ⟨k + 1, by omega, by go_num, _, rfl⟩
      case measure => simp [intOf]; omega
    · go_wp2_with fail
      go_ret
      exact ⟨rfl, _, rfl⟩
theorem RowA.nil (w : World) (p : Option Addr) : RowA w p [] := fun i h => by simp at h
/-- The path and the error, valid or not. -/
def pathL (n d : Int) : List Int := bif vldB n d then cf n d else []
def pathE (n d : Int) : Int := bif vldB n d then 0 else 2
def PathO (l : List Int) (E : Int) (w : World) (e : Ending) (w' : World) : Prop :=
  ∃ p c, e = .returned (.tuple #[.slice p l.length c, .int .i64 E]) ∧ RowA w' p l ∧ l.length ≤ 1000000000 ∧ Below w.heap.size w w'
theorem PathP.one {n d : Int} {w w' : World} {e : Ending} (h : PathP n d w e w') : PathO (pathL n d) (pathE n d) w e w' := by
  unfold pathL pathE
  rcases h with ⟨hv, he, hb⟩ | ⟨hv, p, c, he, r, k, hb⟩
  · rw [hv]; exact ⟨none, 0, he, RowA.nil _ _, by simp, hb⟩
  · rw [hv]; exact ⟨p, c, he, r.rowA, k, hb⟩
end Go.Proofs.YtblaakjldpcjlaaDoor
namespace Go.Proofs.YtblaakjldpcjlaaDoor.numPaths
open Go.RowKit
set_option linter.unusedVariables false
set_option linter.unusedSimpArgs false

set_option maxRecDepth 100000 in
set_option maxHeartbeats 4000000 in
theorem walk (n d : Int) (q : Option Addr) (c : Nat) (l : List Int) (n1 : -9223372036854775808 ≤ n) (n2 : n ≤ 9223372036854775807) (w : World) (s : RowA w q l) (hz : ∀ i, i < l.length → -9223372036854775808 ≤ gd l i ∧ gd l i ≤ 9223372036854775807) :
    Calls Tryd.prog 8 #[.agg #[.int .i64 n, .int .i64 d], .slice q l.length c] w fun e w' => e = .returned (.bool true) ∧ Below w.heap.size w w' := by
  have S := Lib.hid s
  have CP := Lib.hid (fun W h (ln : l.length ≤ 300) => copied_any q c l W h ln)
  have PA := fun W => (Path_any n d n1 n2 W).mono fun _ _ h => h.one
  have RP := fun W => (rPath_any n d n1 n2 W).mono fun _ _ h => h.one
  generalize pathL n d = pl at PA RP
  generalize pathE n d = pe at PA RP
  replace PA := Lib.hid PA
  replace RP := Lib.hid RP
  have FP := Lib.hid (fun b W h => FromPath_any b l W h)
  have RF := Lib.hid (fun W h (ln : l.length ≤ 300) => rFromPath_any q c l W h (by omega) hz)
  have KP := Lib.hid (fun b W h h' (ln : l.length ≤ 300) => kept_any b q c l W h h' (by omega))
  unfold Res at FP RF
  obtain ⟨x, hx⟩ : ∃ x, x = l.length := ⟨_, rfl⟩
  rw [← hx] at CP FP RF KP ⊢
  clear hx s hz
  have KB : Hid (Below w.heap.size w (w.alloc (Obj.cells #[Value.int IntKind.i64 n, Value.int IntKind.i64 d] 23))) := (Below.refl _ _).alloc (Nat.le_refl _) _
  have CX : Hid ((w.alloc (Obj.cells #[Value.int IntKind.i64 n, Value.int IntKind.i64 d] 23)).cell? ⟨w.heap.size, 0, none⟩ = some (.int .i64 n) ∧ (w.alloc (Obj.cells #[Value.int IntKind.i64 n, Value.int IntKind.i64 d] 23)).cell? ⟨w.heap.size, 1, none⟩ = some (.int .i64 d) ∧ w.heap.size < (w.alloc (Obj.cells #[Value.int IntKind.i64 n, Value.int IntKind.i64 d] 23)).heap.size) := ⟨by simp [go_sem], by simp [go_sem], by simp⟩
  have S0 := Lib.hid (S.out.below KB.out)
  go_enter Tryd.func8, Tryd.ntmps8
  go_wp2_with fail
  refine (few_p q x c _).mono ?_
  rintro e w1 ⟨rfl, rfl⟩
  generalize (w.alloc (Obj.cells #[Value.int IntKind.i64 n, Value.int IntKind.i64 d] 23)) = w0 at *
  by_cases hf : x ≤ 300
  · rw [show decide (x ≤ 300) = true by simpa using hf]
    go_wp2_with fail
    refine (CP.out _ S0.out hf).mono ?_
    rintro e w1 ⟨b1, rfl, C1, zb1, hb1⟩
    replace KB := Lib.hid (KB.out.trans (hb1.mono KB.out.size))
    have S1 := Lib.hid (S0.out.below hb1)
    have C1 := Lib.hid C1
    obtain ⟨c0, c1, cz⟩ := CX.out
    replace c0 := (hb1.cell (p := ⟨w.heap.size, 0, none⟩) cz).trans c0
    replace c1 := (hb1.cell (p := ⟨w.heap.size, 1, none⟩) cz).trans c1
    replace cz : w.heap.size < w1.heap.size := Nat.lt_of_lt_of_le cz hb1.size
    clear hb1 zb1 CP CX S0
    go_wp2_with fail
    refine (PA.out _).mono ?_
    clear PA
    rintro e w2 ⟨p2, d2, rfl, r2, k2, hb⟩
    replace KB := Lib.hid (KB.out.trans (hb.mono KB.out.size))
    have S2 := Lib.hid (S1.out.below hb)
    have C2 := Lib.hid (C1.out.below hb)
    have R2 := Lib.hid r2
    have K2 := Lib.hid k2
    replace c0 := (hb.cell (p := ⟨w.heap.size, 0, none⟩) cz).trans c0
    replace c1 := (hb.cell (p := ⟨w.heap.size, 1, none⟩) cz).trans c1
    replace cz : w.heap.size < w2.heap.size := Nat.lt_of_lt_of_le cz hb.size
    clear hb C1 S1 r2 k2
    go_wp2_with fail
    refine (RP.out _).mono ?_
    clear RP
    rintro e w3 ⟨p3, d3, rfl, r3, -, hb⟩
    replace KB := Lib.hid (KB.out.trans (hb.mono KB.out.size))
    have S3 := Lib.hid (S2.out.below hb)
    have C3 := Lib.hid (C2.out.below hb)
    have A3 := Lib.hid (R2.out.below hb)
    have B3 := Lib.hid r3
    clear hb C2 S2 r3 R2 c0 c1 cz
    go_wp2_with fail
    refine (FP.out b1 _ C3.out).mono ?_
    clear FP
    rintro e w4 ⟨V, D, E, FR, rfl, hb⟩
    unfold fracV
    replace KB := Lib.hid (KB.out.trans (hb.mono KB.out.size))
    have S4 := Lib.hid (S3.out.below hb)
    have C4 := Lib.hid (C3.out.below hb)
    have A4 := Lib.hid (A3.out.below hb)
    have B4 := Lib.hid (B3.out.below hb)
    replace FR := Lib.hid FR
    clear hb C3 S3 A3 B3
    go_upto_region 7 with fail
    have hb : Below w4.heap.size w4 (w4.alloc (Obj.cells #[Value.int IntKind.i64 V, Value.int IntKind.i64 D] 23)) := (Below.refl _ _).alloc (Nat.le_refl _) _
    have x0 : (w4.alloc (Obj.cells #[Value.int IntKind.i64 V, Value.int IntKind.i64 D] 23)).cell? ⟨w4.heap.size, 0, none⟩ = some (.int .i64 V) := by simp [go_sem]
    have x1 : (w4.alloc (Obj.cells #[Value.int IntKind.i64 V, Value.int IntKind.i64 D] 23)).cell? ⟨w4.heap.size, 1, none⟩ = some (.int .i64 D) := by simp [go_sem]
    have xz : w4.heap.size < (w4.alloc (Obj.cells #[Value.int IntKind.i64 V, Value.int IntKind.i64 D] 23)).heap.size := by simp
    replace KB := Lib.hid (KB.out.trans (hb.mono KB.out.size))
    have S5 := Lib.hid (S4.out.below hb)
    have C5 := Lib.hid (C4.out.below hb)
    have A5 := Lib.hid (A4.out.below hb)
    have B5 := Lib.hid (B4.out.below hb)
    clear hb C4 S4 A4 B4
    generalize (w4.alloc (Obj.cells #[Value.int IntKind.i64 V, Value.int IntKind.i64 D] 23)) = w5 at *
    generalize w4.heap.size = g1 at *
    go_wp2_with fail
    refine (RF.out _ S5.out hf).mono ?_
    clear RF
    rintro e w6 ⟨V', D', E', FR', rfl, hb⟩
    obtain ⟨rfl, rfl, rfl⟩ := FR.out.uniq FR'
    clear FR FR'
    unfold fracV
    replace KB := Lib.hid (KB.out.trans (hb.mono KB.out.size))
    have S6 := Lib.hid (S5.out.below hb)
    have C6 := Lib.hid (C5.out.below hb)
    have A6 := Lib.hid (A5.out.below hb)
    have B6 := Lib.hid (B5.out.below hb)
    replace x0 := (hb.cell (p := ⟨g1, 0, none⟩) xz).trans x0
    replace x1 := (hb.cell (p := ⟨g1, 1, none⟩) xz).trans x1
    replace xz : g1 < w6.heap.size := Nat.lt_of_lt_of_le xz hb.size
    clear hb C5 S5 A5 B5
    go_upto_region 8 with fail
    have hb : Below w6.heap.size w6 (w6.alloc (Obj.cells #[Value.int IntKind.i64 V, Value.int IntKind.i64 D] 23)) := (Below.refl _ _).alloc (Nat.le_refl _) _
    have y0 : (w6.alloc (Obj.cells #[Value.int IntKind.i64 V, Value.int IntKind.i64 D] 23)).cell? ⟨w6.heap.size, 0, none⟩ = some (.int .i64 V) := by simp [go_sem]
    have y1 : (w6.alloc (Obj.cells #[Value.int IntKind.i64 V, Value.int IntKind.i64 D] 23)).cell? ⟨w6.heap.size, 1, none⟩ = some (.int .i64 D) := by simp [go_sem]
    have yz : w6.heap.size < (w6.alloc (Obj.cells #[Value.int IntKind.i64 V, Value.int IntKind.i64 D] 23)).heap.size := by simp
    replace KB := Lib.hid (KB.out.trans (hb.mono KB.out.size))
    have S7 := Lib.hid (S6.out.below hb)
    have C7 := Lib.hid (C6.out.below hb)
    have A7 := Lib.hid (A6.out.below hb)
    have B7 := Lib.hid (B6.out.below hb)
    replace x0 := (hb.cell (p := ⟨g1, 0, none⟩) xz).trans x0
    replace x1 := (hb.cell (p := ⟨g1, 1, none⟩) xz).trans x1
    replace xz := Nat.lt_of_lt_of_le xz hb.size
    clear hb C6 S6 A6 B6
    generalize (w6.alloc (Obj.cells #[Value.int IntKind.i64 V, Value.int IntKind.i64 D] 23)) = w7 at *
    generalize w6.heap.size = g2 at *
    have SM := Lib.hid (same_big p2 p3 d2 d3 pl w7 A7.out B7.out K2.out)
    go_wp2_with fail
    refine SM.out.mono ?_
    rintro e w8 ⟨rfl, m, rfl⟩
    have hb8 := below_drewN (Below.refl w7.heap.size w7) m
    replace KB := Lib.hid (KB.out.trans (hb8.mono KB.out.size))
    have S8 := Lib.hid (S7.out.below hb8)
    have C8 := Lib.hid (C7.out.below hb8)
    replace x0 := (hb8.cell (p := ⟨g1, 0, none⟩) xz).trans x0
    replace x1 := (hb8.cell (p := ⟨g1, 1, none⟩) xz).trans x1
    replace y0 := (hb8.cell (p := ⟨g2, 0, none⟩) yz).trans y0
    replace y1 := (hb8.cell (p := ⟨g2, 1, none⟩) yz).trans y1
    replace xz := Nat.lt_of_lt_of_le xz hb8.size
    replace yz := Nat.lt_of_lt_of_le yz hb8.size
    clear hb8 SM A7 B7 C7 S7
    generalize w7.drewN m = w8 at *
    go_wp2_with fail
    refine (KP.out b1 _ C8.out S8.out hf).mono ?_
    rintro e w9 ⟨rfl, m, rfl⟩
    have hb9 := below_drewN (Below.refl w8.heap.size w8) m
    replace KB := Lib.hid (KB.out.trans (hb9.mono KB.out.size))
    clear hb9 KP C8 S8 x0 x1 y0 y1 xz yz
    generalize w8.drewN m = w9 at *
    go_wp2_with fail
    refine (alive_any _).mono ?_
    rintro e wq ⟨rfl, hq⟩
    have B9 := Lib.hid (KB.out.trans ((show Below _ _ wq from by first | exact hq | exact ((Below.refl _ _).drew).trans hq | exact (below_drewN (Below.refl _ _) _).trans hq).mono KB.out.size))
    clear hq
    go_wp2_with fail
    go_ret
    exact ⟨rfl, by first | exact B9.out | exact B9.out.drew | exact below_drewN B9.out _⟩
  · rw [show decide (x ≤ 300) = false by simpa using hf]
    go_wp2_with fail
    refine (alive_any _).mono ?_
    rintro e wq ⟨rfl, hq⟩
    have B9 := Lib.hid (KB.out.trans ((show Below _ _ wq from by first | exact hq | exact ((Below.refl _ _).drew).trans hq | exact (below_drewN (Below.refl _ _) _).trans hq).mono KB.out.size))
    clear hq
    go_wp2_with fail
    go_ret
    exact ⟨rfl, by first | exact B9.out | exact B9.out.drew | exact below_drewN B9.out _⟩
end Go.Proofs.YtblaakjldpcjlaaDoor.numPaths
