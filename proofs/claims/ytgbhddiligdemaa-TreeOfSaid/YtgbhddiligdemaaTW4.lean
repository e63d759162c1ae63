/- The reference's Put. -/
import Derived.Test.YtgbhddiligdemaaTW3
namespace Go.Proofs.Ytgbhddiligdemaa
open Go.RowKit
set_option linter.unusedVariables false
set_option linter.unusedSimpArgs false
open Mii (rowsV rowsV_snoc)

theorem putF_drop (k v : Int) {L : List (Int × Int)} {i : Nat} (h : i < L.length) (b : Bool) : putF k v (L.drop i) b = (if b = false ∧ k ≤ kd L i then [(k, v)] else []) ++ ((if kd L i = k then [] else [(kd L i, vd L i)]) ++ putF k v (L.drop (i + 1)) (b || decide (k ≤ kd L i))) := by
  rw [List.drop_eq_getElem_cons h, ← kvd h]; rfl

set_option maxRecDepth 100000 in
set_option maxHeartbeats 4000000 in
theorem rPut_any (p : Option Addr) (c : Nat) (L : List (Int × Int)) (k v : Int) (w : World) (r : RowsR w p L) (ln : L.length ≤ 1000000) :
    Calls Try.prog 87 #[.slice p L.length c, .int .i64 k, .int .i64 v] w (RowsRes w (putF k v L false)) := by
  obtain ⟨i0, hi, hz0, hz1, hz2⟩ := info_parts info_row
  have R := Lib.hid r
  obtain ⟨x, hx⟩ : ∃ x, x = L.length := ⟨_, rfl⟩
  rw [← hx] at ln ⊢
  have HX := Lib.hid hx
  clear hx r
  go_enter Try.func87, Try.ntmps87
  go_wp2_with fail
  go_loopw [7, 8, 9] (fun ov bv kv wr => ∃ (i m : Nat) (M : List (Int × Int)) (b : Bool), i ≤ x ∧ m ≤ i * 2 ∧ bv = .bool b ∧ kv = .int .i64 i ∧ Hid (M ++ putF k v (L.drop i) b = putF k v L false) ∧ Hid (m = M.length) ∧ wr.ownsRow w.heap.size 39 2 ov m (rowsV M) ∧ Below w.heap.size w wr) (fun _ _ kv _ => x - (intOf kv).toNat)
  case atStart => exact ⟨0, 0, [], false, Nat.zero_le _, Nat.zero_le _, rfl, rfl, Lib.hid rfl, Lib.hid rfl, World.ownsRow_nil _ _ _ _, Below.refl _ _⟩
  case round =>
    obtain ⟨i, m, M, b, hi', hm, rfl, rfl, HM, hl, hown, hbel⟩ := hrel
    by_cases t1 : i < x
    · have l1 : i < L.length := by have := HX.out; omega
      obtain ⟨xa, rfl, kx, cx0, dx0⟩ := R.out i l1
      have cx : wr.cell? (xa.add (i * 2)) = some (.int .i64 (kd L i)) := (hbel.cell (by rw [adb]; exact kx)).trans cx0
      have dx : wr.cell? ⟨(xa.add (i * 2)).block, (xa.add (i * 2)).off + 1, none⟩ = some (.int .i64 (vd L i)) := (hbel.cell (p := ⟨(xa.add (i * 2)).block, (xa.add (i * 2)).off + 1, none⟩) (by rw [adb]; exact kx)).trans dx0
      have i1 : (0 : Int) ≤ (i : Int) := by omega
      have i2 : (i : Int) < (x : Int) := by omega
      have P := Lib.hid (fun b => putF_drop k v l1 b)
      generalize kd L i = q at *
      generalize vd L i = y at *
      cases b with
      | true =>
        have F := Lib.hid (show M ++ putF k v (L.drop i) true = putF k v L false from HM.out)
        clear HM
        by_cases t2 : q = k
        · have G := Lib.hid (show M ++ putF k v (L.drop (i + 1)) true = putF k v L false from by have := F.out; rw [P.out] at this; simpa [t2] using this)
          clear F P
          go_wp2_with fail
          go_roundw
          case rel => exact ⟨i + 1, m, _, true, by omega, by omega, rfl, by go_num, G, hl, hown, hbel⟩
          case measure => simp [intOf]; omega
        · have G := Lib.hid (show (M ++ [(q, y)]) ++ putF k v (L.drop (i + 1)) true = putF k v L false from by have := F.out; rw [P.out] at this; simpa [t2] using this)
          clear F P
          go_wp2_with (first
            | (at_builtin; refine wpList_append_own _ rfl _ _ 36 rfl w.heap.size 39 i0 (.agg #[.int .i64 0, .int .i64 0]) 2 16 Try.underlying36 hi hz0 hz1 hz2 rfl (by decide) _ _ _ rfl (hown.alloc _) ⟨wr.heap.size, 0, none⟩ 1 1 [.int .i64 q, .int .i64 y] rfl rfl (cellsRow _ _ _) (rowOnes _ _) (by unfold maxLen; omega) (by omega) (by have := hbel.size; simp; omega) ?_))
          intro v' w1 hown' hgrow _
          obtain ⟨RO, RB⟩ := RowsO.snoc hbel (show RowsO w M wr _ from by have e := hl.out; subst e; exact hown) (by have e := hl.out; subst e; exact hown') hgrow
          clear hown' hgrow hown hbel
          go_wp2_with fail
          go_roundw
          case rel => exact ⟨i + 1, m + 1, _, true, by omega, by omega, rfl, by go_num, G, Lib.hid (by have := hl.out; simp; omega), (by have := hl.out; unfold RowsO at RO; rw [show (M ++ [(q, y)]).length = m + 1 by simp; omega] at RO; exact RO), RB⟩
          case measure => simp [intOf]; omega
      | false =>
        have F := Lib.hid (show M ++ putF k v (L.drop i) false = putF k v L false from HM.out)
        clear HM
        by_cases t3 : k ≤ q
        · by_cases t2 : q = k
          · have G := Lib.hid (show (M ++ [(k, v)]) ++ putF k v (L.drop (i + 1)) true = putF k v L false from by have := F.out; rw [P.out] at this; simpa [t2, t3] using this)
            clear F P
            go_wp2_with (first
              | (at_builtin; refine wpList_append_own _ rfl _ _ 36 rfl w.heap.size 39 i0 (.agg #[.int .i64 0, .int .i64 0]) 2 16 Try.underlying36 hi hz0 hz1 hz2 rfl (by decide) _ _ _ rfl (hown.alloc _) ⟨wr.heap.size, 0, none⟩ 1 1 [.int .i64 k, .int .i64 v] rfl rfl (cellsRow _ _ _) (rowOnes _ _) (by unfold maxLen; omega) (by omega) (by have := hbel.size; simp; omega) ?_))
            intro v' w1 hown' hgrow _
            obtain ⟨RO, RB⟩ := RowsO.snoc hbel (show RowsO w M wr _ from by have e := hl.out; subst e; exact hown) (by have e := hl.out; subst e; exact hown') hgrow
            clear hown' hgrow hown hbel
            have cx1 : w1.cell? (xa.add (i * 2)) = some (.int .i64 q) := (RB.cell (by rw [adb]; exact kx)).trans cx0
            clear cx dx
            go_wp2_with fail
            go_roundw
            case rel => exact ⟨i + 1, m + 1, _, true, by omega, by omega, rfl, by go_num, G, Lib.hid (by have := hl.out; simp; omega), (by have := hl.out; unfold RowsO at RO; rw [show (M ++ [(k, v)]).length = m + 1 by simp; omega] at RO; exact RO), RB⟩
            case measure => simp [intOf]; omega
          · have G := Lib.hid (show ((M ++ [(k, v)]) ++ [(q, y)]) ++ putF k v (L.drop (i + 1)) true = putF k v L false from by have := F.out; rw [P.out] at this; simpa [t2, t3] using this)
            clear F P
            go_wp2_with (first
              | (at_builtin; refine wpList_append_own _ rfl _ _ 36 rfl w.heap.size 39 i0 (.agg #[.int .i64 0, .int .i64 0]) 2 16 Try.underlying36 hi hz0 hz1 hz2 rfl (by decide) _ _ _ rfl (hown.alloc _) ⟨wr.heap.size, 0, none⟩ 1 1 [.int .i64 k, .int .i64 v] rfl rfl (cellsRow _ _ _) (rowOnes _ _) (by unfold maxLen; omega) (by omega) (by have := hbel.size; simp; omega) ?_))
            intro v' w1 hown' hgrow _
            obtain ⟨RO, RB⟩ := RowsO.snoc hbel (show RowsO w M wr _ from by have e := hl.out; subst e; exact hown) (by have e := hl.out; subst e; exact hown') hgrow
            clear hown' hgrow hown hbel
            have cx1 : w1.cell? (xa.add (i * 2)) = some (.int .i64 q) := (RB.cell (by rw [adb]; exact kx)).trans cx0
            have dx1 : w1.cell? ⟨(xa.add (i * 2)).block, (xa.add (i * 2)).off + 1, none⟩ = some (.int .i64 y) := (RB.cell (p := ⟨(xa.add (i * 2)).block, (xa.add (i * 2)).off + 1, none⟩) (by rw [adb]; exact kx)).trans dx0
            have ROx := RO
            unfold RowsO at ROx
            rw [show (M ++ [(k, v)]).length = m + 1 by have := hl.out; simp; omega] at ROx
            clear cx dx
            go_wp2_with (first
              | (at_builtin; refine wpList_append_own _ rfl _ _ 36 rfl w.heap.size 39 i0 (.agg #[.int .i64 0, .int .i64 0]) 2 16 Try.underlying36 hi hz0 hz1 hz2 rfl (by decide) _ _ _ rfl (ROx.alloc _) ⟨w1.heap.size, 0, none⟩ 1 1 [.int .i64 q, .int .i64 y] rfl rfl (cellsRow _ _ _) (rowOnes _ _) (by unfold maxLen; omega) (by omega) (by have := RB.size; simp; omega) ?_))
            intro v2 w2 hown' hgrow _
            obtain ⟨RO2, RB2⟩ := RowsO.snoc RB (show RowsO w (M ++ [(k, v)]) w1 _ from RO) (by have e := hl.out; subst e; simpa using hown') hgrow
            clear hown' hgrow RO RB
            go_wp2_with fail
            go_roundw
            case rel => exact ⟨i + 1, m + 2, _, true, by omega, by omega, rfl, by go_num, G, Lib.hid (by have := hl.out; simp; omega), (by have := hl.out; unfold RowsO at RO2; rw [show ((M ++ [(k, v)]) ++ [(q, y)]).length = m + 2 by simp; omega] at RO2; exact RO2), RB2⟩
            case measure => simp [intOf]; omega
        · have t2 : ¬ q = k := by omega
          have G := Lib.hid (show (M ++ [(q, y)]) ++ putF k v (L.drop (i + 1)) false = putF k v L false from by have := F.out; rw [P.out] at this; simpa [t2, t3] using this)
          clear F P
          go_wp2_with (first
            | (at_builtin; refine wpList_append_own _ rfl _ _ 36 rfl w.heap.size 39 i0 (.agg #[.int .i64 0, .int .i64 0]) 2 16 Try.underlying36 hi hz0 hz1 hz2 rfl (by decide) _ _ _ rfl (hown.alloc _) ⟨wr.heap.size, 0, none⟩ 1 1 [.int .i64 q, .int .i64 y] rfl rfl (cellsRow _ _ _) (rowOnes _ _) (by unfold maxLen; omega) (by omega) (by have := hbel.size; simp; omega) ?_))
          intro v' w1 hown' hgrow _
          obtain ⟨RO, RB⟩ := RowsO.snoc hbel (show RowsO w M wr _ from by have e := hl.out; subst e; exact hown) (by have e := hl.out; subst e; exact hown') hgrow
          clear hown' hgrow hown hbel
          go_wp2_with fail
          go_roundw
          case rel => exact ⟨i + 1, m + 1, _, false, by omega, by omega, rfl, by go_num, G, Lib.hid (by have := hl.out; simp; omega), (by have := hl.out; unfold RowsO at RO; rw [show (M ++ [(q, y)]).length = m + 1 by simp; omega] at RO; exact RO), RB⟩
          case measure => simp [intOf]; omega
    · have F : M ++ putF k v [] b = putF k v L false := by have := HM.out; rwa [List.drop_of_length_le (by have := HX.out; omega)] at this
      have LL := hl.out
      cases b with
      | true =>
        have F2 : M = putF k v L false := by simpa [putF] using F
        subst LL
        clear F HM
        go_wp2_with fail
        go_ret
        exact ⟨_, rfl, F2 ▸ hown, hbel⟩
      | false =>
        have G : M ++ [(k, v)] = putF k v L false := by simpa [putF] using F
        clear F HM
        go_wp2_with (first
          | (at_builtin; refine wpList_append_own _ rfl _ _ 36 rfl w.heap.size 39 i0 (.agg #[.int .i64 0, .int .i64 0]) 2 16 Try.underlying36 hi hz0 hz1 hz2 rfl (by decide) _ _ _ rfl (hown.alloc _) ⟨wr.heap.size, 0, none⟩ 1 1 [.int .i64 k, .int .i64 v] rfl rfl (cellsRow _ _ _) (rowOnes _ _) (by unfold maxLen; omega) (by omega) (by have := hbel.size; simp; omega) ?_))
        intro v' w1 hown' hgrow _
        obtain ⟨RO, RB⟩ := RowsO.snoc hbel (show RowsO w M wr _ from by have e := hl.out; subst e; exact hown) (by have e := hl.out; subst e; exact hown') hgrow
        clear hown' hgrow hown hbel
        go_wp2_with fail
        go_ret
        exact ⟨_, rfl, G ▸ RO, RB⟩
end Go.Proofs.Ytgbhddiligdemaa
