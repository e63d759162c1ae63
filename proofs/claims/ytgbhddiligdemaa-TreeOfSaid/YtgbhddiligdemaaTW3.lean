/- The reference's filters: Delete, Below, Above, Range, Intersect, Subtract. -/
import Derived.Test.YtgbhddiligdemaaTW2
namespace Go.Proofs.Ytgbhddiligdemaa
open Go.RowKit
set_option linter.unusedVariables false
set_option linter.unusedSimpArgs false
open Mii (rowsV rowsV_snoc)

theorem info_row : (Try.prog.info? 39).map (fun i => (i.zero, i.size, i.bytes)) = some (some (.agg #[.int .i64 0, .int .i64 0]), 2, 16) := by kernel_rfl
/-- A list of rows in memory of its own. -/
def RowsO (w : World) (M : List (Int × Int)) (W : World) (v : Value) : Prop := W.ownsRow w.heap.size 39 2 v M.length (rowsV M)
def RowsRes (w : World) (M : List (Int × Int)) (e : Ending) (w' : World) : Prop := ∃ v, e = .returned v ∧ RowsO w M w' v ∧ Below w.heap.size w w'
theorem rowsV_length (M : List (Int × Int)) : (rowsV M).length = M.length * 2 := by induction M with
  | nil => rfl
  | cons x M ih => simp [rowsV] at *; omega
theorem cellsRow (w : World) (x y : Int) : ∀ j u, [Value.int .i64 x, .int .i64 y][j]? = some u → (w.alloc (.cells #[.int .i64 x, .int .i64 y] 39)).cell? ((⟨w.heap.size, 0, none⟩ : Addr).add j) = some u := Mii.cellsTwo w _ _ _
theorem rowOnes (x y : Int) : ∀ u ∈ [Value.int .i64 x, .int .i64 y], u.oneCell' = true := by intro u hu; simp at hu; rcases hu with rfl | rfl <;> rfl
/-- What the append law says, put together. -/
theorem RowsO.snoc {w W w1 : World} {M : List (Int × Int)} {v v' : Value} {x y : Int} {tmp : Obj} (bel : Below w.heap.size w W) (h : RowsO w M W v) (hown' : w1.ownsRow w.heap.size 39 2 v' (M.length + 1) (rowsV M ++ [.int .i64 x, .int .i64 y])) (hg : (W.alloc tmp).grownBy w1 v.ownBlock) :
    RowsO w (M ++ [(x, y)]) w1 v' ∧ Below w.heap.size w w1 := by
  refine ⟨by unfold RowsO; rw [rowsV_snoc]; simpa using hown', (bel.alloc bel.size tmp).grown hg (by have := bel.size; simp; omega) fun k ek => ?_⟩
  exact (World.ownsRow.lt h k ek).1
theorem filL_take_succ {p : Int → Bool} {L : List (Int × Int)} {i : Nat} (h : i < L.length) : filL p (L.take (i + 1)) = filL p (L.take i) ++ if p (kd L i) then [(kd L i, vd L i)] else [] := by
  rw [List.take_succ_eq_append_getElem h, filL_snoc, ← kvd h]
def pNe (k q : Int) : Bool := decide (q ≠ k)
def pLt (k q : Int) : Bool := decide (q < k)
def pGt (k q : Int) : Bool := decide (k < q)
def pRng (a b q : Int) : Bool := decide (a ≤ q ∧ q < b)
def pIn (A : List (Int × Int)) (q : Int) : Bool := (val A q).isSome
def pOut (A : List (Int × Int)) (q : Int) : Bool := (val A q).isNone
theorem fil_len {p : Int → Bool} {L : List (Int × Int)} (i : Nat) : (filL p (L.take i)).length ≤ i := Nat.le_trans (filL_length _ _) (by simp; omega)

set_option maxRecDepth 100000 in
set_option maxHeartbeats 2000000 in
theorem rDelete_any (p : Option Addr) (c : Nat) (L : List (Int × Int)) (k : Int) (w : World) (r : RowsR w p L)  (ln : L.length ≤ 1000000) :
    Calls Try.prog 80 #[.slice p L.length c, .int .i64 k] w (RowsRes w (filL (pNe k) L)) := by
  obtain ⟨i0, hi, hz0, hz1, hz2⟩ := info_parts info_row
  have R := Lib.hid r
  obtain ⟨x, hx⟩ : ∃ x, x = L.length := ⟨_, rfl⟩
  rw [← hx] at ln ⊢
  have HX := Lib.hid hx
  clear hx r
  go_enter Try.func80, Try.ntmps80
  go_wp2_with fail
  go_loopw [5, 6] (fun ov kv wr => ∃ (i m : Nat) (M : List (Int × Int)), i ≤ x ∧ m ≤ i ∧ kv = .int .i64 i ∧ Hid (M = filL (pNe k) (L.take i)) ∧ Hid (m = M.length) ∧ wr.ownsRow w.heap.size 39 2 ov m (rowsV M) ∧ Below w.heap.size w wr) (fun _ kv _ => x - (intOf kv).toNat)
  case atStart => exact ⟨0, 0, [], Nat.zero_le _, Nat.le_refl _, rfl, Lib.hid rfl, Lib.hid rfl, World.ownsRow_nil _ _ _ _, Below.refl _ _⟩
  case round =>
    obtain ⟨i, m, M, hi', hm, rfl, hM, hl, hown, hbel⟩ := hrel
    by_cases t1 : i < x
    · have l1 : i < L.length := by have := HX.out; omega
      obtain ⟨xa, rfl, kx, cx0, dx0⟩ := R.out i l1
      have cx : wr.cell? (xa.add (i * 2)) = some (.int .i64 (kd L i)) := (hbel.cell (by rw [adb]; exact kx)).trans cx0
      have dx : wr.cell? ⟨(xa.add (i * 2)).block, (xa.add (i * 2)).off + 1, none⟩ = some (.int .i64 (vd L i)) := (hbel.cell (p := ⟨(xa.add (i * 2)).block, (xa.add (i * 2)).off + 1, none⟩) (by rw [adb]; exact kx)).trans dx0
      have i1 : (0 : Int) ≤ (i : Int) := by omega
      have i2 : (i : Int) < (x : Int) := by omega
      have F := Lib.hid (fun b (e : (pNe k) (kd L i) = b) => (by rw [filL_take_succ l1, e, ← hM.out] : filL (pNe k) (L.take (i + 1)) = M ++ if b = true then [(kd L i, vd L i)] else []))
      have hbs : ∀ o, w.heap.size ≤ (wr.alloc o).heap.size := fun o => by have := hbel.size; simp; omega
      have BL := Lib.hid hbel
      have OW := Lib.hid hown
      have ST := Lib.hid (fun v' w1 (ho : w1.ownsRow w.heap.size 39 2 v' (m + 1) (rowsV M ++ [.int .i64 (kd L i), .int .i64 (vd L i)])) (hg : (wr.alloc (.cells #[.int .i64 (kd L i), .int .i64 (vd L i)] 39)).grownBy w1 (u5).ownBlock) =>
        (by have e := hl.out; subst e; exact RowsO.snoc hbel hown ho hg : RowsO w (M ++ [(kd L i, vd L i)]) w1 v' ∧ Below w.heap.size w w1))
      clear cx0 dx0 hM
      generalize kd L i = v at *
      generalize vd L i = y at *
      by_cases t2 : v = k
      · have G := Lib.hid (show M = _ from by have := F.out false (by unfold pNe; simpa using t2); simpa using this.symm)
        clear F
        clear ST hbs
        go_wp2_with fail
        go_roundw
        case rel => exact ⟨i + 1, m, M, by omega, by omega, by go_num, G, hl, OW.out, BL.out⟩
        case measure => simp [intOf]; omega
      · have G := Lib.hid (show M ++ [(v, y)] = _ from (F.out true (by unfold pNe; simpa using t2)).symm)
        clear F
        go_wp2_with (first
          | (at_builtin; refine wpList_append_own _ rfl _ _ 36 rfl w.heap.size 39 i0 (.agg #[.int .i64 0, .int .i64 0]) 2 16 Try.underlying36 hi hz0 hz1 hz2 rfl (by decide) _ _ _ rfl (hown.alloc _) ⟨wr.heap.size, 0, none⟩ 1 1 [.int .i64 v, .int .i64 y] rfl rfl (cellsRow _ _ _) (rowOnes _ _) (by unfold maxLen; omega) (by omega) (hbs _) ?_))
        intro v' w1 hown' hgrow _
        obtain ⟨RO, RB⟩ := ST.out v' w1 hown' hgrow
        clear hown' hgrow hown hbel ST hbs OW BL
        go_wp2_with fail
        go_roundw
        case rel => exact ⟨i + 1, m + 1, _, by omega, by omega, by go_num, G, Lib.hid (by have := hl.out; simp; omega), (by have := hl.out; unfold RowsO at RO; rw [show (M ++ [(v, y)]).length = m + 1 by simp; omega] at RO; exact RO), RB⟩
        case measure => simp [intOf]; omega
    · have F : M = filL (pNe k) L := by have := hM.out; rwa [List.take_of_length_le (by have := HX.out; omega)] at this
      have LL := hl.out
      subst LL
      subst F
      go_wp2_with fail
      go_ret
      exact ⟨_, rfl, hown, hbel⟩

set_option maxRecDepth 100000 in
set_option maxHeartbeats 2000000 in
theorem rBelow_any (p : Option Addr) (c : Nat) (L : List (Int × Int)) (k : Int) (w : World) (r : RowsR w p L)  (ln : L.length ≤ 1000000) :
    Calls Try.prog 81 #[.slice p L.length c, .int .i64 k] w (RowsRes w (filL (pLt k) L)) := by
  obtain ⟨i0, hi, hz0, hz1, hz2⟩ := info_parts info_row
  have R := Lib.hid r
  obtain ⟨x, hx⟩ : ∃ x, x = L.length := ⟨_, rfl⟩
  rw [← hx] at ln ⊢
  have HX := Lib.hid hx
  clear hx r
  go_enter Try.func81, Try.ntmps81
  go_wp2_with fail
  go_loopw [5, 6] (fun ov kv wr => ∃ (i m : Nat) (M : List (Int × Int)), i ≤ x ∧ m ≤ i ∧ kv = .int .i64 i ∧ Hid (M = filL (pLt k) (L.take i)) ∧ Hid (m = M.length) ∧ wr.ownsRow w.heap.size 39 2 ov m (rowsV M) ∧ Below w.heap.size w wr) (fun _ kv _ => x - (intOf kv).toNat)
  case atStart => exact ⟨0, 0, [], Nat.zero_le _, Nat.le_refl _, rfl, Lib.hid rfl, Lib.hid rfl, World.ownsRow_nil _ _ _ _, Below.refl _ _⟩
  case round =>
    obtain ⟨i, m, M, hi', hm, rfl, hM, hl, hown, hbel⟩ := hrel
    by_cases t1 : i < x
    · have l1 : i < L.length := by have := HX.out; omega
      obtain ⟨xa, rfl, kx, cx0, dx0⟩ := R.out i l1
      have cx : wr.cell? (xa.add (i * 2)) = some (.int .i64 (kd L i)) := (hbel.cell (by rw [adb]; exact kx)).trans cx0
      have dx : wr.cell? ⟨(xa.add (i * 2)).block, (xa.add (i * 2)).off + 1, none⟩ = some (.int .i64 (vd L i)) := (hbel.cell (p := ⟨(xa.add (i * 2)).block, (xa.add (i * 2)).off + 1, none⟩) (by rw [adb]; exact kx)).trans dx0
      have i1 : (0 : Int) ≤ (i : Int) := by omega
      have i2 : (i : Int) < (x : Int) := by omega
      have F := Lib.hid (fun b (e : (pLt k) (kd L i) = b) => (by rw [filL_take_succ l1, e, ← hM.out] : filL (pLt k) (L.take (i + 1)) = M ++ if b = true then [(kd L i, vd L i)] else []))
      have hbs : ∀ o, w.heap.size ≤ (wr.alloc o).heap.size := fun o => by have := hbel.size; simp; omega
      have BL := Lib.hid hbel
      have OW := Lib.hid hown
      have ST := Lib.hid (fun v' w1 (ho : w1.ownsRow w.heap.size 39 2 v' (m + 1) (rowsV M ++ [.int .i64 (kd L i), .int .i64 (vd L i)])) (hg : (wr.alloc (.cells #[.int .i64 (kd L i), .int .i64 (vd L i)] 39)).grownBy w1 (u5).ownBlock) =>
        (by have e := hl.out; subst e; exact RowsO.snoc hbel hown ho hg : RowsO w (M ++ [(kd L i, vd L i)]) w1 v' ∧ Below w.heap.size w w1))
      clear cx0 dx0 hM
      generalize kd L i = v at *
      generalize vd L i = y at *
      by_cases t2 : v < k
      · have G := Lib.hid (show M ++ [(v, y)] = _ from (F.out true (by unfold pLt; simpa using t2)).symm)
        clear F
        go_wp2_with (first
          | (at_builtin; refine wpList_append_own _ rfl _ _ 36 rfl w.heap.size 39 i0 (.agg #[.int .i64 0, .int .i64 0]) 2 16 Try.underlying36 hi hz0 hz1 hz2 rfl (by decide) _ _ _ rfl (hown.alloc _) ⟨wr.heap.size, 0, none⟩ 1 1 [.int .i64 v, .int .i64 y] rfl rfl (cellsRow _ _ _) (rowOnes _ _) (by unfold maxLen; omega) (by omega) (hbs _) ?_))
        intro v' w1 hown' hgrow _
        obtain ⟨RO, RB⟩ := ST.out v' w1 hown' hgrow
        clear hown' hgrow hown hbel ST hbs OW BL
        go_wp2_with fail
        go_roundw
        case rel => exact ⟨i + 1, m + 1, _, by omega, by omega, by go_num, G, Lib.hid (by have := hl.out; simp; omega), (by have := hl.out; unfold RowsO at RO; rw [show (M ++ [(v, y)]).length = m + 1 by simp; omega] at RO; exact RO), RB⟩
        case measure => simp [intOf]; omega
      · have G := Lib.hid (show M = _ from by have := F.out false (by unfold pLt; simpa using t2); simpa using this.symm)
        clear F
        clear ST hbs
        go_wp2_with fail
        go_roundw
        case rel => exact ⟨i + 1, m, M, by omega, by omega, by go_num, G, hl, OW.out, BL.out⟩
        case measure => simp [intOf]; omega
    · have F : M = filL (pLt k) L := by have := hM.out; rwa [List.take_of_length_le (by have := HX.out; omega)] at this
      have LL := hl.out
      subst LL
      subst F
      go_wp2_with fail
      go_ret
      exact ⟨_, rfl, hown, hbel⟩

set_option maxRecDepth 100000 in
set_option maxHeartbeats 2000000 in
theorem rAbove_any (p : Option Addr) (c : Nat) (L : List (Int × Int)) (k : Int) (w : World) (r : RowsR w p L)  (ln : L.length ≤ 1000000) :
    Calls Try.prog 82 #[.slice p L.length c, .int .i64 k] w (RowsRes w (filL (pGt k) L)) := by
  obtain ⟨i0, hi, hz0, hz1, hz2⟩ := info_parts info_row
  have R := Lib.hid r
  obtain ⟨x, hx⟩ : ∃ x, x = L.length := ⟨_, rfl⟩
  rw [← hx] at ln ⊢
  have HX := Lib.hid hx
  clear hx r
  go_enter Try.func82, Try.ntmps82
  go_wp2_with fail
  go_loopw [5, 6] (fun ov kv wr => ∃ (i m : Nat) (M : List (Int × Int)), i ≤ x ∧ m ≤ i ∧ kv = .int .i64 i ∧ Hid (M = filL (pGt k) (L.take i)) ∧ Hid (m = M.length) ∧ wr.ownsRow w.heap.size 39 2 ov m (rowsV M) ∧ Below w.heap.size w wr) (fun _ kv _ => x - (intOf kv).toNat)
  case atStart => exact ⟨0, 0, [], Nat.zero_le _, Nat.le_refl _, rfl, Lib.hid rfl, Lib.hid rfl, World.ownsRow_nil _ _ _ _, Below.refl _ _⟩
  case round =>
    obtain ⟨i, m, M, hi', hm, rfl, hM, hl, hown, hbel⟩ := hrel
    by_cases t1 : i < x
    · have l1 : i < L.length := by have := HX.out; omega
      obtain ⟨xa, rfl, kx, cx0, dx0⟩ := R.out i l1
      have cx : wr.cell? (xa.add (i * 2)) = some (.int .i64 (kd L i)) := (hbel.cell (by rw [adb]; exact kx)).trans cx0
      have dx : wr.cell? ⟨(xa.add (i * 2)).block, (xa.add (i * 2)).off + 1, none⟩ = some (.int .i64 (vd L i)) := (hbel.cell (p := ⟨(xa.add (i * 2)).block, (xa.add (i * 2)).off + 1, none⟩) (by rw [adb]; exact kx)).trans dx0
      have i1 : (0 : Int) ≤ (i : Int) := by omega
      have i2 : (i : Int) < (x : Int) := by omega
      have F := Lib.hid (fun b (e : (pGt k) (kd L i) = b) => (by rw [filL_take_succ l1, e, ← hM.out] : filL (pGt k) (L.take (i + 1)) = M ++ if b = true then [(kd L i, vd L i)] else []))
      have hbs : ∀ o, w.heap.size ≤ (wr.alloc o).heap.size := fun o => by have := hbel.size; simp; omega
      have BL := Lib.hid hbel
      have OW := Lib.hid hown
      have ST := Lib.hid (fun v' w1 (ho : w1.ownsRow w.heap.size 39 2 v' (m + 1) (rowsV M ++ [.int .i64 (kd L i), .int .i64 (vd L i)])) (hg : (wr.alloc (.cells #[.int .i64 (kd L i), .int .i64 (vd L i)] 39)).grownBy w1 (u5).ownBlock) =>
        (by have e := hl.out; subst e; exact RowsO.snoc hbel hown ho hg : RowsO w (M ++ [(kd L i, vd L i)]) w1 v' ∧ Below w.heap.size w w1))
      clear cx0 dx0 hM
      generalize kd L i = v at *
      generalize vd L i = y at *
      by_cases t2 : k < v
      · have G := Lib.hid (show M ++ [(v, y)] = _ from (F.out true (by unfold pGt; simpa using t2)).symm)
        clear F
        go_wp2_with (first
          | (at_builtin; refine wpList_append_own _ rfl _ _ 36 rfl w.heap.size 39 i0 (.agg #[.int .i64 0, .int .i64 0]) 2 16 Try.underlying36 hi hz0 hz1 hz2 rfl (by decide) _ _ _ rfl (hown.alloc _) ⟨wr.heap.size, 0, none⟩ 1 1 [.int .i64 v, .int .i64 y] rfl rfl (cellsRow _ _ _) (rowOnes _ _) (by unfold maxLen; omega) (by omega) (hbs _) ?_))
        intro v' w1 hown' hgrow _
        obtain ⟨RO, RB⟩ := ST.out v' w1 hown' hgrow
        clear hown' hgrow hown hbel ST hbs OW BL
        go_wp2_with fail
        go_roundw
        case rel => exact ⟨i + 1, m + 1, _, by omega, by omega, by go_num, G, Lib.hid (by have := hl.out; simp; omega), (by have := hl.out; unfold RowsO at RO; rw [show (M ++ [(v, y)]).length = m + 1 by simp; omega] at RO; exact RO), RB⟩
        case measure => simp [intOf]; omega
      · have G := Lib.hid (show M = _ from by have := F.out false (by unfold pGt; simpa using t2); simpa using this.symm)
        clear F
        clear ST hbs
        go_wp2_with fail
        go_roundw
        case rel => exact ⟨i + 1, m, M, by omega, by omega, by go_num, G, hl, OW.out, BL.out⟩
        case measure => simp [intOf]; omega
    · have F : M = filL (pGt k) L := by have := hM.out; rwa [List.take_of_length_le (by have := HX.out; omega)] at this
      have LL := hl.out
      subst LL
      subst F
      go_wp2_with fail
      go_ret
      exact ⟨_, rfl, hown, hbel⟩

set_option maxRecDepth 100000 in
set_option maxHeartbeats 2000000 in
theorem rRange_any (p : Option Addr) (c : Nat) (L : List (Int × Int)) (x1 x2 : Int) (w : World) (r : RowsR w p L)  (ln : L.length ≤ 1000000) :
    Calls Try.prog 83 #[.slice p L.length c, .int .i64 x1, .int .i64 x2] w (RowsRes w (filL (pRng x1 x2) L)) := by
  obtain ⟨i0, hi, hz0, hz1, hz2⟩ := info_parts info_row
  have R := Lib.hid r
  obtain ⟨x, hx⟩ : ∃ x, x = L.length := ⟨_, rfl⟩
  rw [← hx] at ln ⊢
  have HX := Lib.hid hx
  clear hx r
  go_enter Try.func83, Try.ntmps83
  go_wp2_with fail
  go_loopw [7, 8] (fun ov kv wr => ∃ (i m : Nat) (M : List (Int × Int)), i ≤ x ∧ m ≤ i ∧ kv = .int .i64 i ∧ Hid (M = filL (pRng x1 x2) (L.take i)) ∧ Hid (m = M.length) ∧ wr.ownsRow w.heap.size 39 2 ov m (rowsV M) ∧ Below w.heap.size w wr) (fun _ kv _ => x - (intOf kv).toNat)
  case atStart => exact ⟨0, 0, [], Nat.zero_le _, Nat.le_refl _, rfl, Lib.hid rfl, Lib.hid rfl, World.ownsRow_nil _ _ _ _, Below.refl _ _⟩
  case round =>
    obtain ⟨i, m, M, hi', hm, rfl, hM, hl, hown, hbel⟩ := hrel
    by_cases t1 : i < x
    · have l1 : i < L.length := by have := HX.out; omega
      obtain ⟨xa, rfl, kx, cx0, dx0⟩ := R.out i l1
      have cx : wr.cell? (xa.add (i * 2)) = some (.int .i64 (kd L i)) := (hbel.cell (by rw [adb]; exact kx)).trans cx0
      have dx : wr.cell? ⟨(xa.add (i * 2)).block, (xa.add (i * 2)).off + 1, none⟩ = some (.int .i64 (vd L i)) := (hbel.cell (p := ⟨(xa.add (i * 2)).block, (xa.add (i * 2)).off + 1, none⟩) (by rw [adb]; exact kx)).trans dx0
      have i1 : (0 : Int) ≤ (i : Int) := by omega
      have i2 : (i : Int) < (x : Int) := by omega
      have F := Lib.hid (fun b (e : (pRng x1 x2) (kd L i) = b) => (by rw [filL_take_succ l1, e, ← hM.out] : filL (pRng x1 x2) (L.take (i + 1)) = M ++ if b = true then [(kd L i, vd L i)] else []))
      have hbs : ∀ o, w.heap.size ≤ (wr.alloc o).heap.size := fun o => by have := hbel.size; simp; omega
      have BL := Lib.hid hbel
      have OW := Lib.hid hown
      have ST := Lib.hid (fun v' w1 (ho : w1.ownsRow w.heap.size 39 2 v' (m + 1) (rowsV M ++ [.int .i64 (kd L i), .int .i64 (vd L i)])) (hg : (wr.alloc (.cells #[.int .i64 (kd L i), .int .i64 (vd L i)] 39)).grownBy w1 (u7).ownBlock) =>
        (by have e := hl.out; subst e; exact RowsO.snoc hbel hown ho hg : RowsO w (M ++ [(kd L i, vd L i)]) w1 v' ∧ Below w.heap.size w w1))
      clear cx0 dx0 hM
      generalize kd L i = v at *
      generalize vd L i = y at *
      by_cases t2 : x1 ≤ v
      · by_cases t3 : v < x2
        · have G := Lib.hid (show M ++ [(v, y)] = _ from (F.out true (by unfold pRng; simp; exact ⟨t2, t3⟩)).symm)
          clear F
          go_wp2_with (first
            | (at_builtin; refine wpList_append_own _ rfl _ _ 36 rfl w.heap.size 39 i0 (.agg #[.int .i64 0, .int .i64 0]) 2 16 Try.underlying36 hi hz0 hz1 hz2 rfl (by decide) _ _ _ rfl (hown.alloc _) ⟨wr.heap.size, 0, none⟩ 1 1 [.int .i64 v, .int .i64 y] rfl rfl (cellsRow _ _ _) (rowOnes _ _) (by unfold maxLen; omega) (by omega) (hbs _) ?_))
          intro v' w1 hown' hgrow _
          obtain ⟨RO, RB⟩ := ST.out v' w1 hown' hgrow
          clear hown' hgrow hown hbel ST hbs OW BL
          go_wp2_with fail
          go_roundw
          case rel => exact ⟨i + 1, m + 1, _, by omega, by omega, by go_num, G, Lib.hid (by have := hl.out; simp; omega), (by have := hl.out; unfold RowsO at RO; rw [show (M ++ [(v, y)]).length = m + 1 by simp; omega] at RO; exact RO), RB⟩
          case measure => simp [intOf]; omega
        · have G := Lib.hid (show M = _ from by have := F.out false (by unfold pRng; simp; intro _; omega); simpa using this.symm)
          clear F
          clear ST hbs
          go_wp2_with fail
          go_roundw
          case rel => exact ⟨i + 1, m, M, by omega, by omega, by go_num, G, hl, OW.out, BL.out⟩
          case measure => simp [intOf]; omega
      · have G := Lib.hid (show M = _ from by have := F.out false (by unfold pRng; simp; intro _; omega); simpa using this.symm)
        clear F
        clear ST hbs
        go_wp2_with fail
        go_roundw
        case rel => exact ⟨i + 1, m, M, by omega, by omega, by go_num, G, hl, OW.out, BL.out⟩
        case measure => simp [intOf]; omega
    · have F : M = filL (pRng x1 x2) L := by have := hM.out; rwa [List.take_of_length_le (by have := HX.out; omega)] at this
      have LL := hl.out
      subst LL
      subst F
      go_wp2_with fail
      go_ret
      exact ⟨_, rfl, hown, hbel⟩

theorem heap_drewN (w : World) : ∀ n, (w.drewN n).heap = w.heap
  | 0 => rfl
  | n + 1 => heap_drewN w.drew n
theorem cell_heap {A B : World} (h : A.heap = B.heap) (a : Addr) : A.cell? a = B.cell? a := by simp [World.cell?, h]
theorem ownsRow_heap {A B : World} {b : Nat} {e : TypeId} {s : Nat} {v : Value} {n : Nat} {xs : List Value} (h : A.heap = B.heap) (r : B.ownsRow b e s v n xs) : A.ownsRow b e s v n xs := by unfold World.ownsRow at *; rw [h]; exact r

set_option maxRecDepth 100000 in
set_option maxHeartbeats 2000000 in
theorem rIntersect_any (s : Option Addr) (d : Nat) (A : List (Int × Int)) (p : Option Addr) (c : Nat) (L : List (Int × Int)) (w : World) (r : RowsR w p L) (rs : RowsR w s A) (la : A.length ≤ 1000000) (ln : L.length ≤ 1000000) :
    Calls Try.prog 85 #[.slice s A.length d, .slice p L.length c] w (RowsRes w (filL (pIn A) L)) := by
  obtain ⟨i0, hi, hz0, hz1, hz2⟩ := info_parts info_row
  have R := Lib.hid r
  have S := Lib.hid rs
  clear rs
  obtain ⟨x, hx⟩ : ∃ x, x = L.length := ⟨_, rfl⟩
  rw [← hx] at ln ⊢
  have HX := Lib.hid hx
  clear hx r
  go_enter Try.func85, Try.ntmps85
  go_wp2_with fail
  go_loopw [5, 6] (fun ov kv wr => ∃ (i m : Nat) (M : List (Int × Int)), i ≤ x ∧ m ≤ i ∧ kv = .int .i64 i ∧ Hid (M = filL (pIn A) (L.take i)) ∧ Hid (m = M.length) ∧ wr.ownsRow w.heap.size 39 2 ov m (rowsV M) ∧ Below w.heap.size w wr) (fun _ kv _ => x - (intOf kv).toNat)
  case atStart => exact ⟨0, 0, [], Nat.zero_le _, Nat.le_refl _, rfl, Lib.hid rfl, Lib.hid rfl, World.ownsRow_nil _ _ _ _, Below.refl _ _⟩
  case round =>
    obtain ⟨i, m, M, hi', hm, rfl, hM, hl, hown, hbel⟩ := hrel
    by_cases t1 : i < x
    · have l1 : i < L.length := by have := HX.out; omega
      obtain ⟨xa, rfl, kx, cx0, dx0⟩ := R.out i l1
      have cx : wr.cell? (xa.add (i * 2)) = some (.int .i64 (kd L i)) := (hbel.cell (by rw [adb]; exact kx)).trans cx0
      have dx : wr.cell? ⟨(xa.add (i * 2)).block, (xa.add (i * 2)).off + 1, none⟩ = some (.int .i64 (vd L i)) := (hbel.cell (p := ⟨(xa.add (i * 2)).block, (xa.add (i * 2)).off + 1, none⟩) (by rw [adb]; exact kx)).trans dx0
      have i1 : (0 : Int) ≤ (i : Int) := by omega
      have i2 : (i : Int) < (x : Int) := by omega
      have F := Lib.hid (fun b (e : (pIn A) (kd L i) = b) => (by rw [filL_take_succ l1, e, ← hM.out] : filL (pIn A) (L.take (i + 1)) = M ++ if b = true then [(kd L i, vd L i)] else []))
      have hbs : ∀ o, w.heap.size ≤ (wr.alloc o).heap.size := fun o => by have := hbel.size; simp; omega
      have BL := Lib.hid hbel
      have OW := Lib.hid hown
      have ST := Lib.hid (fun v' w1 (ho : w1.ownsRow w.heap.size 39 2 v' (m + 1) (rowsV M ++ [.int .i64 (kd L i), .int .i64 (vd L i)])) (hg : (wr.alloc (.cells #[.int .i64 (kd L i), .int .i64 (vd L i)] 39)).grownBy w1 (u5).ownBlock) =>
        (by have e := hl.out; subst e; exact RowsO.snoc hbel hown ho hg : RowsO w (M ++ [(kd L i, vd L i)]) w1 v' ∧ Below w.heap.size w w1))
      clear cx0 dx0 hM
      have FC := Lib.hid (fun W hW => Find_any s d A (kd L i) W hW la)
      have SR := Lib.hid (S.out.below hbel)
      generalize kd L i = v at *
      generalize vd L i = y at *
      clear ST hbs
      go_wp2_with fail
      refine (FC.out _ SR.out).mono ?_
      rintro e w2 ⟨⟨z, rfl, hz⟩, n, hn⟩
      have hh : w2.heap = wr.heap := by rw [hn, heap_drewN]
      have OW2 := ownsRow_heap hh OW.out
      have BL2 : Below w.heap.size w w2 := by rw [hn]; exact below_drewN BL.out n
      replace cx : w2.cell? (xa.add (i * 2)) = some (.int .i64 v) := by rw [cell_heap hh]; exact cx
      replace dx : w2.cell? ⟨(xa.add (i * 2)).block, (xa.add (i * 2)).off + 1, none⟩ = some (.int .i64 y) := by rw [cell_heap hh]; exact dx
      clear hn hh OW BL hown hbel FC SR
      rcases hz with ⟨hv, rfl⟩ | ⟨j, hj, rfl, -, hv⟩
      · have G := Lib.hid (show M = _ from by have := F.out false (by unfold pIn; simp [hv]); simpa using this.symm)
        clear F
        go_wp2_with fail
        go_roundw
        case rel => exact ⟨i + 1, m, M, by omega, by omega, by go_num, G, hl, OW2, BL2⟩
        case measure => simp [intOf]; omega
      · have t3 : (0 : Int) ≤ (j : Int) := by omega
        have G := Lib.hid (show M ++ [(v, y)] = _ from (F.out true (by unfold pIn; simp [hv])).symm)
        clear F
        go_wp2_with (first
          | (at_builtin; refine wpList_append_own _ rfl _ _ 36 rfl w.heap.size 39 i0 (.agg #[.int .i64 0, .int .i64 0]) 2 16 Try.underlying36 hi hz0 hz1 hz2 rfl (by decide) _ _ _ rfl (OW2.alloc _) ⟨w2.heap.size, 0, none⟩ 1 1 [.int .i64 v, .int .i64 y] rfl rfl (cellsRow _ _ _) (rowOnes _ _) (by unfold maxLen; omega) (by omega) (by have := BL2.size; simp; omega) ?_))
        intro v' w1 hown' hgrow _
        obtain ⟨RO, RB⟩ := RowsO.snoc BL2 (show RowsO w M w2 _ from by have e := hl.out; subst e; exact OW2) (by have e := hl.out; subst e; exact hown') hgrow
        clear hown' hgrow OW2 BL2
        go_wp2_with fail
        go_roundw
        case rel => exact ⟨i + 1, m + 1, _, by omega, by omega, by go_num, G, Lib.hid (by have := hl.out; simp; omega), (by have := hl.out; unfold RowsO at RO; rw [show (M ++ [(v, y)]).length = m + 1 by simp; omega] at RO; exact RO), RB⟩
        case measure => simp [intOf]; omega
    · have F : M = filL (pIn A) L := by have := hM.out; rwa [List.take_of_length_le (by have := HX.out; omega)] at this
      have LL := hl.out
      subst LL
      subst F
      go_wp2_with fail
      go_ret
      exact ⟨_, rfl, hown, hbel⟩

set_option maxRecDepth 100000 in
set_option maxHeartbeats 2000000 in
theorem rSubtract_any (s : Option Addr) (d : Nat) (A : List (Int × Int)) (p : Option Addr) (c : Nat) (L : List (Int × Int)) (w : World) (r : RowsR w p L) (rs : RowsR w s A) (la : A.length ≤ 1000000) (ln : L.length ≤ 1000000) :
    Calls Try.prog 86 #[.slice p L.length c, .slice s A.length d] w (RowsRes w (filL (pOut A) L)) := by
  obtain ⟨i0, hi, hz0, hz1, hz2⟩ := info_parts info_row
  have R := Lib.hid r
  have S := Lib.hid rs
  clear rs
  obtain ⟨x, hx⟩ : ∃ x, x = L.length := ⟨_, rfl⟩
  rw [← hx] at ln ⊢
  have HX := Lib.hid hx
  clear hx r
  go_enter Try.func86, Try.ntmps86
  go_wp2_with fail
  go_loopw [5, 6] (fun ov kv wr => ∃ (i m : Nat) (M : List (Int × Int)), i ≤ x ∧ m ≤ i ∧ kv = .int .i64 i ∧ Hid (M = filL (pOut A) (L.take i)) ∧ Hid (m = M.length) ∧ wr.ownsRow w.heap.size 39 2 ov m (rowsV M) ∧ Below w.heap.size w wr) (fun _ kv _ => x - (intOf kv).toNat)
  case atStart => exact ⟨0, 0, [], Nat.zero_le _, Nat.le_refl _, rfl, Lib.hid rfl, Lib.hid rfl, World.ownsRow_nil _ _ _ _, Below.refl _ _⟩
  case round =>
    obtain ⟨i, m, M, hi', hm, rfl, hM, hl, hown, hbel⟩ := hrel
    by_cases t1 : i < x
    · have l1 : i < L.length := by have := HX.out; omega
      obtain ⟨xa, rfl, kx, cx0, dx0⟩ := R.out i l1
      have cx : wr.cell? (xa.add (i * 2)) = some (.int .i64 (kd L i)) := (hbel.cell (by rw [adb]; exact kx)).trans cx0
      have dx : wr.cell? ⟨(xa.add (i * 2)).block, (xa.add (i * 2)).off + 1, none⟩ = some (.int .i64 (vd L i)) := (hbel.cell (p := ⟨(xa.add (i * 2)).block, (xa.add (i * 2)).off + 1, none⟩) (by rw [adb]; exact kx)).trans dx0
      have i1 : (0 : Int) ≤ (i : Int) := by omega
      have i2 : (i : Int) < (x : Int) := by omega
      have F := Lib.hid (fun b (e : (pOut A) (kd L i) = b) => (by rw [filL_take_succ l1, e, ← hM.out] : filL (pOut A) (L.take (i + 1)) = M ++ if b = true then [(kd L i, vd L i)] else []))
      have hbs : ∀ o, w.heap.size ≤ (wr.alloc o).heap.size := fun o => by have := hbel.size; simp; omega
      have BL := Lib.hid hbel
      have OW := Lib.hid hown
      have ST := Lib.hid (fun v' w1 (ho : w1.ownsRow w.heap.size 39 2 v' (m + 1) (rowsV M ++ [.int .i64 (kd L i), .int .i64 (vd L i)])) (hg : (wr.alloc (.cells #[.int .i64 (kd L i), .int .i64 (vd L i)] 39)).grownBy w1 (u5).ownBlock) =>
        (by have e := hl.out; subst e; exact RowsO.snoc hbel hown ho hg : RowsO w (M ++ [(kd L i, vd L i)]) w1 v' ∧ Below w.heap.size w w1))
      clear cx0 dx0 hM
      have FC := Lib.hid (fun W hW => Find_any s d A (kd L i) W hW la)
      have SR := Lib.hid (S.out.below hbel)
      generalize kd L i = v at *
      generalize vd L i = y at *
      clear ST hbs
      go_wp2_with fail
      refine (FC.out _ SR.out).mono ?_
      rintro e w2 ⟨⟨z, rfl, hz⟩, n, hn⟩
      have hh : w2.heap = wr.heap := by rw [hn, heap_drewN]
      have OW2 := ownsRow_heap hh OW.out
      have BL2 : Below w.heap.size w w2 := by rw [hn]; exact below_drewN BL.out n
      replace cx : w2.cell? (xa.add (i * 2)) = some (.int .i64 v) := by rw [cell_heap hh]; exact cx
      replace dx : w2.cell? ⟨(xa.add (i * 2)).block, (xa.add (i * 2)).off + 1, none⟩ = some (.int .i64 y) := by rw [cell_heap hh]; exact dx
      clear hn hh OW BL hown hbel FC SR
      rcases hz with ⟨hv, rfl⟩ | ⟨j, hj, rfl, -, hv⟩
      · have G := Lib.hid (show M ++ [(v, y)] = _ from (F.out true (by unfold pOut; simp [hv])).symm)
        clear F
        go_wp2_with (first
          | (at_builtin; refine wpList_append_own _ rfl _ _ 36 rfl w.heap.size 39 i0 (.agg #[.int .i64 0, .int .i64 0]) 2 16 Try.underlying36 hi hz0 hz1 hz2 rfl (by decide) _ _ _ rfl (OW2.alloc _) ⟨w2.heap.size, 0, none⟩ 1 1 [.int .i64 v, .int .i64 y] rfl rfl (cellsRow _ _ _) (rowOnes _ _) (by unfold maxLen; omega) (by omega) (by have := BL2.size; simp; omega) ?_))
        intro v' w1 hown' hgrow _
        obtain ⟨RO, RB⟩ := RowsO.snoc BL2 (show RowsO w M w2 _ from by have e := hl.out; subst e; exact OW2) (by have e := hl.out; subst e; exact hown') hgrow
        clear hown' hgrow OW2 BL2
        go_wp2_with fail
        go_roundw
        case rel => exact ⟨i + 1, m + 1, _, by omega, by omega, by go_num, G, Lib.hid (by have := hl.out; simp; omega), (by have := hl.out; unfold RowsO at RO; rw [show (M ++ [(v, y)]).length = m + 1 by simp; omega] at RO; exact RO), RB⟩
        case measure => simp [intOf]; omega
      · have t3 : (0 : Int) ≤ (j : Int) := by omega
        have G := Lib.hid (show M = _ from by have := F.out false (by unfold pOut; simp [hv]); simpa using this.symm)
        clear F
        go_wp2_with fail
        go_roundw
        case rel => exact ⟨i + 1, m, M, by omega, by omega, by go_num, G, hl, OW2, BL2⟩
        case measure => simp [intOf]; omega
    · have F : M = filL (pOut A) L := by have := hM.out; rwa [List.take_of_length_le (by have := HX.out; omega)] at this
      have LL := hl.out
      subst LL
      subst F
      go_wp2_with fail
      go_ret
      exact ⟨_, rfl, hown, hbel⟩
end Go.Proofs.Ytgbhddiligdemaa
