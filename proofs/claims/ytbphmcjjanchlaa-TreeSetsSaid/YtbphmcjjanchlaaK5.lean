/- At: the pair of a rank. -/
import Derived.Test.YtbphmcjjanchlaaK4
namespace Go.Proofs.Ytbphmcjjanchlaa.Mii
open Go.RowKit
set_option linter.unusedVariables false
set_option linter.unusedSimpArgs false

/-- What At answers. -/
def AtV (o : Option (Int × Value)) : Value := match o with
  | some x => .tuple #[KV.kv x.1, x.2, .bool true]
  | none => .tuple #[.int .i64 0, .int .i64 0, .bool false]
/-- The row with so many before it. -/
def rowAt (l : List (Int × Value)) (i : Int) : Option (Int × Value) := if 0 ≤ i then l[i.toNat]? else none
theorem rowAt_nil (i : Int) : rowAt [] i = none := by unfold rowAt; split <;> simp
theorem rowAt_lt {l m : List (Int × Value)} {x : Int × Value} {i : Int} (h : i < l.length) : rowAt (l ++ x :: m) i = rowAt l i := by
  unfold rowAt
  by_cases g : 0 ≤ i
  · rw [if_pos g, if_pos g, List.getElem?_append_left (by omega)]
  · rw [if_neg g, if_neg g]
theorem rowAt_eq {l m : List (Int × Value)} {x : Int × Value} {i : Int} (h : i = l.length) : rowAt (l ++ x :: m) i = some x := by
  subst h
  unfold rowAt
  rw [if_pos (by omega), Int.toNat_natCast, List.getElem?_append_right (Nat.le_refl _)]; simp
theorem rowAt_gt {l m : List (Int × Value)} {x : Int × Value} {i : Int} (h : (l.length : Int) < i) : rowAt (l ++ x :: m) i = rowAt m (i - (l.length + 1)) := by
  unfold rowAt
  rw [if_pos (by omega), if_pos (by omega), List.getElem?_append_right (by omega)]
  obtain ⟨j, hj⟩ : ∃ j : Nat, i = l.length + 1 + j := ⟨(i - (l.length + 1)).toNat, by omega⟩
  subst hj
  rw [show ((l.length : Int) + 1 + j).toNat - l.length = j + 1 from by omega, show ((l.length : Int) + 1 + j - (l.length + 1)).toNat = j from by omega]
  simp
set_option maxRecDepth 100000 in
set_option maxHeartbeats 1000000 in
theorem At_any (p : Option Addr) (t : Tr Int Value) (i : Int) (w : World) (h : At w p t) (i1 : -9223372036854775808 ≤ i) (i2 : i ≤ 9223372036854775807) (hz : t.sz ≤ 2 ^ 60) :
    Calls Try.prog 60 #[.agg #[.pointer p], .int .i64 i] w fun e w' => e = .returned (AtV (rowAt t.rows i)) ∧ Below w.heap.size w w' := by
  have T0 := Lib.hid h
  have HZ := Lib.hid hz
  obtain ⟨R, hR⟩ : ∃ R, R = rowAt t.rows i := ⟨_, rfl⟩
  have HR := Lib.hid hR
  rw [← hR]
  clear h hz hR
  go_enter Try.func60, Try.ntmps60
  go_wp2_with fail
  go_loopw [1, 7] (fun iv nv wr => ∃ (s : Tr Int Value) (q : Option Addr) (j : Int), iv = .int .i64 j ∧ nv = .pointer q ∧ Hid (At wr q s) ∧ Hid (R = rowAt s.rows j) ∧ -9223372036854775808 ≤ j ∧ j ≤ 9223372036854775807 ∧ Hid (s.sz ≤ 2 ^ 60) ∧ Hid (Below w.heap.size w wr)) (fun _ nv wr => szOf wr nv)
  case atStart => exact ⟨t, p, i, rfl, rfl, Lib.hid (T0.out.alloc _), HR, i1, i2, HZ, Lib.hid ((Below.refl _ _).alloc (Nat.le_refl _) _)⟩
  case round =>
    clear T0 HZ HR i1 i2
    obtain ⟨s, q, j, rfl, rfl, TS, HR, j1, j2, HZ, BL⟩ := hrel
    cases s with
    | nil =>
      obtain rfl : q = none := TS.out
      obtain rfl : R = none := HR.out.trans (rowAt_nil j)
      clear TS HR HZ
      go_wp2_with fail
      go_quiet (fail)
      go_wp2_with fail
      exact bodyPost_ret (v := .tuple #[.int .i64 0, .int .i64 0, .bool false]) (by simp [results, Try.results60, go_sem]) rfl ⟨rfl, below_drewN (BL.out.alloc BL.out.size _) _⟩
    | node k v l r =>
      have ms := szOf_at TS.out
      have hs1 : l.sz + 1 + r.sz ≤ 2 ^ 60 := HZ.out
      obtain ⟨b, pl, pr, rfl, c0, c1, c2, c3, c4, c5, ov, hl, hr⟩ := TS.out
      replace c0 : wr.cell? ⟨b, 0, none⟩ = some (.int .i64 k) := c0
      obtain ⟨n, hn⟩ : ∃ n : Int, (l.sz : Int) = n := ⟨_, rfl⟩
      have q1 := IntWalk.i64_in (n + 1) (by omega)
      have q2 := IntWalk.i64_in (j - (n + 1))
      have TL := Lib.hid hl
      have TR := Lib.hid hr
      have LN := l.sz_eq
      have Hn := Lib.hid hn
      have MS := Lib.hid ms
      have HZ2 := Lib.hid hs1
      have n0 : 0 ≤ n := by omega
      have n1 : n ≤ 2 ^ 60 := by omega
      clear hl hr c4 c5 ms hs1 HZ ov
      by_cases g1 : j < n
      · have HR2 : Hid (R = rowAt l.rows j) := Lib.hid (HR.out.trans (rowAt_lt (by rw [LN]; omega)))
        have t1 : decide (j < n) = true := decide_eq_true g1
        clear LN HR hn q2
        go_wp2_with fail
        refine (Len_any pl l n wr TL.out Hn.out).mono ?_
        rintro e w1 ⟨rfl, st0⟩
        have st : Below wr.heap.size wr w1 := (by first | exact st0 | exact Below.of_dr st0)
        replace c0 := cell_gr st c0
        replace c1 := cell_gr st c1
        replace c2 := cell_gr st c2
        replace c3 := cell_gr st c3
        replace TL := Lib.hid (TL.out.grow st)
        replace TR := Lib.hid (TR.out.grow st)
        replace BL := Lib.hid (BL.out.trans (st.mono BL.out.size))
        clear st st0
        have hb : b < w1.heap.size := World.block_lt_of_cell? w1 _ c0
        have ML := Lib.hid (szOf_at TL.out)
        cases l with
        | nil =>
          obtain rfl : pl = none := TL.out
          go_wp2_with fail
          go_roundw
          case rel => exact ⟨_, _, _, rfl, rfl, TL, HR2, by omega, by omega, by have := HZ2.out; exact Lib.hid (by omega), BL⟩
          case measure => have := MS.out; have := ML.out; simp only [Tr.sz] at *; omega
        | node lk lv ll lr =>
          obtain ⟨lb, lpl, lpr, rfl, _⟩ := TL.out
          go_wp2_with fail
          go_roundw
          case rel => exact ⟨_, _, _, rfl, rfl, TL, HR2, by omega, by omega, by have := HZ2.out; exact Lib.hid (by omega), BL⟩
          case measure => have := MS.out; have := ML.out; simp only [Tr.sz] at *; omega
      · by_cases g2 : n < j
        · have HR2 : Hid (R = rowAt r.rows (j - (n + 1))) := Lib.hid (HR.out.trans (by show rowAt (l.rows ++ (k, v) :: r.rows) j = _; rw [rowAt_gt (by rw [LN]; omega), LN, hn]))
          have t1 : decide (j < n) = false := decide_eq_false g1
          have t2 : decide (n < j) = true := decide_eq_true g2
          replace q2 := q2 (by omega)
          clear LN HR hn
          go_wp2_with fail
          refine (Len_any pl l n wr TL.out Hn.out).mono ?_
          rintro e w1 ⟨rfl, st0⟩
          have st : Below wr.heap.size wr w1 := (by first | exact st0 | exact Below.of_dr st0)
          replace c0 := cell_gr st c0
          replace c1 := cell_gr st c1
          replace c2 := cell_gr st c2
          replace c3 := cell_gr st c3
          replace TL := Lib.hid (TL.out.grow st)
          replace TR := Lib.hid (TR.out.grow st)
          replace BL := Lib.hid (BL.out.trans (st.mono BL.out.size))
          clear st st0
          have hb : b < w1.heap.size := World.block_lt_of_cell? w1 _ c0
          have MR := Lib.hid (szOf_at TR.out)
          go_wp2_with fail
          go_roundw
          case rel => exact ⟨_, _, _, rfl, rfl, TR, HR2, by omega, by omega, by have := HZ2.out; exact Lib.hid (by omega), BL⟩
          case measure => have := MS.out; have := MR.out; simp only [Tr.sz] at *; omega
        · have HR2 : Hid (R = some (k, v)) := Lib.hid (HR.out.trans (rowAt_eq (by rw [LN]; omega)))
          have t1 : decide (j < n) = false := decide_eq_false g1
          have t2 : decide (n < j) = false := decide_eq_false g2
          clear LN HR hn q2
          go_wp2_with fail
          refine (Len_any pl l n wr TL.out Hn.out).mono ?_
          rintro e w1 ⟨rfl, st0⟩
          have st : Below wr.heap.size wr w1 := (by first | exact st0 | exact Below.of_dr st0)
          replace c0 := cell_gr st c0
          replace c1 := cell_gr st c1
          replace c2 := cell_gr st c2
          replace c3 := cell_gr st c3
          replace TL := Lib.hid (TL.out.grow st)
          replace TR := Lib.hid (TR.out.grow st)
          replace BL := Lib.hid (BL.out.trans (st.mono BL.out.size))
          clear st st0
          have hb : b < w1.heap.size := World.block_lt_of_cell? w1 _ c0
          go_wp2_with fail
          go_quiet (fail)
          go_wp2_with fail
          refine bodyPost_ret (v := .tuple #[.int .i64 k, v, .bool true]) (by simp [results, Try.results60, go_sem]) rfl ⟨?_, below_drewN BL.out _⟩
          rw [HR2.out]; rfl
end Go.Proofs.Ytbphmcjjanchlaa.Mii
