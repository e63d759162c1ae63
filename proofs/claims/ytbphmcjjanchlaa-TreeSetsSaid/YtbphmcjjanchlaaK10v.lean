/- Get and Rank. -/
import Derived.Test.YtbphmcjjanchlaaK5v
namespace Go.Proofs.Ytbphmcjjanchlaa.Mis
open Go.RowKit
set_option linter.unusedVariables false
set_option linter.unusedSimpArgs false

/-- What Get answers. -/
def GetV (o : Option Value) : Value := match o with
  | some x => .tuple #[x, .bool true]
  | none => .tuple #[.string ⟨#[]⟩, .bool false]
set_option maxRecDepth 100000 in
set_option maxHeartbeats 1000000 in
theorem Get_any (p : Option Addr) (t : Tr Int Value) (k : Int) (w : World) (h : At w p t) (sa : Asc t.rows) :
    Calls Try.prog 78 #[.agg #[.pointer p], (.int .i64 k : Value)] w fun e w' => e = .returned (GetV (val t.rows k)) ∧ Below w.heap.size w w' := by
  have T0 := Lib.hid h
  have S0 := Lib.hid sa
  obtain ⟨R, hR⟩ : ∃ R, R = val t.rows k := ⟨_, rfl⟩
  have HR := Lib.hid hR
  rw [← hR]
  clear h sa hR
  go_enter Try.func78, Try.ntmps78
  go_wp2_with fail
  go_loopw [6] (fun nv wr => ∃ (s : Tr Int Value) (q : Option Addr), nv = .pointer q ∧ Hid (At wr q s) ∧ Hid (R = val s.rows k) ∧ Hid (Asc s.rows) ∧ Hid (Below w.heap.size w wr)) (fun nv wr => szOf wr nv)
  case atStart => exact ⟨t, p, rfl, Lib.hid (T0.out.alloc _), HR, S0, Lib.hid ((Below.refl _ _).alloc (Nat.le_refl _) _)⟩
  case round =>
    clear T0 S0 HR
    obtain ⟨s, q, rfl, TS, HR, HS, BL⟩ := hrel
    cases s with
    | nil =>
      obtain rfl : q = none := TS.out
      obtain rfl : R = none := HR.out
      clear TS HR HS
      go_wp2_with fail
      refine bodyPost_ret (v := .tuple #[.string ⟨#[]⟩, .bool false]) (by simp [results, Try.results78, go_sem]) rfl ⟨rfl, ?_⟩
      exact BL.out
    | node kn v l r =>
      have ms := szOf_at TS.out
      obtain ⟨b, pl, pr, rfl, c0, c1, c2, c3, c4, c5, ov, hl, hr⟩ := TS.out
      replace c0 : wr.cell? ⟨b, 0, none⟩ = some (.int .i64 kn) := c0
      have TL := Lib.hid hl
      have TR := Lib.hid hr
      have MS := Lib.hid ms
      clear hl hr c4 c5 ms ov
      rcases KO.tot k kn with g | g | g
      · have HR2 : Hid (R = val l.rows k) := Lib.hid (HR.out.trans (val_lt HS.out g))
        have HS2 := Lib.hid (asc_node.1 HS.out).1
        have t1 : decide (k < kn) = true := decide_eq_true (g)
        have ML := Lib.hid (szOf_at TL.out)
        clear HR HS g
        go_wp2_with fail
        go_roundw
        case rel => exact ⟨_, _, rfl, TL, HR2, HS2, BL⟩
        case measure => have := MS.out; have := ML.out; simp only [Tr.sz] at *; omega
      · have HR2 : Hid (R = some v) := Lib.hid (HR.out.trans (by subst g; exact val_at HS.out))
        have t1 : decide (k < kn) = false := decide_eq_false ((fun h => KO.ne h g))
        have t2 : decide (kn < k) = false := decide_eq_false ((fun h => KO.ne h g.symm))
        clear HR HS g
        go_wp2_with fail
        refine bodyPost_ret (v := .tuple #[v, .bool true]) (by simp [results, Try.results78, go_sem]) rfl ⟨?_, ?_⟩
        · rw [HR2.out]; rfl
        · exact BL.out
      · have HR2 : Hid (R = val r.rows k) := Lib.hid (HR.out.trans (val_gt HS.out g))
        have HS2 := Lib.hid (asc_node.1 HS.out).2.1
        have t1 : decide (k < kn) = false := decide_eq_false (KO.asym g)
        have t2 : decide (kn < k) = true := decide_eq_true (g)
        have MR := Lib.hid (szOf_at TR.out)
        clear HR HS g
        go_wp2_with fail
        go_roundw
        case rel => exact ⟨_, _, rfl, TR, HR2, HS2, BL⟩
        case measure => have := MS.out; have := MR.out; simp only [Tr.sz] at *; omega
set_option maxRecDepth 100000 in
set_option maxHeartbeats 1000000 in
theorem Rank_any (p : Option Addr) (t : Tr Int Value) (k : Int) (w : World) (h : At w p t) (sa : Asc t.rows) (hz : t.sz ≤ 2 ^ 60) :
    Calls Try.prog 51 #[.agg #[.pointer p], (.int .i64 k : Value)] w fun e w' => e = .returned (.int .i64 (rnk t.rows k : Int)) ∧ Below w.heap.size w w' := by
  have T0 := Lib.hid h
  have S0 := Lib.hid sa
  obtain ⟨R, hR⟩ : ∃ R : Int, R = (rnk t.rows k : Int) := ⟨_, rfl⟩
  have HR : Hid (R = 0 + (rnk t.rows k : Int)) := Lib.hid (by omega)
  have HZ : Hid ((0 : Int) + t.sz ≤ 2 ^ 60) := Lib.hid (by omega)
  rw [← hR]
  clear h sa hR hz
  go_enter Try.func51, Try.ntmps51
  go_wp2_with fail
  go_loopw [5, 6] (fun jv nv wr => ∃ (s : Tr Int Value) (q : Option Addr) (j : Int), jv = .int .i64 j ∧ nv = .pointer q ∧ 0 ≤ j ∧ Hid (At wr q s) ∧ Hid (R = j + (rnk s.rows k : Int)) ∧ Hid (j + s.sz ≤ 2 ^ 60) ∧ Hid (Asc s.rows) ∧ Hid (Below w.heap.size w wr)) (fun _ nv wr => szOf wr nv)
  case atStart => exact ⟨t, p, 0, rfl, rfl, by omega, Lib.hid (T0.out.alloc _), HR, HZ, S0, Lib.hid ((Below.refl _ _).alloc (Nat.le_refl _) _)⟩
  case round =>
    clear T0 S0 HR HZ
    obtain ⟨s, q, j, rfl, rfl, j0, TS, HR, HZ, HS, BL⟩ := hrel
    cases s with
    | nil =>
      obtain rfl : q = none := TS.out
      have HR2 : Hid (R = j) := Lib.hid (by have := HR.out; simpa [Tr.rows, rnk] using this)
      clear TS HR HS HZ
      go_wp2_with fail
      go_ret
      exact ⟨by rw [HR2.out]; rfl, BL.out⟩
    | node kn v l r =>
      have ms := szOf_at TS.out
      have hs1 : j + ((l.sz + 1 + r.sz : Nat) : Int) ≤ 2 ^ 60 := HZ.out
      obtain ⟨b, pl, pr, rfl, c0, c1, c2, c3, c4, c5, ov, hl, hr⟩ := TS.out
      replace c0 : wr.cell? ⟨b, 0, none⟩ = some (.int .i64 kn) := c0
      obtain ⟨n, hn⟩ : ∃ n : Int, (l.sz : Int) = n := ⟨_, rfl⟩
      have q1 := IntWalk.i64_in (n + 1) (by omega)
      have q2 := IntWalk.i64_in (j + (n + 1)) (by omega)
      have TL := Lib.hid hl
      have TR := Lib.hid hr
      have MS := Lib.hid ms
      have Hn := Lib.hid hn
      have HZ2 := Lib.hid hs1
      have n0 : 0 ≤ n := by omega
      by_cases g : KO.lt kn k
      · have HR2 : Hid (R = (j + (n + 1)) + (rnk r.rows k : Int)) := Lib.hid (HR.out.trans (by show j + ((rnk (l.rows ++ (kn, v) :: r.rows) k : Nat) : Int) = _; rw [rnk_lt HS.out g, l.sz_eq]; omega))
        have HS2 := Lib.hid (asc_node.1 HS.out).2.1
        have t1 : decide (kn < k) = true := decide_eq_true (g)
        clear HR HS g hl hr c4 c5 ms ov HZ hs1 hn
        go_wp2_with fail
        refine (Len_any pl l n wr TL.out Hn.out).mono ?_
        rintro e w1 ⟨rfl, st0⟩
        have st : Below wr.heap.size wr w1 := (by first | exact st0 | exact Below.of_dr st0)
        replace c0 := cell_gr st c0
        replace c1 := cell_gr st c1
        replace c2 := cell_gr st c2
        replace c3 := cell_gr st c3
        replace TL := Lib.hid (TL.out.grow st)
        replace TR := Lib.hid (TR.out.grow st)
        replace BL := Lib.hid (BL.out.trans (st.mono BL.out.size))
        clear st st0
        have hb : b < w1.heap.size := World.block_lt_of_cell? w1 _ c0
        have MR := Lib.hid (szOf_at TR.out)
        go_wp2_with fail
        go_roundw
        case rel => exact ⟨_, _, _, rfl, rfl, by omega, TR, HR2, by have := HZ2.out; have := Hn.out; exact Lib.hid (by omega), HS2, BL⟩
        case measure => have := MS.out; have := MR.out; simp only [Tr.sz] at *; omega
      · have HR2 : Hid (R = j + (rnk l.rows k : Int)) := Lib.hid (HR.out.trans (by show j + ((rnk (l.rows ++ (kn, v) :: r.rows) k : Nat) : Int) = _; rw [rnk_ge HS.out g]))
        have HS2 := Lib.hid (asc_node.1 HS.out).1
        have t1 : decide (kn < k) = false := decide_eq_false (g)
        have ML := Lib.hid (szOf_at TL.out)
        clear HR HS g hl hr c4 c5 ms ov HZ hs1 hn q1 q2
        go_wp2_with fail
        go_roundw
        case rel => exact ⟨_, _, _, rfl, rfl, by omega, TL, HR2, by have := HZ2.out; have := Hn.out; exact Lib.hid (by omega), HS2, BL⟩
        case measure => have := MS.out; have := ML.out; simp only [Tr.sz] at *; omega
end Go.Proofs.Ytbphmcjjanchlaa.Mis
