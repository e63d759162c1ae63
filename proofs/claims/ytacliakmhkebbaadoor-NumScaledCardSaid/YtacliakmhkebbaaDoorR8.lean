/- The reference's rows: mulD. -/
import Derived.Test.YtacliakmhkebbaaDoorR7
import Derived.IntWalk
namespace Go.Proofs.YtacliakmhkebbaaDoor
open Go.RowKit
set_option linter.unusedVariables false
set_option linter.unusedSimpArgs false

/-- The row that a product is made in. -/
def Made (w wr : World) (N : Nat) (O : List Int) : Prop := O.length = N ∧ Digs O ∧ wr.ownsRow w.heap.size 3 1 (.slice (some ⟨w.heap.size, 0, none⟩) N N) N (O.map (Value.int .i64)) ∧ Below w.heap.size w wr
theorem Made.set {w wr : World} {N : Nat} {O : List Int} (h : Made w wr N O) (j : Nat) {x : Int} (h0 : 0 ≤ x) (h1 : x < 10000) : Made w (wr.setCell ⟨w.heap.size, j, none⟩ (.int .i64 x)) N (O.set j x) := by
  obtain ⟨a, b, c, d⟩ := h
  refine ⟨by simpa using a, b.set j ⟨h0, h1⟩, ?_, d.setCell (Nat.le_refl _) _⟩
  have := (c.stored j (.int .i64 x)).1
  rwa [← List.map_set] at this
theorem Made.drewN {w wr : World} {N : Nat} {O : List Int} (h : Made w wr N O) (n : Nat) : Made w (wr.drewN n) N O := ⟨h.1, h.2.1, h.2.2.1, below_drewN h.2.2.2 n⟩
theorem Made.cell {w wr : World} {N : Nat} {O : List Int} (h : Made w wr N O) (j : Nat) (hj : j < O.length) : wr.cell? ⟨w.heap.size, j, none⟩ = some (.int .i64 O[j]) := by
  rw [h.2.2.1.cellAt j (by have := h.1; omega)]
  simp [hj]
theorem Made.frozen {w wr : World} {N : Nat} {O : List Int} (h : Made w wr N O) (j : Nat) : wr.frozen? ⟨w.heap.size, j, none⟩ = false := h.2.2.1.frozenAt j
theorem Made.lt {w wr : World} {N : Nat} {O : List Int} (h : Made w wr N O) : w.heap.size < wr.heap.size := (h.2.2.1.lt _ rfl).2
theorem made_zeros (n : Nat) : (madeCells (Value.int .i64 0).cells (n * 1)).toList = (List.replicate n (0 : Int)).map (Value.int .i64) := by
  rw [Nat.mul_one, show (Value.int .i64 0).cells = #[.int .i64 0] from rfl, toList_madeCells_one, List.map_replicate]
theorem dval_replicate (n : Nat) : dval (List.replicate n 0) = 0 := dval_zeros (fun x m => List.eq_of_mem_replicate m)

theorem mul_last' {a b O : List Int} {i y k : Nat} {c X T : Int} (hy : b.length = y) (hk : k = y) (hi : i + y < O.length) (h0 : O[i + y] = 0)
    (h : dval O + 10000 ^ (i + k) * (c + gd a i * dval (b.drop k)) = T + 10000 ^ i * (gd a i * dval b))
    (hT : T + 10000 ^ i * (dval (a.drop i) * dval b) = X) :
    dval (O.set (i + y) c) + 10000 ^ (i + 1) * (dval (a.drop (i + 1)) * dval b) = X := by
  subst hk hy
  exact mul_last hi h0 h hT

set_option maxRecDepth 100000 in
set_option maxHeartbeats 1600000 in
theorem mulD_any (pa pb : Option Addr) (ca cb : Nat) (a b : List Int) (w : World) (ha : Digs a) (hb : Digs b) (ra : RowR w pa a) (rb : RowR w pb b) (la : a.length ≤ 100000) (lb : b.length ≤ 100000) :
    Calls Tryd.prog 49 #[.slice pa a.length ca, .slice pb b.length cb] w (RowRes (dval a * dval b) (a.length + b.length) w) := by
  obtain ⟨i0, hi, hz0, hz1, hz2⟩ := info_parts intInfo
  have Ra := Lib.hid ra; clear ra
  have Rb := Lib.hid rb; clear rb
  have Da := Lib.hid ha; clear ha
  have Db := Lib.hid hb; clear hb
  generalize hx : a.length = x at *
  generalize hy : b.length = y at *
  have Hx := Lib.hid hx; clear hx
  have Hy := Lib.hid hy; clear hy
  go_enter Tryd.func49, Tryd.ntmps49
  go_wp2_with (first
    | (at_make; refine wpList_make_full _ rfl _ _ 22 rfl w.heap.size 3 i0 (.int .i64 0) 1 Tryd.underlying22 hi hz0 hz1 .i64 .i64 _ _ (x + y) rfl rfl (by omega) (by omega) (by rw [hz2]; omega) (by unfold maxLen; omega) (Nat.le_refl _) ?_; intro w0 hown0 hgrow0))
  rw [made_zeros] at hown0
  have M0 := Lib.hid (show Made w w0 (x + y) (List.replicate (x + y) 0) from ⟨by simp, fun z m => by rw [List.eq_of_mem_replicate m]; omega, hown0, (Below.refl _ _).grown hgrow0 (Nat.le_refl _) (fun k e => by cases e)⟩)
  clear hown0 hgrow0
  go_wp2
  go_loopw [6] (fun iv wr => ∃ (i : Nat) (O : List Int), i ≤ x ∧ iv = .int .i64 i ∧ Hid (Made w wr (x + y) O) ∧ Hid (∀ j (h : j < O.length), i + y ≤ j → O[j] = 0) ∧
      Hid (dval O + 10000 ^ i * (dval (a.drop i) * dval b) = dval a * dval b)) (fun iv _ => x - (intOf iv).toNat)
  case atStart => exact ⟨0, _, Nat.zero_le _, rfl, M0, by intro j h _; simp, by show _ = _; rw [dval_replicate]; simp⟩
  case round =>
    obtain ⟨i, O, hik, rfl, MO, hz, hval⟩ := hrel
    by_cases t1 : i < x
    · have l1 : i < a.length := by have := Hx.out; omega
      obtain ⟨ga, rfl, ka, cA⟩ := Ra.out i l1
      have G1 := gd_le Da.out i
      have CA := Lib.hid (show w.cell? ⟨ga, i, none⟩ = some (.int .i64 (gd a i)) by rw [cA, gd_in l1])
      have KA := Lib.hid ka
      clear cA ka
      obtain ⟨wo, hwo⟩ : ∃ wo : World, wo = wr := ⟨_, rfl⟩
      subst hwo
      go_wp2
      go_loopw [7, 8] (fun cv kv wr => ∃ (k : Nat) (Q : List Int) (c : Int), k ≤ y ∧ 0 ≤ c ∧ c < 10000 ∧ cv = .int .i64 c ∧ kv = .int .i64 k ∧ Hid (Made w wr (x + y) Q) ∧ Hid (∀ j (h : j < Q.length), i + y ≤ j → Q[j] = 0) ∧
        Hid (dval Q + 10000 ^ (i + k) * (c + gd a i * dval (b.drop k)) = dval O + 10000 ^ i * (gd a i * dval b))) (fun _ kv _ => y - (intOf kv).toNat)
      case atStart => exact ⟨0, O, 0, Nat.zero_le _, by omega, by omega, rfl, rfl, MO, hz, by show _ = _; simp⟩
      case round =>
        obtain ⟨k, Q, c, hk, c0, c1, rfl, rfl, MQ, hz2, hval2⟩ := hrel
        by_cases t2 : k < y
        · have l2 : k < b.length := by have := Hy.out; omega
          obtain ⟨gb, rfl, kb, cB⟩ := Rb.out k l2
          have G2 := gd_le Db.out k
          have cB2 : wr.cell? ⟨gb, k, none⟩ = some (.int .i64 (gd b k)) := by rw [MQ.out.2.2.2.cell (by exact kb), cB, gd_in l2]
          have cA2 : wr.cell? ⟨ga, i, none⟩ = some (.int .i64 (gd a i)) := by rw [MQ.out.2.2.2.cell (by exact KA.out)]; exact CA.out
          have lQ : i + k < Q.length := by have := MQ.out.1; omega
          have cQ : wr.cell? ⟨w.heap.size, i + k, none⟩ = some (.int .i64 Q[i + k]) := MQ.out.cell _ lQ
          have fQ : wr.frozen? ⟨w.heap.size, i + k, none⟩ = false := MQ.out.frozen _
          have gQ := MQ.out.lt
          have G3 := MQ.out.2.1 _ (List.getElem_mem lQ)
          have S := Lib.hid (mul_step lQ hval2.out)
          obtain ⟨B1, B2, B3, B4⟩ := mul_carry G3 G1 G2 ⟨c0, c1⟩
          have hz3 := Lib.hid (show ∀ z, ∀ j (h : j < (Q.set (i + k) z).length), i + y ≤ j → (Q.set (i + k) z)[j] = 0 by
            intro z j h hj
            rw [List.getElem_set_ne (by omega)]
            exact hz2.out j (by simpa using h) hj)
          have ST := Lib.hid (fun (nq : Nat) (z : Int) x0 x1 => (MQ.out.drewN nq).set (i + k) (x := z) x0 x1)
          clear cB kb hz2 hval2
          generalize gd b k = v at *
          generalize Q[i + k] = q at *
          generalize gd a i = u at *
          have e1 : IntKind.i64.wrap ((i : Int) + k) = i + k := IntWalk.i64_in _ (by omega)
          have e2 : IntKind.i64.wrap (u * v) = u * v := IntWalk.i64_in _ (by omega)
          have e3 : IntKind.i64.wrap (q + u * v) = q + u * v := IntWalk.i64_in _ (by omega)
          have e4 : IntKind.i64.wrap (q + u * v + c) = q + u * v + c := IntWalk.i64_in _ (by omega)
          have e5 : ((i : Int) + k).toNat = i + k := by omega
          have i1 : (0 : Int) ≤ i + k := by omega
          have i2 : (i : Int) + k < ((x + y : Nat) : Int) := by omega
          have i3 : (i : Int) < (x : Int) := by omega
          have i4 : (k : Int) < (y : Int) := by omega
          go_wp2
          go_quiet (fail)
          clear e1 e2 e3 e4 e5 cA2 cB2
          go_wp2
          go_roundw
          case rel => exact ⟨k + 1, _, (q + u * v + c) / 10000, by omega, by omega, by omega, rfl, by go_num, ST.out nq _ (by omega) (by omega), hz3.out _, S.out⟩
          case measure => simp [intOf]; omega
        · have ek : k = y := by omega
          have lQ : i + y < Q.length := by have := MQ.out.1; omega
          have cQ : wr.cell? ⟨w.heap.size, i + y, none⟩ = some (.int .i64 Q[i + y]) := MQ.out.cell _ lQ
          have fQ : wr.frozen? ⟨w.heap.size, i + y, none⟩ = false := MQ.out.frozen _
          have gQ := MQ.out.lt
          have S := Lib.hid (mul_last' Hy.out ek lQ (hz2.out _ lQ (Nat.le_refl _)) hval2.out hval.out)
          have hz3 := Lib.hid (show ∀ z, ∀ j (h : j < (Q.set (i + y) z).length), i + 1 + y ≤ j → (Q.set (i + y) z)[j] = 0 by
            intro z j h hj
            rw [List.getElem_set_ne (by omega)]
            exact hz2.out j (by simpa using h) (by omega))
          have ST := Lib.hid (MQ.out.set (i + y) c0 c1)
          have EK := Lib.hid ek
          clear ek hval2 hval hz2
          generalize Q[i + y] = q at *
          have i1 : (0 : Int) ≤ i + y := by omega
          have i2 : (i : Int) + y < ((x + y : Nat) : Int) := by omega
          have i3 : (y : Int) ≤ (k : Int) := by omega
          go_wp2
          go_roundw
          case rel => exact ⟨i + 1, _, by omega, by go_num, ST, hz3.out _, S.out⟩
          case measure => simp [intOf]; omega
    · have vv : dval O = dval a * dval b := by
        have h := hval.out
        rw [List.drop_of_length_le (by have := Hx.out; omega)] at h
        simpa [dval] using h
      have T := trim_any (some ⟨w.heap.size, 0, none⟩) (x + y) O wr MO.out.2.1 (fun j h => ⟨w.heap.size, rfl, MO.out.lt, MO.out.cell j h⟩) (by have := MO.out.1; omega)
      rw [MO.out.1, vv] at T
      have TT := Lib.hid T
      clear T vv hval hz
      go_wp2_with fail
      refine (TT.out).mono ?_
      intro e w2 hres
      have H2 := hres.from MO.out.2.2.2 (Nat.le_refl _)
      clear hres TT
      obtain ⟨t, p', c', rfl, rest⟩ := H2
      have RST := Lib.hid rest
      clear rest
      go_wp2_with fail
      go_ret
      exact ⟨t, p', c', rfl, RST.out⟩
end Go.Proofs.YtacliakmhkebbaaDoor
