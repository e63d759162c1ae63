/- The reference's Union, Joins, Ascending. -/
import Derived.Test.YtgbhddiligdemaaTW4
namespace Go.Proofs.Ytgbhddiligdemaa
open Go.RowKit
set_option linter.unusedVariables false
set_option linter.unusedSimpArgs false
open Mii (rowsV rowsV_snoc)

theorem rowsV_at : ∀ (M : List (Int × Int)) (i : Nat), i < M.length → (rowsV M)[i * 2]? = some (.int .i64 (kd M i)) ∧ (rowsV M)[i * 2 + 1]? = some (.int .i64 (vd M i))
  | [], i, h => by simp at h
  | x :: M, 0, h => by simp [rowsV, kd, vd]
  | x :: M, i + 1, h => by
    have ih := rowsV_at M i (by simpa using h)
    have e : rowsV (x :: M) = [.int .i64 x.1, .int .i64 x.2] ++ rowsV M := rfl
    rw [e, List.getElem?_append_right (by simp; omega), List.getElem?_append_right (by simp; omega)]
    simp only [List.length_cons, List.length_nil]
    rw [show (i + 1) * 2 - (0 + 1 + 1) = i * 2 by omega, show (i + 1) * 2 + 1 - (0 + 1 + 1) = i * 2 + 1 by omega]
    simpa [kd, vd] using ih
theorem add0 (g i : Nat) : (Addr.mk g 0 none).add i = ⟨g, i, none⟩ := by
  unfold Addr.add
  split
  · next h => subst h; rfl
  · simp
/-- What a call hands back that reads as this list. -/
def ROut (w : World) (M : List (Int × Int)) (e : Ending) (w' : World) : Prop := ∃ p c, e = .returned (.slice p M.length c) ∧ RowsR w' p M ∧ Below w.heap.size w w'
/-- An own row of two-cell rows reads as its list. -/
theorem ownRows {W : World} {b : Nat} {t : TypeId} {v : Value} {M : List (Int × Int)} (h : W.ownsRow b t 2 v M.length (rowsV M)) : ∃ p c, v = .slice p M.length c ∧ RowsR W p M := by
  rcases h.2 with ⟨rfl, h0⟩ | ⟨g, cap, cur, rfl, hb, hg, hn, _, hs, ht⟩
  · exact ⟨none, 0, by rw [h0], fun i hi => by omega⟩
  · refine ⟨_, _, rfl, fun i hi => ⟨⟨g, 0, none⟩, rfl, (Array.getElem?_eq_some_iff.1 hg).1, ?_, ?_⟩⟩
    · rw [add0, cellAt hg, ← (rowsV_at M i hi).1, ← ht, List.getElem?_take_of_lt (by omega)]; simp
    · rw [add0]
      show W.cell? ⟨g, i * 2 + 1, none⟩ = _
      rw [cellAt hg, ← (rowsV_at M i hi).2, ← ht, List.getElem?_take_of_lt (by omega)]; simp
where cellAt {W : World} {b o : Nat} {c : Array Value} {t : TypeId} (h : W.heap[b]? = some (.cells c t (0, 0))) : W.cell? ⟨b, o, none⟩ = c[o]? := by simp [World.cell?, h]
theorem RowsRes.out {w w' : World} {M : List (Int × Int)} {e : Ending} (h : RowsRes w M e w') : ROut w M e w' := by
  obtain ⟨v, rfl, h, b⟩ := h
  obtain ⟨p, c, rfl, r⟩ := ownRows h
  exact ⟨p, c, rfl, r, b⟩

theorem uniF_length (B A : List (Int × Int)) : (uniF A B).length ≤ A.length + B.length := by
  induction B generalizing A with
  | nil => simp [uniF]
  | cons x B ih =>
    have := ih (putF x.1 x.2 A false)
    have := putF_length x.1 x.2 A false
    simp only [uniF, List.length_cons]; omega
theorem uniF_step {A B : List (Int × Int)} {i : Nat} (h : i < B.length) : uniF A (B.take (i + 1)) = putF (kd B i) (vd B i) (uniF A (B.take i)) false := by
  rw [uniF_take B A i h, ← kvd h]

set_option maxRecDepth 100000 in
set_option maxHeartbeats 2000000 in
theorem rUnion_any (s : Option Addr) (d : Nat) (A : List (Int × Int)) (p : Option Addr) (c : Nat) (L : List (Int × Int)) (w : World) (ra : RowsR w s A) (r : RowsR w p L) (la : A.length ≤ 400000) (ln : L.length ≤ 400000) :
    Calls Try.prog 67 #[.slice s A.length d, .slice p L.length c] w (ROut w (uniF A L)) := by
  have R := Lib.hid r
  have RA := Lib.hid ra
  have UL := Lib.hid (fun i => (by have := uniF_length (L.take i) A; simp at this; omega : (uniF A (L.take i)).length ≤ 800000))
  obtain ⟨x, hx⟩ : ∃ x, x = L.length := ⟨_, rfl⟩
  rw [← hx] at ln ⊢
  have HX := Lib.hid hx
  clear hx r ra
  go_enter Try.func67, Try.ntmps67
  go_wp2_with fail
  go_loopw [5, 6] (fun ov kv wr => ∃ (i : Nat) (M : List (Int × Int)) (q : Option Addr) (cq : Nat), i ≤ x ∧ ov = .slice q M.length cq ∧ kv = .int .i64 i ∧ Hid (M = uniF A (L.take i)) ∧ Hid (RowsR wr q M) ∧ Below w.heap.size w wr) (fun _ kv _ => x - (intOf kv).toNat)
  case atStart => exact ⟨0, A, s, d, Nat.zero_le _, rfl, rfl, Lib.hid rfl, RA, Below.refl _ _⟩
  case round =>
    obtain ⟨i, M, q, cq, hi', rfl, rfl, HM, HR, hbel⟩ := hrel
    by_cases t1 : i < x
    · have l1 : i < L.length := by have := HX.out; omega
      obtain ⟨xa, rfl, kx, cx0, dx0⟩ := R.out i l1
      have cx : wr.cell? (xa.add (i * 2)) = some (.int .i64 (kd L i)) := (hbel.cell (by rw [adb]; exact kx)).trans cx0
      have dx : wr.cell? ⟨(xa.add (i * 2)).block, (xa.add (i * 2)).off + 1, none⟩ = some (.int .i64 (vd L i)) := (hbel.cell (p := ⟨(xa.add (i * 2)).block, (xa.add (i * 2)).off + 1, none⟩) (by rw [adb]; exact kx)).trans dx0
      have i1 : (0 : Int) ≤ (i : Int) := by omega
      have i2 : (i : Int) < (x : Int) := by omega
      have LM : M.length ≤ 1000000 := by have := UL.out i; rw [HM.out]; omega
      have P := Lib.hid (fun W hW => rPut_any q cq M (kd L i) (vd L i) W hW LM)
      have F := Lib.hid (show putF (kd L i) (vd L i) M false = uniF A (L.take (i + 1)) by rw [uniF_step l1, ← HM.out])
      have BL := Lib.hid hbel
      generalize kd L i = k at *
      generalize vd L i = y at *
      generalize hml : M.length = ml at *
      clear cx0 dx0 LM UL RA HM hml
      go_wp2_with fail
      go_region_held3 (fun w' => w'.cell? (xa.add (i * 2)) = some (.int .i64 k) ∧ w'.cell? ⟨(xa.add (i * 2)).block, (xa.add (i * 2)).off + 1, none⟩ = some (.int .i64 y))
        (exact ⟨cx, dx⟩)
        (first
          | (go_at_call 87; (with_reducible refine (P.out _ (by first | exact HR.out | exact HR.out.below (Below.refl _ wr).drew)).mono ?_); rintro e w1 ⟨v', rfl, ho, st0⟩; obtain ⟨p1, c1, rfl, r1⟩ := ownRows ho; have B1 : Below w.heap.size w w1 := (Below.dr BL.out).trans (st0.mono BL.out.size); have R1 := Lib.hid r1; replace cx := cell_gr st0 (cell_dr cx); replace dx := cell_gr st0 (cell_dr dx); clear ho r1 st0 BL P HR hbel))
      go_wp2_with fail
      go_roundw
      case rel => exact ⟨i + 1, _, p1, c1, by omega, rfl, by go_num, F, R1, B1⟩
      case measure => simp [intOf]; omega
    · have F : M = uniF A L := by have := HM.out; rwa [List.take_of_length_le (by have := HX.out; omega)] at this
      subst F
      go_wp2_with fail
      go_ret
      exact ⟨_, _, rfl, HR.out, hbel⟩
end Go.Proofs.Ytgbhddiligdemaa
