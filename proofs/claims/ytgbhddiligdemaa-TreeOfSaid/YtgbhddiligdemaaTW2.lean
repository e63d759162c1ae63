/- Lists of rows in memory; the reference's Find and Rank. -/
import Derived.Test.YtgbhddiligdemaaK36
import Derived.Test.YtgbhddiligdemaaTW1
namespace Go.Proofs.Ytgbhddiligdemaa
open Go.RowKit
set_option linter.unusedVariables false
set_option linter.unusedSimpArgs false

def kd (L : List (Int × Int)) (i : Nat) : Int := (L[i]?.getD (0, 0)).1
def vd (L : List (Int × Int)) (i : Nat) : Int := (L[i]?.getD (0, 0)).2
theorem kvd {L : List (Int × Int)} {i : Nat} (h : i < L.length) : (kd L i, vd L i) = L[i] := by simp [kd, vd, h]
/-- The slice, wherever it lies, reads as this list, two cells a row. -/
def RowsR (w : World) (p : Option Addr) (L : List (Int × Int)) : Prop := ∀ i, i < L.length → ∃ x : Addr, p = some x ∧ x.block < w.heap.size ∧ w.cell? (x.add (i * 2)) = some (.int .i64 (kd L i)) ∧ w.cell? ⟨(x.add (i * 2)).block, (x.add (i * 2)).off + 1, none⟩ = some (.int .i64 (vd L i))
theorem adb (x : Addr) (i : Nat) : (x.add i).block = x.block := by unfold Addr.add; split <;> rfl
theorem RowsR.below {w w' : World} {p : Option Addr} {L : List (Int × Int)} (r : RowsR w p L) (hb : Below w.heap.size w w') : RowsR w' p L := fun i h => by
  obtain ⟨x, e, k, c, d⟩ := r i h
  exact ⟨x, e, Nat.lt_of_lt_of_le k hb.size, by rw [hb.cell (p := x.add (i * 2)) (by rw [adb]; exact k)]; exact c, by rw [hb.cell (p := ⟨(x.add (i * 2)).block, (x.add (i * 2)).off + 1, none⟩) (by rw [adb]; exact k)]; exact d⟩
theorem val_take_succ {L : List (Int × Int)} {k : Int} {i : Nat} (h : i < L.length) : val (L.take (i + 1)) k = (val (L.take i) k).or (if kd L i = k then some (vd L i) else none) := by
  rw [List.take_succ_eq_append_getElem h, val_append, val_cons, val_nil, ← kvd h]
/-- What Find answers. -/
def FindQ (L : List (Int × Int)) (k x : Int) : Prop := (val L k = none ∧ x = -1) ∨ ∃ i : Nat, i < L.length ∧ x = i ∧ kd L i = k ∧ val L k = some (vd L i)
theorem find_here {L : List (Int × Int)} {k : Int} {i : Nat} (h : i < L.length) (n : val (L.take i) k = none) (e : kd L i = k) : FindQ L k i :=
  .inr ⟨i, h, rfl, e, by
    have e2 : val (L.take (i + 1) ++ L.drop (i + 1)) k = some (vd L i) := by rw [val_append, val_take_succ h, n, if_pos e]; rfl
    rwa [List.take_append_drop] at e2⟩

set_option maxRecDepth 100000 in
theorem Find_any (p : Option Addr) (c : Nat) (L : List (Int × Int)) (k : Int) (w : World) (r : RowsR w p L) (ln : L.length ≤ 1000000) :
    Calls Try.prog 55 #[.slice p L.length c, .int .i64 k] w fun e w' => (∃ x, e = .returned (.int .i64 x) ∧ FindQ L k x) ∧ ∃ n, w' = w.drewN n := by
  have R := Lib.hid r
  obtain ⟨x, hx⟩ : ∃ x, x = L.length := ⟨_, rfl⟩
  rw [← hx] at ln ⊢
  have HX := Lib.hid hx
  clear hx r
  go_enter Try.func55, Try.ntmps55
  go_wp2_with fail
  go_loopw [5] (fun kv wr => ∃ i : Nat, i ≤ x ∧ kv = .int .i64 i ∧ Hid (val (L.take i) k = none) ∧ wr = w) (fun kv _ => x - (intOf kv).toNat)
  case atStart => exact ⟨0, Nat.zero_le _, rfl, Lib.hid rfl, rfl⟩
  case round =>
    obtain ⟨i, hi, rfl, hn, rfl⟩ := hrel
    by_cases t1 : i < x
    · have l1 : i < L.length := by have := HX.out; omega
      obtain ⟨xa, rfl, kx, cx, _⟩ := R.out i l1
      have i1 : (0 : Int) ≤ (i : Int) := by omega
      have i2 : (i : Int) < (x : Int) := by omega
      have F1 := Lib.hid (fun e => find_here (k := k) l1 hn.out e)
      have F2 := Lib.hid (fun (e : ¬ kd L i = k) => (by rw [val_take_succ l1, hn.out, if_neg e]; rfl : val (L.take (i + 1)) k = none))
      generalize kd L i = v at *
      by_cases t2 : v = k
      · have F := F1.out t2
        go_wp2_with fail
        go_ret
        exact ⟨⟨_, rfl, F⟩, 0, rfl⟩
      · have G := Lib.hid (F2.out t2)
        go_wp2_with fail
        go_roundw
        case rel => exact ⟨i + 1, by omega, by go_num, G, trivial⟩
        case measure => simp [intOf]; omega
    · have F : FindQ L k (-1) := .inl ⟨by have := hn.out; rwa [List.take_of_length_le (by have := HX.out; omega)] at this, rfl⟩
      go_wp2_with fail
      go_ret
      exact ⟨⟨_, rfl, F⟩, 0, rfl⟩

theorem rnk_take_succ {L : List (Int × Int)} {k : Int} {i : Nat} (h : i < L.length) : rnk (L.take (i + 1)) k = rnk (L.take i) k + if kd L i < k then 1 else 0 := by
  rw [List.take_succ_eq_append_getElem h, ← kvd h]
  unfold rnk
  rw [List.countP_append, List.countP_cons, List.countP_nil]
  by_cases e : kd L i < k <;> simp [KO.lt, e]

set_option maxRecDepth 100000 in
theorem rRank_any (p : Option Addr) (c : Nat) (L : List (Int × Int)) (k : Int) (w : World) (r : RowsR w p L) (ln : L.length ≤ 1000000) :
    Calls Try.prog 54 #[.slice p L.length c, .int .i64 k] w fun e w' => e = .returned (.int .i64 (rnk L k : Int)) ∧ ∃ n, w' = w.drewN n := by
  have R := Lib.hid r
  obtain ⟨x, hx⟩ : ∃ x, x = L.length := ⟨_, rfl⟩
  rw [← hx] at ln ⊢
  have HX := Lib.hid hx
  clear hx r
  go_enter Try.func54, Try.ntmps54
  go_wp2_with fail
  go_loopw [5, 6] (fun nv kv wr => ∃ i m : Nat, i ≤ x ∧ m ≤ i ∧ nv = .int .i64 m ∧ kv = .int .i64 i ∧ Hid (rnk (L.take i) k = m) ∧ wr = w) (fun _ kv _ => x - (intOf kv).toNat)
  case atStart => exact ⟨0, 0, Nat.zero_le _, Nat.le_refl _, rfl, rfl, Lib.hid rfl, rfl⟩
  case round =>
    obtain ⟨i, m, hi, hm, rfl, rfl, hn, rfl⟩ := hrel
    by_cases t1 : i < x
    · have l1 : i < L.length := by have := HX.out; omega
      obtain ⟨xa, rfl, kx, cx, _⟩ := R.out i l1
      have i1 : (0 : Int) ≤ (i : Int) := by omega
      have i2 : (i : Int) < (x : Int) := by omega
      have F1 := Lib.hid (fun (e : kd L i < k) => (by rw [rnk_take_succ l1, hn.out, if_pos e] : rnk (L.take (i + 1)) k = m + 1))
      have F2 := Lib.hid (fun (e : ¬ kd L i < k) => (by rw [rnk_take_succ l1, hn.out, if_neg e]; rfl : rnk (L.take (i + 1)) k = m))
      generalize kd L i = v at *
      by_cases t2 : v < k
      · have G := Lib.hid (F1.out t2)
        go_wp2_with fail
        go_roundw
        case rel => exact ⟨i + 1, m + 1, by omega, by omega, by go_num, by go_num, G, trivial⟩
        case measure => simp [intOf]; omega
      · have G := Lib.hid (F2.out t2)
        go_wp2_with fail
        go_roundw
        case rel => exact ⟨i + 1, m, by omega, by omega, by go_num, by go_num, G, trivial⟩
        case measure => simp [intOf]; omega
    · have F : (m : Int) = (rnk L k : Int) := by have := hn.out; rw [List.take_of_length_le (by have := HX.out; omega)] at this; omega
      go_wp2_with fail
      go_ret
      exact ⟨ret_i F, 0, rfl⟩
end Go.Proofs.Ytgbhddiligdemaa
