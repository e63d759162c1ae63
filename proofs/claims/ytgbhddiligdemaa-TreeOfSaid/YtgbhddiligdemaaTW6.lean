/- The reference's Joins and Ascending; the laws' pairs. -/
import Derived.Test.YtgbhddiligdemaaTW5
namespace Go.Proofs.Ytgbhddiligdemaa
open Go.RowKit
set_option linter.unusedVariables false
set_option linter.unusedSimpArgs false
open Mii (rowsV rowsV_snoc)

def joinsB (A B : List (Int × Int)) : Bool := A.isEmpty || B.isEmpty || decide (kd A (A.length - 1) < kd B 0)

set_option maxRecDepth 100000 in
set_option maxHeartbeats 2000000 in
theorem rJoins_any (s : Option Addr) (d : Nat) (A : List (Int × Int)) (p : Option Addr) (c : Nat) (B : List (Int × Int)) (w : World) (ra : RowsR w s A) (r : RowsR w p B) (la : A.length ≤ 1000000) (ln : B.length ≤ 1000000) :
    Calls Try.prog 84 #[.slice s A.length d, .slice p B.length c] w fun e w' => e = .returned (.bool (joinsB A B)) ∧ ∃ n, w' = w.drewN n := by
  obtain ⟨J, hJ⟩ : ∃ J, J = joinsB A B := ⟨_, rfl⟩
  rw [← hJ]
  obtain ⟨a, ha⟩ : ∃ a, a = A.length := ⟨_, rfl⟩
  obtain ⟨b, hb⟩ : ∃ b, b = B.length := ⟨_, rfl⟩
  rw [← ha] at la ⊢
  rw [← hb] at ln ⊢
  by_cases hA : a = 0
  · have e : J = true := by rw [hJ]; obtain rfl := List.length_eq_zero_iff.1 (ha.symm.trans hA); rfl
    subst hA e
    clear hJ ra r la ln ha hb
    go_enter Try.func84, Try.ntmps84
    go_wp2_with fail
    go_quiet (fail)
    go_wp2_with fail
    go_ret
    exact ⟨rfl, _, rfl⟩
  have e0 : ((a : Int) == 0) = false := by simp; omega
  by_cases hB : b = 0
  · have e : J = true := by rw [hJ]; obtain rfl := List.length_eq_zero_iff.1 (hb.symm.trans hB); simp [joinsB]
    subst hB e
    clear hJ ra r la ln ha hb hA
    go_enter Try.func84, Try.ntmps84
    go_wp2_with fail
    go_quiet (fail)
    go_wp2_with fail
    go_ret
    exact ⟨rfl, _, rfl⟩
  have e1 : ((b : Int) == 0) = false := by simp; omega
  obtain ⟨n, hn⟩ : ∃ n, a = n + 1 := ⟨a - 1, by omega⟩
  obtain ⟨xa, rfl, kx, cx, _⟩ := ra n (by omega)
  obtain ⟨ya, rfl, ky, cy, _⟩ := r 0 (by omega)
  have cy2 : w.cell? ya = some (.int .i64 (kd B 0)) := by simpa [Addr.add] using cy
  have E : J = decide (kd A n < kd B 0) := by
    rw [hJ]
    unfold joinsB
    rw [← ha, hn, Nat.add_sub_cancel]
    cases A with
    | nil => simp at ha; omega
    | cons a A => cases B with
      | nil => simp at hb; omega
      | cons b B => simp
  have q1 : IntKind.i64.wrap ((a : Int) - 1) = (n : Int) := by rw [show (a : Int) - 1 = n by omega]; exact IntWalk.i64_in _ (by omega)
  have i1 : (0 : Int) ≤ (n : Int) := by omega
  have i2 : (n : Int) < (a : Int) := by omega
  have i3 : (0 : Int) < (b : Int) := by omega
  clear hA hB ra r hn la ln hJ ha hb
  generalize kd A n = k at *
  generalize kd B 0 = l at *
  go_enter Try.func84, Try.ntmps84
  go_wp2_with fail
  go_quiet (fail)
  go_wp2_with fail
  go_ret
  exact ⟨ret_b E.symm, _, rfl⟩

theorem asc_take_succ {L : List (Int × Int)} {i : Nat} (h : i < L.length) (a : Asc (L.take i)) (g : i = 0 ∨ kd L (i - 1) < kd L i) : Asc (L.take (i + 1)) := by
  rw [List.take_succ_eq_append_getElem h]
  refine asc_append.2 ⟨a, List.pairwise_singleton _ _, fun x hx y hy => ?_⟩
  rw [List.mem_singleton] at hy; subst hy
  rcases g with rfl | g
  · simp at hx
  rw [← kvd h]
  show x.1 < kd L i
  obtain ⟨j, hj, rfl⟩ := List.getElem_of_mem hx
  simp only [List.length_take] at hj
  simp only [List.getElem_take]
  rw [← kvd (by omega)]
  show kd L j < kd L i
  rcases Nat.lt_or_ge j (i - 1) with c | c
  · have h1 := List.pairwise_iff_getElem.1 a j (i - 1) (by simp; omega) (by simp; omega) c
    simp only [List.getElem_take] at h1
    rw [← kvd (L := L) (i := j) (by omega), ← kvd (L := L) (i := i - 1) (by omega)] at h1
    have h2 : kd L j < kd L (i - 1) := h1
    omega
  · obtain rfl : j = i - 1 := by omega
    exact g
theorem not_asc {L : List (Int × Int)} {i : Nat} (h : i < L.length) (h0 : 0 < i) (g : kd L i ≤ kd L (i - 1)) : ¬ Asc L := fun a => by
  have h1 := List.pairwise_iff_getElem.1 a (i - 1) i (by omega) h (by omega)
  rw [← kvd (L := L) (i := i - 1) (by omega), ← kvd h] at h1
  have h2 : kd L (i - 1) < kd L i := h1
  omega
theorem drewN_drewN (w : World) (n m : Nat) : (w.drewN n).drewN m = w.drewN (n + m) := by simp [World.drewN, Nat.add_assoc]
instance (L : List (Int × Int)) : Decidable (Asc L) := by unfold Asc; infer_instance

set_option maxRecDepth 100000 in
set_option maxHeartbeats 2000000 in
theorem rAscending_any (p : Option Addr) (c : Nat) (L : List (Int × Int)) (w : World) (r : RowsR w p L) (ln : L.length ≤ 1000000) :
    Calls Try.prog 24 #[.slice p L.length c] w fun e w' => e = .returned (.bool (decide (Asc L))) ∧ ∃ n, w' = w.drewN n := by
  have R := Lib.hid r
  obtain ⟨J, hJ⟩ : ∃ J, J = decide (Asc L) := ⟨_, rfl⟩
  have HJ := Lib.hid hJ
  rw [← hJ]
  obtain ⟨x, hx⟩ : ∃ x, x = L.length := ⟨_, rfl⟩
  rw [← hx] at ln ⊢
  have HX := Lib.hid hx
  clear hx r hJ
  go_enter Try.func24, Try.ntmps24
  go_wp2_with fail
  go_loopw [3] (fun kv wr => ∃ i : Nat, (i + 1 ≤ x ∨ i = 0) ∧ kv = .int .i64 ((i : Int) + 1) ∧ Hid (Asc (L.take (i + 1))) ∧ ∃ n, wr = w.drewN n) (fun kv _ => x + 1 - (intOf kv).toNat)
  case atStart => exact ⟨0, .inr rfl, rfl, Lib.hid (by cases L with | nil => exact Asc.nil | cons a L => exact List.pairwise_singleton _ _), 0, rfl⟩
  case round =>
    obtain ⟨i, hi, rfl, hn, n, rfl⟩ := hrel
    by_cases t1 : i + 1 < x
    · have l1 : i + 1 < L.length := by have := HX.out; omega
      obtain ⟨xa, rfl, kx, cx, _⟩ := R.out i (by omega)
      obtain ⟨xb, e, ky, cy, _⟩ := R.out (i + 1) l1
      cases e
      have q1 : IntKind.i64.wrap ((i : Int) + 1 - 1) = (i : Int) := by rw [show (i : Int) + 1 - 1 = i by omega]; exact IntWalk.i64_in _ (by omega)
      have q2 : IntKind.i64.wrap ((i : Int) + 1 + 1) = (i : Int) + 1 + 1 := IntWalk.i64_in _ (by omega)
      have i1 : (0 : Int) ≤ (i : Int) := by omega
      have i2 : (i : Int) < (x : Int) := by omega
      have i3 : (0 : Int) ≤ (i : Int) + 1 := by omega
      have i4 : (i : Int) + 1 < (x : Int) := by omega
      have q3 : ((i : Int) + 1).toNat = i + 1 := by omega
      have F1 := Lib.hid (fun (e : kd L i < kd L (i + 1)) => asc_take_succ l1 hn.out (.inr e))
      have F2 := Lib.hid (fun (e : kd L (i + 1) ≤ kd L i) => not_asc l1 (by omega) e)
      generalize kd L i = u at *
      generalize kd L (i + 1) = v at *
      by_cases t2 : v ≤ u
      · have F := Lib.hid (show J = false from by rw [HJ.out]; simpa using F2.out t2)
        clear F1 F2 hn
        go_wp2_with fail
        go_quiet (fail)
        go_wp2_with fail
        go_ret
        exact ⟨ret_b F.out.symm, _, drewN_drewN _ _ _⟩
      · have G := Lib.hid (F1.out (by omega))
        clear F1 F2 hn
        go_wp2_with fail
        go_quiet (fail)
        go_wp2_with fail
        go_roundw
        case rel => exact ⟨i + 1, .inl (by omega), by simp, G, _, rfl⟩
        case measure => simp [intOf]; omega
    · have F := Lib.hid (show J = true from by rw [HJ.out]; have := hn.out; rw [List.take_of_length_le (by have := HX.out; omega)] at this; simpa using this)
      have t2 : ¬ (i : Int) + 1 < x := by omega
      clear hn
      go_wp2_with fail
      go_ret
      exact ⟨ret_b F.out.symm, _, rfl⟩
end Go.Proofs.Ytgbhddiligdemaa
