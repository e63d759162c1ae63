/- The laws' copied, same and kept. -/
import Derived.Test.YtacliakmhkebbaaDoorU3
namespace Go.Proofs.YtacliakmhkebbaaDoor
open Go.RowKit
set_option linter.unusedVariables false
set_option linter.unusedSimpArgs false

/-- The cells at block b read as l and two marks. -/
structure Cop (w : World) (b : Nat) (l : List Int) : Prop where
  lt : b < w.heap.size
  row : ∀ i, i < l.length → w.cell? ⟨b, i, none⟩ = some (.int .i64 (gd l i))
  m0 : w.cell? ⟨b, l.length, none⟩ = some (.int .i64 77)
  m1 : w.cell? ⟨b, l.length + 1, none⟩ = some (.int .i64 77)
theorem Cop.below {w w' : World} {b : Nat} {l : List Int} (h : Cop w b l) (hb : Below w.heap.size w w') : Cop w' b l :=
  ⟨Nat.lt_of_lt_of_le h.lt hb.size, fun i hi => (hb.cell (p := ⟨b, i, none⟩) h.lt).trans (h.row i hi), (hb.cell (p := ⟨b, l.length, none⟩) h.lt).trans h.m0, (hb.cell (p := ⟨b, l.length + 1, none⟩) h.lt).trans h.m1⟩
theorem add_zero_addr (b i : Nat) : (Addr.mk b 0 none).add i = ⟨b, i, none⟩ := by
  unfold Addr.add
  split
  · next h => subst h; rfl
  · simp
theorem Cop.rowA {w : World} {b : Nat} {l : List Int} (h : Cop w b l) : RowA w (some ⟨b, 0, none⟩) l := fun i hi => ⟨⟨b, 0, none⟩, rfl, h.lt, by rw [add_zero_addr]; exact h.row i hi⟩

set_option maxRecDepth 100000 in
set_option maxHeartbeats 2000000 in
theorem copied_any (q : Option Addr) (c : Nat) (l : List Int) (w : World) (r : RowA w q l) (ln : l.length ≤ 300) :
    Calls Tryd.prog 9 #[.slice q l.length c] w fun e w' => ∃ b, e = .returned (.slice (some ⟨b, 0, none⟩) l.length (l.length + 2)) ∧ Cop w' b l ∧ w.heap.size ≤ b ∧ Below w.heap.size w w' := by
  obtain ⟨i0, hi, hz0, hz1, hz2⟩ := info_parts intInfo
  have R := Lib.hid r
  obtain ⟨x, hx⟩ : ∃ x, x = l.length := ⟨_, rfl⟩
  have FC := Lib.hid (fun (w' : World) b (a : b < w'.heap.size) (h : ∀ i, i < x → w'.cell? ⟨b, i, none⟩ = some (.int .i64 (gd l i))) (h0 : w'.cell? ⟨b, x, none⟩ = some (.int .i64 77)) (h1 : w'.cell? ⟨b, x + 1, none⟩ = some (.int .i64 77)) => (show Cop w' b l from by subst hx; exact ⟨a, h, h0, h1⟩))
  rw [← hx] at ln ⊢
  have HX := Lib.hid hx
  clear hx r
  go_enter Tryd.func9, Tryd.ntmps9
  go_wp2_with (first
    | (at_make; refine wpList_make_full _ rfl _ _ 22 rfl w.heap.size 3 i0 (.int .i64 0) 1 Tryd.underlying22 hi hz0 hz1 .i64 .i64 _ _ (x + 2) rfl rfl (by omega) (by omega) (by rw [hz2]; omega) (by unfold maxLen; omega) (Nat.le_refl _) ?_; intro w0 hown0 hgrow0))
  rw [made_zeros] at hown0
  have M0 := Lib.hid (show MadeI w w0 w.heap.size (x + 2) (List.replicate (x + 2) 0) from ⟨by simp, Nat.le_refl _, hown0, (Below.refl _ _).grown hgrow0 (Nat.le_refl _) (fun k e => by cases e)⟩)
  clear hown0 hgrow0
  go_wp2_with fail
  go_loopw [4] (fun kv wr => ∃ (k : Nat) (O : List Int), k ≤ x + 2 ∧ kv = .int .i64 k ∧ Hid (MadeI w wr w.heap.size (x + 2) O) ∧ Hid (∀ j, j < k → (j < x → gd O j = gd l j) ∧ (x ≤ j → gd O j = 77))) (fun kv _ => x + 2 - (intOf kv).toNat)
  case atStart => exact ⟨0, _, Nat.zero_le _, rfl, M0, by show ∀ j, _; intro j hj; omega⟩
  case round =>
    clear M0
    obtain ⟨k, O, hk, rfl, MO, HO⟩ := hrel
    by_cases t1 : k < x + 2
    · have lO : k < O.length := by have := MO.out.1; omega
      have fO := MO.out.frozen k
      have cO := MO.out.cell k lO
      have gO := MO.out.lt
      have i1 : (0 : Int) ≤ (k : Int) := by omega
      have i2 : (k : Int) < ((x + 2 : Nat) : Int) := by omega
      by_cases t2 : k < x
      · have l1 : k < l.length := by have := HX.out; omega
        obtain ⟨xa, rfl, kx, cx0⟩ := R.out k l1
        have cx : wr.cell? (xa.add k) = some (.int .i64 (gd l k)) := (MO.out.2.2.2.cell (p := xa.add k) (by rw [add_block]; exact kx)).trans cx0
        have nb : ¬ w.heap.size = (xa.add k).block := by rw [add_block]; omega
        have cx2 : (wr.setCell ⟨w.heap.size, k, none⟩ (.int .i64 77)).cell? (xa.add k) = some (.int .i64 (gd l k)) := by
          rw [World.cell?_setCell_other _ _ _ _ (by intro e2; have := congrArg Addr.block e2; first | exact nb this | exact nb this.symm)]
          exact cx
        have MS := Lib.hid ((MO.out.set k 77).set k (gd l k))
        have HS : Hid (∀ j, j < k + 1 → (j < x → gd ((O.set k 77).set k (gd l k)) j = gd l j) ∧ (x ≤ j → gd ((O.set k 77).set k (gd l k)) j = 77)) := fun j hj => by
          rw [gd_set (by simpa using lO)]
          by_cases e : j = k
          · subst e; rw [if_pos rfl]; exact ⟨fun _ => rfl, fun h => by omega⟩
          · rw [if_neg e, gd_set lO, if_neg e]; exact HO.out j (by omega)
        have i3 : (k : Int) < (x : Int) := by omega
        clear cx0 HO
        generalize gd l k = v at *
        generalize gd O k = o at *
        go_wp2_with fail
        go_roundw
        case rel => exact ⟨k + 1, _, by omega, by go_num, MS, HS⟩
        case measure => simp [intOf]; omega
      · have MS := Lib.hid (MO.out.set k 77)
        have HS : Hid (∀ j, j < k + 1 → (j < x → gd (O.set k 77) j = gd l j) ∧ (x ≤ j → gd (O.set k 77) j = 77)) := fun j hj => by
          rw [gd_set lO]
          by_cases e : j = k
          · subst e; rw [if_pos rfl]; exact ⟨fun h => by omega, fun _ => rfl⟩
          · rw [if_neg e]; exact HO.out j (by omega)
        clear HO
        generalize gd O k = o at *
        go_wp2_with fail
        go_roundw
        case rel => exact ⟨k + 1, _, by omega, by go_num, MS, HS⟩
        case measure => simp [intOf]; omega
    · have LO := MO.out.1
      have C0 := Lib.hid (FC.out wr w.heap.size MO.out.lt (fun i hi => by rw [MO.out.cell i (by omega), (HO.out i (by omega)).1 hi]) (by rw [MO.out.cell x (by omega), (HO.out x (by omega)).2 (Nat.le_refl _)]) (by rw [MO.out.cell (x + 1) (by omega), (HO.out (x + 1) (by omega)).2 (by omega)]))
      clear HO
      go_wp2_with fail
      go_ret
      exact ⟨w.heap.size, rfl, C0.out, Nat.le_refl _, MO.out.2.2.2⟩

set_option maxRecDepth 100000 in
theorem same_eq (p q : Option Addr) (c d : Nat) (l : List Int) (w : World) (r : RowA w p l) (s : RowA w q l) (ln : l.length ≤ 1000000) :
    Calls Tryd.prog 14 #[.slice p l.length c, .slice q l.length d] w fun e w' => e = .returned (.bool true) ∧ ∃ n, w' = w.drewN n := by
  have R := Lib.hid r
  have S := Lib.hid s
  obtain ⟨x, hx⟩ : ∃ x, x = l.length := ⟨_, rfl⟩
  rw [← hx] at ln ⊢
  have HX := Lib.hid hx
  clear hx r s
  go_enter Tryd.func14, Tryd.ntmps14
  go_wp2_with fail
  go_loopw [5] (fun kv wr => ∃ k : Nat, k ≤ x ∧ kv = .int .i64 k ∧ ∃ n, wr = w.drewN n) (fun kv _ => x - (intOf kv).toNat)
  case atStart => exact ⟨0, Nat.zero_le _, rfl, 0, rfl⟩
  case round =>
    obtain ⟨k, hk, rfl, n, rfl⟩ := hrel
    by_cases t1 : k < x
    · have l1 : k < l.length := by have := HX.out; omega
      obtain ⟨xa, rfl, kx, cx⟩ := R.out k l1
      obtain ⟨xb, rfl, ky, cy⟩ := S.out k l1
      have i1 : (0 : Int) ≤ (k : Int) := by omega
      have i2 : (k : Int) < (x : Int) := by omega
      generalize gd l k = v at *
      go_wp2_with fail
      go_quiet (fail)
      go_wp2_with fail
      go_roundw
      case rel => exact ⟨k + 1, by omega, by go_num, _, rfl⟩
      case measure => simp [intOf]; omega
    · go_wp2_with fail
      go_ret
      exact ⟨rfl, _, rfl⟩

set_option maxRecDepth 100000 in
theorem kept_any (b : Nat) (q : Option Addr) (d : Nat) (l : List Int) (w : World) (h : Cop w b l) (s : RowA w q l) (ln : l.length ≤ 1000) :
    Calls Tryd.prog 15 #[.slice (some ⟨b, 0, none⟩) l.length (l.length + 2), .slice q l.length d] w fun e w' => e = .returned (.bool true) ∧ ∃ n, w' = w.drewN n := by
  have SM := Lib.hid (same_eq (some ⟨b, 0, none⟩) q (l.length + 2) d l w h.rowA s (by omega))
  obtain ⟨bz, -, m0, m1⟩ := h
  obtain ⟨x, hx⟩ : ∃ x, x = l.length := ⟨_, rfl⟩
  rw [← hx] at ln SM m0 m1 ⊢
  clear hx s
  go_enter Tryd.func15, Tryd.ntmps15
  go_wp2_with fail
  refine SM.out.mono ?_
  rintro e w1 ⟨rfl, n, rfl⟩
  have e1 : IntKind.i64.wrap ((x : Int) + 1) = x + 1 := IntWalk.i64_in _ (by omega)
  have e5 : ((x : Int) + 1).toNat = x + 1 := by omega
  have i1 : (0 : Int) ≤ x := by omega
  have i3 : (0 : Int) ≤ (x : Int) + 1 := by omega
  have i4 : (x : Int) + 1 < ((x + 2 : Nat) : Int) := by omega
  have i5 : (x : Int) < ((x + 2 : Nat) : Int) := by omega
  clear SM
  go_wp2_with fail
  go_ret
  exact ⟨rfl, _, rfl⟩
end Go.Proofs.YtacliakmhkebbaaDoor
