/- next: the part that has the next unit. -/
import Derived.Test.YtacliakmhkebbaaDoorU1
import Derived.Deep.RegionHeld3
namespace Go.Proofs.YtacliakmhkebbaaDoor
open Go.RowKit
set_option linter.unusedVariables false
set_option linter.unusedSimpArgs false

theorem cross_u {A B C D q s : Int} (hD : 0 < D) (hq : 0 < q) (hs : 0 < s) (h1 : A * D < B * q) (h2 : B * s ≤ C * D) : A * s < C * q := by
  have : (A * s) * D < (C * q) * D := by
    calc (A * s) * D = (A * D) * s := by ac_rfl
      _ < (B * q) * s := Int.mul_lt_mul_of_pos_right h1 hs
      _ = (B * s) * q := by ac_rfl
      _ ≤ (C * D) * q := Int.mul_le_mul_of_nonneg_right h2 (by omega)
      _ = (C * q) * D := by ac_rfl
  exact Int.lt_of_mul_lt_mul_right this (by omega)
/-- Of the first k parts f has the next unit. -/
def Fst (l P : List Int) (k f : Nat) : Prop := 0 < gd l f ∧ ∀ j, j < k → 0 < gd l j → f ≠ j → Ahead (2 * gd P f + 1) (gd l f) f (2 * gd P j + 1) (gd l j) j
theorem Fst.skip {l P : List Int} {k f : Nat} (h : Fst l P k f) (z : ¬ 0 < gd l k) : Fst l P (k + 1) f := ⟨h.1, fun j hj pj ne => by
  rcases (by omega : j < k ∨ j = k) with t | t
  · exact h.2 j t pj ne
  · subst t; exact absurd pj z⟩
theorem Fst.new {l P : List Int} {k : Nat} (h : ∀ j, j < k → ¬ 0 < gd l j) (p : 0 < gd l k) : Fst l P (k + 1) k := ⟨p, fun j hj pj ne => absurd pj (h j (by omega))⟩
theorem Fst.take {l P : List Int} {k f : Nat} (h : Fst l P k f) (p : 0 < gd l k) (c : (2 * gd P k + 1) * gd l f < (2 * gd P f + 1) * gd l k) : Fst l P (k + 1) k := ⟨p, fun j hj pj ne => by
  by_cases e : j = f
  · subst e; exact .inl c
  · have := h.2 j (by omega) pj (fun z => e z.symm)
    exact .inl (cross_u h.1 p pj c (by unfold Ahead at this; omega))⟩
theorem Fst.keep {l P : List Int} {k f : Nat} (h : Fst l P k f) (hf : f < k) (c : ¬ (2 * gd P k + 1) * gd l f < (2 * gd P f + 1) * gd l k) : Fst l P (k + 1) f := ⟨h.1, fun j hj pj ne => by
  rcases (by omega : j < k ∨ j = k) with t | t
  · exact h.2 j t pj ne
  · subst t
    rcases (by omega : (2 * gd P f + 1) * gd l j < (2 * gd P j + 1) * gd l f ∨ (2 * gd P f + 1) * gd l j = (2 * gd P j + 1) * gd l f) with u | u
    · exact .inl u
    · exact .inr ⟨u, hf⟩⟩

/-- What next keeps. -/
def NxAt (l P : List Int) (k : Nat) (fv : Value) : Prop := (fv = .int .i64 (-1) ∧ Hid (∀ j, j < k → ¬ 0 < gd l j)) ∨ ∃ f : Nat, f < k ∧ fv = .int .i64 f ∧ Hid (Fst l P k f)

set_option maxRecDepth 100000 in
set_option maxHeartbeats 4000000 in
theorem next_any (g : Nat) (cp : Nat) (P : List Int) (q : Option Addr) (c : Nat) (l : List Int) (w : World) (rp : ∀ i, i < l.length → w.cell? ⟨g, i, none⟩ = some (.int .i64 (gd P i))) (gz : g < w.heap.size) (r : RowA w q l) (ln : l.length ≤ 1000000)
    (hP : ∀ i, 0 ≤ gd P i ∧ gd P i ≤ 1152921504606846976) (hl : ∀ i, i < l.length → 0 ≤ gd l i ∧ gd l i ≤ 1073741824) (ex : ∃ i, i < l.length ∧ 0 < gd l i) :
    Calls Tryd.prog 40 #[.slice (some ⟨g, 0, none⟩) l.length cp, .slice q l.length c] w fun e w' => (∃ i : Nat, e = .returned (.int .i64 i) ∧ Nx l P i) ∧ ∃ n, w' = w.drewN n := by
  obtain ⟨x, hx⟩ : ∃ x, x = l.length := ⟨_, rfl⟩
  rw [← hx] at ln ⊢
  have HX := Lib.hid hx
  have R := Lib.hid r
  have RP := Lib.hid rp
  have HP := Lib.hid hP
  have HL := Lib.hid hl
  have EX := Lib.hid ex
  clear hx r rp hP hl ex
  go_enter Tryd.func40, Tryd.ntmps40
  go_wp2_with fail
  go_loopw [5, 10] (fun fv kv wr => ∃ k : Nat, k ≤ x ∧ kv = .int .i64 k ∧ NxAt l P k fv ∧ ∃ n, wr = w.drewN n) (fun _ kv _ => x - (intOf kv).toNat)
  case atStart => exact ⟨0, Nat.zero_le _, rfl, .inl ⟨rfl, by show ∀ j, _; intro j hj; omega⟩, 0, rfl⟩
  case round =>
    obtain ⟨k, hk, rfl, hn, n, rfl⟩ := hrel
    by_cases t2 : k < x
    · have l1 : k < l.length := by have := HX.out; omega
      obtain ⟨xa, rfl, kx, cx⟩ := R.out k l1
      obtain ⟨v0, v1⟩ := HL.out k l1
      obtain ⟨P0, P1⟩ := HP.out k
      have cP := RP.out k l1
      have i3 : (k : Int) < (x : Int) := by omega
      by_cases z : gd l k = 0
      · have nz : ¬ 0 < gd l k := by omega
        have NK : Hid (∀ f, Fst l P k f → Fst l P (k + 1) f) := fun f h => h.skip nz
        have NK2 : Hid ((∀ j, j < k → ¬ 0 < gd l j) → ∀ j, j < k + 1 → ¬ 0 < gd l j) := fun h j hj => by
          rcases (by omega : j < k ∨ j = k) with t | t
          · exact h j t
          · subst t; exact nz
        rw [z] at cx
        clear z nz v0 v1 cP P0 P1
        go_wp2_with fail
        go_roundw
        case rel =>
          refine ⟨k + 1, by omega, by go_num, ?_, _, rfl⟩
          rcases hn with ⟨rfl, h⟩ | ⟨f, hf, rfl, h⟩
          · exact .inl ⟨rfl, NK2.out h.out⟩
          · exact .inr ⟨f, by omega, rfl, NK.out f h.out⟩
        case measure => simp [intOf]; omega
      · have pz : 0 < gd l k := by omega
        have zb : (gd l k == 0) = false := by simpa using z
        rcases hn with ⟨rfl, h⟩ | ⟨f, hf, rfl, h⟩
        · have NK := Lib.hid (Fst.new (P := P) h.out pz)
          clear h z pz cP P0 P1
          generalize gd l k = v at *
          go_wp2_with fail
          go_quiet (fail)
          go_wp2_with fail
          go_roundw
          case rel => exact ⟨k + 1, by omega, by go_num, .inr ⟨k, by omega, rfl, NK⟩, _, rfl⟩
          case measure => simp [intOf]; omega
        · have lf : f < l.length := by omega
          obtain ⟨xb, exb, kxb, cxf⟩ := R.out f lf
          obtain rfl : xa = xb := Option.some.inj exb
          obtain ⟨f0, f1⟩ := HL.out f lf
          obtain ⟨Q0, Q1⟩ := HP.out f
          have cQ := RP.out f lf
          have T1 : Hid ((2 * gd P k + 1) * gd l f < (2 * gd P f + 1) * gd l k → Fst l P (k + 1) k) := fun c => h.out.take pz c
          have T2 : Hid (¬ (2 * gd P k + 1) * gd l f < (2 * gd P f + 1) * gd l k → Fst l P (k + 1) f) := fun c => h.out.keep hf c
          clear h z pz exb kxb
          have i4 : (f : Int) < (x : Int) := by omega
          have i5 : (0 : Int) ≤ (f : Int) := by omega
          have i6 : (0 : Int) ≤ (k : Int) := by omega
          generalize gd l k = v at *
          generalize gd l f = u at *
          generalize gd P k = a at *
          generalize gd P f = b at *
          have e1 : IntKind.i64.wrap (2 * a) = 2 * a := IntWalk.i64_in _ (by omega)
          have e2 : IntKind.i64.wrap (2 * a + 1) = 2 * a + 1 := IntWalk.i64_in _ (by omega)
          have e3 : IntKind.i64.wrap (2 * b) = 2 * b := IntWalk.i64_in _ (by omega)
          have e4 : IntKind.i64.wrap (2 * b + 1) = 2 * b + 1 := IntWalk.i64_in _ (by omega)
          have CP := Lib.hid (fun W => compare_any (2 * a + 1) u (2 * b + 1) v (by omega) (by omega) f0 (by omega) (by omega) (by omega) v0 (by omega) W)
          have CZ : Hid (∀ Z, Z = cmpZ ((2 * a + 1) * u) ((2 * b + 1) * v) → (Z < 0 ∧ Fst l P (k + 1) k) ∨ (¬ Z < 0 ∧ Fst l P (k + 1) f)) := fun Z hZ => by
            subst hZ
            by_cases c : (2 * a + 1) * u < (2 * b + 1) * v
            · exact .inl ⟨by unfold cmpZ; rw [if_pos c]; omega, T1.out c⟩
            · exact .inr ⟨by unfold cmpZ; rw [if_neg c]; split <;> omega, T2.out c⟩
          clear T1 T2
          obtain ⟨Z, hZ⟩ : ∃ Z, Z = cmpZ ((2 * a + 1) * u) ((2 * b + 1) * v) := ⟨_, rfl⟩
          rw [← hZ] at CP
          rcases CZ.out Z hZ with ⟨cz, NK⟩ | ⟨cz, NK⟩
          · replace NK := Lib.hid NK
            clear CZ hZ
            go_wp2_with fail
            go_region_held3 (fun w' => w'.cell? ⟨g, k, none⟩ = some (.int .i64 a) ∧ w'.cell? ⟨g, f, none⟩ = some (.int .i64 b) ∧ w'.cell? (xa.add f) = some (.int .i64 u)) (first | exact ⟨cP, cQ, cxf⟩ | go_keep) (first | (go_at_call 77; (with_reducible refine (CP.out _).mono ?_); rintro e w1 ⟨rfl, rfl⟩))
            go_wp2_with fail
            go_roundw
            case rel => exact ⟨k + 1, by omega, by go_num, .inr ⟨k, by omega, rfl, NK⟩, _, rfl⟩
            case measure => simp [intOf]; omega
          · replace NK := Lib.hid NK
            clear CZ hZ
            go_wp2_with fail
            go_region_held3 (fun w' => w'.cell? ⟨g, k, none⟩ = some (.int .i64 a) ∧ w'.cell? ⟨g, f, none⟩ = some (.int .i64 b) ∧ w'.cell? (xa.add f) = some (.int .i64 u)) (first | exact ⟨cP, cQ, cxf⟩ | go_keep) (first | (go_at_call 77; (with_reducible refine (CP.out _).mono ?_); rintro e w1 ⟨rfl, rfl⟩))
            go_wp2_with fail
            go_roundw
            case rel => exact ⟨k + 1, by omega, by go_num, .inr ⟨f, by omega, rfl, NK⟩, _, rfl⟩
            case measure => simp [intOf]; omega
    · have kx : k = l.length := by have := HX.out; omega
      obtain ⟨j, hj, pj⟩ := EX.out
      rcases hn with ⟨rfl, h⟩ | ⟨f, hf, rfl, h⟩
      · exact absurd pj (h.out j (by omega))
      · have F := Lib.hid (show Nx l P f from ⟨by omega, h.out.1, fun i hi pi ne => h.out.2 i (by omega) pi ne⟩)
        clear h pj hj kx
        go_wp2_with fail
        go_ret
        exact ⟨⟨f, rfl, F.out⟩, _, rfl⟩
end Go.Proofs.YtacliakmhkebbaaDoor
