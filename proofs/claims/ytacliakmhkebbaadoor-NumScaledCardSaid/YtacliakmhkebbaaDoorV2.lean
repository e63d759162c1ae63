/- num.Fair. -/
import Derived.Test.YtacliakmhkebbaaDoorV1
namespace Go.Proofs.YtacliakmhkebbaaDoor
open Go.RowKit
set_option linter.unusedVariables false
set_option linter.unusedSimpArgs false

/-- The last unit of part i is not due to part j. -/
def NotDue (a l : List Int) (i j : Nat) : Prop := 0 < gd l j → ¬ (2 * gd a j + 1) * gd l i < (2 * gd a i - 1) * gd l j
def Due (a l : List Int) (n i : Nat) : Prop := gd l i ≠ 0 ∧ ∀ j, j < n → NotDue a l i j
/-- The division is fair. -/
def OkF (a l : List Int) : Prop := ∀ i, i < l.length → 0 < gd a i → Due a l l.length i
def AmtOk (x : Int) : Prop := 0 ≤ x ∧ x ≤ 1125899906842624
def WgtOk (x : Int) : Prop := 0 ≤ x ∧ x ≤ 1073741824
/-- What Fair returns. -/
def FairR (a l : List Int) (F : Bool) (E : Int) : Prop :=
  ((256 < a.length ∨ 256 < l.length) ∧ F = false ∧ E = 3) ∨ (¬ (256 < a.length ∨ 256 < l.length) ∧ (a.length ≠ l.length ∨ (a.length = l.length ∧ ∃ i, i < l.length ∧ ¬ (AmtOk (gd a i) ∧ WgtOk (gd l i)))) ∧ F = false ∧ E = 2) ∨
  (¬ (256 < a.length ∨ 256 < l.length) ∧ a.length = l.length ∧ (∀ i, i < l.length → AmtOk (gd a i) ∧ WgtOk (gd l i)) ∧ (F = true ↔ OkF a l) ∧ E = 0)
theorem FairR.uniq {a l : List Int} {F F' : Bool} {E E' : Int} (h : FairR a l F E) (h' : FairR a l F' E') : F = F' ∧ E = E' := by
  rcases h with ⟨x, y, z⟩ | ⟨x, t, y, z⟩ | ⟨x, t, u, y, z⟩ <;> rcases h' with ⟨x', y', z'⟩ | ⟨x', t', y', z'⟩ | ⟨x', t', u', y', z'⟩
  · exact ⟨by rw [y, y'], by omega⟩
  · exact absurd x x'
  · exact absurd x x'
  · exact absurd x' x
  · exact ⟨by rw [y, y'], by omega⟩
  · exfalso
    rcases t with t | ⟨_, i, hi, t⟩
    · exact t t'
    · exact t (u' i hi)
  · exact absurd x' x
  · exfalso
    rcases t' with t' | ⟨_, i, hi, t'⟩
    · exact t' t
    · exact t' (u i hi)
  · refine ⟨?_, by omega⟩
    rw [Bool.eq_iff_iff, y, y']

set_option maxRecDepth 100000 in
set_option maxHeartbeats 4000000 in
theorem isDue_any (i : Nat) (p q : Option Addr) (c d : Nat) (a l : List Int) (w : World) (r : RowA w p a) (s : RowA w q l) (hl : a.length = l.length) (ln : l.length ≤ 256) (hi : i < l.length) (h1 : 1 ≤ gd a i)
    (hA : ∀ j, j < l.length → AmtOk (gd a j) ∧ WgtOk (gd l j)) :
    Calls Tryd.prog 54 #[.int .i64 i, .slice p l.length c, .slice q l.length d] w fun e w' => (∃ b, e = .returned (.bool b) ∧ (b = true ↔ Due a l l.length i)) ∧ ∃ n, w' = w.drewN n := by
  obtain ⟨xp, ep, kp, cpi⟩ := r i (by omega)
  obtain ⟨xq, eq, kq, cqi⟩ := s i hi
  subst ep eq
  have R := Lib.hid r
  have S := Lib.hid s
  have HA := Lib.hid hA
  obtain ⟨⟨p0, p1⟩, q0, q1⟩ := hA i hi
  unfold Due
  obtain ⟨x, hx⟩ : ∃ x, x = l.length := ⟨_, rfl⟩
  rw [← hx] at ln hi HA ⊢
  have HX := Lib.hid hx
  have HL := Lib.hid hl
  clear hx hl r s hA
  have i1 : (0 : Int) ≤ (i : Int) := by omega
  have i2 : (i : Int) < (x : Int) := by omega
  by_cases z : gd l i = 0
  · have F : Hid (false = true ↔ gd l i ≠ 0 ∧ ∀ j, j < x → NotDue a l i j) := ⟨fun h => (by cases h), fun h => absurd z h.1⟩
    rw [z] at cqi
    clear z q0 q1
    go_enter Tryd.func54, Tryd.ntmps54
    go_wp2_with fail
    go_ret
    exact ⟨⟨false, rfl, F.out⟩, 0, rfl⟩
  · have zb : (gd l i == 0) = false := by simpa using z
    have FT : Hid ((∀ j, j < x → NotDue a l i j) → (true = true ↔ gd l i ≠ 0 ∧ ∀ j, j < x → NotDue a l i j)) := fun h => ⟨fun _ => ⟨z, h⟩, fun _ => rfl⟩
    have FF : Hid (∀ j, j < x → ¬ NotDue a l i j → (false = true ↔ gd l i ≠ 0 ∧ ∀ j, j < x → NotDue a l i j)) := fun j hj hn => ⟨fun h => (by cases h), fun h => absurd (h.2 j hj) hn⟩
    have ND : Hid (∀ j, NotDue a l i j ↔ (0 < gd l j → ¬ (2 * gd a j + 1) * gd l i < (2 * gd a i - 1) * gd l j)) := fun j => Iff.rfl
    clear z
    generalize hli : gd l i = li at *
    generalize hai : gd a i = ai at *
    have HLI := Lib.hid hli
    have HAI := Lib.hid hai
    clear hli hai
    go_enter Tryd.func54, Tryd.ntmps54
    go_wp2_with fail
    go_loopw [16] (fun kv wr => ∃ k : Nat, k ≤ x ∧ kv = .int .i64 k ∧ Hid (∀ j, j < k → NotDue a l i j) ∧ ∃ n, wr = w.drewN n) (fun kv _ => x - (intOf kv).toNat)
    case atStart => exact ⟨0, Nat.zero_le _, rfl, by show ∀ j, _; intro j hj; omega, 0, rfl⟩
    case round =>
      obtain ⟨k, hk, rfl, HK, n, rfl⟩ := hrel
      by_cases t2 : k < x
      · obtain ⟨xp', ep, kp', cpk⟩ := R.out k (by have := HX.out; have := HL.out; omega)
        obtain rfl : xp = xp' := Option.some.inj ep
        obtain ⟨xq', eq, kq', cqk⟩ := S.out k (by have := HX.out; omega)
        obtain rfl : xq = xq' := Option.some.inj eq
        obtain ⟨⟨u0, u1⟩, v0, v1⟩ := HA.out k t2
        have NDk := Lib.hid (ND.out k)
        have FFk := Lib.hid (FF.out k t2)
        have NX : Hid (NotDue a l i k → ∀ j, j < k + 1 → NotDue a l i j) := fun h j hj => by
          rcases (by omega : j < k ∨ j = k) with e | e
          · exact HK.out j e
          · subst e; exact h
        have i3 : (k : Int) < (x : Int) := by omega
        have i4 : (0 : Int) ≤ (k : Int) := by omega
        clear ep eq kp' kq' HK
        generalize gd l k = v at *
        generalize gd a k = u at *
        by_cases pv : 0 < v
        · have e1 : IntKind.i64.wrap (2 * ai) = 2 * ai := IntWalk.i64_in _ (by omega)
          have e2 : IntKind.i64.wrap (2 * ai - 1) = 2 * ai - 1 := IntWalk.i64_in _ (by omega)
          have e3 : IntKind.i64.wrap (2 * u) = 2 * u := IntWalk.i64_in _ (by omega)
          have e4 : IntKind.i64.wrap (2 * u + 1) = 2 * u + 1 := IntWalk.i64_in _ (by omega)
          have CP := fun W => compare_any (2 * ai - 1) v (2 * u + 1) li (by omega) (by omega) v0 (by omega) (by omega) (by omega) q0 (by omega) W
          obtain ⟨Z, hZ⟩ : ∃ Z, Z = cmpZ ((2 * ai - 1) * v) ((2 * u + 1) * li) := ⟨_, rfl⟩
          rw [← hZ] at CP
          replace CP := Lib.hid CP
          by_cases hc : (2 * u + 1) * li < (2 * ai - 1) * v
          · have z1 : 0 < Z := by rw [hZ]; unfold cmpZ; rw [if_neg (by omega), if_pos hc]; omega
            have F := Lib.hid (FFk.out (fun h => absurd hc (by have := (NDk.out.1 h) pv; omega)))
            clear hZ hc NX FFk NDk FT FF ND
            go_wp2_with fail
            go_region_held3 (fun w' => w'.cell? (xp.add i) = some (.int .i64 ai) ∧ w'.cell? (xp.add k) = some (.int .i64 u) ∧ w'.cell? (xq.add i) = some (.int .i64 li)) (first | exact ⟨cpi, cpk, cqi⟩ | go_keep) (first | (go_at_call 77; (with_reducible refine (CP.out _).mono ?_); rintro e w1 ⟨rfl, rfl⟩))
            go_wp2_with fail
            go_ret
            exact ⟨⟨false, rfl, F.out⟩, _, rfl⟩
          · have z1 : ¬ 0 < Z := by
              rw [hZ]; unfold cmpZ
              by_cases h1 : (2 * ai - 1) * v < (2 * u + 1) * li
              · rw [if_pos h1]; omega
              · rw [if_neg h1, if_neg hc]; omega
            have F := Lib.hid (NX.out (NDk.out.2 (fun _ => by omega)))
            clear hZ hc NX FFk NDk
            go_wp2_with fail
            go_region_held3 (fun w' => w'.cell? (xp.add i) = some (.int .i64 ai) ∧ w'.cell? (xp.add k) = some (.int .i64 u) ∧ w'.cell? (xq.add i) = some (.int .i64 li)) (first | exact ⟨cpi, cpk, cqi⟩ | go_keep) (first | (go_at_call 77; (with_reducible refine (CP.out _).mono ?_); rintro e w1 ⟨rfl, rfl⟩))
            go_wp2_with fail
            go_roundw
            case rel => exact ⟨k + 1, by omega, by go_num, F, _, rfl⟩
            case measure => simp [intOf]; omega
        · have F := Lib.hid (NX.out (NDk.out.2 (fun h => absurd h pv)))
          have pd : decide (0 < v) = false := by simpa using pv
          clear NX FFk NDk
          go_wp2_with fail
          go_quiet (fail)
          go_wp2_with fail
          go_roundw
          case rel => exact ⟨k + 1, by omega, by go_num, F, _, rfl⟩
          case measure => simp [intOf]; omega
      · have F := Lib.hid (FT.out (fun j hj => HK.out j (by omega)))
        clear HK FT FF ND
        go_wp2_with fail
        go_ret
        exact ⟨⟨true, rfl, by simpa using F.out⟩, _, rfl⟩
end Go.Proofs.YtacliakmhkebbaaDoor
