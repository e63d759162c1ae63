/- num.Fair in general. -/
import Derived.Test.YtacliakmhkebbaaDoorV2
namespace Go.Proofs.YtacliakmhkebbaaDoor
open Go.RowKit
set_option linter.unusedVariables false
set_option linter.unusedSimpArgs false

/-- The two results. -/
def FairP (a l : List Int) (e : Ending) : Prop := ∃ F E, e = .returned (.tuple #[.bool F, .int .i64 E]) ∧ FairR a l F E
set_option maxRecDepth 100000 in
set_option maxHeartbeats 4000000 in
theorem Fair_any (p q : Option Addr) (c d : Nat) (a l : List Int) (w : World) (r : RowA w p a) (s : RowA w q l) (la : a.length ≤ 1000000) (ll : l.length ≤ 1000000) :
    Calls Tryd.prog 23 #[.slice p a.length c, .slice q l.length d] w fun e w' => FairP a l e ∧ ∃ n, w' = w.drewN n := by
  obtain ⟨x, hx⟩ : ∃ x, x = l.length := ⟨_, rfl⟩
  obtain ⟨y, hy⟩ : ∃ y, y = a.length := ⟨_, rfl⟩
  by_cases h1 : 256 < a.length ∨ 256 < l.length
  · have F := Lib.hid (show FairR a l false 3 from .inl ⟨h1, rfl, rfl⟩)
    rw [← hx, ← hy] at h1
    rw [← hx, ← hy] at ⊢
    clear hx hy r s la ll
    rcases (by omega : 256 < y ∨ (¬ 256 < y ∧ 256 < x)) with h | ⟨h, h'⟩
    · clear h1
      go_enter Tryd.func23, Tryd.ntmps23
      go_wp2_with fail
      go_ret2
      exact ⟨⟨_, _, rfl, F.out⟩, 0, rfl⟩
    · clear h1
      go_enter Tryd.func23, Tryd.ntmps23
      go_wp2_with fail
      go_ret2
      exact ⟨⟨_, _, rfl, F.out⟩, 0, rfl⟩
  by_cases h2 : a.length = l.length
  · have R := Lib.hid r
    have S := Lib.hid s
    have BAD : Hid (∀ i, i < x → ¬ (AmtOk (gd a i) ∧ WgtOk (gd l i)) → FairR a l false 2) := fun i hi hb => .inr (.inl ⟨h1, .inr ⟨h2, i, by omega, hb⟩, rfl, rfl⟩)
    have DONE : Hid ((∀ i, i < x → AmtOk (gd a i) ∧ WgtOk (gd l i)) → OkF a l → FairR a l true 0) := fun h k => .inr (.inr ⟨h1, h2, fun i hi => h i (by omega), ⟨fun _ => k, fun _ => rfl⟩, rfl⟩)
    have FAIL : Hid ((∀ i, i < x → AmtOk (gd a i) ∧ WgtOk (gd l i)) → ¬ OkF a l → FairR a l false 0) := fun h k => .inr (.inr ⟨h1, h2, fun i hi => h i (by omega), ⟨fun z => (by cases z), fun z => absurd z k⟩, rfl⟩)
    have OK : Hid (OkF a l ↔ ∀ i, i < x → 0 < gd a i → Due a l x i) := by show OkF a l ↔ _; rw [hx]; exact Iff.rfl
    have DU := Lib.hid (fun i W hr hs hi h0 hA => isDue_any i p q c d a l W hr hs h2 (by omega) hi h0 hA)
    have HL := Lib.hid h2
    have hxy : y = x := by omega
    subst hxy
    rw [← hx] at h1
    rw [← hy] at h1
    rw [← hx, ← hy]
    rw [← hx] at DU
    have HX := Lib.hid hx
    have ln : y ≤ 256 := by omega
    clear hx hy h1 h2 r s la ll
    go_enter Tryd.func23, Tryd.ntmps23
    go_wp2_with fail
    go_loop [25] (fun kv => ∃ k : Nat, k ≤ y ∧ kv = .int .i64 k ∧ Hid (∀ j, j < k → AmtOk (gd a j) ∧ WgtOk (gd l j))) (fun kv => y - (intOf kv).toNat)
    case atStart => exact ⟨0, Nat.zero_le _, rfl, by show ∀ j, _; intro j hj; omega⟩
    case round =>
      obtain ⟨k, hk, rfl, HK⟩ := hrel
      by_cases t2 : k < y
      · obtain ⟨xp, rfl, kp, cp⟩ := R.out k (by have := HX.out; have := HL.out; omega)
        obtain ⟨xq, rfl, kq, cq⟩ := S.out k (by have := HX.out; omega)
        have NX : Hid (AmtOk (gd a k) ∧ WgtOk (gd l k) → ∀ j, j < k + 1 → AmtOk (gd a j) ∧ WgtOk (gd l j)) := fun h j hj => by
          rcases (by omega : j < k ∨ j = k) with e | e
          · exact HK.out j e
          · subst e; exact h
        have BK := Lib.hid (BAD.out k t2)
        have i3 : (k : Int) < (y : Int) := by omega
        have i4 : (0 : Int) ≤ (k : Int) := by omega
        clear HK
        generalize gd a k = u at *
        generalize gd l k = v at *
        by_cases ha : AmtOk u
        · have DA : (decide (0 ≤ u) && decide (u ≤ 1125899906842624)) = true := by unfold AmtOk at ha; simp [ha]
          by_cases hb : WgtOk v
          · have DW : (decide (0 ≤ v) && decide (v ≤ 1073741824)) = true := by unfold WgtOk at hb; simp [hb]
            have F := Lib.hid (NX.out ⟨ha, hb⟩)
            clear NX BK ha hb
            go_wp2_with fail
            refine (isAmount_any _ _).mono ?_
            rintro e w1 ⟨rfl, rfl⟩
            rw [DA]
            go_wp2_with fail
            refine (isWeight_any _ _).mono ?_
            rintro e w1 ⟨rfl, rfl⟩
            rw [DW]
            go_wp2_with fail
            go_round
            case rel => exact ⟨k + 1, by omega, by go_num, F⟩
            case measure => simp [intOf]; omega
          · have DW : (decide (0 ≤ v) && decide (v ≤ 1073741824)) = false := by unfold WgtOk at hb; rw [Bool.and_eq_false_iff]; simp only [decide_eq_false_iff_not]; omega
            have F := Lib.hid (BK.out (fun h => hb h.2))
            clear NX BK ha hb
            go_wp2_with fail
            refine (isAmount_any _ _).mono ?_
            rintro e w1 ⟨rfl, rfl⟩
            rw [DA]
            go_wp2_with fail
            refine (isWeight_any _ _).mono ?_
            rintro e w1 ⟨rfl, rfl⟩
            rw [DW]
            go_wp2_with fail
            go_ret2
            exact ⟨⟨_, _, rfl, F.out⟩, 0, rfl⟩
        · have DA : (decide (0 ≤ u) && decide (u ≤ 1125899906842624)) = false := by unfold AmtOk at ha; rw [Bool.and_eq_false_iff]; simp only [decide_eq_false_iff_not]; omega
          have F := Lib.hid (BK.out (fun h => ha h.1))
          clear NX BK ha
          go_wp2_with fail
          refine (isAmount_any _ _).mono ?_
          rintro e w1 ⟨rfl, rfl⟩
          rw [DA]
          go_wp2_with fail
          go_ret2
          exact ⟨⟨_, _, rfl, F.out⟩, 0, rfl⟩
      · have GD : Hid (∀ i, i < y → AmtOk (gd a i) ∧ WgtOk (gd l i)) := fun i hi => HK.out i (by omega)
        have DN := Lib.hid (DONE.out GD.out)
        have FL := Lib.hid (FAIL.out GD.out)
        clear HK BAD DONE FAIL
        go_wp2_with fail
        go_loopw [44] (fun kv wr => ∃ k : Nat, k ≤ y ∧ kv = .int .i64 k ∧ Hid (∀ j, j < k → 0 < gd a j → Due a l y j) ∧ ∃ n, wr = w.drewN n) (fun kv _ => y - (intOf kv).toNat)
        case atStart => exact ⟨0, Nat.zero_le _, rfl, by show ∀ j, _; intro j hj; omega, 0, rfl⟩
        case round =>
          obtain ⟨k2, hk2, rfl, HK, n, rfl⟩ := hrel
          by_cases t3 : k2 < y
          · have DUk := Lib.hid (fun W hr hs h0 => DU.out k2 W hr hs t3 h0 GD.out)
            obtain ⟨xp, rfl, kp, cp⟩ := R.out k2 (by have := HX.out; have := HL.out; omega)
            have NX : Hid ((0 < gd a k2 → Due a l y k2) → ∀ j, j < k2 + 1 → 0 < gd a j → Due a l y j) := fun h j hj => by
              rcases (by omega : j < k2 ∨ j = k2) with e | e
              · exact HK.out j e
              · subst e; exact h
            have NO : Hid (0 < gd a k2 → ¬ Due a l y k2 → FairR a l false 0) := fun h0 h => FL.out (fun z => h (OK.out.1 z k2 t3 h0))
            have i3 : (k2 : Int) < (y : Int) := by omega
            have i4 : (0 : Int) ≤ (k2 : Int) := by omega
            have RD := Lib.hid (R.out.drewN n)
            have SD := Lib.hid (S.out.drewN n)
            clear HK
            by_cases pu : 0 < gd a k2
            · replace DUk := Lib.hid (DUk.out _ RD.out SD.out (by omega))
              generalize gd a k2 = u at *
              go_wp2_with fail
              refine DUk.out.mono ?_
              rintro e w1 ⟨⟨b, rfl, hb⟩, m, rfl⟩
              cases b
              · have F := Lib.hid (NO.out pu (fun z => by have := hb.2 z; cases this))
                clear NX NO DUk hb
                go_wp2_with fail
                go_ret2
                exact ⟨⟨_, _, rfl, F.out⟩, _, rfl⟩
              · have F := Lib.hid (NX.out (fun _ => hb.1 rfl))
                clear NX NO DUk hb
                go_wp2_with fail
                go_roundw
                case rel => exact ⟨k2 + 1, by omega, by go_num, F, _, rfl⟩
                case measure => simp [intOf]; omega
            · have F := Lib.hid (NX.out (fun h => absurd h pu))
              clear NX NO DUk
              generalize gd a k2 = u at *
              have pd : decide (0 < u) = false := by simpa using pu
              go_wp2_with fail
              go_roundw
              case rel => exact ⟨k2 + 1, by omega, by go_num, F, _, rfl⟩
              case measure => simp [intOf]; omega
          · have F := Lib.hid (DN.out (OK.out.2 (fun i hi => HK.out i (by omega))))
            clear HK DN FL OK
            go_wp2_with fail
            go_ret2
            exact ⟨⟨_, _, rfl, F.out⟩, _, rfl⟩
  · have F := Lib.hid (show FairR a l false 2 from .inr (.inl ⟨h1, .inl h2, rfl, rfl⟩))
    rw [← hx, ← hy] at h1 h2
    rw [← hx, ← hy] at ⊢
    have hb : ((y : Int) != (x : Int)) = true := by simp; omega
    clear hx hy r s la ll
    go_enter Tryd.func23, Tryd.ntmps23
    go_wp2_with fail
    go_ret2
    exact ⟨⟨_, _, rfl, F.out⟩, 0, rfl⟩
end Go.Proofs.YtacliakmhkebbaaDoor
