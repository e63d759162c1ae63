/- num.checkPath. -/
import Derived.Test.YtblaakjldpcjlaaDoorY2
namespace Go.Proofs.YtblaakjldpcjlaaDoor
open Go.RowKit
set_option linter.unusedVariables false
set_option linter.unusedSimpArgs false

/-- checkPath's answer. -/
def ChkR (l : List Int) (E : Int) : Prop := (64 < l.length ∧ E = 3) ∨ (l.length ≤ 64 ∧ BadPath l ∧ E = 2) ∨ (l.length ≤ 64 ∧ ¬ BadPath l ∧ E = 0)
def ChkP (l : List Int) (e : Ending) : Prop := ∃ E, e = .returned (.int .i64 E) ∧ ChkR l E

set_option maxRecDepth 100000 in
set_option maxHeartbeats 2000000 in
theorem checkPath_any (b : Nat) (l : List Int) (w : World) (h : Cop w b l) :
    Calls Tryd.prog 66 #[.slice (some ⟨b, 0, none⟩) l.length (l.length + 2)] w fun e w' => ChkP l e ∧ w = w' := by
  have H := Lib.hid h
  obtain ⟨x, hx⟩ : ∃ x, x = l.length := ⟨_, rfl⟩
  have C3 : Hid (64 < x → ChkR l 3) := fun t => .inl ⟨by omega, rfl⟩
  have C2 : Hid (x ≤ 64 → BadPath l → ChkR l 2) := fun t b => .inr (.inl ⟨by omega, b, rfl⟩)
  have C0 : Hid (x ≤ 64 → ¬ BadPath l → ChkR l 0) := fun t b => .inr (.inr ⟨by omega, b, rfl⟩)
  have BZ : Hid (x = 0 → BadPath l) := fun t => .inl (by omega)
  have BI : Hid (∀ i, 1 ≤ i → i < x → gd l i < 1 → BadPath l) := fun i h1 h2 h3 => .inr (.inl ⟨i, h1, by omega, h3⟩)
  have BL : Hid (1 < x → gd l (x - 1) = 1 → BadPath l) := fun h1 h2 => .inr (.inr ⟨by omega, by rw [← hx]; exact h2⟩)
  have GD : Hid (x ≠ 0 → (∀ i, 1 ≤ i → i < x → ¬ gd l i < 1) → ¬ (1 < x ∧ gd l (x - 1) = 1) → ¬ BadPath l) := fun h1 h2 h3 => by
    rintro (h | ⟨i, a, b, c⟩ | ⟨a, b⟩)
    · omega
    · exact h2 i a (by omega) c
    · rw [← hx] at a b; exact h3 ⟨a, b⟩
  have CL := Lib.hid (fun i (hi : i < x) => h.row i (by omega))
  have bz := h.lt
  rw [← hx]
  clear hx h
  by_cases h1 : 64 < x
  · have F := Lib.hid (C3.out h1)
    clear C3 C2 C0 BZ BI BL GD CL
    go_enter Tryd.func66, Tryd.ntmps66
    go_wp2_with fail
    go_ret
    exact ⟨⟨_, rfl, F.out⟩, rfl⟩
  by_cases h2 : x = 0
  · have F := Lib.hid (C2.out (by omega) (BZ.out h2))
    subst h2
    clear C3 C2 C0 BZ BI BL GD CL
    go_enter Tryd.func66, Tryd.ntmps66
    go_wp2_with fail
    go_ret
    exact ⟨⟨_, rfl, F.out⟩, rfl⟩
  have xb : ((x : Int) == 0) = false := by simpa using h2
  obtain ⟨y, hy⟩ : ∃ y, x = y + 1 := ⟨x - 1, by omega⟩
  subst hy
  clear h2
  go_enter Tryd.func66, Tryd.ntmps66
  go_wp2_with fail
  go_loop [14] (fun kv => ∃ k : Nat, k ≤ y ∧ kv = .int .i64 k ∧ Hid (∀ i, 1 ≤ i → i < k + 1 → ¬ gd l i < 1)) (fun kv => y - (intOf kv).toNat)
  case atStart => exact ⟨0, Nat.zero_le _, rfl, by show ∀ i, _; intro i hi hi2; omega⟩
  case round =>
    obtain ⟨k, hk, rfl, HK⟩ := hrel
    by_cases t1 : k < y
    · have c1 := CL.out (1 + k) (by omega)
      have c2 := CL.out (k + 1) (by omega)
      have i1 : (0 : Int) ≤ (k : Int) := by omega
      have i2 : (k : Int) < (y : Int) := by omega
      have BK := Lib.hid (fun h => C2.out (by omega) (BI.out (k + 1) (by omega) (by omega) h))
      have NX : Hid (¬ gd l (k + 1) < 1 → ∀ i, 1 ≤ i → i < k + 1 + 1 → ¬ gd l i < 1) := fun h i h1 h2 => by
        rcases (by omega : i < k + 1 ∨ i = k + 1) with e | e
        · exact HK.out i h1 e
        · subst e; exact h
      rw [show 1 + k = k + 1 by omega] at c1
      clear HK c1
      generalize gd l (k + 1) = v at *
      have c1 : w.cell? ⟨b, 1 + k, none⟩ = some (.int .i64 v) := by rw [show 1 + k = k + 1 by omega]; exact c2
      by_cases hv : v < 1
      · have F := Lib.hid (BK.out hv)
        clear BK NX
        go_wp2_with fail
        go_ret
        exact ⟨⟨_, rfl, F.out⟩, rfl⟩
      · have F := Lib.hid (NX.out hv)
        clear BK NX
        go_wp2_with fail
        go_round
        case rel => exact ⟨k + 1, by omega, by go_num, F⟩
        case measure => simp [intOf]; omega
    · have GG : Hid (¬ (1 < y + 1 ∧ gd l (y + 1 - 1) = 1) → ChkR l 0) := fun h => C0.out (by omega) (GD.out (by omega) (fun i h1 h2 => by have := HK.out i h1 (by omega); omega) h)
      have BB : Hid (1 < y + 1 → gd l (y + 1 - 1) = 1 → ChkR l 2) := fun h h' => C2.out (by omega) (BL.out h h')
      have cy := CL.out y (by omega)
      rw [show y + 1 - 1 = y by omega] at GG BB
      have i1 : (0 : Int) ≤ (y : Int) := by omega
      have i2 : (y : Int) < ((y + 1 : Nat) : Int) := by omega
      clear C3 C2 C0 BZ BI BL GD CL HK
      generalize gd l y = v at *
      by_cases hy : 1 < y + 1
      · by_cases hv : v = 1
        · have F := Lib.hid (BB.out hy hv)
          have vb : (v == 1) = true := by simpa using hv
          clear GG BB hv
          go_wp2_with fail
          go_ret
          exact ⟨⟨_, rfl, F.out⟩, rfl⟩
        · have F := Lib.hid (GG.out (fun h => hv h.2))
          have vb : (v == 1) = false := by simpa using hv
          clear GG BB hv
          go_wp2_with fail
          go_ret
          exact ⟨⟨_, rfl, F.out⟩, rfl⟩
      · have F := Lib.hid (GG.out (fun h => hy h.1))
        clear GG BB
        go_wp2_with fail
        go_ret
        exact ⟨⟨_, rfl, F.out⟩, rfl⟩
end Go.Proofs.YtblaakjldpcjlaaDoor
