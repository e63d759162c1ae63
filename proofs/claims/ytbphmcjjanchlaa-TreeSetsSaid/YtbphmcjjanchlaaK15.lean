/- The law's bounded. -/
import Derived.Test.YtbphmcjjanchlaaK14
import Derived.Test.YtbphmcjjanchlaaK13
import Derived.Test.YtbphmcjjanchlaaP3
import Derived.Deep.Cut
import Derived.Deep.CutRange
namespace Go.Proofs.Ytbphmcjjanchlaa.Mii
open Go.RowKit
set_option linter.unusedVariables false
set_option linter.unusedSimpArgs false

/-- The specification's bound. -/
theorem Most_any (M : Nat) (hM : M < 2 ^ 60) (w : World) : Calls Try.prog 71 #[.int .i64 (M : Int)] w fun e w' => e = .returned (.int .i64 (most 60 M : Nat)) ∧ w' = w := by
  obtain ⟨R, hR⟩ : ∃ R : Int, R = ((most 60 M : Nat) : Int) := ⟨_, rfl⟩
  have HR := Lib.hid hR
  have HM := Lib.hid hM
  rw [← hR]
  clear hR hM
  go_enter Try.func71, Try.ntmps71
  go_wp2_with fail
  go_loop [0, 3] (fun nv jv => ∃ (f m j : Nat), nv = .int .i64 (m : Int) ∧ jv = .int .i64 (j : Int) ∧ m < 2 ^ 60 ∧ Hid (m < 2 ^ f) ∧ j + 3 * f ≤ 180 ∧ Hid (R = ((j + most f m : Nat) : Int))) (fun nv _ => (intOf nv).toNat)
  case atStart => exact ⟨60, M, 0, rfl, rfl, HM.out, HM, by omega, Lib.hid (by rw [HR.out]; simp)⟩
  case round =>
    clear HR HM
    obtain ⟨f, m, j, rfl, rfl, hm, Hf, hj, HR⟩ := hrel
    by_cases h0 : m = 0
    · subst h0
      have HR2 : Hid (R = (j : Int)) := Lib.hid (by rw [HR.out]; cases f <;> simp [most])
      clear HR Hf
      go_wp2_with fail
      go_ret
      exact ⟨by rw [HR2.out]; rfl, rfl⟩
    · have m0 : 0 < m := by omega
      obtain ⟨g, rfl⟩ : ∃ g, f = g + 1 := by
        cases f with
        | zero => have := Hf.out; simp at this; omega
        | succ g => exact ⟨g, rfl⟩
      have HR2 : Hid (R = ((j + 3 + most g (m / 2) : Nat) : Int)) := Lib.hid (by rw [HR.out]; simp only [most, h0, if_false]; omega)
      have Hf2 : Hid (m / 2 < 2 ^ g) := Lib.hid (by have := Hf.out; rw [Nat.pow_succ] at this; omega)
      have d0 : decide ((0 : Int) < (m : Int)) = true := decide_eq_true (by omega)
      clear HR Hf h0
      go_wp2_with fail
      go_round
      case rel => exact ⟨g, m / 2, j + 3, by first | go_num | (congr 1; omega) | (simp; done), by go_num, by omega, Hf2, by omega, HR2⟩
      case measure => simp [intOf]; omega
set_option maxRecDepth 100000 in
set_option maxHeartbeats 1000000 in
theorem bounded_any (p : Option Addr) (t : Tr Int Value) (w : World) (h : At w p t) (va : t.Avl) (hz : t.sz ≤ 2 ^ 40) :
    Calls Try.prog 30 #[.agg #[.pointer p]] w fun e w' => e = .returned (.bool true) ∧ Below w.heap.size w w' := by
  have hm := depth_most t va 60 (by omega)
  have hs := t.sz_lt
  have h1 := t.dep_le
  obtain ⟨N, hN⟩ : ∃ n : Nat, t.sz = n := ⟨_, rfl⟩
  obtain ⟨D, hD⟩ : ∃ n : Nat, t.dep = n := ⟨_, rfl⟩
  have Hd : Hid ((t.dep : Int) = (D : Int)) := Lib.hid (by rw [hD])
  have Hn : Hid ((t.sz : Int) = (N : Int)) := Lib.hid (by rw [hN])
  have TT := Lib.hid h
  rw [hN] at hm hs h1 hz
  rw [hD] at hm hs h1
  have MA := Lib.hid (fun W => Most_any N (by omega) W)
  obtain ⟨B, hB⟩ : ∃ B : Nat, most 60 N = B := ⟨_, rfl⟩
  rw [hB] at hm MA
  have HS := Lib.hid hs
  have BL0 : ∀ w0, w.alloc (Obj.cells #[Value.pointer p] 35) = w0 → Below w.heap.size w w0 ∧ w0.cell? ⟨w.heap.size, 0, none⟩ = some (.pointer p) := fun w0 e => by
    subst e; exact ⟨(Below.refl _ _).alloc (Nat.le_refl _) _, by simp [go_sem]⟩
  have HB := Lib.hid BL0
  clear hN hD h va hB hs BL0
  obtain ⟨d, hd⟩ : ∃ d : Int, (D : Int) = d := ⟨_, rfl⟩
  obtain ⟨n, hn⟩ : ∃ n : Int, (N : Int) = n := ⟨_, rfl⟩
  obtain ⟨b, hb⟩ : ∃ b : Int, (B : Int) = b := ⟨_, rfl⟩
  have t1 : decide (d < 0) = false := decide_eq_false (by omega)
  have t2 : decide (b < d) = false := decide_eq_false (by omega)
  have HDd := Lib.hid hd
  have HNn := Lib.hid hn
  rw [hd] at Hd
  rw [hn] at Hn MA
  rw [hb] at MA
  clear hd hn hb hm h1 hz
  go_enter Try.func30, Try.ntmps30
  go_wp2_with fail
  generalize e0 : w.alloc (Obj.cells #[Value.pointer p] 35) = w0
  obtain ⟨bel, k1⟩ := HB.out w0 e0
  have BL := Lib.hid bel
  replace TT := Lib.hid (TT.out.below bel (Nat.le_refl _))
  clear HB e0 bel
  go_region_held3 (fun w' => w'.cell? ⟨w.heap.size, 0, none⟩ = some (.pointer p))
    (first | exact k1 | exact cell_dr k1 | exact cell_al _ k1 | exact cell_al _ (cell_dr k1) | exact cell_al _ (cell_al _ k1) | exact cell_st (by dsimp only; omega) k1 | exact cell_st (by dsimp only; omega) (cell_dr k1) | exact cell_al _ (cell_st (by dsimp only; omega) k1) | exact cell_st (by dsimp only; omega) (cell_st (by dsimp only; omega) k1))
    (first
      | (go_at_call 70; (with_reducible refine (Depth_any p _ d _ (by first | exact TT.out | exact TT.out.drew) Hd.out).mono ?_); rintro e w1 ⟨rfl, st0⟩; have st : Below w0.heap.size w0 w1 := (by first | exact st0 | exact Below.of_dr st0); replace k1 := cell_gr st k1; replace TT := Lib.hid (TT.out.grow st); replace BL := Lib.hid (BL.out.trans (st.mono BL.out.size)); clear st st0)
      | (go_at_call 25; (with_reducible refine (Len_any p _ n _ (by first | exact TT.out | exact TT.out.drew) Hn.out).mono ?_); rintro e w2 ⟨rfl, st0⟩; have st : Below w1.heap.size w1 w2 := (by first | exact st0 | exact Below.of_dr st0); replace k1 := cell_gr st k1; replace TT := Lib.hid (TT.out.grow st); replace BL := Lib.hid (BL.out.trans (st.mono BL.out.size)); clear st st0))
  clear TT Hd Hn k1
  go_wp2_with fail
  refine (MA.out _).mono ?_
  rintro e w3 ⟨rfl, rfl⟩
  clear MA
  by_cases hd : 20 ≤ d
  · have t3 : decide (20 ≤ d) = true := decide_eq_true hd
    clear hd HDd HNn HS
    go_wp2_with fail
    go_ret
    exact ⟨rfl, BL.out⟩
  · have t3 : decide (20 ≤ d) = false := decide_eq_false hd
    have hd0 : 0 ≤ d := by have := HDd.out; omega
    have hlt : ∀ k : Nat, d = (k : Int) → n < ((2 ^ k : Nat) : Int) := fun k e => by
      have h1 := HDd.out; have h2 := HNn.out; have h3 := HS.out
      obtain rfl : D = k := by omega
      omega
    have HL := Lib.hid hlt
    clear hlt HDd HNn HS
    rcases (by omega : d = 0 ∨ d = 1 ∨ d = 2 ∨ d = 3 ∨ d = 4 ∨ d = 5 ∨ d = 6 ∨ d = 7 ∨ d = 8 ∨ d = 9 ∨ d = 10 ∨ d = 11 ∨ d = 12 ∨ d = 13 ∨ d = 14 ∨ d = 15 ∨ d = 16 ∨ d = 17 ∨ d = 18 ∨ d = 19) with rfl | rfl | rfl | rfl | rfl | rfl | rfl | rfl | rfl | rfl | rfl | rfl | rfl | rfl | rfl | rfl | rfl | rfl | rfl | rfl
    all_goals
      have t4 := HL.out _ rfl
      clear HL hd hd0
      go_wp2_with fail
      go_ret
      exact ⟨ret_b (decide_eq_true (by omega)), BL.out⟩
end Go.Proofs.Ytbphmcjjanchlaa.Mii
