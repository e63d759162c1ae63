/- Flow: the law of blends. -/
import Derived.Test.YtapffmaihkimkaaFP9
import Derived.Test.YtapffmaihkimkaaFLA
namespace Go.Proofs.Ytapffmaihkimkaa
open Go.RowKit
set_option linter.unusedVariables false
set_option linter.unusedSimpArgs false

/-- Two answers agree. -/
theorem BlQ.two {m : Nat} {A : Nat → Pa} {b l h : Int} {w w1 w2 w3 : World} {e e' : Ending} (p : BlQ m A b l h w e w1) (q : BlQ m A b l h w2 e' w3) :
    ∃ v v' L x k, e = .returned (.tuple #[v, .int .i64 L, .int .i64 x]) ∧ e' = .returned (.tuple #[v', .int .i64 L, .int .i64 x]) ∧ Below w.heap.size w w1 ∧ Below w2.heap.size w2 w3 ∧ ∃ (a a' : Option Addr) (c c' : Nat) (M : Nat → Int), v = .slice a k c ∧ v' = .slice a' k c' ∧ NmR w1 a k M ∧ NmR w3 a' k M ∧ (k = 0 ∨ k = m) := by
  obtain ⟨x, v, L, rfl, b1, h1⟩ := p
  obtain ⟨x', v', L', rfl, b2, h2⟩ := q
  rcases h1 with ⟨x0, rfl, rfl, h1⟩ | ⟨rfl, h1, ys, g, cc, h3, rfl, h4, h5⟩
  · rcases h2 with ⟨x0', rfl, rfl, h2⟩ | ⟨rfl, h2, ys, g, cc, h3, rfl, h4, h5⟩
    · have e : x' = x := by
        rcases h1 with h1 | ⟨h1, rfl, _⟩
        · rcases h2 with h2 | ⟨h2, rfl, _⟩
          · exact h1.det h2
          · exact absurd (h2.det h1) x0
        · rcases h2 with h2 | ⟨h2, rfl, _⟩
          · exact absurd (h1.det h2) x0'
          · rfl
      subst e
      exact ⟨_, _, 0, x', 0, rfl, rfl, b1, b2, none, none, 0, 0, fun _ => 0, rfl, rfl, fun i hi => absurd hi (Nat.not_lt_zero i), fun i hi => absurd hi (Nat.not_lt_zero i), .inl rfl⟩
    · rcases h1 with h1 | ⟨h1, rfl, hn⟩
      · exact absurd (h2.det h1) x0
      · rw [hn] at h3; cases h3
  · rcases h2 with ⟨x0', rfl, rfl, h2⟩ | ⟨rfl, h2, ys', g', cc', h3', rfl, h4', h5'⟩
    · rcases h2 with h2 | ⟨h2, rfl, hn⟩
      · exact absurd (h1.det h2) x0'
      · rw [hn] at h3; cases h3
    · rw [h3] at h3'
      injection h3' with h3'
      injection h3' with e1 e2
      subst e1 e2
      exact ⟨_, _, L, 0, m, rfl, rfl, b1, b2, _, _, cc, cc', nm ys, rfl, rfl, h5, h5', .inr rfl⟩

set_option maxRecDepth 100000 in
set_option maxHeartbeats 8000000 in
theorem flowBlends_walk (p : Option Addr) (c m : Nat) (A : Nat → Pa) (w : World) (r : PaR w p m A) (lm : m ≤ 9223372036854775807) (b : Int) (hb : -9223372036854775808 ≤ b ∧ b ≤ 9223372036854775807) (l : Int) (hl : -9223372036854775808 ≤ l ∧ l ≤ 9223372036854775807) (h : Int) (hh : -9223372036854775808 ≤ h ∧ h ≤ 9223372036854775807) :
    Calls Try.prog 3 #[.slice p m c, .int .i64 b, .int .i64 l, .int .i64 h] w fun e w' => e = .returned (.bool true) ∧ Below w.heap.size w w' := by
  clear hb hl hh
  by_cases t1 : 20 < m
  · have d1 : decide ((20 : Int) < (m : Int)) = true := decide_eq_true (by omega)
    clear t1 r
    go_enter Try.func3, Try.ntmps3
    go_wp2_with fail
    refine (alive_any _).mono ?_
    rintro e w1 ⟨rfl, st⟩
    have KB := Lib.hid st
    clear st
    go_wp2_with fail
    go_ret
    exact ⟨rfl, KB.out⟩
  have d1 : decide ((20 : Int) < (m : Int)) = false := decide_eq_false (by omega)
  have R := Lib.hid r
  have C1 := Lib.hid (Blend_any p c m A b l h w r lm)
  have C2 := Lib.hid (fun W (st : Below w.heap.size w W) => rBlend_any p c m A b l h W (r.below st) lm)
  have M20 := Lib.hid (show m ≤ 20 from by omega)
  clear r t1
  go_enter Try.func3, Try.ntmps3
  go_wp2_with fail
  refine C1.out.mono ?_
  rintro e w1 h1
  have H1 := Lib.hid h1
  have B1 := Lib.hid (show Below w.heap.size w w1 from by obtain ⟨_, _, _, _, st, _⟩ := h1; exact st)
  obtain ⟨x1, v1, L1, rfl, -⟩ := h1
  clear C1
  go_wp2_with fail
  refine (C2.out w1 B1.out).mono ?_
  rintro e w2 h2
  obtain ⟨v, v', L, x, k, e1, e2, -, st, a, a', c1, c2, M, rfl, rfl, n1, n2, kk⟩ := H1.out.two h2
  simp only [Ending.returned.injEq, Value.tuple.injEq] at e1
  obtain ⟨rfl, rfl, rfl⟩ : v1 = .slice a k c1 ∧ L1 = L ∧ x1 = x := by simpa using e1
  subst e2
  have B2 := Lib.hid (B1.out.trans (st.mono B1.out.size))
  have CS := Lib.hid (fsame_any a c1 a' c2 k M w2 (n1.below st) n2 (by have := M20.out; omega))
  have e3 : (L1 == L1) = true := by simp
  have e4 : (x1 == x1) = true := by simp
  clear C2 h2 H1 B1 n1 n2 st kk R e1 M20
  go_wp2_with fail
  refine CS.out.mono ?_
  rintro e w3 ⟨rfl, st⟩
  have B3 := Lib.hid (B2.out.trans (st.mono B2.out.size))
  clear CS B2 st
  go_wp2_with fail
  refine (alive_any _).mono ?_
  rintro e w4 ⟨rfl, st⟩
  have B4 := Lib.hid (B3.out.trans (st.mono B3.out.size))
  clear B3 st
  go_wp2_with fail
  go_ret
  exact ⟨rfl, B4.out⟩
end Go.Proofs.Ytapffmaihkimkaa
