/- The law AccountsPrompt: its walk. -/
import Derived.Test.YtlahdfmciaibdaaAP1
import Derived.Test.YtlahdfmciaibdaaABA
namespace Go.Proofs.Ytlahdfmciaibdaa
open Go.RowKit
set_option linter.unusedVariables false
set_option linter.unusedSimpArgs false

theorem PrQ.bad {day n : Int} {H : List Int} {x E : Int} (h : PrQ day n H x E) (hE : E ≠ 0) : x = 0 := by
  rcases h with ⟨_, _, a⟩ | ⟨_, _, _, a⟩ | ⟨_, _, _, k, _, ⟨_, _, a⟩ | ⟨_, a, _⟩⟩
  · exact a
  · exact a
  · exact a
  · exact absurd a hE
theorem PrQ.ok {day n : Int} {H : List Int} {x E : Int} (h : PrQ day n H x E) (hE : E = 0) : HErr day H 0 ∧ 1 ≤ n ∧ n ≤ 366 ∧ ∃ k : Nat, NthW H day n.toNat k ∧ day + k ≤ 1000000 ∧ x = day + k := by
  rcases h with ⟨a, _, _⟩ | ⟨_, _, a, _⟩ | ⟨a, b, c, k, d, ⟨_, e, _⟩ | ⟨e, _, f⟩⟩
  · exact absurd hE a
  · omega
  · omega
  · exact ⟨a, b, c, k, d, e, f⟩
theorem PrQ.good {day n : Int} {H : List Int} {x E : Int} (h : PrQ day n H x E) (hH : HErr day H 0) (h1 : 1 ≤ n) (h2 : n ≤ 366) : ∃ k : Nat, NthW H day n.toNat k ∧ ((1000000 < day + k ∧ E = 4 ∧ x = 0) ∨ (day + k ≤ 1000000 ∧ E = 0 ∧ x = day + k)) := by
  rcases h with ⟨a, b, _⟩ | ⟨_, a, _, _⟩ | ⟨_, _, _, k, d, e⟩
  · exact absurd (b.det hH) a
  · exact absurd ⟨h1, h2⟩ a
  · exact ⟨k, d, e⟩
/-- A prompt day, and from it another one. -/
theorem prompt_add {day m n : Int} {H : List Int} {a b c E F : Int} (h1 : PrQ day m H a 0) (h2 : PrQ a n H b E) (h3 : PrQ day (m + n) H c F) (n1 : 1 ≤ n) (n2 : n ≤ 366 - m) : b = c ∧ E = F ∧ (E = 0 → a < b) ∧ day < a := by
  obtain ⟨e1, m1, m2, k, w1, l1, rfl⟩ := h1.ok rfl
  obtain ⟨d1, d2, d3, d4⟩ := e1.day
  obtain ⟨l, w2, g2⟩ := h2.good (HErr.of d1 d2 (by omega) l1) n1 (by omega)
  obtain ⟨j, w3, g3⟩ := h3.good e1 (by omega) (by omega)
  have wa := w1.add w2
  rw [show m.toNat + n.toNat = (m + n).toNat by omega] at wa
  have e := wa.uniq w3
  subst e
  have p1 := w1.pos
  have p2 := w2.pos
  push_cast at g3
  rcases g2 with ⟨a1, a2, a3⟩ | ⟨a1, a2, a3⟩ <;> rcases g3 with ⟨b1, b2, b3⟩ | ⟨b1, b2, b3⟩ <;> refine ⟨?_, ?_, ?_, ?_⟩ <;> omega
theorem prompt_works {day m : Int} {H : List Int} {a E : Int} {b : Bool} (h1 : PrQ day m H a 0) (h2 : WkQ a H b E) : E = 0 ∧ b = true ∧ day < a := by
  obtain ⟨e1, m1, m2, k, w1, l1, rfl⟩ := h1.ok rfl
  obtain ⟨d1, d2, d3, d4⟩ := e1.day
  have := h2.1.det (HErr.of d1 d2 (by omega) l1)
  subst this
  have p1 := w1.pos
  exact ⟨rfl, (h2.2.2 rfl).trans w1.w, by omega⟩
end Go.Proofs.Ytlahdfmciaibdaa
namespace Go.Proofs.Ytlahdfmciaibdaa.accountsPrompt
open Go.RowKit
set_option linter.unusedVariables false
set_option linter.unusedSimpArgs false

set_option maxRecDepth 100000 in
set_option maxHeartbeats 8000000 in
theorem walk (day : Int) (g0 : -9223372036854775808 ≤ day ∧ day ≤ 9223372036854775807) (m : Int) (g1 : -9223372036854775808 ≤ m ∧ m ≤ 9223372036854775807) (n : Int) (g2 : -9223372036854775808 ≤ n ∧ n ≤ 9223372036854775807) (p : Option Addr) (c : Nat) (H : List Int) (w : World) (r : NumR w p H) (ln : H.length ≤ 9223372036854775807) :
    Calls Try.prog 9 #[.int .i64 day, .int .i64 m, .int .i64 n, .slice p H.length c] w fun e w' => e = .returned (.bool true) ∧ Below w.heap.size w w' := by
  have R := Lib.hid r
  have P1 := Lib.hid (fun W h (l : H.length ≤ 100) => Prompt_any day m g1.1 g1.2 p c H W h (by omega))
  have P2 := Lib.hid (fun x W h (l : H.length ≤ 100) => Prompt_any x n g2.1 g2.2 p c H W h (by omega))
  have P3 := Lib.hid (fun (y : Int) (h1 : -9223372036854775808 ≤ y) (h2 : y ≤ 9223372036854775807) W h (l : H.length ≤ 100) => Prompt_any day y h1 h2 p c H W h (by omega))
  have WK := Lib.hid (fun x W h (l : H.length ≤ 100) => Working_any x p c H W h (by omega))
  obtain ⟨z, hz⟩ : ∃ z, z = H.length := ⟨_, rfl⟩
  rw [← hz] at P1 P2 P3 WK ln ⊢
  clear hz r
  have KB : Hid (Below w.heap.size w w) := Below.refl _ _
  go_enter Try.func9, Try.ntmps9
  by_cases hf : 100 < z
  · clear P1 P2 P3 WK
    go_wp2_with fail
    refine (alive_any _).mono ?_
    rintro e wq ⟨rfl, hq⟩
    have B9 := Lib.hid (KB.out.trans ((show Below _ _ wq from by first | exact hq | exact ((Below.refl _ _).drew).trans hq | exact (below_drewN (Below.refl _ _) _).trans hq).mono KB.out.size))
    clear hq
    go_wp2_with fail
    go_ret
    exact ⟨rfl, (by first | exact B9.out | exact B9.out.drew | exact below_drewN B9.out _)⟩
  have hl : z ≤ 100 := by omega
  go_wp2_with fail
  refine (P1.out _ R.out hl).mono ?_
  rintro e w1 ⟨a, E, rfl, q1, b1⟩
  have Q1 := Lib.hid q1
  replace KB := Lib.hid b1
  clear q1 b1 P1
  by_cases hE : E = 0
  · subst hE
    have R1 := Lib.hid (R.out.below KB.out)
    go_wp2_with fail
    refine (WK.out a _ R1.out hl).mono ?_
    rintro e w2 ⟨b, F, rfl, q2, b2⟩
    obtain ⟨rfl, rfl, hda⟩ := prompt_works Q1.out q2
    replace KB := Lib.hid (KB.out.trans (b2.mono KB.out.size))
    have na : ¬ a ≤ day := by omega
    have nb : decide (a ≤ day) = false := decide_eq_false na
    clear q2 b2 WK R1 hda
    have R1 := Lib.hid (R.out.below KB.out)
    go_wp2_with fail
    try (go_quiet (fail))
    try (go_wp2_with fail)
    refine (P2.out a _ (by first | exact R1.out | exact R1.out.below ((Below.refl _ _).drew) | exact R1.out.below (below_drewN (Below.refl _ _) _)) hl).mono ?_
    rintro e w3 ⟨b, G, rfl, q2, b2⟩
    have Q2 := Lib.hid q2
    replace KB := Lib.hid (KB.out.trans ((show Below _ _ w3 from by first | exact b2 | exact ((Below.refl _ _).drew).trans b2 | exact (below_drewN (Below.refl _ _) _).trans b2).mono KB.out.size))
    clear q2 b2 P2 R1 na nb
    obtain ⟨m1, m2, -⟩ := (Q1.out.ok rfl).2
    have e1 : IntKind.i64.wrap (366 - m) = 366 - m := IntWalk.i64_in _ (by omega)
    by_cases t1 : n < 1
    · have tb : decide (n < 1) = true := decide_eq_true t1
      clear P3
      go_wp2_with fail
      try (go_quiet (fail))
      try (go_wp2_with fail)
      refine (alive_any _).mono ?_
      rintro e wq ⟨rfl, hq⟩
      have B9 := Lib.hid (KB.out.trans ((show Below _ _ wq from by first | exact hq | exact ((Below.refl _ _).drew).trans hq | exact (below_drewN (Below.refl _ _) _).trans hq).mono KB.out.size))
      clear hq
      go_wp2_with fail
      go_ret
      exact ⟨rfl, (by first | exact B9.out | exact B9.out.drew | exact below_drewN B9.out _)⟩
    have tb : decide (n < 1) = false := decide_eq_false t1
    by_cases t2 : 366 - m < n
    · have tc : decide (366 - m < n) = true := decide_eq_true t2
      clear P3
      go_wp2_with fail
      try (go_quiet (fail))
      try (go_wp2_with fail)
      refine (alive_any _).mono ?_
      rintro e wq ⟨rfl, hq⟩
      have B9 := Lib.hid (KB.out.trans ((show Below _ _ wq from by first | exact hq | exact ((Below.refl _ _).drew).trans hq | exact (below_drewN (Below.refl _ _) _).trans hq).mono KB.out.size))
      clear hq
      go_wp2_with fail
      go_ret
      exact ⟨rfl, (by first | exact B9.out | exact B9.out.drew | exact below_drewN B9.out _)⟩
    have tc : decide (366 - m < n) = false := decide_eq_false t2
    have R1 := Lib.hid (R.out.below KB.out)
    have e2 : IntKind.i64.wrap (m + n) = m + n := IntWalk.i64_in _ (by omega)
    have P4 := Lib.hid (P3.out (m + n) (by omega) (by omega))
    have PA := Lib.hid (fun c F (h : PrQ day (m + n) H c F) => prompt_add Q1.out Q2.out h (by omega) (by omega))
    obtain ⟨mn, hmn⟩ : ∃ mn, m + n = mn := ⟨_, rfl⟩
    have e3 : IntKind.i64.wrap (m + n) = mn := e2.trans hmn
    rw [hmn] at P4 PA
    clear P3 hmn e2
    go_wp2_with fail
    try (go_quiet (fail))
    try (go_wp2_with fail)
    refine (P4.out _ (by first | exact R1.out | exact R1.out.below ((Below.refl _ _).drew) | exact R1.out.below (below_drewN (Below.refl _ _) _)) hl).mono ?_
    rintro e w4 ⟨c', F, rfl, q3, b3⟩
    obtain ⟨rfl, rfl, hgt, -⟩ := PA.out _ _ q3
    replace KB := Lib.hid (KB.out.trans ((show Below _ _ w4 from by first | exact b3 | exact ((Below.refl _ _).drew).trans b3 | exact (below_drewN (Below.refl _ _) _).trans b3).mono KB.out.size))
    clear q3 b3 P4 PA R1 t1 t2 tb tc e1 e3 m1 m2 Q1 Q2
    by_cases g0 : G = 0
    · have ab : a < b := hgt g0
      have ac : decide (a < b) = true := decide_eq_true ab
      clear hgt
      subst g0
      go_wp2_with fail
      try (go_quiet (fail))
      try (go_wp2_with fail)
      refine (alive_any _).mono ?_
      rintro e wq ⟨rfl, hq⟩
      have B9 := Lib.hid (KB.out.trans ((show Below _ _ wq from by first | exact hq | exact ((Below.refl _ _).drew).trans hq | exact (below_drewN (Below.refl _ _) _).trans hq).mono KB.out.size))
      clear hq
      go_wp2_with fail
      go_ret
      exact ⟨rfl, (by first | exact B9.out | exact B9.out.drew | exact below_drewN B9.out _)⟩
    · have gb : (G != 0) = true := by simpa using g0
      clear hgt g0
      go_wp2_with fail
      try (go_quiet (fail))
      try (go_wp2_with fail)
      refine (alive_any _).mono ?_
      rintro e wq ⟨rfl, hq⟩
      have B9 := Lib.hid (KB.out.trans ((show Below _ _ wq from by first | exact hq | exact ((Below.refl _ _).drew).trans hq | exact (below_drewN (Below.refl _ _) _).trans hq).mono KB.out.size))
      clear hq
      go_wp2_with fail
      go_ret
      exact ⟨rfl, (by first | exact B9.out | exact B9.out.drew | exact below_drewN B9.out _)⟩
  · have eb : (E != 0) = true := by simpa using hE
    obtain rfl := Q1.out.bad hE
    clear hE Q1 P2 P3 WK
    go_wp2_with fail
    try (go_quiet (fail))
    try (go_wp2_with fail)
    refine (alive_any _).mono ?_
    rintro e wq ⟨rfl, hq⟩
    have B9 := Lib.hid (KB.out.trans ((show Below _ _ wq from by first | exact hq | exact ((Below.refl _ _).drew).trans hq | exact (below_drewN (Below.refl _ _) _).trans hq).mono KB.out.size))
    clear hq
    go_wp2_with fail
    go_ret
    exact ⟨rfl, (by first | exact B9.out | exact B9.out.drew | exact below_drewN B9.out _)⟩
end Go.Proofs.Ytlahdfmciaibdaa.accountsPrompt
