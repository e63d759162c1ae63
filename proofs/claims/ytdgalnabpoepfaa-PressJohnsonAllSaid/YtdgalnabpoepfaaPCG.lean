/- PressJohnsonAll, walked. -/
import Derived.Test.YtdgalnabpoepfaaPCF
namespace Go.Proofs.Ytdgalnabpoepfaa
open Go.RowKit Go.Proofs.Ytdgalnabpoepfaa.Prs Go.Proofs.Ytdgalnabpoepfaa.Stb
set_option linter.unusedVariables false
set_option linter.unusedSimpArgs false

theorem pd_take {D : List (Int × Int)} {m i : Nat} (h : i < m) : pd (D.take m) i = pd D i := by unfold pd; rw [List.getElem?_take_of_lt h]
theorem sd_take {D : List (Int × Int)} {m i : Nat} (h : i < m) : sd (D.take m) i = sd D i := by unfold sd; rw [List.getElem?_take_of_lt h]
theorem DmpR.take {w : World} {p : Option Addr} {D : List (Int × Int)} (r : DmpR w p D) (m : Nat) : DmpR w p (D.take m) := fun i hi => by
  have hi' : i < m ∧ i < D.length := by rw [List.length_take] at hi; omega
  obtain ⟨x, e, k, a, b⟩ := r i hi'.2
  exact ⟨x, e, k, by rw [pd_take hi'.1]; exact a, by rw [sd_take hi'.1]; exact b⟩

set_option maxRecDepth 100000 in
set_option maxHeartbeats 8000000 in
theorem pressJohnsonAll_walk (p : Option Addr) (c : Nat) (D : List (Int × Int)) (w : World) (r : DmpR w p D) (ln : D.length ≤ 9223372036854775807) (hc : D.length ≤ c) :
    Calls Try.prog 8 #[.slice p D.length c] w fun e w' => e = .returned (.bool true) ∧ Below w.heap.size w w' := by
  have AL := Lib.hid alive_any
  obtain ⟨E, hE⟩ : ∃ E, E = D.take 6 := ⟨_, rfl⟩
  have lE : E.length = min 6 D.length := by rw [hE, List.length_take]
  have rE : DmpR w p E := by rw [hE]; exact r.take 6
  have CS := Lib.hid (Sequence_any p c E w rE (by omega))
  have CO := Lib.hid (fun (W : World) (st : Below w.heap.size w W) (m : Int) (n64 : E.length ≤ 64) (dk : DOk E E.length) (hm : ∀ O, IsOrd E.length O → m ≤ mks (pd E) (sd E) (od O) E.length) => orders_any p c E m n64 dk hm E.length none 0 [] W (Nat.sub_le _ _) (Nat.zero_le _) ⟨fun k hk => by simp at hk, fun a b ab bj => by simp at bj⟩ (fun _ => ⟨rfl, rfl⟩) (rE.below st) (fun i hi => by simp at hi))
  rw [show ([] : List Int).length = 0 from rfl] at CO
  obtain ⟨n, hn⟩ : ∃ n, n = D.length := ⟨_, rfl⟩
  obtain ⟨m, hm⟩ : ∃ m, m = E.length := ⟨_, rfl⟩
  rw [← hn] at hc ⊢
  rw [← hm] at CS CO
  have HM := Lib.hid (show m = E.length ∧ m ≤ 6 by omega)
  have KEY := Lib.hid (show (n ≤ 6 → m = n) ∧ (6 < n → m = 6) by omega)
  clear hn hm hE rE r ln lE
  by_cases big : 6 < n
  · have b2 : decide (6 < n) = true := decide_eq_true big
    obtain rfl : m = 6 := KEY.out.2 big
    clear KEY
    have c6 : 6 ≤ c := by omega
    go_enter Try.func8, Try.ntmps8
    go_wp2_with fail
    refine CS.out.mono ?_
    rintro e w1 ⟨x, v, m1, rfl, de, st1, hbad, hgood⟩
    have S1 := Lib.hid st1
    by_cases x0 : x = 0
    case neg =>
      have x1 : (x == 0) = false := by simpa using x0
      have x2 : decide (x = 0) = false := decide_eq_false x0
      clear CO CS de st1 hbad hgood
      go_wp2_with fail
      refine (AL.out _).mono ?_
      rintro e w2 ⟨rfl, st2⟩
      go_wp2_with fail
      go_ret
      exact ⟨rfl, S1.out.trans (st2.mono S1.out.size)⟩
    subst x0
    obtain ⟨b, U, rfl, hb, hU, iU, hm1, hr⟩ := hgood rfl
    obtain ⟨n64, dk⟩ := de.good rfl
    have CC := Lib.hid (CO.out w1 S1.out m1 (by omega) (by rw [HM.out.1]; exact dk) (fun O iO => by
      rw [HM.out.1] at iO ⊢
      rw [hm1]; exact john dk.all iU iO hr))
    clear hb hU iU hm1 hr n64 dk hbad hgood CO CS de st1
    go_wp2_with fail
    refine CC.out.mono ?_
    rintro e w2 ⟨rfl, st2⟩
    have S2 := Lib.hid (S1.out.trans (st2.mono S1.out.size))
    clear CC st2 S1
    go_wp2_with fail
    refine (AL.out _).mono ?_
    rintro e w3 ⟨rfl, st3⟩
    go_wp2_with fail
    go_ret
    exact ⟨rfl, S2.out.trans (st3.mono S2.out.size)⟩
  · have b2 : decide (6 < n) = false := decide_eq_false big
    obtain rfl : m = n := KEY.out.1 (by omega)
    clear KEY
    go_enter Try.func8, Try.ntmps8
    go_wp2_with fail
    refine CS.out.mono ?_
    rintro e w1 ⟨x, v, m1, rfl, de, st1, hbad, hgood⟩
    have S1 := Lib.hid st1
    by_cases x0 : x = 0
    case neg =>
      have x1 : (x == 0) = false := by simpa using x0
      have x2 : decide (x = 0) = false := decide_eq_false x0
      clear CO CS de st1 hbad hgood
      go_wp2_with fail
      refine (AL.out _).mono ?_
      rintro e w2 ⟨rfl, st2⟩
      go_wp2_with fail
      go_ret
      exact ⟨rfl, S1.out.trans (st2.mono S1.out.size)⟩
    subst x0
    obtain ⟨b, U, rfl, hb, hU, iU, hm1, hr⟩ := hgood rfl
    obtain ⟨n64, dk⟩ := de.good rfl
    have CC := Lib.hid (CO.out w1 S1.out m1 (by omega) (by rw [HM.out.1]; exact dk) (fun O iO => by
      rw [HM.out.1] at iO ⊢
      rw [hm1]; exact john dk.all iU iO hr))
    clear hb hU iU hm1 hr n64 dk hbad hgood CO CS de st1
    go_wp2_with fail
    refine CC.out.mono ?_
    rintro e w2 ⟨rfl, st2⟩
    have S2 := Lib.hid (S1.out.trans (st2.mono S1.out.size))
    clear CC st2 S1
    go_wp2_with fail
    refine (AL.out _).mono ?_
    rintro e w3 ⟨rfl, st3⟩
    go_wp2_with fail
    go_ret
    exact ⟨rfl, S2.out.trans (st3.mono S2.out.size)⟩
end Go.Proofs.Ytdgalnabpoepfaa
