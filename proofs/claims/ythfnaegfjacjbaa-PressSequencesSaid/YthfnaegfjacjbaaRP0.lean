/- The reference of press: the errors of dumps and orders, the makespan. -/
import Derived.Test.YthfnaegfjacjbaaPC4
import Derived.Test.YthfnaegfjacjbaaPC2
namespace Go.Proofs.Ythfnaegfjacjbaa
open Go.RowKit Go.Proofs.Ythfnaegfjacjbaa.Prs
set_option linter.unusedVariables false
set_option linter.unusedSimpArgs false

set_option maxRecDepth 100000 in
set_option maxHeartbeats 4000000 in
theorem rDumps_any (p : Option Addr) (c : Nat) (D : List (Int × Int)) (w : World) (r : DmpR w p D) (ln : D.length ≤ 1000000) :
    Calls Try.prog 45 #[.slice p D.length c] w fun e w' => (∃ x, e = .returned (.int .i64 x) ∧ DErr D x) ∧ w = w' := by
  have R := Lib.hid r
  obtain ⟨n, hn⟩ : ∃ n, n = D.length := ⟨_, rfl⟩
  have HE := Lib.hid (show ∀ x, DErr D x = ((64 < n ∧ x = 3) ∨ (n ≤ 64 ∧ DOk D n ∧ x = 0) ∨ (n ≤ 64 ∧ ¬ DOk D n ∧ x = 2)) from fun x => by rw [hn]; rfl)
  rw [← hn] at ln ⊢
  have HN := Lib.hid hn
  clear hn r
  by_cases t0 : 64 < n
  · have t1 : decide (64 < n) = true := decide_eq_true t0
    go_enter Try.func45, Try.ntmps45
    go_wp2_with fail
    go_ret
    exact ⟨⟨3, rfl, by rw [HE.out]; exact .inl ⟨t0, rfl⟩⟩, rfl⟩
  have t1 : decide (64 < n) = false := decide_eq_false t0
  go_enter Try.func45, Try.ntmps45
  go_wp2_with fail
  go_loopw [3] (fun kv wr => ∃ i : Nat, i ≤ n ∧ kv = .int .i64 i ∧ Hid (DOk D i) ∧ wr = w) (fun kv _ => n - (intOf kv).toNat)
  case atStart => exact ⟨0, Nat.zero_le _, rfl, Lib.hid (fun i h => absurd h (by omega)), rfl⟩
  case round =>
    obtain ⟨i, hi, rfl, HO, rfl⟩ := hrel
    by_cases t2 : i < n
    · obtain ⟨x, rfl, kx, cx, dx⟩ := R.out i (by have := HN.out; omega)
      have i1 : (0 : Int) ≤ (i : Int) := by omega
      have i2 : (i : Int) < (n : Int) := by omega
      have SX := Lib.hid (show DOk D (i + 1) ↔ 0 ≤ pd D i ∧ pd D i ≤ 1073741824 ∧ 0 ≤ sd D i ∧ sd D i ≤ 1073741824 from
        ⟨fun h => h i (by omega), fun h j hj => by
          by_cases e : j = i
          · subst e; exact h
          · exact HO.out j (by omega)⟩)
      have NK := Lib.hid (show ¬ (0 ≤ pd D i ∧ pd D i ≤ 1073741824 ∧ 0 ≤ sd D i ∧ sd D i ≤ 1073741824) → DErr D 2 from fun h => by
        rw [HE.out]
        exact .inr (.inr ⟨by omega, fun g => h (g i t2), rfl⟩))
      clear HO
      generalize pd D i = P at *
      generalize sd D i = S at *
      by_cases g1 : P < 0
      · have d1 : decide (P < 0) = true := decide_eq_true g1
        have F := Lib.hid (NK.out (by omega))
        go_wp2_with fail
        go_ret
        exact ⟨⟨2, rfl, F.out⟩, rfl⟩
      · have d1 : decide (P < 0) = false := decide_eq_false g1
        by_cases g2 : 1073741824 < P
        · have d2 : decide (1073741824 < P) = true := decide_eq_true g2
          have F := Lib.hid (NK.out (by omega))
          go_wp2_with fail
          go_ret
          exact ⟨⟨2, rfl, F.out⟩, rfl⟩
        · have d2 : decide (1073741824 < P) = false := decide_eq_false g2
          by_cases g3 : S < 0
          · have d3 : decide (S < 0) = true := decide_eq_true g3
            have F := Lib.hid (NK.out (by omega))
            go_wp2_with fail
            go_ret
            exact ⟨⟨2, rfl, F.out⟩, rfl⟩
          · have d3 : decide (S < 0) = false := decide_eq_false g3
            by_cases g4 : 1073741824 < S
            · have d4 : decide (1073741824 < S) = true := decide_eq_true g4
              have F := Lib.hid (NK.out (by omega))
              go_wp2_with fail
              go_ret
              exact ⟨⟨2, rfl, F.out⟩, rfl⟩
            · have d4 : decide (1073741824 < S) = false := decide_eq_false g4
              have F := Lib.hid (SX.out.2 (by omega))
              clear NK SX
              go_wp2_with fail
              go_roundw
              case rel => exact ⟨i + 1, by omega, by go_num, F, trivial⟩
              case measure => simp [intOf]; omega
    · obtain rfl : i = n := by omega
      go_wp2_with fail
      go_ret
      exact ⟨⟨0, rfl, by rw [HE.out]; exact .inr (.inl ⟨by omega, HO.out, rfl⟩)⟩, rfl⟩

/-- What the reference's look at an order answers. -/
def OrdQ (D : List (Int × Int)) (O : List Int) (w : World) (e : Ending) (w' : World) : Prop := ∃ x, e = .returned (.int .i64 x) ∧ OErr D O x ∧ Below w.heap.size w w'

set_option maxRecDepth 100000 in
set_option maxHeartbeats 4000000 in
theorem rOrder_any (p : Option Addr) (c : Nat) (D : List (Int × Int)) (q : Option Addr) (d : Nat) (O : List Int) (w : World) (r : DmpR w p D) (ro : NumR w q O) (ln : D.length ≤ 1000000) (lo : O.length ≤ 1000000) :
    Calls Try.prog 48 #[.slice p D.length c, .slice q O.length d] w (OrdQ D O w) := by
  obtain ⟨i0, hi, hz0, hz1, hz2⟩ := info_parts boolInfo
  have CD := Lib.hid (rDumps_any p c D w r ln)
  have RO := Lib.hid ro
  obtain ⟨n, hn⟩ : ∃ n, n = D.length := ⟨_, rfl⟩
  obtain ⟨m, hm⟩ : ∃ m, m = O.length := ⟨_, rfl⟩
  rw [← hn] at ln CD ⊢
  rw [← hm] at lo ⊢
  have HN := Lib.hid (show n = D.length ∧ m = O.length from ⟨hn, hm⟩)
  clear hn hm r ro
  go_enter Try.func48, Try.ntmps48
  go_wp2_with fail
  refine CD.out.mono ?_
  rintro e w1 ⟨⟨x, rfl, DE⟩, rfl⟩
  have DE := Lib.hid DE
  clear CD
  by_cases x0 : x = 0
  case neg =>
    have x1 : (x == 0) = false := by simpa using x0
    have x2 : decide (x = 0) = false := decide_eq_false x0
    have OE := Lib.hid (DE.out.order (O := O) x0)
    clear DE
    go_wp2_with fail
    go_ret
    exact ⟨x, rfl, OE.out, Below.refl _ _⟩
  subst x0
  obtain ⟨n64, DK⟩ := DE.out.good rfl
  rw [← HN.out.1] at n64
  have DK := Lib.hid DK
  clear DE
  by_cases mn : m = n
  case neg =>
    have m1 : ((m : Int) == (n : Int)) = false := by simp; omega
    have OE := Lib.hid (show OErr D O 2 from .inr (.inr (.inr ⟨by rw [← HN.out.1]; exact n64, DK.out, fun h => mn (by rw [HN.out.1, HN.out.2]; exact h.1), rfl⟩)))
    clear mn DK
    go_wp2_with fail
    go_ret
    exact ⟨2, rfl, OE.out, Below.refl _ _⟩
  subst mn
  have N64 := Lib.hid n64
  go_wp2_with (first
    | (at_make; refine wpList_make_full _ rfl _ _ 46 rfl w.heap.size 4 i0 (.bool false) 1 Try.underlying46 hi hz0 hz1 .i64 .i64 _ _ m rfl rfl (by omega) (by omega) (by rw [hz2]; omega) (by unfold maxLen; omega) (Nat.le_refl _) ?_; intro w0 hown0 hgrow0))
  rw [made_bools] at hown0
  have M0 := Lib.hid (MarksN.begin (O := O) (Nat.le_refl _) hown0)
  have B0 := Lib.hid (show Below w.heap.size w w0 from (Below.refl _ _).grown hgrow0 (Nat.le_refl _) (fun k e => by cases e))
  clear hown0 hgrow0
  obtain ⟨b, hb⟩ : ∃ b, b = w.heap.size := ⟨_, rfl⟩
  have HB0 := Lib.hid hb
  rw [← hb] at M0 ⊢
  clear hb
  go_wp2_with fail
  go_loopw [7] (fun kv wr => ∃ i : Nat, i ≤ m ∧ kv = .int .i64 i ∧ Hid (OrdTo O m i) ∧ Hid (MarksN wr b w.heap.size m O i) ∧ Hid (Below w.heap.size w wr)) (fun kv _ => m - (intOf kv).toNat)
  case atStart => exact ⟨0, Nat.zero_le _, rfl, Lib.hid ⟨fun k hk => by omega, fun a b ab bi => by omega⟩, by rw [← HB0.out]; exact M0, B0⟩
  case round =>
    obtain ⟨i, hi', rfl, HO, HM, HB⟩ := hrel
    clear M0 B0
    by_cases t2 : i < m
    · obtain ⟨x, rfl, kx, cx⟩ := (RO.out.below HB.out) i (by have := HN.out; omega)
      have i1 : (0 : Int) ≤ (i : Int) := by omega
      have i2 : (i : Int) < (m : Int) := by omega
      have NB := Lib.hid (show (¬ (0 ≤ gi O i ∧ gi O i < m) ∨ ∃ j, j < i ∧ gi O j = gi O i) → OErr D O 2 from fun h => .inr (.inr (.inr ⟨by rw [← HN.out.1]; exact N64.out, DK.out, fun g => by
        rcases h with h | ⟨j, j1, j2⟩
        · exact h (by have := g.2.1 i (by rw [← HN.out.1]; exact t2); rwa [← HN.out.1] at this)
        · exact g.2.2 j i j1 (by rw [← HN.out.1]; exact t2) j2, rfl⟩)))
      by_cases g0 : gi O i < 0
      · have OE := Lib.hid (NB.out (.inl (by omega)))
        have g2 : decide (gi O i < 0) = true := decide_eq_true g0
        clear NB
        generalize gi O i = z at *
        go_wp2_with fail
        go_ret
        exact ⟨2, rfl, OE.out, HB.out⟩
      · have g2 : decide (gi O i < 0) = false := decide_eq_false g0
        by_cases g1 : gi O i < m
        · obtain ⟨u, hu⟩ := Int.eq_ofNat_of_zero_le (show 0 ≤ gi O i by omega)
          have um : u < m := by omega
          obtain ⟨tk, ct, ht⟩ := HM.out.at_ u um
          have u1 : (0 : Int) ≤ (u : Int) := by omega
          have u2 : (u : Int) < (m : Int) := by omega
          have u3 : ¬ m ≤ u := by omega
          have u4 : decide (m ≤ u) = false := decide_eq_false u3
          cases tk with
          | true =>
            have OE := Lib.hid (NB.out (.inr (by obtain ⟨j, j1, j2⟩ := ht.1 rfl; exact ⟨j, j1, by rw [j2, hu]⟩)))
            clear ht NB g0 g1 g2
            rw [hu] at cx
            clear hu
            go_wp2_with fail
            go_ret
            exact ⟨2, rfl, OE.out, HB.out⟩
          | false =>
            have OS := Lib.hid (HO.out.step ⟨by omega, g1⟩ (fun ⟨j, j1, j2⟩ => by have := ht.2 ⟨j, j1, by rw [j2, hu]⟩; cases this))
            have MS := Lib.hid (HM.out.set um hu)
            have fz := HM.out.fr u
            have BS := Lib.hid (HB.out.setCell (p := ⟨b, u, none⟩) HM.out.nb (.bool true))
            clear ht NB g0 g1 g2 HO HM HB
            rw [hu] at cx
            clear hu
            go_wp2_with fail
            go_roundw
            case rel => exact ⟨i + 1, by omega, by go_num, OS, MS, BS⟩
            case measure => simp [intOf]; omega
        · have OE := Lib.hid (NB.out (.inl (by omega)))
          have g3 : decide ((m : Int) ≤ gi O i) = true := decide_eq_true (by omega)
          have g4 : (m : Int) ≤ gi O i := by omega
          clear NB
          generalize gi O i = z at *
          go_wp2_with fail
          go_ret
          exact ⟨2, rfl, OE.out, HB.out⟩
    · obtain rfl : i = m := by omega
      go_wp2_with fail
      go_ret
      exact ⟨0, rfl, .inr (.inr (.inl ⟨by rw [← HN.out.1]; exact N64.out, DK.out, by rw [← HN.out.1]; exact ⟨HN.out.2.symm, HO.out.rng, HO.out.ne⟩, rfl⟩)), HB.out⟩
end Go.Proofs.Ythfnaegfjacjbaa
