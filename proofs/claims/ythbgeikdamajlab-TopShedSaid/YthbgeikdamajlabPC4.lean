/- Press: the law's own look at an order. -/
import Derived.Test.YthbgeikdamajlabPC1
import Derived.OwnWalk
namespace Go.Proofs.Ythbgeikdamajlab
open Go.RowKit Go.Proofs.Ythbgeikdamajlab.Prs
set_option linter.unusedVariables false
set_option linter.unusedSimpArgs false

theorem boolInfo : (Try.prog.info? 4).map (fun i => (i.zero, i.size, i.bytes)) = some (some (.bool false), 1, 1) := by kernel_rfl
theorem made_bools (n : Nat) : (madeCells (Value.bool false).cells (n * 1)).toList = List.replicate n (Value.bool false) := by
  rw [Nat.mul_one, show (Value.bool false).cells = #[.bool false] from rfl, toList_madeCells_one]
/-- The marks in a row of n. -/
structure MarksN (W : World) (b n₀ n : Nat) (O : List Int) (k : Nat) : Prop where
  nb : n₀ ≤ b
  at_ : ∀ v, v < n → ∃ x, W.cell? ⟨b, v, none⟩ = some (.bool x) ∧ (x = true ↔ ∃ j, j < k ∧ gi O j = (v : Int))
  fr : ∀ v, W.frozen? ⟨b, v, none⟩ = false
theorem MarksN.set {W : World} {b n₀ n k u : Nat} {O : List Int} (h : MarksN W b n₀ n O k) (hu : u < n) (e : gi O k = (u : Int)) : MarksN (W.setCell ⟨b, u, none⟩ (.bool true)) b n₀ n O (k + 1) := by
  refine ⟨h.nb, fun v hv => ?_, fun v => by simp [go_sem, h.fr v]⟩
  obtain ⟨x, c, hx⟩ := h.at_ v hv
  by_cases uv : v = u
  · subst uv
    exact ⟨true, by rw [World.cell?_setCell_same' _ _ _ (by rw [c]; rfl)], by simp; exact ⟨k, by omega, e⟩⟩
  · refine ⟨x, by simp [go_sem, uv, c], hx.trans ⟨fun ⟨j, j1, j2⟩ => ⟨j, by omega, j2⟩, fun ⟨j, j1, j2⟩ => ?_⟩⟩
    by_cases jk : j = k
    · subst jk; omega
    · exact ⟨j, by omega, j2⟩
theorem MarksN.begin {W : World} {b n₀ n c : Nat} {t : TypeId} {O : List Int} (hb : n₀ ≤ b) (h : W.ownsRow n₀ t 1 (.slice (some ⟨b, 0, none⟩) n c) n (List.replicate n (Value.bool false))) : MarksN W b n₀ n O 0 :=
  ⟨hb, fun v hv => ⟨false, by rw [h.cellAt v (by omega)]; simp [hv], by simp⟩, fun v => h.frozenAt v⟩

/-- What once answers. -/
def OnceQ (O : List Int) (n : Nat) (w : World) (e : Ending) (w' : World) : Prop := ∃ x, e = .returned (.bool x) ∧ (x = true ↔ IsOrd n O) ∧ Below w.heap.size w w'

set_option maxRecDepth 100000 in
set_option maxHeartbeats 4000000 in
theorem once_any (q : Option Addr) (d : Nat) (O : List Int) (n : Nat) (w : World) (ro : NumR w q O) (lo : O.length ≤ 1000000) (ln : n ≤ 1000000) :
    Calls Try.prog 11 #[.slice q O.length d, .int .i64 n] w (OnceQ O n w) := by
  obtain ⟨i0, hi, hz0, hz1, hz2⟩ := info_parts boolInfo
  have RO := Lib.hid ro
  obtain ⟨m, hm⟩ : ∃ m, m = O.length := ⟨_, rfl⟩
  rw [← hm] at lo ⊢
  have HN := Lib.hid hm
  clear hm ro
  by_cases mn : m = n
  case neg =>
    have m1 : ((m : Int) == (n : Int)) = false := by simp; omega
    have NO := Lib.hid (show ¬ IsOrd n O from fun h => mn (by rw [HN.out]; exact h.1))
    clear mn
    go_enter Try.func11, Try.ntmps11
    go_wp2_with fail
    go_ret
    exact ⟨false, rfl, ⟨fun h => (by cases h), fun h => absurd h NO.out⟩, Below.refl _ _⟩
  subst mn
  go_enter Try.func11, Try.ntmps11
  go_wp2_with (first
    | (at_make; refine wpList_make_full _ rfl _ _ 23 rfl w.heap.size 4 i0 (.bool false) 1 Try.underlying23 hi hz0 hz1 .i64 .i64 _ _ m rfl rfl (by omega) (by omega) (by rw [hz2]; omega) (by unfold maxLen; omega) (Nat.le_refl _) ?_; intro w0 hown0 hgrow0))
  rw [made_bools] at hown0
  have M0 := Lib.hid (MarksN.begin (O := O) (Nat.le_refl _) hown0)
  have B0 := Lib.hid (show Below w.heap.size w w0 from (Below.refl _ _).grown hgrow0 (Nat.le_refl _) (fun k e => by cases e))
  clear hown0 hgrow0
  obtain ⟨b, hb⟩ : ∃ b, b = w.heap.size := ⟨_, rfl⟩
  have HB0 := Lib.hid hb
  rw [← hb] at M0 ⊢
  clear hb
  go_wp2_with fail
  go_loopw [6] (fun kv wr => ∃ i : Nat, i ≤ m ∧ kv = .int .i64 i ∧ Hid (OrdTo O m i) ∧ Hid (MarksN wr b w.heap.size m O i) ∧ Hid (Below w.heap.size w wr)) (fun kv _ => m - (intOf kv).toNat)
  case atStart => exact ⟨0, Nat.zero_le _, rfl, Lib.hid ⟨fun k hk => by omega, fun a b ab bi => by omega⟩, by rw [← HB0.out]; exact M0, B0⟩
  case round =>
    obtain ⟨i, hi', rfl, HO, HM, HB⟩ := hrel
    clear M0 B0
    by_cases t2 : i < m
    · obtain ⟨x, rfl, kx, cx⟩ := (RO.out.below HB.out) i (by have := HN.out; omega)
      have i1 : (0 : Int) ≤ (i : Int) := by omega
      have i2 : (i : Int) < (m : Int) := by omega
      have NB := Lib.hid (show (¬ (0 ≤ gi O i ∧ gi O i < m) ∨ ∃ j, j < i ∧ gi O j = gi O i) → ¬ IsOrd m O from fun h g => by
        rcases h with h | ⟨j, j1, j2⟩
        · exact h (g.2.1 i t2)
        · exact g.2.2 j i j1 t2 j2)
      by_cases g0 : gi O i < 0
      · have NO := Lib.hid (NB.out (.inl (by omega)))
        have g2 : decide (gi O i < 0) = true := decide_eq_true g0
        clear NB
        generalize gi O i = z at *
        go_wp2_with fail
        go_ret
        exact ⟨false, rfl, ⟨fun h => (by cases h), fun h => absurd h NO.out⟩, HB.out⟩
      · have g2 : decide (gi O i < 0) = false := decide_eq_false g0
        by_cases g1 : gi O i < m
        · obtain ⟨u, hu⟩ := Int.eq_ofNat_of_zero_le (show 0 ≤ gi O i by omega)
          have um : u < m := by omega
          obtain ⟨tk, ct, ht⟩ := HM.out.at_ u um
          have u1 : (0 : Int) ≤ (u : Int) := by omega
          have u2 : (u : Int) < (m : Int) := by omega
          have u3 : ¬ m ≤ u := by omega
          have u4 : decide (m ≤ u) = false := decide_eq_false u3
          cases tk with
          | true =>
            have NO := Lib.hid (NB.out (.inr (by obtain ⟨j, j1, j2⟩ := ht.1 rfl; exact ⟨j, j1, by rw [j2, hu]⟩)))
            clear ht NB g0 g1 g2
            rw [hu] at cx
            clear hu
            go_wp2_with fail
            go_ret
            exact ⟨false, rfl, ⟨fun h => (by cases h), fun h => absurd h NO.out⟩, HB.out⟩
          | false =>
            have OS := Lib.hid (HO.out.step ⟨by omega, g1⟩ (fun ⟨j, j1, j2⟩ => by have := ht.2 ⟨j, j1, by rw [j2, hu]⟩; cases this))
            have MS := Lib.hid (HM.out.set um hu)
            have fz := HM.out.fr u
            have BS := Lib.hid (HB.out.setCell (p := ⟨b, u, none⟩) HM.out.nb (.bool true))
            clear ht NB g0 g1 g2 HO HM HB
            rw [hu] at cx
            clear hu
            go_wp2_with fail
            go_roundw
            case rel => exact ⟨i + 1, by omega, by go_num, OS, MS, BS⟩
            case measure => simp [intOf]; omega
        · have NO := Lib.hid (NB.out (.inl (by omega)))
          have g3 : decide ((m : Int) ≤ gi O i) = true := decide_eq_true (by omega)
          have g4 : (m : Int) ≤ gi O i := by omega
          clear NB
          generalize gi O i = z at *
          go_wp2_with fail
          go_ret
          exact ⟨false, rfl, ⟨fun h => (by cases h), fun h => absurd h NO.out⟩, HB.out⟩
    · obtain rfl : i = m := by omega
      go_wp2_with fail
      go_ret
      exact ⟨true, rfl, ⟨fun _ => ⟨HN.out.symm, HO.out.rng, HO.out.ne⟩, fun _ => rfl⟩, HB.out⟩
end Go.Proofs.Ythbgeikdamajlab
