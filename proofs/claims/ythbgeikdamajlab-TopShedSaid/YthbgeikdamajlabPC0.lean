/- Press: dumps and orders in memory; the checks. -/
import Derived.Test.YthbgeikdamajlabB0
import Derived.Test.YthbgeikdamajlabPR1
import Derived.BigRegion
import Derived.Deep.Cut
import Derived.Deep.CutRange
import Derived.Deep.RegionHeld3
namespace Go.Proofs.Ythbgeikdamajlab
open Go.RowKit Go.Proofs.Ythbgeikdamajlab.Prs
set_option linter.unusedVariables false
set_option linter.unusedSimpArgs false

theorem wN {x : Int} {n : Nat} (h : x = (n : Int)) (hn : n ≤ 9223372036854775807) : IntKind.i64.wrap x = (n : Int) := by rw [h]; exact IntWalk.i64_in _ (by omega)
theorem wI {x y : Int} (h : x = y) (h1 : -9223372036854775808 ≤ y) (h2 : y ≤ 9223372036854775807) : IntKind.i64.wrap x = y := by rw [h]; exact IntWalk.i64_in _ ⟨h1, h2⟩
def pd (D : List (Int × Int)) (i : Nat) : Int := (D[i]?.getD (0, 0)).1
def sd (D : List (Int × Int)) (i : Nat) : Int := (D[i]?.getD (0, 0)).2
def gi (O : List Int) (i : Nat) : Int := O[i]?.getD 0
/-- The slice, wherever it lies, reads as these dumps. -/
def DmpR (w : World) (p : Option Addr) (D : List (Int × Int)) : Prop := ∀ i, i < D.length → ∃ x : Addr, p = some x ∧ x.block < w.heap.size ∧ w.cell? (x.add (i * 2)) = some (.int .i64 (pd D i)) ∧ w.cell? ⟨(x.add (i * 2)).block, (x.add (i * 2)).off + 1, none⟩ = some (.int .i64 (sd D i))
/-- .. as these numbers. -/
def NumR (w : World) (p : Option Addr) (O : List Int) : Prop := ∀ i, i < O.length → ∃ x : Addr, p = some x ∧ x.block < w.heap.size ∧ w.cell? (x.add i) = some (.int .i64 (gi O i))
theorem addB (x : Addr) (i : Nat) : (x.add i).block = x.block := by unfold Addr.add; split <;> rfl
theorem DmpR.below {w w' : World} {p : Option Addr} {D : List (Int × Int)} (r : DmpR w p D) (hb : Below w.heap.size w w') : DmpR w' p D := fun i h => by
  obtain ⟨x, e, k, c, d⟩ := r i h
  exact ⟨x, e, Nat.lt_of_lt_of_le k hb.size, by rw [hb.cell (p := x.add (i * 2)) (by rw [addB]; exact k)]; exact c, by rw [hb.cell (p := ⟨(x.add (i * 2)).block, (x.add (i * 2)).off + 1, none⟩) (by show (x.add (i * 2)).block < _; rw [addB]; exact k)]; exact d⟩
theorem NumR.below {w w' : World} {p : Option Addr} {O : List Int} (r : NumR w p O) (hb : Below w.heap.size w w') : NumR w' p O := fun i h => by
  obtain ⟨x, e, k, c⟩ := r i h
  exact ⟨x, e, Nat.lt_of_lt_of_le k hb.size, by rw [hb.cell (p := x.add i) (by rw [addB]; exact k)]; exact c⟩
def DOk (D : List (Int × Int)) (n : Nat) : Prop := ∀ i, i < n → 0 ≤ pd D i ∧ pd D i ≤ 1073741824 ∧ 0 ≤ sd D i ∧ sd D i ≤ 1073741824
/-- What the check of dumps answers. -/
def DErr (D : List (Int × Int)) (x : Int) : Prop := (64 < D.length ∧ x = 3) ∨ (D.length ≤ 64 ∧ DOk D D.length ∧ x = 0) ∨ (D.length ≤ 64 ∧ ¬ DOk D D.length ∧ x = 2)
theorem isWithin_any (n a b : Int) (w : World) :
    Calls Try.prog 47 #[.int .i64 n, .int .i64 a, .int .i64 b] w fun e w' => e = .returned (.bool (decide (a ≤ n) && decide (n ≤ b))) ∧ w = w' := by
  go_enter Try.func47, Try.ntmps47
  go_wp2
  all_goals go_ret
  all_goals exact ⟨ret_b (by rw [Bool.eq_iff_iff]; simp; try omega), rfl⟩

theorem isWithin_b (n a b : Int) (r : Bool) (h : (decide (a ≤ n) && decide (n ≤ b)) = r) (w : World) :
    Calls Try.prog 47 #[.int .i64 n, .int .i64 a, .int .i64 b] w fun e w' => e = .returned (.bool r) ∧ w = w' := by rw [← h]; exact isWithin_any n a b w

set_option maxRecDepth 100000 in
set_option maxHeartbeats 4000000 in
theorem checkDumps_any (p : Option Addr) (c : Nat) (D : List (Int × Int)) (w : World) (r : DmpR w p D) (ln : D.length ≤ 1000000) :
    Calls Try.prog 42 #[.slice p D.length c] w fun e w' => ∃ x, e = .returned (.int .i64 x) ∧ DErr D x ∧ Below w.heap.size w w' := by
  have R := Lib.hid r
  obtain ⟨n, hn⟩ : ∃ n, n = D.length := ⟨_, rfl⟩
  have HE := Lib.hid (show ∀ x, DErr D x = ((64 < n ∧ x = 3) ∨ (n ≤ 64 ∧ DOk D n ∧ x = 0) ∨ (n ≤ 64 ∧ ¬ DOk D n ∧ x = 2)) from fun x => by rw [hn]; rfl)
  rw [← hn] at ln ⊢
  have HN := Lib.hid hn
  clear hn r
  by_cases t0 : 64 < n
  · have t1 : decide (64 < n) = true := decide_eq_true t0
    go_enter Try.func42, Try.ntmps42
    go_wp2_with fail
    go_ret
    exact ⟨3, rfl, by rw [HE.out]; exact .inl ⟨t0, rfl⟩, Below.refl _ _⟩
  have t1 : decide (64 < n) = false := decide_eq_false t0
  go_enter Try.func42, Try.ntmps42
  go_wp2_with fail
  go_loopw [10] (fun kv wr => ∃ i : Nat, i ≤ n ∧ kv = .int .i64 i ∧ Hid (DOk D i) ∧ Hid (Below w.heap.size w wr)) (fun kv _ => n - (intOf kv).toNat)
  case atStart => exact ⟨0, Nat.zero_le _, rfl, Lib.hid fun i h => absurd h (by omega), Lib.hid (Below.refl _ _)⟩
  case round =>
    obtain ⟨i, hi, rfl, HO, HB⟩ := hrel
    by_cases t2 : i < n
    · obtain ⟨x, rfl, kx, cx, dx⟩ := (R.out.below HB.out) i (by have := HN.out; omega)
      have i1 : (0 : Int) ≤ (i : Int) := by omega
      have i2 : (i : Int) < (n : Int) := by omega
      have SX := Lib.hid (show DOk D (i + 1) ↔ (0 ≤ pd D i ∧ pd D i ≤ 1073741824) ∧ 0 ≤ sd D i ∧ sd D i ≤ 1073741824 from
        ⟨fun h => by have := h i (by omega); omega, fun h j hj => by
          by_cases e : j = i
          · subst e; omega
          · exact HO.out j (by omega)⟩)
      have NO := Lib.hid (show ¬ DOk D (i + 1) → ¬ DOk D n from fun h g => h fun j hj => g j (by omega))
      clear HO
      generalize pd D i = P at *
      generalize sd D i = S at *
      by_cases hp : 0 ≤ P ∧ P ≤ 1073741824
      · by_cases hs : 0 ≤ S ∧ S ≤ 1073741824
        · have OK := Lib.hid (SX.out.2 ⟨hp, hs⟩)
          have C1 := Lib.hid (fun W => isWithin_b P 0 1073741824 true (by simp [hp]) W)
          have C2 := Lib.hid (fun W => isWithin_b S 0 1073741824 true (by simp [hs]) W)
          clear hp hs SX NO
          go_wp2_with fail
          refine (C1.out _).mono ?_
          rintro e w1 ⟨rfl, rfl⟩
          go_wp2_with fail
          refine (C2.out _).mono ?_
          rintro e w1 ⟨rfl, rfl⟩
          go_wp2_with fail
          go_roundw
          case rel => exact ⟨i + 1, by omega, by go_num, OK, Lib.hid (HB.out.alloc HB.out.size _)⟩
          case measure => simp [intOf]; omega
        · have NK := Lib.hid (NO.out fun h => hs (SX.out.1 h).2)
          have C1 := Lib.hid (fun W => isWithin_b P 0 1073741824 true (by simp [hp]) W)
          have C2 := Lib.hid (fun W => isWithin_b S 0 1073741824 false (by
            rw [Bool.and_eq_false_iff]
            by_cases c : 0 ≤ S
            · exact .inr (decide_eq_false (fun g => hs ⟨c, g⟩))
            · exact .inl (decide_eq_false c)) W)
          clear hp hs SX NO
          go_wp2_with fail
          refine (C1.out _).mono ?_
          rintro e w1 ⟨rfl, rfl⟩
          go_wp2_with fail
          refine (C2.out _).mono ?_
          rintro e w1 ⟨rfl, rfl⟩
          go_wp2_with fail
          go_ret
          exact ⟨2, rfl, by rw [HE.out]; exact .inr (.inr ⟨by omega, NK.out, rfl⟩), HB.out.alloc HB.out.size _⟩
      · have NK := Lib.hid (NO.out fun h => hp (SX.out.1 h).1)
        have C1 := Lib.hid (fun W => isWithin_b P 0 1073741824 false (by
            rw [Bool.and_eq_false_iff]
            by_cases c : 0 ≤ P
            · exact .inr (decide_eq_false (fun g => hp ⟨c, g⟩))
            · exact .inl (decide_eq_false c)) W)
        clear hp SX NO
        go_wp2_with fail
        refine (C1.out _).mono ?_
        rintro e w1 ⟨rfl, rfl⟩
        go_wp2_with fail
        go_ret
        exact ⟨2, rfl, by rw [HE.out]; exact .inr (.inr ⟨by omega, NK.out, rfl⟩), HB.out.alloc HB.out.size _⟩
    · obtain rfl : i = n := by omega
      go_wp2_with fail
      go_ret
      exact ⟨0, rfl, by rw [HE.out]; exact .inr (.inl ⟨by omega, HO.out, rfl⟩), HB.out⟩

/-- A permutation of the numbers below n. -/
def IsOrd (n : Nat) (O : List Int) : Prop := O.length = n ∧ (∀ k, k < n → 0 ≤ gi O k ∧ gi O k < n) ∧ ∀ i j, i < j → j < n → gi O i ≠ gi O j
/-- What the check of an order answers. -/
def OErr (D : List (Int × Int)) (O : List Int) (x : Int) : Prop := (64 < D.length ∧ x = 3) ∨ (D.length ≤ 64 ∧ ¬ DOk D D.length ∧ x = 2) ∨ (D.length ≤ 64 ∧ DOk D D.length ∧ IsOrd D.length O ∧ x = 0) ∨ (D.length ≤ 64 ∧ DOk D D.length ∧ ¬ IsOrd D.length O ∧ x = 2)
/-- The marks: which numbers have come so far. -/
structure Marks64 (W : World) (b : Nat) (n₀ : Nat) (O : List Int) (k : Nat) : Prop where
  nb : n₀ ≤ b
  at_ : ∀ v, v < 64 → ∃ x, W.cell? ⟨b, v, none⟩ = some (.bool x) ∧ (x = true ↔ ∃ j, j < k ∧ gi O j = (v : Int))
  fr : ∀ v, W.frozen? ⟨b, v, none⟩ = false
theorem Marks64.set {W : World} {b n₀ k u : Nat} {O : List Int} (h : Marks64 W b n₀ O k) (hu : u < 64) (e : gi O k = (u : Int)) : Marks64 (W.setCell ⟨b, u, none⟩ (.bool true)) b n₀ O (k + 1) := by
  refine ⟨h.nb, fun v hv => ?_, fun v => by simp [go_sem, h.fr v]⟩
  obtain ⟨x, c, hx⟩ := h.at_ v hv
  by_cases uv : v = u
  · subst uv
    exact ⟨true, by rw [World.cell?_setCell_same' _ _ _ (by rw [c]; rfl)], by simp; exact ⟨k, by omega, e⟩⟩
  · refine ⟨x, by simp [go_sem, uv, c], hx.trans ⟨fun ⟨j, j1, j2⟩ => ⟨j, by omega, j2⟩, fun ⟨j, j1, j2⟩ => ?_⟩⟩
    by_cases jk : j = k
    · subst jk; omega
    · exact ⟨j, by omega, j2⟩
end Go.Proofs.Ythbgeikdamajlab
