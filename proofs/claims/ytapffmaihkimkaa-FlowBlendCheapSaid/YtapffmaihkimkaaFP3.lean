/- Flow: the checks of a blend, on both sides. -/
import Derived.Test.YtapffmaihkimkaaFP2
namespace Go.Proofs.Ytapffmaihkimkaa
open Go.RowKit
set_option linter.unusedVariables false
set_option linter.unusedSimpArgs false

def paOk (a : Pa) : Prop := (0 ≤ a.ba ∧ a.ba ≤ 4096) ∧ (0 ≤ a.pr ∧ a.pr ≤ 16384) ∧ (0 ≤ a.mi ∧ a.mi ≤ 10000) ∧ (0 ≤ a.ve ∧ a.ve ≤ 10000) ∧ (0 ≤ a.st ∧ a.st ≤ 7)
def blOk (b l h : Int) : Prop := (1 ≤ b ∧ b ≤ 24) ∧ (0 ≤ l ∧ l ≤ 10000) ∧ (0 ≤ h ∧ h ≤ 10000)
/-- What the check of the parcels answers. -/
def PErr (m : Nat) (A : Nat → Pa) (x : Int) : Prop := (¬ (∀ i, i < m → paOk (A i)) ∧ x = 2) ∨ ((∀ i, i < m → paOk (A i)) ∧ x = 0)
/-- What the checks answer. -/
def BErr (m : Nat) (A : Nat → Pa) (b l h x : Int) : Prop := (6 < m ∧ x = 3) ∨ (m ≤ 6 ∧ ¬ blOk b l h ∧ x = 2) ∨ (m ≤ 6 ∧ blOk b l h ∧ ¬ (∀ i, i < m → paOk (A i)) ∧ x = 2) ∨ (m ≤ 6 ∧ blOk b l h ∧ (∀ i, i < m → paOk (A i)) ∧ x = 0)
theorem BErr.det {m : Nat} {A : Nat → Pa} {b l h x y : Int} (p : BErr m A b l h x) (q : BErr m A b l h y) : y = x := by
  rcases p with ⟨a, e⟩ | ⟨a, c, e⟩ | ⟨a, c, d, e⟩ | ⟨a, c, d, e⟩ <;> rcases q with ⟨a', e'⟩ | ⟨a', c', e'⟩ | ⟨a', c', d', e'⟩ | ⟨a', c', d', e'⟩ <;> first
    | omega
    | exact absurd c' c
    | exact absurd c c'
    | exact absurd d' d
    | exact absurd d d'
theorem BErr.good {m : Nat} {A : Nat → Pa} {b l h : Int} (p : BErr m A b l h 0) : m ≤ 6 ∧ blOk b l h ∧ ∀ i, i < m → paOk (A i) := by
  rcases p with ⟨a, e⟩ | ⟨a, c, e⟩ | ⟨a, c, d, e⟩ | ⟨a, c, d, e⟩
  · omega
  · omega
  · omega
  · exact ⟨a, c, d⟩
/-- A parcel's own box. -/
theorem paBox (W : World) (a b c d e : Int) : (W.alloc (Obj.cells #[Value.int .i64 a, Value.int .i64 b, Value.int .i64 c, Value.int .i64 d, Value.int .i64 e] 44)).cell? ⟨W.heap.size, 0, none⟩ = some (.int .i64 a) ∧ (W.alloc (Obj.cells #[Value.int .i64 a, Value.int .i64 b, Value.int .i64 c, Value.int .i64 d, Value.int .i64 e] 44)).cell? ⟨W.heap.size, 1, none⟩ = some (.int .i64 b) ∧ (W.alloc (Obj.cells #[Value.int .i64 a, Value.int .i64 b, Value.int .i64 c, Value.int .i64 d, Value.int .i64 e] 44)).cell? ⟨W.heap.size, 2, none⟩ = some (.int .i64 c) ∧ (W.alloc (Obj.cells #[Value.int .i64 a, Value.int .i64 b, Value.int .i64 c, Value.int .i64 d, Value.int .i64 e] 44)).cell? ⟨W.heap.size, 3, none⟩ = some (.int .i64 d) ∧ (W.alloc (Obj.cells #[Value.int .i64 a, Value.int .i64 b, Value.int .i64 c, Value.int .i64 d, Value.int .i64 e] 44)).cell? ⟨W.heap.size, 4, none⟩ = some (.int .i64 e) ∧ Below W.heap.size W (W.alloc (Obj.cells #[Value.int .i64 a, Value.int .i64 b, Value.int .i64 c, Value.int .i64 d, Value.int .i64 e] 44)) := by
  refine ⟨?_, ?_, ?_, ?_, ?_, (Below.refl _ W).alloc (Nat.le_refl _) _⟩ <;> simp [go_sem]

set_option maxRecDepth 100000 in
set_option maxHeartbeats 8000000 in
theorem isWithin_any (n m : Int) (w : World) :
    Calls Try.prog 26 #[.int .i64 n, .int .i64 m] w fun e w' => e = .returned (.bool (decide (0 ≤ n ∧ n ≤ m))) ∧ w = w' := by
  by_cases c1 : 0 ≤ n
  · have d1 : decide (0 ≤ n) = true := decide_eq_true c1
    by_cases c2 : n ≤ m
    · have d2 : decide (n ≤ m) = true := decide_eq_true c2
      have E := Lib.hid (show decide (0 ≤ n ∧ n ≤ m) = true from decide_eq_true ⟨c1, c2⟩)
      clear c1 c2
      go_enter Try.func26, Try.ntmps26
      go_wp2_with fail
      go_ret
      exact ⟨ret_b E.out.symm, rfl⟩
    · have d2 : decide (n ≤ m) = false := decide_eq_false c2
      have E := Lib.hid (show decide (0 ≤ n ∧ n ≤ m) = false from decide_eq_false fun h => c2 h.2)
      clear c1 c2
      go_enter Try.func26, Try.ntmps26
      go_wp2_with fail
      go_ret
      exact ⟨ret_b E.out.symm, rfl⟩
  · have d1 : decide (0 ≤ n) = false := decide_eq_false c1
    have E := Lib.hid (show decide (0 ≤ n ∧ n ≤ m) = false from decide_eq_false fun h => c1 h.1)
    clear c1
    go_enter Try.func26, Try.ntmps26
    go_wp2_with fail
    go_ret
    exact ⟨ret_b E.out.symm, rfl⟩
theorem isWithin_b (n m : Int) (r : Bool) (h : decide (0 ≤ n ∧ n ≤ m) = r) (w : World) :
    Calls Try.prog 26 #[.int .i64 n, .int .i64 m] w fun e w' => e = .returned (.bool r) ∧ w = w' := by rw [← h]; exact isWithin_any n m w

set_option maxRecDepth 100000 in
set_option maxHeartbeats 8000000 in
theorem between_any (n m : Int) (w : World) :
    Calls Try.prog 15 #[.int .i64 n, .int .i64 m] w fun e w' => e = .returned (.bool (decide (0 ≤ n ∧ n ≤ m))) ∧ w = w' := by
  by_cases c1 : 0 ≤ n
  · have d1 : decide (0 ≤ n) = true := decide_eq_true c1
    by_cases c2 : n ≤ m
    · have d2 : decide (n ≤ m) = true := decide_eq_true c2
      have E := Lib.hid (show decide (0 ≤ n ∧ n ≤ m) = true from decide_eq_true ⟨c1, c2⟩)
      clear c1 c2
      go_enter Try.func15, Try.ntmps15
      go_wp2_with fail
      go_ret
      exact ⟨ret_b E.out.symm, rfl⟩
    · have d2 : decide (n ≤ m) = false := decide_eq_false c2
      have E := Lib.hid (show decide (0 ≤ n ∧ n ≤ m) = false from decide_eq_false fun h => c2 h.2)
      clear c1 c2
      go_enter Try.func15, Try.ntmps15
      go_wp2_with fail
      go_ret
      exact ⟨ret_b E.out.symm, rfl⟩
  · have d1 : decide (0 ≤ n) = false := decide_eq_false c1
    have E := Lib.hid (show decide (0 ≤ n ∧ n ≤ m) = false from decide_eq_false fun h => c1 h.1)
    clear c1
    go_enter Try.func15, Try.ntmps15
    go_wp2_with fail
    go_ret
    exact ⟨ret_b E.out.symm, rfl⟩
theorem between_b (n m : Int) (r : Bool) (h : decide (0 ≤ n ∧ n ≤ m) = r) (w : World) :
    Calls Try.prog 15 #[.int .i64 n, .int .i64 m] w fun e w' => e = .returned (.bool r) ∧ w = w' := by rw [← h]; exact between_any n m w

set_option maxRecDepth 100000 in
set_option maxHeartbeats 8000000 in
theorem checkParcels_any (p : Option Addr) (c m : Nat) (A : Nat → Pa) (w : World) (r : PaR w p m A) (lm : m ≤ 1000000) :
    Calls Try.prog 27 #[.slice p m c] w fun e w' => ∃ x, e = .returned (.int .i64 x) ∧ PErr m A x ∧ Below w.heap.size w w' := by
  have R := Lib.hid r
  have BADP := Lib.hid (show ∀ i, i < m → ¬ paOk (A i) → PErr m A 2 from fun i hi h => .inl ⟨fun g => h (g i hi), rfl⟩)
  have GOODP := Lib.hid (show (∀ i, i < m → paOk (A i)) → PErr m A 0 from fun h => .inr ⟨h, rfl⟩)
  clear r
  go_enter Try.func27, Try.ntmps27
  go_wp2_with fail
  go_loopw [7] (fun kv wr => ∃ i : Nat, i ≤ m ∧ kv = .int .i64 i ∧ Hid (∀ j, j < i → paOk (A j)) ∧ Hid (Below w.heap.size w wr)) (fun kv _ => m - (intOf kv).toNat)
  case atStart => exact ⟨0, Nat.zero_le _, rfl, Lib.hid (fun j hj => by omega), Lib.hid (Below.refl _ _)⟩
  case round =>
    obtain ⟨i, hi', rfl, ALL, HB⟩ := hrel
    by_cases t1 : i < m
    · have i1 : (0 : Int) ≤ (i : Int) := by omega
      have i2 : (i : Int) < (m : Int) := by omega
      obtain ⟨x, rfl, -, a0, a1, a2, a3, a4⟩ := (R.out.below HB.out) i t1
      have BAD := Lib.hid (BADP.out i t1)
      have GOOD := Lib.hid (show paOk (A i) → ∀ j, j < i + 1 → paOk (A j) from fun h j hj => by
        by_cases e : j = i
        · rw [e]; exact h
        · exact ALL.out j (by omega))
      have OKK := Lib.hid (show paOk (A i) = ((0 ≤ (A i).ba ∧ (A i).ba ≤ 4096) ∧ (0 ≤ (A i).pr ∧ (A i).pr ≤ 16384) ∧ (0 ≤ (A i).mi ∧ (A i).mi ≤ 10000) ∧ (0 ≤ (A i).ve ∧ (A i).ve ≤ 10000) ∧ (0 ≤ (A i).st ∧ (A i).st ≤ 7)) from rfl)
      generalize (A i).ba = v0 at *
      generalize (A i).pr = v1 at *
      generalize (A i).mi = v2 at *
      generalize (A i).ve = v3 at *
      generalize (A i).st = v4 at *
      have PT := Lib.hid (paBox wr v0 v1 v2 v3 v4)
      clear ALL BADP
      go_upto_region 4 with fail
      generalize wr.alloc (Obj.cells #[Value.int .i64 v0, Value.int .i64 v1, Value.int .i64 v2, Value.int .i64 v3, Value.int .i64 v4] 44) = wa at *
      obtain ⟨b0, b1, b2, b3, b4, st⟩ := PT.out
      have KB := Lib.hid (HB.out.trans (st.mono HB.out.size))
      clear PT st a0 a1 a2 a3 a4 HB
      generalize wr.heap.size = g at *
      by_cases z0 : 0 ≤ v0 ∧ v0 ≤ 4096
      case neg =>
        have f0 : decide (0 ≤ v0 ∧ v0 ≤ 4096) = false := decide_eq_false z0
        have FF := Lib.hid (BAD.out (by rw [OKK.out]; exact fun h => z0 h.1))
        clear GOOD BAD OKK GOODP z0
        go_wp2_with fail
        refine (isWithin_b v0 4096 _ f0 _).mono ?_
        rintro e1 u1 ⟨rfl, rfl⟩
        go_wp2_with fail
        go_ret
        exact ⟨2, rfl, FF.out, KB.out⟩
      have f0 : decide (0 ≤ v0 ∧ v0 ≤ 4096) = true := decide_eq_true z0
      by_cases z1 : 0 ≤ v1 ∧ v1 ≤ 16384
      case neg =>
        have f1 : decide (0 ≤ v1 ∧ v1 ≤ 16384) = false := decide_eq_false z1
        have FF := Lib.hid (BAD.out (by rw [OKK.out]; exact fun h => z1 h.2.1))
        clear GOOD BAD OKK GOODP z0 z1
        go_wp2_with fail
        refine (isWithin_b v0 4096 _ f0 _).mono ?_
        rintro e1 u1 ⟨rfl, rfl⟩
        go_wp2_with fail
        refine (isWithin_b v1 16384 _ f1 _).mono ?_
        rintro e1 u1 ⟨rfl, rfl⟩
        go_wp2_with fail
        go_ret
        exact ⟨2, rfl, FF.out, KB.out⟩
      have f1 : decide (0 ≤ v1 ∧ v1 ≤ 16384) = true := decide_eq_true z1
      by_cases z2 : 0 ≤ v2 ∧ v2 ≤ 10000
      case neg =>
        have f2 : decide (0 ≤ v2 ∧ v2 ≤ 10000) = false := decide_eq_false z2
        have FF := Lib.hid (BAD.out (by rw [OKK.out]; exact fun h => z2 h.2.2.1))
        clear GOOD BAD OKK GOODP z0 z1 z2
        go_wp2_with fail
        refine (isWithin_b v0 4096 _ f0 _).mono ?_
        rintro e1 u1 ⟨rfl, rfl⟩
        go_wp2_with fail
        refine (isWithin_b v1 16384 _ f1 _).mono ?_
        rintro e1 u1 ⟨rfl, rfl⟩
        go_wp2_with fail
        refine (isWithin_b v2 10000 _ f2 _).mono ?_
        rintro e1 u1 ⟨rfl, rfl⟩
        go_wp2_with fail
        go_ret
        exact ⟨2, rfl, FF.out, KB.out⟩
      have f2 : decide (0 ≤ v2 ∧ v2 ≤ 10000) = true := decide_eq_true z2
      by_cases z3 : 0 ≤ v3 ∧ v3 ≤ 10000
      case neg =>
        have f3 : decide (0 ≤ v3 ∧ v3 ≤ 10000) = false := decide_eq_false z3
        have FF := Lib.hid (BAD.out (by rw [OKK.out]; exact fun h => z3 h.2.2.2.1))
        clear GOOD BAD OKK GOODP z0 z1 z2 z3
        go_wp2_with fail
        refine (isWithin_b v0 4096 _ f0 _).mono ?_
        rintro e1 u1 ⟨rfl, rfl⟩
        go_wp2_with fail
        refine (isWithin_b v1 16384 _ f1 _).mono ?_
        rintro e1 u1 ⟨rfl, rfl⟩
        go_wp2_with fail
        refine (isWithin_b v2 10000 _ f2 _).mono ?_
        rintro e1 u1 ⟨rfl, rfl⟩
        go_wp2_with fail
        refine (isWithin_b v3 10000 _ f3 _).mono ?_
        rintro e1 u1 ⟨rfl, rfl⟩
        go_wp2_with fail
        go_ret
        exact ⟨2, rfl, FF.out, KB.out⟩
      have f3 : decide (0 ≤ v3 ∧ v3 ≤ 10000) = true := decide_eq_true z3
      by_cases z4 : 0 ≤ v4 ∧ v4 ≤ 7
      case neg =>
        have f4 : decide (0 ≤ v4 ∧ v4 ≤ 7) = false := decide_eq_false z4
        have FF := Lib.hid (BAD.out (by rw [OKK.out]; exact fun h => z4 h.2.2.2.2))
        clear GOOD BAD OKK GOODP z0 z1 z2 z3 z4
        go_wp2_with fail
        refine (isWithin_b v0 4096 _ f0 _).mono ?_
        rintro e1 u1 ⟨rfl, rfl⟩
        go_wp2_with fail
        refine (isWithin_b v1 16384 _ f1 _).mono ?_
        rintro e1 u1 ⟨rfl, rfl⟩
        go_wp2_with fail
        refine (isWithin_b v2 10000 _ f2 _).mono ?_
        rintro e1 u1 ⟨rfl, rfl⟩
        go_wp2_with fail
        refine (isWithin_b v3 10000 _ f3 _).mono ?_
        rintro e1 u1 ⟨rfl, rfl⟩
        go_wp2_with fail
        refine (isWithin_b v4 7 _ f4 _).mono ?_
        rintro e1 u1 ⟨rfl, rfl⟩
        go_wp2_with fail
        go_ret
        exact ⟨2, rfl, FF.out, KB.out⟩
      have f4 : decide (0 ≤ v4 ∧ v4 ≤ 7) = true := decide_eq_true z4
      have A2 := Lib.hid (GOOD.out (by rw [OKK.out]; exact ⟨z0, z1, z2, z3, z4⟩))
      clear GOOD BAD OKK z0 z1 z2 z3 z4
      go_wp2_with fail
      refine (isWithin_b v0 4096 _ f0 _).mono ?_
      rintro e1 u1 ⟨rfl, rfl⟩
      go_wp2_with fail
      refine (isWithin_b v1 16384 _ f1 _).mono ?_
      rintro e1 u1 ⟨rfl, rfl⟩
      go_wp2_with fail
      refine (isWithin_b v2 10000 _ f2 _).mono ?_
      rintro e1 u1 ⟨rfl, rfl⟩
      go_wp2_with fail
      refine (isWithin_b v3 10000 _ f3 _).mono ?_
      rintro e1 u1 ⟨rfl, rfl⟩
      go_wp2_with fail
      refine (isWithin_b v4 7 _ f4 _).mono ?_
      rintro e1 u1 ⟨rfl, rfl⟩
      go_wp2_with fail
      go_roundw
      case rel => exact ⟨i + 1, by omega, by go_num, A2, KB⟩
      case measure => simp [intOf]; omega
    · obtain rfl : i = m := by omega
      have FF := Lib.hid (GOODP.out ALL.out)
      clear GOODP BADP ALL
      go_wp2_with fail
      go_ret
      exact ⟨0, rfl, FF.out, HB.out⟩

set_option maxRecDepth 100000 in
set_option maxHeartbeats 8000000 in
theorem parcel_any (v0 v1 v2 v3 v4 : Int) (w : World) :
    Calls Try.prog 16 #[.agg #[.int .i64 v0, .int .i64 v1, .int .i64 v2, .int .i64 v3, .int .i64 v4]] w fun e w' => ∃ r : Bool, e = .returned (.bool r) ∧ (r = true ↔ paOk ⟨v0, v1, v2, v3, v4⟩) ∧ Below w.heap.size w w' := by
  have OKK := Lib.hid (show paOk ⟨v0, v1, v2, v3, v4⟩ = ((0 ≤ v0 ∧ v0 ≤ 4096) ∧ (0 ≤ v1 ∧ v1 ≤ 16384) ∧ (0 ≤ v2 ∧ v2 ≤ 10000) ∧ (0 ≤ v3 ∧ v3 ≤ 10000) ∧ (0 ≤ v4 ∧ v4 ≤ 7)) from rfl)
  have PT := Lib.hid (paBox w v0 v1 v2 v3 v4)
  go_enter Try.func16, Try.ntmps16
  go_upto_region 1 with fail
  generalize w.alloc (Obj.cells #[Value.int .i64 v0, Value.int .i64 v1, Value.int .i64 v2, Value.int .i64 v3, Value.int .i64 v4] 44) = wa at *
  obtain ⟨b0, b1, b2, b3, b4, st⟩ := PT.out
  have KB := Lib.hid st
  clear PT st
  generalize hg : w.heap.size = g at *
  have HG := Lib.hid hg
  clear hg
  by_cases z0 : 0 ≤ v0 ∧ v0 ≤ 4096
  case neg =>
    have f0 : decide (0 ≤ v0 ∧ v0 ≤ 4096) = false := decide_eq_false z0
    have FF := Lib.hid (show false = true ↔ paOk ⟨v0, v1, v2, v3, v4⟩ from ⟨fun h => by simp at h, fun h => absurd h (by rw [OKK.out]; exact fun h => z0 h.1)⟩)
    clear OKK z0
    go_wp2_with fail
    refine (between_b v0 4096 _ f0 _).mono ?_
    rintro e1 u1 ⟨rfl, rfl⟩
    go_wp2_with fail
    go_ret
    exact ⟨_, rfl, FF.out, by have k := KB.out; rw [← HG.out] at k; exact k⟩
  have f0 : decide (0 ≤ v0 ∧ v0 ≤ 4096) = true := decide_eq_true z0
  by_cases z1 : 0 ≤ v1 ∧ v1 ≤ 16384
  case neg =>
    have f1 : decide (0 ≤ v1 ∧ v1 ≤ 16384) = false := decide_eq_false z1
    have FF := Lib.hid (show false = true ↔ paOk ⟨v0, v1, v2, v3, v4⟩ from ⟨fun h => by simp at h, fun h => absurd h (by rw [OKK.out]; exact fun h => z1 h.2.1)⟩)
    clear OKK z0 z1
    go_wp2_with fail
    refine (between_b v0 4096 _ f0 _).mono ?_
    rintro e1 u1 ⟨rfl, rfl⟩
    go_wp2_with fail
    refine (between_b v1 16384 _ f1 _).mono ?_
    rintro e1 u1 ⟨rfl, rfl⟩
    go_wp2_with fail
    go_ret
    exact ⟨_, rfl, FF.out, by have k := KB.out; rw [← HG.out] at k; exact k⟩
  have f1 : decide (0 ≤ v1 ∧ v1 ≤ 16384) = true := decide_eq_true z1
  by_cases z2 : 0 ≤ v2 ∧ v2 ≤ 10000
  case neg =>
    have f2 : decide (0 ≤ v2 ∧ v2 ≤ 10000) = false := decide_eq_false z2
    have FF := Lib.hid (show false = true ↔ paOk ⟨v0, v1, v2, v3, v4⟩ from ⟨fun h => by simp at h, fun h => absurd h (by rw [OKK.out]; exact fun h => z2 h.2.2.1)⟩)
    clear OKK z0 z1 z2
    go_wp2_with fail
    refine (between_b v0 4096 _ f0 _).mono ?_
    rintro e1 u1 ⟨rfl, rfl⟩
    go_wp2_with fail
    refine (between_b v1 16384 _ f1 _).mono ?_
    rintro e1 u1 ⟨rfl, rfl⟩
    go_wp2_with fail
    refine (between_b v2 10000 _ f2 _).mono ?_
    rintro e1 u1 ⟨rfl, rfl⟩
    go_wp2_with fail
    go_ret
    exact ⟨_, rfl, FF.out, by have k := KB.out; rw [← HG.out] at k; exact k⟩
  have f2 : decide (0 ≤ v2 ∧ v2 ≤ 10000) = true := decide_eq_true z2
  by_cases z3 : 0 ≤ v3 ∧ v3 ≤ 10000
  case neg =>
    have f3 : decide (0 ≤ v3 ∧ v3 ≤ 10000) = false := decide_eq_false z3
    have FF := Lib.hid (show false = true ↔ paOk ⟨v0, v1, v2, v3, v4⟩ from ⟨fun h => by simp at h, fun h => absurd h (by rw [OKK.out]; exact fun h => z3 h.2.2.2.1)⟩)
    clear OKK z0 z1 z2 z3
    go_wp2_with fail
    refine (between_b v0 4096 _ f0 _).mono ?_
    rintro e1 u1 ⟨rfl, rfl⟩
    go_wp2_with fail
    refine (between_b v1 16384 _ f1 _).mono ?_
    rintro e1 u1 ⟨rfl, rfl⟩
    go_wp2_with fail
    refine (between_b v2 10000 _ f2 _).mono ?_
    rintro e1 u1 ⟨rfl, rfl⟩
    go_wp2_with fail
    refine (between_b v3 10000 _ f3 _).mono ?_
    rintro e1 u1 ⟨rfl, rfl⟩
    go_wp2_with fail
    go_ret
    exact ⟨_, rfl, FF.out, by have k := KB.out; rw [← HG.out] at k; exact k⟩
  have f3 : decide (0 ≤ v3 ∧ v3 ≤ 10000) = true := decide_eq_true z3
  by_cases z4 : 0 ≤ v4 ∧ v4 ≤ 7
  case neg =>
    have f4 : decide (0 ≤ v4 ∧ v4 ≤ 7) = false := decide_eq_false z4
    have FF := Lib.hid (show false = true ↔ paOk ⟨v0, v1, v2, v3, v4⟩ from ⟨fun h => by simp at h, fun h => absurd h (by rw [OKK.out]; exact fun h => z4 h.2.2.2.2)⟩)
    clear OKK z0 z1 z2 z3 z4
    go_wp2_with fail
    refine (between_b v0 4096 _ f0 _).mono ?_
    rintro e1 u1 ⟨rfl, rfl⟩
    go_wp2_with fail
    refine (between_b v1 16384 _ f1 _).mono ?_
    rintro e1 u1 ⟨rfl, rfl⟩
    go_wp2_with fail
    refine (between_b v2 10000 _ f2 _).mono ?_
    rintro e1 u1 ⟨rfl, rfl⟩
    go_wp2_with fail
    refine (between_b v3 10000 _ f3 _).mono ?_
    rintro e1 u1 ⟨rfl, rfl⟩
    go_wp2_with fail
    refine (between_b v4 7 _ f4 _).mono ?_
    rintro e1 u1 ⟨rfl, rfl⟩
    go_wp2_with fail
    go_ret
    exact ⟨_, rfl, FF.out, by have k := KB.out; rw [← HG.out] at k; exact k⟩
  have f4 : decide (0 ≤ v4 ∧ v4 ≤ 7) = true := decide_eq_true z4
  have FF := Lib.hid (show true = true ↔ paOk ⟨v0, v1, v2, v3, v4⟩ from ⟨fun _ => by rw [OKK.out]; exact ⟨z0, z1, z2, z3, z4⟩, fun _ => rfl⟩)
  clear OKK z0 z1 z2 z3 z4
  go_wp2_with fail
  refine (between_b v0 4096 _ f0 _).mono ?_
  rintro e1 u1 ⟨rfl, rfl⟩
  go_wp2_with fail
  refine (between_b v1 16384 _ f1 _).mono ?_
  rintro e1 u1 ⟨rfl, rfl⟩
  go_wp2_with fail
  refine (between_b v2 10000 _ f2 _).mono ?_
  rintro e1 u1 ⟨rfl, rfl⟩
  go_wp2_with fail
  refine (between_b v3 10000 _ f3 _).mono ?_
  rintro e1 u1 ⟨rfl, rfl⟩
  go_wp2_with fail
  refine (between_b v4 7 _ f4 _).mono ?_
  rintro e1 u1 ⟨rfl, rfl⟩
  go_wp2_with fail
  go_ret
  exact ⟨_, rfl, by simpa using FF.out, by have k := KB.out; rw [← HG.out] at k; exact k⟩

set_option maxRecDepth 100000 in
set_option maxHeartbeats 8000000 in
theorem checkBlend_any (p : Option Addr) (c m : Nat) (A : Nat → Pa) (b l h : Int) (w : World) (r : PaR w p m A) (lm : m ≤ 9223372036854775807) :
    Calls Try.prog 12 #[.slice p m c, .int .i64 b, .int .i64 l, .int .i64 h] w fun e w' => ∃ x, e = .returned (.int .i64 x) ∧ BErr m A b l h x ∧ Below w.heap.size w w' := by
  by_cases u0 : 6 < m
  · have d0 : decide ((6 : Int) < (m : Int)) = true := decide_eq_true (by omega)
    have FF := Lib.hid (show BErr m A b l h 3 from .inl ⟨u0, rfl⟩)
    clear u0 r
    go_enter Try.func12, Try.ntmps12
    go_wp2_with fail
    go_ret
    exact ⟨3, rfl, FF.out, Below.refl _ _⟩
  have d0 : decide ((6 : Int) < (m : Int)) = false := decide_eq_false (by omega)
  have CP := Lib.hid (checkParcels_any p c m A w r (by omega))
  have BADQ := Lib.hid (show ¬ blOk b l h → BErr m A b l h 2 from fun g => .inr (.inl ⟨by omega, g, rfl⟩))
  have OKK := Lib.hid (show blOk b l h = ((1 ≤ b ∧ b ≤ 24) ∧ (0 ≤ l ∧ l ≤ 10000) ∧ (0 ≤ h ∧ h ≤ 10000)) from rfl)
  have RESQ := Lib.hid (show blOk b l h → ∀ x, PErr m A x → BErr m A b l h x from fun g x k => by
    rcases k with ⟨k, e⟩ | ⟨k, e⟩
    · exact .inr (.inr (.inl ⟨by omega, g, k, e⟩))
    · exact .inr (.inr (.inr ⟨by omega, g, k, e⟩)))
  clear u0 r
  by_cases u1 : b < 1
  · have d1 : decide (b < 1) = true := decide_eq_true u1
    have FF := Lib.hid (BADQ.out (by rw [OKK.out]; omega))
    clear u1 CP BADQ OKK RESQ
    go_enter Try.func12, Try.ntmps12
    go_wp2_with fail
    go_ret
    exact ⟨2, rfl, FF.out, Below.refl _ _⟩
  have d1 : decide (b < 1) = false := decide_eq_false u1
  by_cases u2 : 24 < b
  · have d2 : decide (24 < b) = true := decide_eq_true u2
    have FF := Lib.hid (BADQ.out (by rw [OKK.out]; omega))
    clear u1 u2 CP BADQ OKK RESQ
    go_enter Try.func12, Try.ntmps12
    go_wp2_with fail
    go_ret
    exact ⟨2, rfl, FF.out, Below.refl _ _⟩
  have d2 : decide (24 < b) = false := decide_eq_false u2
  by_cases z0 : 0 ≤ l ∧ l ≤ 10000
  case neg =>
    have f0 : decide (0 ≤ l ∧ l ≤ 10000) = false := decide_eq_false z0
    have FF := Lib.hid (BADQ.out (by rw [OKK.out]; exact fun h => z0 h.2.1))
    clear u1 u2 z0 CP BADQ OKK RESQ
    go_enter Try.func12, Try.ntmps12
    go_wp2_with fail
    refine (isWithin_b l 10000 _ f0 _).mono ?_
    rintro e1 u1 ⟨rfl, rfl⟩
    go_wp2_with fail
    go_ret
    exact ⟨2, rfl, FF.out, Below.refl _ _⟩
  have f0 : decide (0 ≤ l ∧ l ≤ 10000) = true := decide_eq_true z0
  by_cases z1 : 0 ≤ h ∧ h ≤ 10000
  case neg =>
    have f1 : decide (0 ≤ h ∧ h ≤ 10000) = false := decide_eq_false z1
    have FF := Lib.hid (BADQ.out (by rw [OKK.out]; exact fun h => z1 h.2.2))
    clear u1 u2 z0 z1 CP BADQ OKK RESQ
    go_enter Try.func12, Try.ntmps12
    go_wp2_with fail
    refine (isWithin_b l 10000 _ f0 _).mono ?_
    rintro e1 u1 ⟨rfl, rfl⟩
    go_wp2_with fail
    refine (isWithin_b h 10000 _ f1 _).mono ?_
    rintro e1 u1 ⟨rfl, rfl⟩
    go_wp2_with fail
    go_ret
    exact ⟨2, rfl, FF.out, Below.refl _ _⟩
  have f1 : decide (0 ≤ h ∧ h ≤ 10000) = true := decide_eq_true z1
  have RES := Lib.hid (RESQ.out (by rw [OKK.out]; exact ⟨⟨by omega, by omega⟩, z0, z1⟩))
  clear u1 u2 z0 z1 BADQ OKK RESQ
  go_enter Try.func12, Try.ntmps12
  go_wp2_with fail
  refine (isWithin_b l 10000 _ f0 _).mono ?_
  rintro e1 u1 ⟨rfl, rfl⟩
  go_wp2_with fail
  refine (isWithin_b h 10000 _ f1 _).mono ?_
  rintro e1 u1 ⟨rfl, rfl⟩
  go_wp2_with fail
  refine CP.out.mono ?_
  rintro e1 u1 ⟨x, rfl, k, st⟩
  have FF := Lib.hid (RES.out x k)
  have KB := Lib.hid st
  clear RES k st CP
  go_wp2_with fail
  go_ret
  exact ⟨x, rfl, FF.out, KB.out⟩

end Go.Proofs.Ytapffmaihkimkaa
