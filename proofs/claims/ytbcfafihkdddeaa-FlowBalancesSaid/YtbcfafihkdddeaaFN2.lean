/- Flow: what the laws copy of arcs; the checks of networks and of amounts, on both sides. -/
import Derived.Test.YtbcfafihkdddeaaFN1
namespace Go.Proofs.Ytbcfafihkdddeaa
open Go.RowKit
set_option linter.unusedVariables false
set_option linter.unusedSimpArgs false

def arOk (n : Int) (a : Ar) : Prop := 0 ≤ a.fr ∧ a.fr < n ∧ 0 ≤ a.to' ∧ a.to' < n ∧ a.fr ≠ a.to' ∧ 0 ≤ a.cap ∧ a.cap ≤ 1099511627776 ∧ -32768 ≤ a.cost ∧ a.cost ≤ 32768
/-- What the check of a network answers. -/
def NErr (n : Int) (m : Nat) (A : Nat → Ar) (x : Int) : Prop := (¬ (1 ≤ n ∧ n ≤ 32) ∧ x = 2) ∨ ((1 ≤ n ∧ n ≤ 32) ∧ 128 < m ∧ x = 3) ∨ ((1 ≤ n ∧ n ≤ 32) ∧ m ≤ 128 ∧ ¬ (∀ i, i < m → arOk n (A i)) ∧ x = 2) ∨ ((1 ≤ n ∧ n ≤ 32) ∧ m ≤ 128 ∧ (∀ i, i < m → arOk n (A i)) ∧ x = 0)
theorem NErr.det {n : Int} {m : Nat} {A : Nat → Ar} {x y : Int} (h : NErr n m A x) (g : NErr n m A y) : y = x := by
  rcases h with ⟨a, b⟩ | ⟨a, b, c⟩ | ⟨a, b, c, d⟩ | ⟨a, b, c, d⟩ <;> rcases g with ⟨a', b'⟩ | ⟨a', b', c'⟩ | ⟨a', b', c', d'⟩ | ⟨a', b', c', d'⟩ <;> first
    | omega
    | exact absurd a' a
    | exact absurd a a'
    | exact absurd c' c
    | exact absurd c c'
/-- What the check of amounts answers. -/
def AErr (n : Int) (m : Nat) (A : Nat → Ar) (k : Nat) (M : Nat → Int) (x : Int) : Prop := (x ≠ 0 ∧ NErr n m A x) ∨ (NErr n m A 0 ∧ k ≠ m ∧ x = 2) ∨ (NErr n m A 0 ∧ k = m ∧ ¬ (∀ i, i < m → 0 ≤ M i ∧ M i ≤ (A i).cap) ∧ x = 2) ∨ (NErr n m A 0 ∧ k = m ∧ (∀ i, i < m → 0 ≤ M i ∧ M i ≤ (A i).cap) ∧ x = 0)
theorem AErr.det {n : Int} {m : Nat} {A : Nat → Ar} {k : Nat} {M : Nat → Int} {x y : Int} (h : AErr n m A k M x) (g : AErr n m A k M y) : y = x := by
  rcases h with ⟨a, b⟩ | ⟨a, b, c⟩ | ⟨a, b, c, d⟩ | ⟨a, b, c, d⟩ <;> rcases g with ⟨a', b'⟩ | ⟨a', b', c'⟩ | ⟨a', b', c', d'⟩ | ⟨a', b', c', d'⟩ <;> first
    | omega
    | exact NErr.det b b'
    | exact absurd (NErr.det a b') (by omega)
    | exact absurd (NErr.det b a') (by omega)
    | exact absurd c' c
    | exact absurd c c'
theorem AErr.good {n : Int} {m : Nat} {A : Nat → Ar} {k : Nat} {M : Nat → Int} (h : AErr n m A k M 0) : (1 ≤ n ∧ n ≤ 32) ∧ m ≤ 128 ∧ (∀ i, i < m → arOk n (A i)) ∧ k = m ∧ ∀ i, i < m → 0 ≤ M i ∧ M i ≤ (A i).cap := by
  rcases h with ⟨a, b⟩ | ⟨a, b, c⟩ | ⟨a, b, c, d⟩ | ⟨a, b, c, d⟩
  · omega
  · omega
  · omega
  · rcases a with ⟨e, f⟩ | ⟨e, f, g⟩ | ⟨e, f, g, h⟩ | ⟨e, f, g, h⟩
    · omega
    · omega
    · omega
    · exact ⟨e, f, g, b, c⟩
/-- An arc's own box. -/
theorem arBox (W : World) (a b c d : Int) : (W.alloc (Obj.cells #[Value.int .i64 a, Value.int .i64 b, Value.int .i64 c, Value.int .i64 d] 127)).cell? ⟨W.heap.size, 0, none⟩ = some (.int .i64 a) ∧ (W.alloc (Obj.cells #[Value.int .i64 a, Value.int .i64 b, Value.int .i64 c, Value.int .i64 d] 127)).cell? ⟨W.heap.size, 1, none⟩ = some (.int .i64 b) ∧ (W.alloc (Obj.cells #[Value.int .i64 a, Value.int .i64 b, Value.int .i64 c, Value.int .i64 d] 127)).cell? ⟨W.heap.size, 2, none⟩ = some (.int .i64 c) ∧ (W.alloc (Obj.cells #[Value.int .i64 a, Value.int .i64 b, Value.int .i64 c, Value.int .i64 d] 127)).cell? ⟨W.heap.size, 3, none⟩ = some (.int .i64 d) ∧ Below W.heap.size W (W.alloc (Obj.cells #[Value.int .i64 a, Value.int .i64 b, Value.int .i64 c, Value.int .i64 d] 127)) ∧ W.heap.size < (W.alloc (Obj.cells #[Value.int .i64 a, Value.int .i64 b, Value.int .i64 c, Value.int .i64 d] 127)).heap.size := by
  refine ⟨?_, ?_, ?_, ?_, (Below.refl _ W).alloc (Nat.le_refl _) _, ?_⟩ <;> simp [go_sem]

set_option maxRecDepth 100000 in
set_option maxHeartbeats 8000000 in
theorem ffew_any (p : Option Addr) (c m : Nat) (q : Option Addr) (d k : Nat) (w : World) (lm : m ≤ 9223372036854775807) (lk : k ≤ 9223372036854775807) :
    Calls Try.prog 43 #[.slice p m c, .slice q k d] w fun e w' => e = .returned (.bool (decide (m ≤ 140) && decide (k ≤ 140))) ∧ w = w' := by
  by_cases c1 : m ≤ 140
  · have d1 : decide ((m : Int) ≤ 140) = true := decide_eq_true (by omega)
    by_cases c2 : k ≤ 140
    · have d2 : decide ((k : Int) ≤ 140) = true := decide_eq_true (by omega)
      have E := Lib.hid (show (decide (m ≤ 140) && decide (k ≤ 140)) = true from by simp [c1, c2])
      clear c1 c2
      go_enter Try.func43, Try.ntmps43
      go_wp2_with fail
      go_ret
      exact ⟨ret_b E.out.symm, rfl⟩
    · have d2 : decide ((k : Int) ≤ 140) = false := decide_eq_false (by omega)
      have E := Lib.hid (show (decide (m ≤ 140) && decide (k ≤ 140)) = false from by simp; omega)
      clear c1 c2
      go_enter Try.func43, Try.ntmps43
      go_wp2_with fail
      go_ret
      exact ⟨ret_b E.out.symm, rfl⟩
  · have d1 : decide ((m : Int) ≤ 140) = false := decide_eq_false (by omega)
    have E := Lib.hid (show (decide (m ≤ 140) && decide (k ≤ 140)) = false from by simp; omega)
    clear c1
    go_enter Try.func43, Try.ntmps43
    go_wp2_with fail
    go_ret
    exact ⟨ret_b E.out.symm, rfl⟩

set_option maxRecDepth 100000 in
set_option maxHeartbeats 8000000 in
theorem fpaths_any (p : Option Addr) (c n : Nat) (A : Nat → Ar) (w : World) (r : ArcR w p n A) (ln : n ≤ 1000000) :
    Calls Try.prog 45 #[.slice p n c] w fun e w' => ∃ b, e = .returned (.slice (some ⟨b, 0, none⟩) n n) ∧ w.heap.size ≤ b ∧ IR w' b 127 (n * 4) (flA A) ∧ Below w.heap.size w w' := by
  obtain ⟨i0, hi, hz0, hz1, hz2⟩ := info_parts arcInfo
  have R := Lib.hid r
  clear r
  go_enter Try.func45, Try.ntmps45
  go_upto_region 2 with (first
    | (at_make; refine wpList_make_full _ rfl _ _ 69 rfl w.heap.size 127 i0 (.agg #[.int .i64 0, .int .i64 0, .int .i64 0, .int .i64 0]) 4 Try.underlying69 hi hz0 hz1 .i64 .i64 _ _ n rfl rfl (by omega) (by omega) (by rw [hz2]; omega) (by unfold maxLen; omega) (Nat.le_refl _) ?_; intro w1 hown0 hgrow0))
  rw [arcMade] at hown0
  have I1 := Lib.hid (IR.of4 hown0)
  have B1 := Lib.hid (show Below w.heap.size w w1 from (Below.refl _ _).grown hgrow0 (Nat.le_refl _) (fun k e => by cases e))
  clear hown0 hgrow0
  obtain ⟨b, hb⟩ : ∃ b, b = w.heap.size := ⟨_, rfl⟩
  rw [← hb] at I1 ⊢
  have HBB := Lib.hid hb
  clear hb
  go_wp2_with fail
  go_loopw [4] (fun kv wr => ∃ i : Nat, i ≤ n ∧ kv = .int .i64 i ∧ Hid (IR wr b 127 (n * 4) (fun j => if j < i * 4 then flA A j else 0)) ∧ Hid (Below w.heap.size w wr)) (fun kv _ => n - (intOf kv).toNat)
  case atStart => exact ⟨0, Nat.zero_le _, rfl, Lib.hid (I1.out.ext fun k _ => by rw [if_neg (by omega)]), B1⟩
  case round =>
    obtain ⟨i, hi', rfl, IS, HB⟩ := hrel
    clear I1 B1
    by_cases t1 : i < n
    · have i1 : (0 : Int) ≤ (i : Int) := by omega
      have i2 : (i : Int) < (n : Int) := by omega
      obtain ⟨x, rfl, -, a0, a1, a2, a3⟩ := (R.out.below HB.out) i t1
      have c0 := IS.out.cell (k := i * 4) (by omega)
      have c1 := IS.out.cell (k := i * 4 + 1) (by omega)
      have c2 := IS.out.cell (k := i * 4 + 2) (by omega)
      have c3 := IS.out.cell (k := i * 4 + 3) (by omega)
      have f0 := IS.out.frozen (i * 4)
      have f1 := IS.out.frozen (i * 4 + 1)
      have f2 := IS.out.frozen (i * 4 + 2)
      have f3 := IS.out.frozen (i * 4 + 3)
      have E0 := Lib.hid (flA_0 A i)
      have E1 := Lib.hid (flA_1 A i)
      have E2 := Lib.hid (flA_2 A i)
      have E3 := Lib.hid (flA_3 A i)
      generalize (A i).fr = v0 at *
      generalize (A i).to' = v1 at *
      generalize (A i).cap = v2 at *
      generalize (A i).cost = v3 at *
      have IS2 := Lib.hid (show IR ((((wr.setCell ⟨b, i * 4, none⟩ (.int .i64 v0)).setCell ⟨b, i * 4 + 1, none⟩ (.int .i64 v1)).setCell ⟨b, i * 4 + 2, none⟩ (.int .i64 v2)).setCell ⟨b, i * 4 + 3, none⟩ (.int .i64 v3)) b 127 (n * 4) (fun j => if j < (i + 1) * 4 then flA A j else 0) from ((((IS.out.set _ _).set _ _).set _ _).set _ _).ext fun k _ => by
        unfold upd
        by_cases k3 : k = i * 4 + 3
        · subst k3; rw [if_pos rfl, if_pos (by omega), E3.out]
        rw [if_neg k3]
        by_cases k2 : k = i * 4 + 2
        · subst k2; rw [if_pos rfl, if_pos (by omega), E2.out]
        rw [if_neg k2]
        by_cases k1 : k = i * 4 + 1
        · subst k1; rw [if_pos rfl, if_pos (by omega), E1.out]
        rw [if_neg k1]
        by_cases k0 : k = i * 4
        · subst k0; rw [if_pos rfl, if_pos (by omega), E0.out]
        rw [if_neg k0]
        show (if k < i * 4 then flA A k else 0) = _
        by_cases l : k < i * 4
        · rw [if_pos l, if_pos (by omega)]
        · rw [if_neg l, if_neg (by omega)])
      have HB2 := Lib.hid (show Below w.heap.size w ((((wr.setCell ⟨b, i * 4, none⟩ (.int .i64 v0)).setCell ⟨b, i * 4 + 1, none⟩ (.int .i64 v1)).setCell ⟨b, i * 4 + 2, none⟩ (.int .i64 v2)).setCell ⟨b, i * 4 + 3, none⟩ (.int .i64 v3)) from (((HB.out.setCell (by show w.heap.size ≤ b; rw [HBB.out]; exact Nat.le_refl _) _).setCell (by show w.heap.size ≤ b; rw [HBB.out]; exact Nat.le_refl _) _).setCell (by show w.heap.size ≤ b; rw [HBB.out]; exact Nat.le_refl _) _).setCell (by show w.heap.size ≤ b; rw [HBB.out]; exact Nat.le_refl _) _)
      clear IS HB E0 E1 E2 E3
      generalize (if i * 4 < i * 4 then flA A (i * 4) else (0 : Int)) = z0 at *
      generalize (if i * 4 + 1 < i * 4 then flA A (i * 4 + 1) else (0 : Int)) = z1 at *
      generalize (if i * 4 + 2 < i * 4 then flA A (i * 4 + 2) else (0 : Int)) = z2 at *
      generalize (if i * 4 + 3 < i * 4 then flA A (i * 4 + 3) else (0 : Int)) = z3 at *
      go_wp2_with fail
      go_roundw
      case rel => exact ⟨i + 1, by omega, by go_num, IS2, HB2⟩
      case measure => simp [intOf]; omega
    · obtain rfl : i = n := by omega
      have NR := Lib.hid (show IR wr b 127 (i * 4) (flA A) from IS.out.ext fun k hk => by rw [if_pos hk])
      clear IS
      go_wp2_with fail
      go_ret
      exact ⟨b, rfl, Nat.le_of_eq HBB.out.symm, NR.out, HB.out⟩

set_option maxRecDepth 100000 in
set_option maxHeartbeats 8000000 in
theorem checkNetwork_any (n : Int) (hn : -9223372036854775808 ≤ n ∧ n ≤ 9223372036854775807) (p : Option Addr) (c m : Nat) (A : Nat → Ar) (w : World) (r : ArcR w p m A) (lm : m ≤ 1000000) :
    Calls Try.prog 142 #[.int .i64 n, .slice p m c] w fun e w' => ∃ x, e = .returned (.int .i64 x) ∧ NErr n m A x ∧ Below w.heap.size w w' := by
  have R := Lib.hid r
  have HQ := Lib.hid (show ∀ x, NErr n m A x = ((¬ (1 ≤ n ∧ n ≤ 32) ∧ x = 2) ∨ ((1 ≤ n ∧ n ≤ 32) ∧ 128 < m ∧ x = 3) ∨ ((1 ≤ n ∧ n ≤ 32) ∧ m ≤ 128 ∧ ¬ (∀ i, i < m → arOk n (A i)) ∧ x = 2) ∨ ((1 ≤ n ∧ n ≤ 32) ∧ m ≤ 128 ∧ (∀ i, i < m → arOk n (A i)) ∧ x = 0)) from fun _ => rfl)
  clear r
  by_cases u1 : n < 1
  · have d1 : decide (n < 1) = true := decide_eq_true u1
    have FF := Lib.hid (show NErr n m A 2 from by rw [HQ.out]; exact .inl ⟨by omega, rfl⟩)
    clear u1 HQ
    go_enter Try.func142, Try.ntmps142
    go_wp2_with fail
    go_ret
    exact ⟨2, rfl, FF.out, Below.refl _ _⟩
  have d1 : decide (n < 1) = false := decide_eq_false u1
  by_cases u2 : 32 < n
  · have d2 : decide (32 < n) = true := decide_eq_true u2
    have FF := Lib.hid (show NErr n m A 2 from by rw [HQ.out]; exact .inl ⟨by omega, rfl⟩)
    clear u1 u2 HQ
    go_enter Try.func142, Try.ntmps142
    go_wp2_with fail
    go_ret
    exact ⟨2, rfl, FF.out, Below.refl _ _⟩
  have d2 : decide (32 < n) = false := decide_eq_false u2
  by_cases u3 : 128 < m
  · have d3 : decide ((128 : Int) < (m : Int)) = true := decide_eq_true (by omega)
    have FF := Lib.hid (show NErr n m A 3 from by rw [HQ.out]; exact .inr (.inl ⟨by omega, u3, rfl⟩))
    clear u1 u2 u3 HQ
    go_enter Try.func142, Try.ntmps142
    go_wp2_with fail
    go_ret
    exact ⟨3, rfl, FF.out, Below.refl _ _⟩
  have d3 : decide ((128 : Int) < (m : Int)) = false := decide_eq_false (by omega)
  have BADQ := Lib.hid (show ∀ i, i < m → ¬ arOk n (A i) → NErr n m A 2 from fun i hi h => by rw [HQ.out]; exact .inr (.inr (.inl ⟨by omega, by omega, fun g => h (g i hi), rfl⟩)))
  have GOODQ := Lib.hid (show (∀ i, i < m → arOk n (A i)) → NErr n m A 0 from fun h => by rw [HQ.out]; exact .inr (.inr (.inr ⟨by omega, by omega, h, rfl⟩)))
  clear HQ u1 u2
  go_enter Try.func142, Try.ntmps142
  go_wp2_with fail
  clear d1 d2 d3
  go_loopw [18] (fun kv wr => ∃ i : Nat, i ≤ m ∧ kv = .int .i64 i ∧ Hid (∀ j, j < i → arOk n (A j)) ∧ Hid (Below w.heap.size w wr)) (fun kv _ => m - (intOf kv).toNat)
  case atStart => exact ⟨0, Nat.zero_le _, rfl, Lib.hid (fun j hj => by omega), Lib.hid (Below.refl _ _)⟩
  case round =>
    obtain ⟨i, hi', rfl, ALL, HB⟩ := hrel
    by_cases t1 : i < m
    · have i1 : (0 : Int) ≤ (i : Int) := by omega
      have i2 : (i : Int) < (m : Int) := by omega
      obtain ⟨x, rfl, -, a0, a1, a2, a3⟩ := (R.out.below HB.out) i t1
      have BAD := Lib.hid (BADQ.out i t1)
      have GOOD := Lib.hid (show arOk n (A i) → ∀ j, j < i + 1 → arOk n (A j) from fun h j hj => by
        by_cases e : j = i
        · rw [e]; exact h
        · exact ALL.out j (by omega))
      have OKK := Lib.hid (show arOk n (A i) = (0 ≤ (A i).fr ∧ (A i).fr < n ∧ 0 ≤ (A i).to' ∧ (A i).to' < n ∧ (A i).fr ≠ (A i).to' ∧ 0 ≤ (A i).cap ∧ (A i).cap ≤ 1099511627776 ∧ -32768 ≤ (A i).cost ∧ (A i).cost ≤ 32768) from rfl)
      generalize (A i).fr = v0 at *
      generalize (A i).to' = v1 at *
      generalize (A i).cap = v2 at *
      generalize (A i).cost = v3 at *
      have PT := Lib.hid (arBox wr v0 v1 v2 v3)
      clear ALL BADQ
      go_upto_region 8 with fail
      generalize wr.alloc (Obj.cells #[Value.int .i64 v0, Value.int .i64 v1, Value.int .i64 v2, Value.int .i64 v3] 127) = wa at *
      obtain ⟨b0, b1, b2, b3, st, -⟩ := PT.out
      have KB := Lib.hid (HB.out.trans (st.mono HB.out.size))
      clear PT st a0 a1 a2 a3 HB
      generalize wr.heap.size = g at *
      by_cases z0 : v0 < 0
      · have e0 : decide (v0 < 0) = true := decide_eq_true z0
        have FF := Lib.hid (BAD.out (by rw [OKK.out]; omega))
        clear GOOD BAD OKK GOODQ z0
        go_wp2_with fail
        go_ret
        exact ⟨2, rfl, FF.out, KB.out⟩
      have e0 : decide (v0 < 0) = false := decide_eq_false z0
      by_cases z1 : n ≤ v0
      · have e1 : decide (n ≤ v0) = true := decide_eq_true z1
        have FF := Lib.hid (BAD.out (by rw [OKK.out]; omega))
        clear GOOD BAD OKK GOODQ z0 z1
        go_wp2_with fail
        go_ret
        exact ⟨2, rfl, FF.out, KB.out⟩
      have e1 : decide (n ≤ v0) = false := decide_eq_false z1
      by_cases z2 : v1 < 0
      · have e2 : decide (v1 < 0) = true := decide_eq_true z2
        have FF := Lib.hid (BAD.out (by rw [OKK.out]; omega))
        clear GOOD BAD OKK GOODQ z0 z1 z2
        go_wp2_with fail
        go_ret
        exact ⟨2, rfl, FF.out, KB.out⟩
      have e2 : decide (v1 < 0) = false := decide_eq_false z2
      by_cases z3 : n ≤ v1
      · have e3 : decide (n ≤ v1) = true := decide_eq_true z3
        have FF := Lib.hid (BAD.out (by rw [OKK.out]; omega))
        clear GOOD BAD OKK GOODQ z0 z1 z2 z3
        go_wp2_with fail
        go_ret
        exact ⟨2, rfl, FF.out, KB.out⟩
      have e3 : decide (n ≤ v1) = false := decide_eq_false z3
      by_cases z4 : v0 = v1
      · have e4 : (v0 == v1) = true := by simpa using z4
        have FF := Lib.hid (BAD.out (by rw [OKK.out]; omega))
        clear GOOD BAD OKK GOODQ z0 z1 z2 z3 z4
        go_wp2_with fail
        go_ret
        exact ⟨2, rfl, FF.out, KB.out⟩
      have e4 : (v0 == v1) = false := by simpa using z4
      by_cases z5 : v2 < 0
      · have e5 : decide (v2 < 0) = true := decide_eq_true z5
        have FF := Lib.hid (BAD.out (by rw [OKK.out]; omega))
        clear GOOD BAD OKK GOODQ z0 z1 z2 z3 z4 z5
        go_wp2_with fail
        go_ret
        exact ⟨2, rfl, FF.out, KB.out⟩
      have e5 : decide (v2 < 0) = false := decide_eq_false z5
      by_cases z6 : 1099511627776 < v2
      · have e6 : decide (1099511627776 < v2) = true := decide_eq_true z6
        have FF := Lib.hid (BAD.out (by rw [OKK.out]; omega))
        clear GOOD BAD OKK GOODQ z0 z1 z2 z3 z4 z5 z6
        go_wp2_with fail
        go_ret
        exact ⟨2, rfl, FF.out, KB.out⟩
      have e6 : decide (1099511627776 < v2) = false := decide_eq_false z6
      by_cases z7 : v3 < -32768
      · have e7 : decide (v3 < -32768) = true := decide_eq_true z7
        have FF := Lib.hid (BAD.out (by rw [OKK.out]; omega))
        clear GOOD BAD OKK GOODQ z0 z1 z2 z3 z4 z5 z6 z7
        go_wp2_with fail
        go_ret
        exact ⟨2, rfl, FF.out, KB.out⟩
      have e7 : decide (v3 < -32768) = false := decide_eq_false z7
      by_cases z8 : 32768 < v3
      · have e8 : decide (32768 < v3) = true := decide_eq_true z8
        have FF := Lib.hid (BAD.out (by rw [OKK.out]; omega))
        clear GOOD BAD OKK GOODQ z0 z1 z2 z3 z4 z5 z6 z7 z8
        go_wp2_with fail
        go_ret
        exact ⟨2, rfl, FF.out, KB.out⟩
      have e8 : decide (32768 < v3) = false := decide_eq_false z8
      have A2 := Lib.hid (GOOD.out (by rw [OKK.out]; omega))
      clear GOOD BAD OKK z0 z1 z2 z3 z4 z5 z6 z7 z8
      go_wp2_with fail
      go_roundw
      case rel => exact ⟨i + 1, by omega, by go_num, A2, KB⟩
      case measure => simp [intOf]; omega
    · obtain rfl : i = m := by omega
      have FF := Lib.hid (GOODQ.out ALL.out)
      clear GOODQ BADQ ALL
      go_wp2_with fail
      go_ret
      exact ⟨0, rfl, FF.out, HB.out⟩

set_option maxRecDepth 100000 in
set_option maxHeartbeats 8000000 in
theorem rNet_any (n : Int) (hn : -9223372036854775808 ≤ n ∧ n ≤ 9223372036854775807) (p : Option Addr) (c m : Nat) (A : Nat → Ar) (w : World) (r : ArcR w p m A) (lm : m ≤ 1000000) :
    Calls Try.prog 143 #[.int .i64 n, .slice p m c] w fun e w' => ∃ x, e = .returned (.int .i64 x) ∧ NErr n m A x ∧ Below w.heap.size w w' := by
  have R := Lib.hid r
  have HQ := Lib.hid (show ∀ x, NErr n m A x = ((¬ (1 ≤ n ∧ n ≤ 32) ∧ x = 2) ∨ ((1 ≤ n ∧ n ≤ 32) ∧ 128 < m ∧ x = 3) ∨ ((1 ≤ n ∧ n ≤ 32) ∧ m ≤ 128 ∧ ¬ (∀ i, i < m → arOk n (A i)) ∧ x = 2) ∨ ((1 ≤ n ∧ n ≤ 32) ∧ m ≤ 128 ∧ (∀ i, i < m → arOk n (A i)) ∧ x = 0)) from fun _ => rfl)
  clear r
  by_cases u1 : n < 1
  · have d1 : decide (n < 1) = true := decide_eq_true u1
    have FF := Lib.hid (show NErr n m A 2 from by rw [HQ.out]; exact .inl ⟨by omega, rfl⟩)
    clear u1 HQ
    go_enter Try.func143, Try.ntmps143
    go_wp2_with fail
    go_ret
    exact ⟨2, rfl, FF.out, Below.refl _ _⟩
  have d1 : decide (n < 1) = false := decide_eq_false u1
  by_cases u2 : 32 < n
  · have d2 : decide (32 < n) = true := decide_eq_true u2
    have FF := Lib.hid (show NErr n m A 2 from by rw [HQ.out]; exact .inl ⟨by omega, rfl⟩)
    clear u1 u2 HQ
    go_enter Try.func143, Try.ntmps143
    go_wp2_with fail
    go_ret
    exact ⟨2, rfl, FF.out, Below.refl _ _⟩
  have d2 : decide (32 < n) = false := decide_eq_false u2
  by_cases u3 : 128 < m
  · have d3 : decide ((128 : Int) < (m : Int)) = true := decide_eq_true (by omega)
    have FF := Lib.hid (show NErr n m A 3 from by rw [HQ.out]; exact .inr (.inl ⟨by omega, u3, rfl⟩))
    clear u1 u2 u3 HQ
    go_enter Try.func143, Try.ntmps143
    go_wp2_with fail
    go_ret
    exact ⟨3, rfl, FF.out, Below.refl _ _⟩
  have d3 : decide ((128 : Int) < (m : Int)) = false := decide_eq_false (by omega)
  have BADQ := Lib.hid (show ∀ i, i < m → ¬ arOk n (A i) → NErr n m A 2 from fun i hi h => by rw [HQ.out]; exact .inr (.inr (.inl ⟨by omega, by omega, fun g => h (g i hi), rfl⟩)))
  have GOODQ := Lib.hid (show (∀ i, i < m → arOk n (A i)) → NErr n m A 0 from fun h => by rw [HQ.out]; exact .inr (.inr (.inr ⟨by omega, by omega, h, rfl⟩)))
  clear HQ u1 u2
  go_enter Try.func143, Try.ntmps143
  go_wp2_with fail
  clear d1 d2 d3
  go_loopw [5] (fun kv wr => ∃ i : Nat, i ≤ m ∧ kv = .int .i64 i ∧ Hid (∀ j, j < i → arOk n (A j)) ∧ Hid (Below w.heap.size w wr)) (fun kv _ => m - (intOf kv).toNat)
  case atStart => exact ⟨0, Nat.zero_le _, rfl, Lib.hid (fun j hj => by omega), Lib.hid (Below.refl _ _)⟩
  case round =>
    obtain ⟨i, hi', rfl, ALL, HB⟩ := hrel
    by_cases t1 : i < m
    · have i1 : (0 : Int) ≤ (i : Int) := by omega
      have i2 : (i : Int) < (m : Int) := by omega
      obtain ⟨x, rfl, -, a0, a1, a2, a3⟩ := (R.out.below HB.out) i t1
      have BAD := Lib.hid (BADQ.out i t1)
      have GOOD := Lib.hid (show arOk n (A i) → ∀ j, j < i + 1 → arOk n (A j) from fun h j hj => by
        by_cases e : j = i
        · rw [e]; exact h
        · exact ALL.out j (by omega))
      have OKK := Lib.hid (show arOk n (A i) = (0 ≤ (A i).fr ∧ (A i).fr < n ∧ 0 ≤ (A i).to' ∧ (A i).to' < n ∧ (A i).fr ≠ (A i).to' ∧ 0 ≤ (A i).cap ∧ (A i).cap ≤ 1099511627776 ∧ -32768 ≤ (A i).cost ∧ (A i).cost ≤ 32768) from rfl)
      generalize (A i).fr = v0 at *
      generalize (A i).to' = v1 at *
      generalize (A i).cap = v2 at *
      generalize (A i).cost = v3 at *
      have PT := Lib.hid (arBox wr v0 v1 v2 v3)
      clear ALL BADQ
      go_upto_region 9 with fail
      generalize wr.alloc (Obj.cells #[Value.int .i64 v0, Value.int .i64 v1, Value.int .i64 v2, Value.int .i64 v3] 127) = wa at *
      obtain ⟨b0, b1, b2, b3, st, -⟩ := PT.out
      have KB := Lib.hid (HB.out.trans (st.mono HB.out.size))
      clear PT st a0 a1 a2 a3 HB
      generalize wr.heap.size = g at *
      by_cases z0 : v0 < 0
      · have e0 : decide (v0 < 0) = true := decide_eq_true z0
        have FF := Lib.hid (BAD.out (by rw [OKK.out]; omega))
        clear GOOD BAD OKK GOODQ z0
        go_wp2_with fail
        go_ret
        exact ⟨2, rfl, FF.out, KB.out⟩
      have e0 : decide (v0 < 0) = false := decide_eq_false z0
      by_cases z1 : n ≤ v0
      · have e1 : decide (n ≤ v0) = true := decide_eq_true z1
        have FF := Lib.hid (BAD.out (by rw [OKK.out]; omega))
        clear GOOD BAD OKK GOODQ z0 z1
        go_wp2_with fail
        go_ret
        exact ⟨2, rfl, FF.out, KB.out⟩
      have e1 : decide (n ≤ v0) = false := decide_eq_false z1
      by_cases z2 : v1 < 0
      · have e2 : decide (v1 < 0) = true := decide_eq_true z2
        have FF := Lib.hid (BAD.out (by rw [OKK.out]; omega))
        clear GOOD BAD OKK GOODQ z0 z1 z2
        go_wp2_with fail
        go_ret
        exact ⟨2, rfl, FF.out, KB.out⟩
      have e2 : decide (v1 < 0) = false := decide_eq_false z2
      by_cases z3 : n ≤ v1
      · have e3 : decide (n ≤ v1) = true := decide_eq_true z3
        have FF := Lib.hid (BAD.out (by rw [OKK.out]; omega))
        clear GOOD BAD OKK GOODQ z0 z1 z2 z3
        go_wp2_with fail
        go_ret
        exact ⟨2, rfl, FF.out, KB.out⟩
      have e3 : decide (n ≤ v1) = false := decide_eq_false z3
      by_cases z4 : v0 = v1
      · have e4 : (v0 == v1) = true := by simpa using z4
        have FF := Lib.hid (BAD.out (by rw [OKK.out]; omega))
        clear GOOD BAD OKK GOODQ z0 z1 z2 z3 z4
        go_wp2_with fail
        go_ret
        exact ⟨2, rfl, FF.out, KB.out⟩
      have e4 : (v0 == v1) = false := by simpa using z4
      by_cases z5 : v2 < 0
      · have e5 : decide (v2 < 0) = true := decide_eq_true z5
        have FF := Lib.hid (BAD.out (by rw [OKK.out]; omega))
        clear GOOD BAD OKK GOODQ z0 z1 z2 z3 z4 z5
        go_wp2_with fail
        go_ret
        exact ⟨2, rfl, FF.out, KB.out⟩
      have e5 : decide (v2 < 0) = false := decide_eq_false z5
      by_cases z6 : 1099511627776 < v2
      · have e6 : decide (1099511627776 < v2) = true := decide_eq_true z6
        have FF := Lib.hid (BAD.out (by rw [OKK.out]; omega))
        clear GOOD BAD OKK GOODQ z0 z1 z2 z3 z4 z5 z6
        go_wp2_with fail
        go_ret
        exact ⟨2, rfl, FF.out, KB.out⟩
      have e6 : decide (1099511627776 < v2) = false := decide_eq_false z6
      by_cases z7 : v3 < -32768
      · have e7 : decide (v3 < -32768) = true := decide_eq_true z7
        have FF := Lib.hid (BAD.out (by rw [OKK.out]; omega))
        clear GOOD BAD OKK GOODQ z0 z1 z2 z3 z4 z5 z6 z7
        go_wp2_with fail
        go_ret
        exact ⟨2, rfl, FF.out, KB.out⟩
      have e7 : decide (v3 < -32768) = false := decide_eq_false z7
      by_cases z8 : 32768 < v3
      · have e8 : decide (32768 < v3) = true := decide_eq_true z8
        have FF := Lib.hid (BAD.out (by rw [OKK.out]; omega))
        clear GOOD BAD OKK GOODQ z0 z1 z2 z3 z4 z5 z6 z7 z8
        go_wp2_with fail
        go_ret
        exact ⟨2, rfl, FF.out, KB.out⟩
      have e8 : decide (32768 < v3) = false := decide_eq_false z8
      have A2 := Lib.hid (GOOD.out (by rw [OKK.out]; omega))
      clear GOOD BAD OKK z0 z1 z2 z3 z4 z5 z6 z7 z8
      go_wp2_with fail
      go_roundw
      case rel => exact ⟨i + 1, by omega, by go_num, A2, KB⟩
      case measure => simp [intOf]; omega
    · obtain rfl : i = m := by omega
      have FF := Lib.hid (GOODQ.out ALL.out)
      clear GOODQ BADQ ALL
      go_wp2_with fail
      go_ret
      exact ⟨0, rfl, FF.out, HB.out⟩

set_option maxRecDepth 100000 in
set_option maxHeartbeats 8000000 in
theorem checkAmounts_any (n : Int) (hn : -9223372036854775808 ≤ n ∧ n ≤ 9223372036854775807) (p : Option Addr) (c m : Nat) (A : Nat → Ar) (q : Option Addr) (d k : Nat) (M : Nat → Int) (w : World) (r : ArcR w p m A) (r2 : NmR w q k M) (lm : m ≤ 1000000) (lk : k ≤ 1000000) :
    Calls Try.prog 94 #[.int .i64 n, .slice p m c, .slice q k d] w fun e w' => ∃ x, e = .returned (.int .i64 x) ∧ AErr n m A k M x ∧ Below w.heap.size w w' := by
  have R := Lib.hid r
  have R2 := Lib.hid r2
  have CN := Lib.hid (checkNetwork_any n hn p c m A w r lm)
  clear r r2
  go_enter Try.func94, Try.ntmps94
  go_wp2_with fail
  refine CN.out.mono ?_
  rintro e w1 ⟨x, rfl, nq, st⟩
  have NQ := Lib.hid nq
  have KB := Lib.hid st
  clear nq st CN
  by_cases x0 : x = 0
  case neg =>
    have x1 : (x == 0) = false := by simpa using x0
    have x2 : (x != 0) = true := by simpa using x0
    have FF := Lib.hid (show AErr n m A k M x from .inl ⟨x0, NQ.out⟩)
    clear x0 NQ
    go_wp2_with fail
    go_ret
    exact ⟨x, rfl, FF.out, KB.out⟩
  subst x0
  have x1 : ((0 : Int) == 0) = true := by decide
  have x2 : ((0 : Int) != 0) = false := by decide
  by_cases e : k = m
  case neg =>
    have y1 : ((k : Int) == (m : Int)) = false := by simp; omega
    have y2 : ((k : Int) != (m : Int)) = true := by simp; omega
    have FF := Lib.hid (show AErr n m A k M 2 from .inr (.inl ⟨NQ.out, e, rfl⟩))
    clear e NQ
    go_wp2_with fail
    go_ret
    exact ⟨2, rfl, FF.out, KB.out⟩
  subst e
  have y1 : ((k : Int) == (k : Int)) = true := by simp
  have y2 : ((k : Int) != (k : Int)) = false := by simp
  have BADQ := Lib.hid (show ∀ i, i < k → ¬ (0 ≤ M i ∧ M i ≤ (A i).cap) → AErr n k A k M 2 from fun i hi h => .inr (.inr (.inl ⟨NQ.out, rfl, fun g => h (g i hi), rfl⟩)))
  have GOODQ := Lib.hid (show (∀ i, i < k → 0 ≤ M i ∧ M i ≤ (A i).cap) → AErr n k A k M 0 from fun h => .inr (.inr (.inr ⟨NQ.out, rfl, h, rfl⟩)))
  clear NQ
  go_wp2_with fail
  clear x1 x2 y1 y2
  go_loopw [23] (fun kv wr => ∃ i : Nat, i ≤ k ∧ kv = .int .i64 i ∧ Hid (∀ j, j < i → 0 ≤ M j ∧ M j ≤ (A j).cap) ∧ Hid (Below w.heap.size w wr)) (fun kv _ => k - (intOf kv).toNat)
  case atStart => exact ⟨0, Nat.zero_le _, rfl, Lib.hid (fun j hj => by omega), KB⟩
  case round =>
    clear KB
    obtain ⟨i, hi', rfl, ALL, HB⟩ := hrel
    by_cases t1 : i < k
    · have i1 : (0 : Int) ≤ (i : Int) := by omega
      have i2 : (i : Int) < (k : Int) := by omega
      obtain ⟨x, rfl, -, -, -, a2, -⟩ := (R.out.below HB.out) i t1
      obtain ⟨y, rfl, -, cy⟩ := (R2.out.below HB.out) i t1
      have BAD := Lib.hid (BADQ.out i t1)
      have GOOD := Lib.hid (show (0 ≤ M i ∧ M i ≤ (A i).cap) → ∀ j, j < i + 1 → 0 ≤ M j ∧ M j ≤ (A j).cap from fun h j hj => by
        by_cases e : j = i
        · rw [e]; exact h
        · exact ALL.out j (by omega))
      generalize (A i).cap = v2 at *
      generalize M i = y0 at *
      clear ALL BADQ
      go_upto_region 9 with fail
      by_cases z0 : y0 < 0
      · have e0 : decide (y0 < 0) = true := decide_eq_true z0
        have FF := Lib.hid (BAD.out (by omega))
        clear GOOD BAD GOODQ z0
        go_wp2_with fail
        go_ret
        exact ⟨2, rfl, FF.out, HB.out⟩
      have e0 : decide (y0 < 0) = false := decide_eq_false z0
      by_cases z1 : v2 < y0
      · have e1 : decide (v2 < y0) = true := decide_eq_true z1
        have FF := Lib.hid (BAD.out (by omega))
        clear GOOD BAD GOODQ z0 z1
        go_wp2_with fail
        go_ret
        exact ⟨2, rfl, FF.out, HB.out⟩
      have e1 : decide (v2 < y0) = false := decide_eq_false z1
      have A2 := Lib.hid (GOOD.out (by omega))
      clear GOOD BAD z0 z1
      go_wp2_with fail
      go_roundw
      case rel => exact ⟨i + 1, by omega, by go_num, A2, HB⟩
      case measure => simp [intOf]; omega
    · obtain rfl : i = k := by omega
      have FF := Lib.hid (GOODQ.out ALL.out)
      clear GOODQ BADQ ALL
      go_wp2_with fail
      go_ret
      exact ⟨0, rfl, FF.out, HB.out⟩

set_option maxRecDepth 100000 in
set_option maxHeartbeats 8000000 in
theorem rAmounts_any (n : Int) (hn : -9223372036854775808 ≤ n ∧ n ≤ 9223372036854775807) (p : Option Addr) (c m : Nat) (A : Nat → Ar) (q : Option Addr) (d k : Nat) (M : Nat → Int) (w : World) (r : ArcR w p m A) (r2 : NmR w q k M) (lm : m ≤ 1000000) (lk : k ≤ 1000000) :
    Calls Try.prog 95 #[.int .i64 n, .slice p m c, .slice q k d] w fun e w' => ∃ x, e = .returned (.int .i64 x) ∧ AErr n m A k M x ∧ Below w.heap.size w w' := by
  have R := Lib.hid r
  have R2 := Lib.hid r2
  have CN := Lib.hid (rNet_any n hn p c m A w r lm)
  clear r r2
  go_enter Try.func95, Try.ntmps95
  go_wp2_with fail
  refine CN.out.mono ?_
  rintro e w1 ⟨x, rfl, nq, st⟩
  have NQ := Lib.hid nq
  have KB := Lib.hid st
  clear nq st CN
  by_cases x0 : x = 0
  case neg =>
    have x1 : (x == 0) = false := by simpa using x0
    have x2 : (x != 0) = true := by simpa using x0
    have FF := Lib.hid (show AErr n m A k M x from .inl ⟨x0, NQ.out⟩)
    clear x0 NQ
    go_wp2_with fail
    go_ret
    exact ⟨x, rfl, FF.out, KB.out⟩
  subst x0
  have x1 : ((0 : Int) == 0) = true := by decide
  have x2 : ((0 : Int) != 0) = false := by decide
  by_cases e : k = m
  case neg =>
    have y1 : ((k : Int) == (m : Int)) = false := by simp; omega
    have y2 : ((k : Int) != (m : Int)) = true := by simp; omega
    have FF := Lib.hid (show AErr n m A k M 2 from .inr (.inl ⟨NQ.out, e, rfl⟩))
    clear e NQ
    go_wp2_with fail
    go_ret
    exact ⟨2, rfl, FF.out, KB.out⟩
  subst e
  have y1 : ((k : Int) == (k : Int)) = true := by simp
  have y2 : ((k : Int) != (k : Int)) = false := by simp
  have BADQ := Lib.hid (show ∀ i, i < k → ¬ (0 ≤ M i ∧ M i ≤ (A i).cap) → AErr n k A k M 2 from fun i hi h => .inr (.inr (.inl ⟨NQ.out, rfl, fun g => h (g i hi), rfl⟩)))
  have GOODQ := Lib.hid (show (∀ i, i < k → 0 ≤ M i ∧ M i ≤ (A i).cap) → AErr n k A k M 0 from fun h => .inr (.inr (.inr ⟨NQ.out, rfl, h, rfl⟩)))
  clear NQ
  go_wp2_with fail
  clear x1 x2 y1 y2
  go_loopw [8] (fun kv wr => ∃ i : Nat, i ≤ k ∧ kv = .int .i64 i ∧ Hid (∀ j, j < i → 0 ≤ M j ∧ M j ≤ (A j).cap) ∧ Hid (Below w.heap.size w wr)) (fun kv _ => k - (intOf kv).toNat)
  case atStart => exact ⟨0, Nat.zero_le _, rfl, Lib.hid (fun j hj => by omega), KB⟩
  case round =>
    clear KB
    obtain ⟨i, hi', rfl, ALL, HB⟩ := hrel
    by_cases t1 : i < k
    · have i1 : (0 : Int) ≤ (i : Int) := by omega
      have i2 : (i : Int) < (k : Int) := by omega
      obtain ⟨x, rfl, -, -, -, a2, -⟩ := (R.out.below HB.out) i t1
      obtain ⟨y, rfl, -, cy⟩ := (R2.out.below HB.out) i t1
      have BAD := Lib.hid (BADQ.out i t1)
      have GOOD := Lib.hid (show (0 ≤ M i ∧ M i ≤ (A i).cap) → ∀ j, j < i + 1 → 0 ≤ M j ∧ M j ≤ (A j).cap from fun h j hj => by
        by_cases e : j = i
        · rw [e]; exact h
        · exact ALL.out j (by omega))
      generalize (A i).cap = v2 at *
      generalize M i = y0 at *
      clear ALL BADQ
      go_upto_region 9 with fail
      by_cases z0 : y0 < 0
      · have e0 : decide (y0 < 0) = true := decide_eq_true z0
        have FF := Lib.hid (BAD.out (by omega))
        clear GOOD BAD GOODQ z0
        go_quiet (fail)
        go_wp2_with fail
        go_ret
        exact ⟨2, rfl, FF.out, (below_drewN HB.out _)⟩
      have e0 : decide (y0 < 0) = false := decide_eq_false z0
      by_cases z1 : v2 < y0
      · have e1 : decide (v2 < y0) = true := decide_eq_true z1
        have FF := Lib.hid (BAD.out (by omega))
        clear GOOD BAD GOODQ z0 z1
        go_quiet (fail)
        go_wp2_with fail
        go_ret
        exact ⟨2, rfl, FF.out, (below_drewN HB.out _)⟩
      have e1 : decide (v2 < y0) = false := decide_eq_false z1
      have A2 := Lib.hid (GOOD.out (by omega))
      clear GOOD BAD z0 z1
      go_quiet (fail)
      go_wp2_with fail
      go_roundw
      case rel => exact ⟨i + 1, by omega, by go_num, A2, Lib.hid (below_drewN HB.out _)⟩
      case measure => simp [intOf]; omega
    · obtain rfl : i = k := by omega
      have FF := Lib.hid (GOODQ.out ALL.out)
      clear GOODQ BADQ ALL
      go_wp2_with fail
      go_ret
      exact ⟨0, rfl, FF.out, HB.out⟩
end Go.Proofs.Ytbcfafihkdddeaa
