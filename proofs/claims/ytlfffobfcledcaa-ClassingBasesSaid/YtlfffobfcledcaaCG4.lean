/- Several texts in one: R26 CB1 CB2 CB3 CB4 CB5 CB6 CB7. -/
import Derived.Test.YtlfffobfcledcaaCG3
import Derived.Test.YtlfffobfcledcaaCAA
import Derived.Deep.RegionLaw
import Derived.Deep.Cut
import Derived.Deep.CutRange
import Derived.Deep.RegionHeld3

/- Rounding by the reference and by the program: the same numbers. -/
namespace Go.Proofs.Ytlfffobfcledcaa
open Go.RowKit
set_option linter.unusedVariables false
set_option linter.unusedSimpArgs false

/-- The sign of a times b over c. -/
def ngB (a b c : Int) : Bool := !((!(decide (a < 0) == decide (b < 0))) == decide (c < 0))
/-- a times b over c, rounded. -/
def RZ (a b c m : Int) : Int := if 0 < c then rz (a * b) c m else rz (-(a * b)) (-c) m
theorem rndQ_nonneg (neg : Bool) (p c m : Int) (hp : 0 ≤ p) (hc : 0 < c) : 0 ≤ rndQ neg p c m := by
  have := rnd_ge neg p c m
  have := Int.ediv_nonneg hp (show 0 ≤ c by omega)
  omega
theorem RZ_rnd (a b c m : Int) (h : c ≠ 0) (m0 : 0 ≤ m) (m4 : m ≤ 4) : RZ a b c m = bif ngB a b c then -(rndQ (ngB a b c) (a.natAbs * b.natAbs) c.natAbs m) else rndQ (ngB a b c) (a.natAbs * b.natAbs) c.natAbs m := by
  have P : 0 ≤ (a.natAbs : Int) * b.natAbs := Int.mul_nonneg (by omega) (by omega)
  have k := rz_rnd (ngB a b c) (a.natAbs * b.natAbs) c.natAbs m P (by omega) m0 m4
  have g := sgn_mul a b
  rw [← k]
  unfold RZ ngB
  rw [show (decide (a < 0) != decide (b < 0)) = !(decide (a < 0) == decide (b < 0)) from rfl] at g
  generalize (!(decide (a < 0) == decide (b < 0))) = x at *
  by_cases hc : 0 < c
  · have e : decide (c < 0) = false := by simp; omega
    rw [if_pos hc, e, show (c.natAbs : Int) = c from by omega, ← g]
    cases x <;> rfl
  · have e : decide (c < 0) = true := by simp; omega
    rw [if_neg hc, e, show (c.natAbs : Int) = -c from by omega, ← g]
    cases x <;> simp
theorem RZ_abs (a b c m : Int) (h : c ≠ 0) (m0 : 0 ≤ m) (m4 : m ≤ 4) : ((RZ a b c m).natAbs : Int) = rndQ (ngB a b c) (a.natAbs * b.natAbs) c.natAbs m := by
  rw [RZ_rnd a b c m h m0 m4]
  exact whole_abs _ (rndQ_nonneg _ _ _ _ (Int.mul_nonneg (by omega) (by omega)) (by omega))
/-- What MulDiv comes to. -/
def mdOk (a b c m : Int) : Bool := wthB a 1125899906842624 && wthB b 1125899906842624 && wthB c 1125899906842624 && modB m
def mdV (a b c m : Int) : Int := bif mdOk a b c m then (if c = 0 then 0 else rndV (ngB a b c) (a.natAbs * b.natAbs) c.natAbs m) else 0
def mdE (a b c m : Int) : Int := bif mdOk a b c m then (if c = 0 then 5 else rndE (ngB a b c) (a.natAbs * b.natAbs) c.natAbs m) else 2
theorem md_bad {a b c m : Int} (h : mdOk a b c m = false) : mdV a b c m = 0 ∧ mdE a b c m = 2 := by unfold mdV mdE; rw [h]; exact ⟨rfl, rfl⟩
theorem md_zero {a b c m : Int} (h : mdOk a b c m = true) (h0 : c = 0) : mdV a b c m = 0 ∧ mdE a b c m = 5 := by unfold mdV mdE; rw [h, if_pos h0, if_pos h0]; exact ⟨rfl, rfl⟩
theorem md_ok {a b c m : Int} (h : mdOk a b c m = true) (h0 : c ≠ 0) : mdV a b c m = rndV (ngB a b c) (a.natAbs * b.natAbs) c.natAbs m ∧ mdE a b c m = rndE (ngB a b c) (a.natAbs * b.natAbs) c.natAbs m := by unfold mdV mdE; rw [h, if_neg h0, if_neg h0]; exact ⟨rfl, rfl⟩
theorem md_in {a b c m : Int} (h : mdOk a b c m = true) (h0 : c ≠ 0) (hi : ((RZ a b c m).natAbs : Int) ≤ 1125899906842624) : mdV a b c m = RZ a b c m ∧ mdE a b c m = 0 := by
  have hm : modB m = true := by unfold mdOk at h; simp only [Bool.and_eq_true] at h; exact h.2
  obtain ⟨m0, m4⟩ := modB_true.1 hm
  rw [RZ_abs a b c m h0 m0 m4] at hi
  rw [(md_ok h h0).1, (md_ok h h0).2, (rnd_ok hi).1, (rnd_ok hi).2, RZ_rnd a b c m h0 m0 m4]
  exact ⟨rfl, rfl⟩
theorem md_out {a b c m : Int} (h : mdOk a b c m = true) (h0 : c ≠ 0) (hi : ¬ ((RZ a b c m).natAbs : Int) ≤ 1125899906842624) : mdV a b c m = 0 ∧ mdE a b c m = 4 := by
  have hm : modB m = true := by unfold mdOk at h; simp only [Bool.and_eq_true] at h; exact h.2
  obtain ⟨m0, m4⟩ := modB_true.1 hm
  rw [RZ_abs a b c m h0 m0 m4] at hi
  rw [(md_ok h h0).1, (md_ok h h0).2, (rnd_big (by omega)).1, (rnd_big (by omega)).2]
  exact ⟨rfl, rfl⟩
theorem mdOk_true {a b c m : Int} (h : mdOk a b c m = true) : wthB a 1125899906842624 = true ∧ wthB b 1125899906842624 = true ∧ wthB c 1125899906842624 = true ∧ modB m = true := by
  unfold mdOk at h; simp only [Bool.and_eq_true] at h; exact ⟨h.1.1.1, h.1.1.2, h.1.2, h.2⟩
theorem mdOk_false {a b c m : Int} (h : mdOk a b c m = false) : wthB a 1125899906842624 = false ∨ wthB b 1125899906842624 = false ∨ wthB c 1125899906842624 = false ∨ modB m = false := by
  unfold mdOk at h
  generalize wthB a 1125899906842624 = A at *
  generalize wthB b 1125899906842624 = B at *
  generalize wthB c 1125899906842624 = C at *
  generalize modB m = M at *
  cases A <;> cases B <;> cases C <;> cases M <;> simp_all

theorem MulDiv_all (a b c m : Int) (w : World) :
    Calls Try.prog 43 #[.int .i64 a, .int .i64 b, .int .i64 c, .int .i64 m] w fun e w' => e = .returned (.tuple #[.int .i64 (mdV a b c m), .int .i64 (mdE a b c m)]) ∧ Below w.heap.size w w' := by
  cases h : mdOk a b c m
  · rw [(md_bad h).1, (md_bad h).2]
    exact (MulDiv_bad a b c m (mdOk_false h) w).mono fun e w' ⟨x, y⟩ => ⟨x, y ▸ Below.refl _ _⟩
  · obtain ⟨h1, h2, h3, h4⟩ := mdOk_true h
    by_cases h0 : c = 0
    · rw [(md_zero h h0).1, (md_zero h h0).2, h0]
      exact (MulDiv_zero a b m h1 h2 h4 w).mono fun e w' ⟨x, y⟩ => ⟨x, y ▸ Below.refl _ _⟩
    · rw [(md_ok h h0).1, (md_ok h h0).2]
      exact (MulDiv_ok a b c m h1 h2 h3 h4 h0 w).mono fun e w' ⟨x, n, y⟩ => ⟨x, y ▸ below_drewN (Below.refl _ _) _⟩

theorem rounded_s {N : Nat} (X Y m Z : Int) (s t u : Bool) (hs : s = decide (X < 0)) (ht : t = decide (Y < 0)) (hZ : (if 0 < Y then rz X Y m else rz (-X) (-Y) m) = Z) (hu : u = decide (Z < 0)) (hY : Y ≠ 0) (m0 : 0 ≤ m) (m4 : m ≤ 4) (p q : Option Addr) (c d : Nat) (l k : List Int) (w : World) (A : BigR N w p l X) (B : BigR N w q k Y) (hN : N ≤ 70000) :
    Calls Try.prog 46 #[.agg #[.bool s, .slice p l.length c], .agg #[.bool t, .slice q k.length d], .int .i64 m] w (BigS (N + 6) Z u w) := by
  subst hs ht
  have := Rounded_any p q c d l k X Y m w A B hY m0 m4 hN
  rw [hZ] at this
  exact this.mono fun _ _ h => h.s hu
theorem within_s {N : Nat} (x most : Int) (s : Bool) (hs : s = decide (x < 0)) (p : Option Addr) (c : Nat) (l : List Int) (h0 : 0 ≤ most) (hm : most ≤ 4611686018427387904) (w : World) (A : BigR N w p l x) (hN : N ≤ 90000) :
    Calls Try.prog 45 #[.agg #[.bool s, .slice p l.length c], .int .i64 most] w fun e w' => e = .returned (.tuple #[.int .i64 (wiV x most), .bool (wiB x most)]) ∧ Below w.heap.size w w' := by
  subst hs
  exact Within_any p c l x most h0 hm w A hN

end Go.Proofs.Ytlfffobfcledcaa

/- Subsamples: which are valid, on both sides. -/

namespace Go.Proofs.Ytlfffobfcledcaa
open Go.RowKit
set_option linter.unusedVariables false
set_option linter.unusedSimpArgs false

def sub (r d a g v : Int) : Value := .agg #[.int .i64 r, .int .i64 d, .int .i64 a, .int .i64 g, .int .i64 v]
def subB (r d a g v : Int) : Bool := decide (1 ≤ r) && decide (r ≤ 10000) && decide (0 ≤ d) && decide (d ≤ r) && decide (0 ≤ a) && decide (a ≤ d) && decide (0 ≤ g) && decide (g ≤ d - a) && decide (0 ≤ v) && decide (v ≤ d - a - g)
theorem subB_true {r d a g v : Int} : subB r d a g v = true ↔ 1 ≤ r ∧ r ≤ 10000 ∧ 0 ≤ d ∧ d ≤ r ∧ 0 ≤ a ∧ a ≤ d ∧ 0 ≤ g ∧ g ≤ d - a ∧ 0 ≤ v ∧ v ≤ d - a - g := by simp [subB, and_assoc]

set_option maxRecDepth 100000 in
set_option maxHeartbeats 2000000 in
theorem isSub_any (r d a g v : Int) (w : World) :
    Calls Try.prog 32 #[.agg #[.int .i64 r, .int .i64 d, .int .i64 a, .int .i64 g, .int .i64 v]] w fun e w' => e = .returned (.bool (subB r d a g v)) ∧ Below w.heap.size w w' := by
  have ix0 : ∀ W : World, (Instr.index 89 (.agg #[.int .i64 a, .int .i64 g, .int .i64 v]) (.int .i64 0)).run Try.prog W = .ok (.int .i64 a) W := fun W => rfl
  have ix1 : ∀ W : World, (Instr.index 89 (.agg #[.int .i64 a, .int .i64 g, .int .i64 v]) (.int .i64 1)).run Try.prog W = .ok (.int .i64 g) W := fun W => rfl
  have ix2 : ∀ W : World, (Instr.index 89 (.agg #[.int .i64 a, .int .i64 g, .int .i64 v]) (.int .i64 2)).run Try.prog W = .ok (.int .i64 v) W := fun W => rfl
  go_enter Try.func32, Try.ntmps32
  go_wp2
  all_goals first
    | (go_ret; first
      | (have e : subB r d a g v = true := (by rw [subB_true]; omega); rw [e]; exact ⟨rfl, by go_grown⟩)
      | (have e : subB r d a g v = false := (by rw [Bool.eq_false_iff]; intro k; rw [subB_true] at k; omega); rw [e]; exact ⟨rfl, by go_grown⟩))
    | refine wp_loop_rounds 4 ?_
  rw [rounds_succ]
  go_wp2
  all_goals try (go_ret; first
      | (have e : subB r d a g v = true := (by rw [subB_true]; omega); rw [e]; exact ⟨rfl, by go_grown⟩)
      | (have e : subB r d a g v = false := (by rw [Bool.eq_false_iff]; intro k; rw [subB_true] at k; omega); rw [e]; exact ⟨rfl, by go_grown⟩))
  rw [rounds_succ]
  go_wp2
  all_goals try (go_ret; first
      | (have e : subB r d a g v = true := (by rw [subB_true]; omega); rw [e]; exact ⟨rfl, by go_grown⟩)
      | (have e : subB r d a g v = false := (by rw [Bool.eq_false_iff]; intro k; rw [subB_true] at k; omega); rw [e]; exact ⟨rfl, by go_grown⟩))
  rw [rounds_succ]
  go_wp2
  all_goals try (go_ret; first
      | (have e : subB r d a g v = true := (by rw [subB_true]; omega); rw [e]; exact ⟨rfl, by go_grown⟩)
      | (have e : subB r d a g v = false := (by rw [Bool.eq_false_iff]; intro k; rw [subB_true] at k; omega); rw [e]; exact ⟨rfl, by go_grown⟩))
  rw [rounds_succ]
  go_wp2
  all_goals try (go_ret; first
      | (have e : subB r d a g v = true := (by rw [subB_true]; omega); rw [e]; exact ⟨rfl, by go_grown⟩)
      | (have e : subB r d a g v = false := (by rw [Bool.eq_false_iff]; intro k; rw [subB_true] at k; omega); rw [e]; exact ⟨rfl, by go_grown⟩))
end Go.Proofs.Ytlfffobfcledcaa

/- Subsamples on the reference's side; wool; Base on both sides. -/
namespace Go.Proofs.Ytlfffobfcledcaa
open Go.RowKit
set_option linter.unusedVariables false
set_option linter.unusedSimpArgs false

set_option maxRecDepth 100000 in
set_option maxHeartbeats 2000000 in
theorem rValidSub_any (r d a g v : Int) (w : World) :
    Calls Try.prog 39 #[.agg #[.int .i64 r, .int .i64 d, .int .i64 a, .int .i64 g, .int .i64 v]] w fun e w' => e = .returned (.bool (subB r d a g v)) ∧ Below w.heap.size w w' := by
  go_enter Try.func39, Try.ntmps39
  go_wp2
  all_goals (go_ret; first
      | (have e : subB r d a g v = true := (by rw [subB_true]; omega); rw [e]; exact ⟨rfl, by go_grown⟩)
      | (have e : subB r d a g v = false := (by rw [Bool.eq_false_iff]; intro k; rw [subB_true] at k; omega); rw [e]; exact ⟨rfl, by go_grown⟩)
      | (have e : subB r d a g v = decide (v ≤ d - a - g) := (by rw [Bool.eq_iff_iff, subB_true]; simp only [decide_eq_true_eq]; omega); rw [e]; exact ⟨rfl, by go_grown⟩))

set_option maxRecDepth 100000 in
set_option maxHeartbeats 1000000 in
theorem wool_any (r d a g v : Int) (h : subB r d a g v = true) (w : World) :
    Calls Try.prog 35 #[.agg #[.int .i64 r, .int .i64 d, .int .i64 a, .int .i64 g, .int .i64 v]] w fun e w' => e = .returned (.int .i64 (d - a - g - v)) ∧ Below w.heap.size w w' := by
  rw [subB_true] at h
  have e1 : IntKind.i64.wrap (d - a) = d - a := by rw [IntKind.wrap_i64]; omega
  have e2 : IntKind.i64.wrap (d - a - g) = d - a - g := by rw [IntKind.wrap_i64]; omega
  have e3 : IntKind.i64.wrap (d - a - g - v) = d - a - g - v := by rw [IntKind.wrap_i64]; omega
  clear h
  go_enter Try.func35, Try.ntmps35
  go_wp2
  go_ret
  exact ⟨rfl, by go_grown⟩
set_option maxRecDepth 100000 in
set_option maxHeartbeats 1000000 in
theorem rwool_any (r d a g v : Int) (h : subB r d a g v = true) (w : World) :
    Calls Try.prog 42 #[.agg #[.int .i64 r, .int .i64 d, .int .i64 a, .int .i64 g, .int .i64 v]] w fun e w' => e = .returned (.int .i64 (d - a - g - v)) ∧ Below w.heap.size w w' := by
  rw [subB_true] at h
  have e1 : IntKind.i64.wrap (d - a) = d - a := by rw [IntKind.wrap_i64]; omega
  have e2 : IntKind.i64.wrap (d - a - g) = d - a - g := by rw [IntKind.wrap_i64]; omega
  have e3 : IntKind.i64.wrap (d - a - g - v) = d - a - g - v := by rw [IntKind.wrap_i64]; omega
  clear h
  go_enter Try.func42, Try.ntmps42
  go_wp2
  go_ret
  exact ⟨rfl, by go_grown⟩
end Go.Proofs.Ytlfffobfcledcaa

/- Base on both sides. -/
namespace Go.Proofs.Ytlfffobfcledcaa
open Go.RowKit
set_option linter.unusedVariables false
set_option linter.unusedSimpArgs false

/-- What Base comes to. -/
def BaseR (r d a g v : Int) (V D E : Int) : Prop := (subB r d a g v = false ∧ V = 0 ∧ D = 0 ∧ E = 2) ∨ (subB r d a g v = true ∧ IsFrac (d - a - g - v) r V D E)
theorem BaseR.unique {r d a g v V D E V' D' E' : Int} (h : BaseR r d a g v V D E) (h' : BaseR r d a g v V' D' E') : V' = V ∧ D' = D ∧ E' = E := by
  rcases h with ⟨x, b, c, e⟩ | ⟨x, b⟩ <;> rcases h' with ⟨x', b', c', e'⟩ | ⟨x', b'⟩
  · exact ⟨by omega, by omega, by omega⟩
  · rw [x] at x'; cases x'
  · rw [x] at x'; cases x'
  · have := subB_true.1 x; obtain ⟨p, q, t⟩ := frac_unique (show r ≠ 0 by omega) b b'; exact ⟨p.symm, q.symm, t.symm⟩

set_option maxRecDepth 100000 in
set_option maxHeartbeats 1000000 in
theorem Base_bad (r d a g v : Int) (h : subB r d a g v = false) (w : World) :
    Calls Try.prog 14 #[.agg #[.int .i64 r, .int .i64 d, .int .i64 a, .int .i64 g, .int .i64 v]] w fun e w' => e = .returned (fracV 0 0 2) ∧ Below w.heap.size w w' := by
  have C1 := Lib.hid (fun W => isSub_any r d a g v W)
  rw [h] at C1
  clear h
  go_enter Try.func14, Try.ntmps14
  go_wp2_with fail
  refine (C1.out _).mono ?_
  rintro e w1 ⟨rfl, hb⟩
  obtain ⟨hc, hf⟩ := bcell hb
  have hz : w.heap.size < w1.heap.size := by have := hb.size; simp at this; omega
  have hz1 : w.heap.size + 1 < w1.heap.size := by have := hb.size; simp at this; omega
  have k1 : Below w.heap.size w w1 := (((Below.refl _ _).alloc (Nat.le_refl _) _).alloc (by simp) _).trans (hb.mono (by simp; omega))
  go_wp2_with fail
  refine bodyPost_ret (v := fracV 0 0 2) (by simp [results, Try.results14, go_sem, fracV, hc, hz, hz1]) rfl ⟨rfl, ?_⟩
  exact (k1.setCell (by simp) _).setCell (by simp) _

set_option maxRecDepth 100000 in
set_option maxHeartbeats 1000000 in
theorem rBase_bad (r d a g v : Int) (h : subB r d a g v = false) (w : World) :
    Calls Try.prog 15 #[.agg #[.int .i64 r, .int .i64 d, .int .i64 a, .int .i64 g, .int .i64 v]] w fun e w' => e = .returned (fracV 0 0 2) ∧ Below w.heap.size w w' := by
  have C1 := Lib.hid (fun W => rValidSub_any r d a g v W)
  rw [h] at C1
  clear h
  go_enter Try.func15, Try.ntmps15
  go_wp2_with fail
  refine (C1.out _).mono ?_
  rintro e w1 ⟨rfl, hb⟩
  obtain ⟨hc, hf⟩ := bcell hb
  have hz : w.heap.size < w1.heap.size := by have := hb.size; simp at this; omega
  have hz1 : w.heap.size + 1 < w1.heap.size := by have := hb.size; simp at this; omega
  have k1 : Below w.heap.size w w1 := (((Below.refl _ _).alloc (Nat.le_refl _) _).alloc (by simp) _).trans (hb.mono (by simp; omega))
  go_wp2_with fail
  refine bodyPost_ret (v := fracV 0 0 2) (by simp [results, Try.results15, go_sem, fracV, hc, hz, hz1]) rfl ⟨rfl, ?_⟩
  exact (k1.setCell (by simp) _).setCell (by simp) _

/- The good case. -/
set_option maxRecDepth 100000 in
set_option maxHeartbeats 2000000 in
theorem Base_ok (r d a g v : Int) (h : subB r d a g v = true) (w : World) :
    Calls Try.prog 14 #[.agg #[.int .i64 r, .int .i64 d, .int .i64 a, .int .i64 g, .int .i64 v]] w (Res (IsFrac (d - a - g - v) r) w) := by
  have C1 := Lib.hid (fun W => isSub_any r d a g v W)
  have C2 := Lib.hid (fun W => wool_any r d a g v h W)
  rw [h] at C1
  obtain ⟨h1, h2, h3, h4, h5, h6, h7, h8, h9, h10⟩ := subB_true.1 h
  obtain ⟨n, hn⟩ : ∃ n, n = d - a - g - v := ⟨_, rfl⟩
  rw [← hn] at C2 ⊢
  have n1 : 0 ≤ n := by omega
  have n2 : n ≤ 10000 := by omega
  have C3 := Lib.hid (fun W => Make_any n r (by omega) (by omega) (by omega) (by omega) (by omega) W)
  clear hn h h1 h2 h3 h4 h5 h6 h7 h8 h9 h10 n1 n2
  go_enter Try.func14, Try.ntmps14
  go_wp2_with fail
  refine (C1.out _).mono ?_
  rintro e w1 ⟨rfl, q⟩
  have hb : Below w.heap.size w w1 := (((Below.refl _ _).alloc (Nat.le_refl _) _).alloc (by simp) _).trans (q.mono (by simp; omega))
  have z0 : w.heap.size < w1.heap.size := by have := q.size; simp at this; omega
  have z1 : w.heap.size + 1 < w1.heap.size := by have := q.size; simp at this; omega
  have s0 := q.cell (p := ⟨w.heap.size, 0, none⟩) (by simp; try omega)
  have s1 := q.cell (p := ⟨w.heap.size, 1, none⟩) (by simp; try omega)
  have s2 := q.cell (p := ⟨w.heap.size, 2, none⟩) (by simp; try omega)
  have s3 := q.cell (p := ⟨w.heap.size, 3, none⟩) (by simp; try omega)
  have s4 := q.cell (p := ⟨w.heap.size, 4, none⟩) (by simp; try omega)
  have k1 := q.cell (p := ⟨w.heap.size + 1, 0, none⟩) (by simp)
  have k2 := q.cell (p := ⟨w.heap.size + 1, 1, none⟩) (by simp)
  have k3 := q.frozen (p := ⟨w.heap.size + 1, 0, none⟩) (by simp)
  have k4 := q.frozen (p := ⟨w.heap.size + 1, 1, none⟩) (by simp)
  simp [go_sem] at s0 s1 s2 s3 s4 k1 k2 k3 k4
  clear q C1
  go_upto_region 3 with fail
  go_region_law (first
    | (go_simp; go_at_call 35; (with_reducible refine (C2.out _).mono ?_); rintro e w2 ⟨rfl, q⟩; have st : Below w1.heap.size w1 w2 := (by first | exact q | exact ((Below.refl _ _).drew).trans q | exact (below_drewN (Below.refl _ _) _).trans q); replace s0 := (st.cell (p := ⟨w.heap.size, 0, none⟩) z0).trans s0; replace s1 := (st.cell (p := ⟨w.heap.size, 1, none⟩) z0).trans s1; replace s2 := (st.cell (p := ⟨w.heap.size, 2, none⟩) z0).trans s2; replace s3 := (st.cell (p := ⟨w.heap.size, 3, none⟩) z0).trans s3; replace s4 := (st.cell (p := ⟨w.heap.size, 4, none⟩) z0).trans s4; replace k1 := (st.cell (p := ⟨w.heap.size + 1, 0, none⟩) z1).trans k1; replace k2 := (st.cell (p := ⟨w.heap.size + 1, 1, none⟩) z1).trans k2; replace k3 := (st.frozen (p := ⟨w.heap.size + 1, 0, none⟩) z1).trans k3; replace k4 := (st.frozen (p := ⟨w.heap.size + 1, 1, none⟩) z1).trans k4; replace z0 := Nat.lt_of_lt_of_le z0 st.size; replace z1 := Nat.lt_of_lt_of_le z1 st.size; replace hb := hb.trans (st.mono hb.size); clear q st)
    | (go_simp; go_at_call 38; (with_reducible refine (C3.out _).mono ?_); rintro e w3 ⟨V, D, E, hF, rfl, q⟩; unfold fracV; have st : Below w2.heap.size w2 w3 := (by first | exact q | exact ((Below.refl _ _).drew).trans q | exact (below_drewN (Below.refl _ _) _).trans q); replace s0 := (st.cell (p := ⟨w.heap.size, 0, none⟩) z0).trans s0; replace s1 := (st.cell (p := ⟨w.heap.size, 1, none⟩) z0).trans s1; replace s2 := (st.cell (p := ⟨w.heap.size, 2, none⟩) z0).trans s2; replace s3 := (st.cell (p := ⟨w.heap.size, 3, none⟩) z0).trans s3; replace s4 := (st.cell (p := ⟨w.heap.size, 4, none⟩) z0).trans s4; replace k1 := (st.cell (p := ⟨w.heap.size + 1, 0, none⟩) z1).trans k1; replace k2 := (st.cell (p := ⟨w.heap.size + 1, 1, none⟩) z1).trans k2; replace k3 := (st.frozen (p := ⟨w.heap.size + 1, 0, none⟩) z1).trans k3; replace k4 := (st.frozen (p := ⟨w.heap.size + 1, 1, none⟩) z1).trans k4; replace z0 := Nat.lt_of_lt_of_le z0 st.size; replace z1 := Nat.lt_of_lt_of_le z1 st.size; replace hb := hb.trans (st.mono hb.size); have HF := Lib.hid hF; clear q st hF))
  all_goals go_wp2_with fail
  all_goals refine bodyPost_ret (v := fracV V D E) (by simp [results, Try.results14, go_sem, fracV, k1, k2, z1]) rfl ⟨V, D, E, HF.out, rfl, ?_⟩
  all_goals first
    | exact (hb.setCell (by simp) _).setCell (by simp) _
    | exact ((hb.setCell (by simp) _).setCell (by simp) _).drew
    | exact below_drewN ((hb.setCell (by simp) _).setCell (by simp) _) _
    | exact (hb.drew.setCell (by simp) _).setCell (by simp) _
    | exact ((below_drewN hb _).setCell (by simp) _).setCell (by simp) _

set_option maxRecDepth 100000 in
set_option maxHeartbeats 2000000 in
theorem rBase_ok (r d a g v : Int) (h : subB r d a g v = true) (w : World) :
    Calls Try.prog 15 #[.agg #[.int .i64 r, .int .i64 d, .int .i64 a, .int .i64 g, .int .i64 v]] w (Res (IsFrac (d - a - g - v) r) w) := by
  have C1 := Lib.hid (fun W => rValidSub_any r d a g v W)
  have C2 := Lib.hid (fun W => rwool_any r d a g v h W)
  rw [h] at C1
  obtain ⟨h1, h2, h3, h4, h5, h6, h7, h8, h9, h10⟩ := subB_true.1 h
  obtain ⟨n, hn⟩ : ∃ n, n = d - a - g - v := ⟨_, rfl⟩
  rw [← hn] at C2 ⊢
  have n1 : 0 ≤ n := by omega
  have n2 : n ≤ 10000 := by omega
  have ON := Lib.hid (fun W => Of_any n (by omega) (by omega) W)
  have OD := Lib.hid (fun W => Of_any r (by omega) (by omega) W)
  have LO := Lib.hid (fun p q c e l m W (A : BigR 5 W p l n) (B : BigR 5 W q m r) => Lowest_any p q c e l m n r W A B (by omega) (by omega))
  obtain ⟨sn, hsn⟩ : ∃ b, b = decide (n < 0) := ⟨_, rfl⟩
  obtain ⟨sd, hsd⟩ : ∃ b, b = decide (r < 0) := ⟨_, rfl⟩
  unfold BigRes at ON OD
  rw [← hsn] at ON LO
  rw [← hsd] at OD LO
  clear hsn hsd hn h h1 h2 h3 h4 h5 h6 h7 h8 h9 h10 n1 n2
  go_enter Try.func15, Try.ntmps15
  go_wp2_with fail
  refine (C1.out _).mono ?_
  rintro e w1 ⟨rfl, q⟩
  have hb : Below w.heap.size w w1 := (((Below.refl _ _).alloc (Nat.le_refl _) _).alloc (by simp) _).trans (q.mono (by simp; omega))
  have z0 : w.heap.size < w1.heap.size := by have := q.size; simp at this; omega
  have z1 : w.heap.size + 1 < w1.heap.size := by have := q.size; simp at this; omega
  have s0 := q.cell (p := ⟨w.heap.size, 0, none⟩) (by simp; try omega)
  have s1 := q.cell (p := ⟨w.heap.size, 1, none⟩) (by simp; try omega)
  have s2 := q.cell (p := ⟨w.heap.size, 2, none⟩) (by simp; try omega)
  have s3 := q.cell (p := ⟨w.heap.size, 3, none⟩) (by simp; try omega)
  have s4 := q.cell (p := ⟨w.heap.size, 4, none⟩) (by simp; try omega)
  have k1 := q.cell (p := ⟨w.heap.size + 1, 0, none⟩) (by simp)
  have k2 := q.cell (p := ⟨w.heap.size + 1, 1, none⟩) (by simp)
  have k3 := q.frozen (p := ⟨w.heap.size + 1, 0, none⟩) (by simp)
  have k4 := q.frozen (p := ⟨w.heap.size + 1, 1, none⟩) (by simp)
  simp [go_sem] at s0 s1 s2 s3 s4 k1 k2 k3 k4
  clear q C1
  go_upto_region 3 with fail
  go_region_law (first
    | (go_simp; go_at_call 42; (with_reducible refine (C2.out _).mono ?_); rintro e w2 ⟨rfl, q⟩; have st : Below w1.heap.size w1 w2 := (by first | exact q | exact ((Below.refl _ _).drew).trans q | exact (below_drewN (Below.refl _ _) _).trans q); replace s0 := (st.cell (p := ⟨w.heap.size, 0, none⟩) z0).trans s0; replace s1 := (st.cell (p := ⟨w.heap.size, 1, none⟩) z0).trans s1; replace s2 := (st.cell (p := ⟨w.heap.size, 2, none⟩) z0).trans s2; replace s3 := (st.cell (p := ⟨w.heap.size, 3, none⟩) z0).trans s3; replace s4 := (st.cell (p := ⟨w.heap.size, 4, none⟩) z0).trans s4; replace k1 := (st.cell (p := ⟨w.heap.size + 1, 0, none⟩) z1).trans k1; replace k2 := (st.cell (p := ⟨w.heap.size + 1, 1, none⟩) z1).trans k2; replace k3 := (st.frozen (p := ⟨w.heap.size + 1, 0, none⟩) z1).trans k3; replace k4 := (st.frozen (p := ⟨w.heap.size + 1, 1, none⟩) z1).trans k4; replace z0 := Nat.lt_of_lt_of_le z0 st.size; replace z1 := Nat.lt_of_lt_of_le z1 st.size; replace hb := hb.trans (st.mono hb.size); clear q st)
    | (go_simp; go_at_call 41; (with_reducible refine (ON.out _).mono ?_); rintro e w3 ⟨p1, l1, c1, rfl, r1, r2, q⟩; have st : Below w2.heap.size w2 w3 := (by first | exact q | exact ((Below.refl _ _).drew).trans q | exact (below_drewN (Below.refl _ _) _).trans q); have R1 := Lib.hid r1; replace s0 := (st.cell (p := ⟨w.heap.size, 0, none⟩) z0).trans s0; replace s1 := (st.cell (p := ⟨w.heap.size, 1, none⟩) z0).trans s1; replace s2 := (st.cell (p := ⟨w.heap.size, 2, none⟩) z0).trans s2; replace s3 := (st.cell (p := ⟨w.heap.size, 3, none⟩) z0).trans s3; replace s4 := (st.cell (p := ⟨w.heap.size, 4, none⟩) z0).trans s4; replace k1 := (st.cell (p := ⟨w.heap.size + 1, 0, none⟩) z1).trans k1; replace k2 := (st.cell (p := ⟨w.heap.size + 1, 1, none⟩) z1).trans k2; replace k3 := (st.frozen (p := ⟨w.heap.size + 1, 0, none⟩) z1).trans k3; replace k4 := (st.frozen (p := ⟨w.heap.size + 1, 1, none⟩) z1).trans k4; replace z0 := Nat.lt_of_lt_of_le z0 st.size; replace z1 := Nat.lt_of_lt_of_le z1 st.size; replace hb := hb.trans (st.mono hb.size); clear q st r1 r2)
    | (go_simp; go_at_call 41; (with_reducible refine (OD.out _).mono ?_); rintro e w4 ⟨p2, l2, c2, rfl, r1, r2, q⟩; have st : Below w3.heap.size w3 w4 := (by first | exact q | exact ((Below.refl _ _).drew).trans q | exact (below_drewN (Below.refl _ _) _).trans q); have R1' := Lib.hid (R1.out.below st); have R2 := Lib.hid r1; replace s0 := (st.cell (p := ⟨w.heap.size, 0, none⟩) z0).trans s0; replace s1 := (st.cell (p := ⟨w.heap.size, 1, none⟩) z0).trans s1; replace s2 := (st.cell (p := ⟨w.heap.size, 2, none⟩) z0).trans s2; replace s3 := (st.cell (p := ⟨w.heap.size, 3, none⟩) z0).trans s3; replace s4 := (st.cell (p := ⟨w.heap.size, 4, none⟩) z0).trans s4; replace k1 := (st.cell (p := ⟨w.heap.size + 1, 0, none⟩) z1).trans k1; replace k2 := (st.cell (p := ⟨w.heap.size + 1, 1, none⟩) z1).trans k2; replace k3 := (st.frozen (p := ⟨w.heap.size + 1, 0, none⟩) z1).trans k3; replace k4 := (st.frozen (p := ⟨w.heap.size + 1, 1, none⟩) z1).trans k4; replace z0 := Nat.lt_of_lt_of_le z0 st.size; replace z1 := Nat.lt_of_lt_of_le z1 st.size; replace hb := hb.trans (st.mono hb.size); clear q st r1 r2)
    | (go_simp; go_at_call 40; (first | (with_reducible refine (LO.out _ _ _ _ _ _ _ R1'.out R2.out).mono ?_) | (with_reducible refine (LO.out _ _ _ _ _ _ _ R1'.out.drew R2.out.drew).mono ?_) | (with_reducible refine (LO.out _ _ _ _ _ _ _ (R1'.out.drewN _) (R2.out.drewN _)).mono ?_)); rintro e w5 ⟨V, D, E, hF, rfl, q⟩; unfold fracV; have st : Below w4.heap.size w4 w5 := (by first | exact q | exact ((Below.refl _ _).drew).trans q | exact (below_drewN (Below.refl _ _) _).trans q); replace s0 := (st.cell (p := ⟨w.heap.size, 0, none⟩) z0).trans s0; replace s1 := (st.cell (p := ⟨w.heap.size, 1, none⟩) z0).trans s1; replace s2 := (st.cell (p := ⟨w.heap.size, 2, none⟩) z0).trans s2; replace s3 := (st.cell (p := ⟨w.heap.size, 3, none⟩) z0).trans s3; replace s4 := (st.cell (p := ⟨w.heap.size, 4, none⟩) z0).trans s4; replace k1 := (st.cell (p := ⟨w.heap.size + 1, 0, none⟩) z1).trans k1; replace k2 := (st.cell (p := ⟨w.heap.size + 1, 1, none⟩) z1).trans k2; replace k3 := (st.frozen (p := ⟨w.heap.size + 1, 0, none⟩) z1).trans k3; replace k4 := (st.frozen (p := ⟨w.heap.size + 1, 1, none⟩) z1).trans k4; replace z0 := Nat.lt_of_lt_of_le z0 st.size; replace z1 := Nat.lt_of_lt_of_le z1 st.size; replace hb := hb.trans (st.mono hb.size); have HF := Lib.hid hF; clear q st hF))
  all_goals go_wp2_with fail
  all_goals refine bodyPost_ret (v := fracV V D E) (by simp [results, Try.results15, go_sem, fracV, k1, k2, z1]) rfl ⟨V, D, E, HF.out, rfl, ?_⟩
  all_goals first
    | exact (hb.setCell (by simp) _).setCell (by simp) _
    | exact ((hb.setCell (by simp) _).setCell (by simp) _).drew
    | exact below_drewN ((hb.setCell (by simp) _).setCell (by simp) _) _
    | exact (hb.drew.setCell (by simp) _).setCell (by simp) _
    | exact ((below_drewN hb _).setCell (by simp) _).setCell (by simp) _

theorem Base_all (r d a g v : Int) (w : World) : Calls Try.prog 14 #[.agg #[.int .i64 r, .int .i64 d, .int .i64 a, .int .i64 g, .int .i64 v]] w (Res (BaseR r d a g v) w) := by
  cases h : subB r d a g v
  · exact (Base_bad r d a g v h w).mono fun _ _ ⟨x, y⟩ => ⟨0, 0, 2, .inl ⟨h, rfl, rfl, rfl⟩, x, y⟩
  · exact (Base_ok r d a g v h w).mono fun _ _ ⟨V, D, E, x, y, z⟩ => ⟨V, D, E, .inr ⟨h, x⟩, y, z⟩
theorem rBase_all (r d a g v : Int) (w : World) : Calls Try.prog 15 #[.agg #[.int .i64 r, .int .i64 d, .int .i64 a, .int .i64 g, .int .i64 v]] w (Res (BaseR r d a g v) w) := by
  cases h : subB r d a g v
  · exact (rBase_bad r d a g v h w).mono fun _ _ ⟨x, y⟩ => ⟨0, 0, 2, .inl ⟨h, rfl, rfl, rfl⟩, x, y⟩
  · exact (rBase_ok r d a g v h w).mono fun _ _ ⟨V, D, E, x, y, z⟩ => ⟨V, D, E, .inr ⟨h, x⟩, y, z⟩
end Go.Proofs.Ytlfffobfcledcaa

/- Yields, plain: what both sides come to. -/
namespace Go.Proofs.Ytlfffobfcledcaa
open Go.RowKit
set_option linter.unusedVariables false
set_option linter.unusedSimpArgs false

/-- Numbers that a yield is of. -/
def yOk (w v r : Int) : Bool := decide (1 ≤ r) && decide (r ≤ 80000) && decide (0 ≤ w) && decide (w ≤ r) && decide (0 ≤ v) && decide (v ≤ r - w)
theorem yOk_true {w v r : Int} : yOk w v r = true ↔ 1 ≤ r ∧ r ≤ 80000 ∧ 0 ≤ w ∧ w ≤ r ∧ 0 ≤ v ∧ v ≤ r - w := by simp [yOk, and_assoc]

theorem rz_two (n d : Int) (hd : 0 < d) : rz (2 * n) (2 * d) 4 = rz n d 4 := by
  have h1 : (2 * n) / (2 * d) = n / d := Int.mul_ediv_mul_of_pos n d (by omega)
  have h2 : (2 * n) % (2 * d) = 2 * (n % d) := Int.mul_emod_mul_of_pos n d (by omega)
  unfold rz rzU
  rw [h1, h2]
  have e1 : (2 * (n % d) = 0) = (n % d = 0) := by apply propext; omega
  have e2 : decide (2 * d < 2 * (2 * (n % d))) = decide (d < 2 * (n % d)) := by congr 1; apply propext; omega
  have e3 : decide (2 * (2 * (n % d)) = 2 * d) = decide (2 * (n % d) = d) := by congr 1; apply propext; omega
  simp only [e1, e2, e3]
  simp
theorem rz_le (n d B : Int) (hd : 0 < d) (h : n ≤ B * d) : rz n d 4 ≤ B + 1 := by
  have h1 : n / d ≤ B := by
    have := Int.ediv_le_ediv hd h
    rwa [Int.mul_ediv_cancel _ (by omega)] at this
  unfold rz
  split
  · omega
  · cases rzU n (n / d) (n % d) d 4 <;> simp <;> omega
theorem rz_ge (n d : Int) (hn : 0 ≤ n) (hd : 0 < d) : 0 ≤ rz n d 4 := by
  have h1 : 0 ≤ n / d := Int.ediv_nonneg hn (by omega)
  unfold rz
  split
  · omega
  · cases rzU n (n / d) (n % d) d 4 <;> simp <;> omega

/-- The waste, and what top is of. -/
def wst (v r : Int) : Int := 39 * r + 500 * v
def ovr (w v r : Int) : Int := (1207 * w - 77 * r) * wst v r + 2030 * r * r
/-- What a yield comes to. -/
def yV (k w v r : Int) : Int := if k = 0 then rz (w * 10000) r 4 else if k = 1 then rz ((w + v) * 117 * 10000) (r * 98) 4 else rz (max (ovr w v r) 0 * 10) (r * wst v r) 4

structure YB (w v r : Int) : Prop where
  a1 : 39 ≤ wst v r
  a2 : wst v r ≤ 43120000
  b1 : -2900000000000000 ≤ (1207 * w - 77 * r) * wst v r
  b2 : (1207 * w - 77 * r) * wst v r ≤ 1130 * (r * wst v r)
  c1 : 1 ≤ r * r
  c2 : r * r ≤ 6400000000
  d1 : 39 * (r * r) ≤ r * wst v r
  d2 : r * wst v r ≤ 3449600000000
theorem yb {w v r : Int} (h : yOk w v r = true) : YB w v r := by
  obtain ⟨h1, h2, h3, h4, h5, h6⟩ := yOk_true.1 h
  have a1 : 39 ≤ wst v r := by unfold wst; omega
  have a2 : wst v r ≤ 43120000 := by unfold wst; omega
  have a3 : 39 * r ≤ wst v r := by unfold wst; omega
  have d1 : 39 * (r * r) ≤ r * wst v r := by
    have := Int.mul_le_mul_of_nonneg_left a3 (show 0 ≤ r by omega)
    rw [show r * (39 * r) = 39 * (r * r) from by rw [Int.mul_left_comm]] at this
    exact this
  have d2 : r * wst v r ≤ 3449600000000 := by
    have := Int.mul_le_mul h2 a2 (by omega) (by omega)
    omega
  have c1 : 1 ≤ r * r := by have := Int.mul_le_mul h1 h1 (by omega) (by omega); omega
  have c2 : r * r ≤ 6400000000 := by have := Int.mul_le_mul h2 h2 (by omega) (by omega); omega
  refine ⟨a1, a2, ?_, ?_, c1, c2, d1, d2⟩
  · have k : -6160000 ≤ 1207 * w - 77 * r := by omega
    have := Int.mul_le_mul_of_nonneg_right k (show 0 ≤ wst v r by omega)
    omega
  · have k : 1207 * w - 77 * r ≤ 1130 * r := by omega
    have := Int.mul_le_mul_of_nonneg_right k (show 0 ≤ wst v r by omega)
    rw [Int.mul_assoc] at this
    exact this
theorem ovr_le {w v r : Int} (h : yOk w v r = true) : ovr w v r ≤ 1183 * (r * wst v r) := by
  have y := yb h
  have e : ovr w v r = (1207 * w - 77 * r) * wst v r + 2030 * (r * r) := by unfold ovr; rw [Int.mul_assoc]
  rw [e]
  have := y.b2
  have := y.d1
  have := y.c1
  omega
theorem ovr_big {w v r : Int} (h : yOk w v r = true) : ovr w v r ≤ 1125899906842624 ∧ -2900000000000000 ≤ ovr w v r := by
  have y := yb h
  obtain ⟨h1, h2, h3, h4, h5, h6⟩ := yOk_true.1 h
  have e : ovr w v r = (1207 * w - 77 * r) * wst v r + 2030 * (r * r) := by unfold ovr; rw [Int.mul_assoc]
  have := y.b1
  have := y.c1
  have := y.c2
  refine ⟨?_, by rw [e]; omega⟩
  rw [e]
  -- w + v is at most r: the product is largest at v = r - w
  have k : (1207 * w - 77 * r) * wst v r ≤ 155194 * (r * r) := by
    by_cases hn : 1207 * w - 77 * r ≤ 0
    · have h0 : (1207 * w - 77 * r) * wst v r ≤ 0 * wst v r := Int.mul_le_mul_of_nonneg_right hn (by have := y.a1; omega)
      omega
    · have hw : wst v r ≤ 539 * r - 500 * w := by unfold wst; omega
      have h0 : (1207 * w - 77 * r) * wst v r ≤ (1207 * w - 77 * r) * (539 * r - 500 * w) := Int.mul_le_mul_of_nonneg_left hw (by omega)
      have sq : 0 ≤ (1207000 * w - 689073 * r) * (1207000 * w - 689073 * r) := by
        rcases Int.le_total 0 (1207000 * w - 689073 * r) with s | s
        · exact Int.mul_nonneg s s
        · exact Int.mul_nonneg_of_nonpos_of_nonpos s s
      have x1 : (1207 * w - 77 * r) * (539 * r - 500 * w) = 650573 * (w * r) - 603500 * (w * w) - 41503 * (r * r) + 38500 * (r * w) := by
        simp only [Int.sub_mul, Int.mul_sub, Int.mul_assoc, Int.mul_left_comm w, Int.mul_left_comm r]
        have := Int.mul_comm w r
        omega
      have x2 : (1207000 * w - 689073 * r) * (1207000 * w - 689073 * r) = 1456849000000 * (w * w) - 1663422222000 * (w * r) + 474821599329 * (r * r) := by
        simp only [Int.sub_mul, Int.mul_sub, Int.mul_assoc, Int.mul_left_comm w, Int.mul_left_comm r]
        have := Int.mul_comm w r
        omega
      have := Int.mul_comm w r
      omega
  omega
end Go.Proofs.Ytlfffobfcledcaa

/- Yield, the program's. -/
namespace Go.Proofs.Ytlfffobfcledcaa
open Go.RowKit
set_option linter.unusedVariables false
set_option linter.unusedSimpArgs false

theorem md_val {a b c B : Int} (a0 : 0 ≤ a) (a1 : a ≤ 1125899906842624) (b0 : 0 ≤ b) (b1 : b ≤ 1125899906842624) (c0 : 0 < c) (c1 : c ≤ 1125899906842624) (h : a * b ≤ B * c) (hB : B + 1 ≤ 1125899906842624) :
    mdV a b c 4 = rz (a * b) c 4 ∧ mdE a b c 4 = 0 := by
  have ok : mdOk a b c 4 = true := by
    unfold mdOk
    rw [wthB_true.2 ⟨by omega, a1⟩, wthB_true.2 ⟨by omega, b1⟩, wthB_true.2 ⟨by omega, c1⟩, modB_true.2 ⟨by omega, by omega⟩]; rfl
  have e : RZ a b c 4 = rz (a * b) c 4 := by unfold RZ; rw [if_pos c0]
  have k := rz_le (a * b) c B c0 h
  have g := rz_ge (a * b) c (Int.mul_nonneg a0 b0) c0
  have := md_in ok (by omega) (by rw [e]; omega)
  rw [e] at this
  exact this
theorem md0 {w v r : Int} (h : yOk w v r = true) : mdV w 10000 r 4 = yV 0 w v r ∧ mdE w 10000 r 4 = 0 := by
  obtain ⟨h1, h2, h3, h4, h5, h6⟩ := yOk_true.1 h
  have := md_val (a := w) (b := 10000) (c := r) (B := 10000) (by omega) (by omega) (by omega) (by omega) (by omega) (by omega) (by omega) (by omega)
  exact ⟨this.1.trans (by unfold yV; rw [if_pos rfl]), this.2⟩
theorem md1 {w v r : Int} (h : yOk w v r = true) : mdV ((w + v) * 117) 10000 (r * 98) 4 = yV 1 w v r ∧ mdE ((w + v) * 117) 10000 (r * 98) 4 = 0 := by
  obtain ⟨h1, h2, h3, h4, h5, h6⟩ := yOk_true.1 h
  have := md_val (a := (w + v) * 117) (b := 10000) (c := r * 98) (B := 11939) (by omega) (by omega) (by omega) (by omega) (by omega) (by omega) (by omega) (by omega)
  exact ⟨this.1.trans (by unfold yV; rw [if_neg (by omega), if_pos rfl]), this.2⟩
theorem md2 {w v r : Int} (h : yOk w v r = true) : mdV (max (ovr w v r) 0) 10 (r * wst v r) 4 = yV 2 w v r ∧ mdE (max (ovr w v r) 0) 10 (r * wst v r) 4 = 0 := by
  obtain ⟨h1, h2, h3, h4, h5, h6⟩ := yOk_true.1 h
  have y := yb h
  have l := ovr_le h
  have b := ovr_big h
  have := y.d1
  have := y.d2
  have := y.c1
  have := md_val (a := max (ovr w v r) 0) (b := 10) (c := r * wst v r) (B := 11830) (by omega) (by omega) (by omega) (by omega) (by omega) (by omega) (by omega) (by omega)
  exact ⟨this.1.trans (by unfold yV; rw [if_neg (by omega), if_neg (by omega)]), this.2⟩

/-- What Yield comes to. -/
def yGood (k w v r : Int) : Bool := yOk w v r && decide (0 ≤ k) && decide (k ≤ 2)
def yTup (k w v r : Int) : Value := .tuple #[.int .i64 (bif yGood k w v r then yV k w v r else 0), .int .i64 (bif yGood k w v r then 0 else 2)]

set_option maxRecDepth 100000 in
set_option maxHeartbeats 2000000 in
theorem top_any (w v r : Int) (h : yOk w v r = true) (W : World) :
    Calls Try.prog 44 #[.int .i64 w, .int .i64 v, .int .i64 r] W fun e W' => e = .returned (.tuple #[.int .i64 (yV 2 w v r), .int .i64 0]) ∧ Below W.heap.size W W' := by
  obtain ⟨h1, h2, h3, h4, h5, h6⟩ := yOk_true.1 h
  have y := yb h
  have b := ovr_big h
  have MD := Lib.hid (fun W => MulDiv_all (max (ovr w v r) 0) 10 (r * wst v r) 4 W)
  rw [(md2 h).1, (md2 h).2] at MD
  obtain ⟨t, ht⟩ : ∃ t, t = wst v r := ⟨_, rfl⟩
  obtain ⟨p, hp⟩ : ∃ p, p = (1207 * w - 77 * r) * t := ⟨_, rfl⟩
  obtain ⟨q, hq⟩ : ∃ q, q = r * t := ⟨_, rfl⟩
  obtain ⟨z, hz⟩ : ∃ z, z = 2030 * r * r := ⟨_, rfl⟩
  obtain ⟨o, ho⟩ : ∃ o, o = ovr w v r := ⟨_, rfl⟩
  have oe : o = p + z := by rw [ho, hp, hz, ht]; rfl
  have z1 : z = 2030 * (r * r) := by rw [hz, Int.mul_assoc]
  have k1 := y.a1
  have k2 := y.a2
  have k3 := y.b1
  have k4 := y.b2
  have k5 := y.c1
  have k6 := y.c2
  have k7 := y.d1
  have k8 := y.d2
  rw [← ht] at k1 k2 k3 k4 k7 k8 MD
  rw [← hp] at k3 k4
  rw [← hq] at k4 k7 k8 MD
  rw [← ho] at b MD
  have te : t = 39 * r + 500 * v := ht
  have e1 : IntKind.i64.wrap (39 * r) = 39 * r := by rw [IntKind.wrap_i64]; omega
  have e2 : IntKind.i64.wrap (500 * v) = 500 * v := by rw [IntKind.wrap_i64]; omega
  have e3 : IntKind.i64.wrap (39 * r + 500 * v) = t := by rw [IntKind.wrap_i64]; omega
  have e4 : IntKind.i64.wrap (1207 * w) = 1207 * w := by rw [IntKind.wrap_i64]; omega
  have e5 : IntKind.i64.wrap (77 * r) = 77 * r := by rw [IntKind.wrap_i64]; omega
  have e6 : IntKind.i64.wrap (1207 * w - 77 * r) = 1207 * w - 77 * r := by rw [IntKind.wrap_i64]; omega
  have e7 : IntKind.i64.wrap ((1207 * w - 77 * r) * t) = p := by rw [← hp, IntKind.wrap_i64]; omega
  have e8 : IntKind.i64.wrap (2030 * r) = 2030 * r := by rw [IntKind.wrap_i64]; omega
  have e9 : IntKind.i64.wrap (2030 * r * r) = z := by rw [← hz, IntKind.wrap_i64]; omega
  have e10 : IntKind.i64.wrap (p + z) = o := by rw [← oe, IntKind.wrap_i64]; omega
  have e11 : IntKind.i64.wrap (r * t) = q := by rw [← hq, IntKind.wrap_i64]; omega
  clear h h1 h2 h3 h4 h5 h6 y b ht hp hq hz ho oe z1 k1 k2 k3 k4 k5 k6 k7 k8 te
  generalize yV 2 w v r = V at *
  go_enter Try.func44, Try.ntmps44
  go_wp2_with fail
  refine (MD.out _).mono ?_
  rintro e w1 ⟨rfl, hb⟩
  go_wp2_with fail
  go_ret2
  exact ⟨rfl, hb⟩

theorem yGood_bad {k w v r : Int} (h : ¬ (1 ≤ r ∧ r ≤ 80000 ∧ 0 ≤ w ∧ w ≤ r ∧ 0 ≤ v ∧ v ≤ r - w ∧ 0 ≤ k ∧ k ≤ 2)) : yGood k w v r = false := by
  rw [Bool.eq_false_iff]
  intro e
  unfold yGood at e
  simp only [Bool.and_eq_true, decide_eq_true_eq] at e
  obtain ⟨⟨e1, e2⟩, e3⟩ := e
  have := yOk_true.1 e1
  exact h (by omega)
theorem yGood_ok {k w v r : Int} (h : 1 ≤ r ∧ r ≤ 80000 ∧ 0 ≤ w ∧ w ≤ r ∧ 0 ≤ v ∧ v ≤ r - w ∧ 0 ≤ k ∧ k ≤ 2) : yGood k w v r = true := by
  unfold yGood
  simp only [Bool.and_eq_true, decide_eq_true_eq]
  exact ⟨⟨yOk_true.2 (by omega), by omega⟩, by omega⟩

set_option maxRecDepth 100000 in
set_option maxHeartbeats 4000000 in
theorem Yield_all (k w v r : Int) (W : World) :
    Calls Try.prog 16 #[.int .i64 k, .int .i64 w, .int .i64 v, .int .i64 r] W fun e W' => e = .returned (yTup k w v r) ∧ Below W.heap.size W W' := by
  go_enter Try.func16, Try.ntmps16
  go_wp2_with fail
  all_goals first
    | (go_ret2; refine ⟨?_, Below.refl _ _⟩; unfold yTup; rw [yGood_bad (by omega)]; rfl)
    | (have q0 : k ≠ 0 := (by simpa using ‹(k == 0) = false›)
       have q1 : k ≠ 1 := (by simpa using ‹(k == 1) = false›)
       have q2 : k ≠ 2 := (by simpa using ‹(k == 2) = false›)
       go_ret2; refine ⟨?_, Below.refl _ _⟩; unfold yTup; rw [yGood_bad (by omega)]; rfl)
    | (have h : yOk w v r = true := yOk_true.2 (by omega)
       have hk : k = 0 := (by simpa using ‹(k == 0) = true›)
       have key : Hid (yGood k w v r = true ∧ k = 0) := ⟨yGood_ok (by omega), hk⟩
       have c := MulDiv_all w 10000 r 4 W
       rw [(md0 h).1, (md0 h).2] at c
       with_reducible refine c.mono ?_
       clear h hk c
       rename (k == 0) = true => g0
       clear g0
       rintro e w1 ⟨rfl, hb⟩
       have hb := Lib.hid hb
       go_wp2_with fail
       go_ret2
       refine ⟨?_, by first | exact hb.out | assumption⟩
       unfold yTup
       rw [key.out.1, key.out.2]
       rfl)
    | (have h : yOk w v r = true := yOk_true.2 (by omega)
       have hk : k = 1 := (by simpa using ‹(k == 1) = true›)
       have key : Hid (yGood k w v r = true ∧ k = 1) := ⟨yGood_ok (by omega), hk⟩
       have c := MulDiv_all ((w + v) * 117) 10000 (r * 98) 4 W
       rw [(md1 h).1, (md1 h).2] at c
       with_reducible refine c.mono ?_
       clear h hk c
       rename (k == 0) = false => g0
       clear g0
       rename (k == 1) = true => g1
       clear g1
       rintro e w1 ⟨rfl, hb⟩
       have hb := Lib.hid hb
       go_wp2_with fail
       go_ret2
       refine ⟨?_, by first | exact hb.out | assumption⟩
       unfold yTup
       rw [key.out.1, key.out.2]
       rfl)
    | (have h : yOk w v r = true := yOk_true.2 (by omega)
       have hk : k = 2 := (by simpa using ‹(k == 2) = true›)
       have key : Hid (yGood k w v r = true ∧ k = 2) := ⟨yGood_ok (by omega), hk⟩
       have c := top_any w v r h W
       skip
       with_reducible refine c.mono ?_
       clear h hk c
       rename (k == 0) = false => g0
       clear g0
       rename (k == 1) = false => g1
       clear g1
       rename (k == 2) = true => g2
       clear g2
       rintro e w1 ⟨rfl, hb⟩
       have hb := Lib.hid hb
       go_wp2_with fail
       go_ret2
       refine ⟨?_, by first | exact hb.out | assumption⟩
       unfold yTup
       rw [key.out.1, key.out.2]
       rfl)
end Go.Proofs.Ytlfffobfcledcaa

/- Yield, the reference's. -/
namespace Go.Proofs.Ytlfffobfcledcaa
open Go.RowKit
set_option linter.unusedVariables false
set_option linter.unusedSimpArgs false

theorem yV_bound {w v r : Int} (h : yOk w v r = true) (k : Int) (k0 : 0 ≤ k) (k2 : k ≤ 2) : 0 ≤ yV k w v r ∧ yV k w v r ≤ 20000 := by
  obtain ⟨h1, h2, h3, h4, h5, h6⟩ := yOk_true.1 h
  have y := yb h
  have l := ovr_le h
  have := y.d1
  have := y.d2
  have := y.c1
  unfold yV
  split
  · have a := rz_le (w * 10000) r 10000 (by omega) (by omega)
    have b := rz_ge (w * 10000) r (by omega) (by omega)
    omega
  · split
    · have a := rz_le ((w + v) * 117 * 10000) (r * 98) 11939 (by omega) (by omega)
      have b := rz_ge ((w + v) * 117 * 10000) (r * 98) (by omega) (by omega)
      omega
    · have a := rz_le (max (ovr w v r) 0 * 10) (r * wst v r) 11830 (by omega) (by omega)
      have b := rz_ge (max (ovr w v r) 0 * 10) (r * wst v r) (by omega) (by omega)
      omega

set_option maxRecDepth 100000 in
set_option maxHeartbeats 4000000 in
theorem rYield_0 (w v r : Int) (h : yOk w v r = true) (W : World) :
    Calls Try.prog 17 #[.int .i64 0, .int .i64 w, .int .i64 v, .int .i64 r] W fun e W' => e = .returned (.tuple #[.int .i64 (yV 0 w v r), .int .i64 0]) ∧ Below W.heap.size W W' := by
  obtain ⟨h1, h2, h3, h4, h5, h6⟩ := yOk_true.1 h
  obtain ⟨z0, z1⟩ := yV_bound h 0 (by omega) (by omega)
  have g1 : decide (r < 1) = false := by simp; omega
  have g2 : decide (80000 < r) = false := by simp; omega
  have g3 : decide (w < 0) = false := by simp; omega
  have g4 : decide (v < 0) = false := by simp; omega
  have g5 : decide (r < w) = false := by simp; omega
  have g6 : decide (r - w < v) = false := by simp; omega
  have e0 : IntKind.i64.wrap (r - w) = r - w := by rw [IntKind.wrap_i64]; omega
  have e1 : IntKind.i64.wrap (10000 * w) = 10000 * w := by rw [IntKind.wrap_i64]; omega
  obtain ⟨N, hN⟩ : ∃ N, N = 10000 * w := ⟨_, rfl⟩
  obtain ⟨D, hD⟩ : ∃ D, D = r := ⟨_, rfl⟩
  obtain ⟨Z, hZ⟩ : ∃ Z, Z = yV 0 w v r := ⟨_, rfl⟩
  rw [← hZ] at z0 z1 ⊢
  have hn : false = decide (N < 0) := by symm; simp; omega
  have hd : false = decide (D < 0) := by symm; simp; omega
  have hs : false = decide (Z < 0) := by symm; simp; omega
  have hz : (if 0 < D then rz N D 4 else rz (-N) (-D) 4) = Z := by rw [if_pos (by omega), hZ]; unfold yV; rw [if_pos rfl, hN, hD, Int.mul_comm]
  have OA := Lib.hid (fun W => of_s N false hn (by omega) (by omega) W)
  have OC := Lib.hid (fun W => of_s D false hd (by omega) (by omega) W)
  have RD := Lib.hid (fun p q e d l k W (A : BigR 5 W p l N) (B : BigR 5 W q k D) => rounded_s N D 4 Z false false false hn hd hz hs (by omega) (by omega) (by omega) p q e d l k W A B (by omega))
  have WI := Lib.hid (fun p e l W (A : BigR 11 W p l Z) => within_s Z 1125899906842624 false hs p e l (by omega) (by omega) W A (by omega))
  rw [show wiV Z 1125899906842624 = Z from if_pos (by omega), show wiB Z 1125899906842624 = true from by simp [wiB]; omega] at WI
  have e1' : IntKind.i64.wrap (10000 * w) = N := by rw [hN]; exact e1
  clear e1
  subst hD
  clear hn hd hz hs z0 z1
  clear h hZ hN h1 h2 h3 h4 h5 h6
  go_enter Try.func17, Try.ntmps17
  go_wp2_with fail
  refine (OA.out _).mono ?_
  rintro e w1 ⟨p1, l1, c1, rfl, r1, -, r3⟩
  have A1 := Lib.hid r1
  have K1 := Lib.hid r3
  clear r1 r3
  go_wp2_with fail
  refine (OC.out _).mono ?_
  rintro e w4 ⟨p4, l4, c4, rfl, r1, -, r3⟩
  have A4 := Lib.hid (A1.out.below r3)
  have B4 := Lib.hid r1
  have K4 := Lib.hid (K1.out.trans (r3.mono K1.out.size))
  clear r1 r3
  go_wp2_with fail
  refine (RD.out _ _ _ _ _ _ _ A4.out B4.out).mono ?_
  rintro e w5 ⟨p5, l5, c5, rfl, r1, -, r3⟩
  have A5 := Lib.hid r1
  have K5 := Lib.hid (K4.out.trans (r3.mono K4.out.size))
  clear r1 r3
  go_wp2_with fail
  refine (WI.out _ _ _ _ A5.out).mono ?_
  rintro e w6 ⟨rfl, r3⟩
  have K6 := Lib.hid (K5.out.trans (r3.mono K5.out.size))
  clear r3 OA OC RD WI A1 A4 A5 B4 K1 K4 K5
  go_wp2_with fail
  go_ret2
  exact ⟨rfl, K6.out⟩

set_option maxRecDepth 100000 in
set_option maxHeartbeats 4000000 in
theorem rYield_1 (w v r : Int) (h : yOk w v r = true) (W : World) :
    Calls Try.prog 17 #[.int .i64 1, .int .i64 w, .int .i64 v, .int .i64 r] W fun e W' => e = .returned (.tuple #[.int .i64 (yV 1 w v r), .int .i64 0]) ∧ Below W.heap.size W W' := by
  obtain ⟨h1, h2, h3, h4, h5, h6⟩ := yOk_true.1 h
  obtain ⟨z0, z1⟩ := yV_bound h 1 (by omega) (by omega)
  have g1 : decide (r < 1) = false := by simp; omega
  have g2 : decide (80000 < r) = false := by simp; omega
  have g3 : decide (w < 0) = false := by simp; omega
  have g4 : decide (v < 0) = false := by simp; omega
  have g5 : decide (r < w) = false := by simp; omega
  have g6 : decide (r - w < v) = false := by simp; omega
  have e0 : IntKind.i64.wrap (r - w) = r - w := by rw [IntKind.wrap_i64]; omega
  have e1 : IntKind.i64.wrap (10000 * w) = 10000 * w := by rw [IntKind.wrap_i64]; omega
  have e2 : IntKind.i64.wrap (w + v) = w + v := by rw [IntKind.wrap_i64]; omega
  obtain ⟨N, hN⟩ : ∃ N, N = 1170000 * (w + v) := ⟨_, rfl⟩
  obtain ⟨D, hD⟩ : ∃ D, D = 98 * r := ⟨_, rfl⟩
  have e3 : IntKind.i64.wrap (1170000 * (w + v)) = N := by rw [hN, IntKind.wrap_i64]; omega
  have e4 : IntKind.i64.wrap (98 * r) = D := by rw [hD, IntKind.wrap_i64]; omega
  obtain ⟨Z, hZ⟩ : ∃ Z, Z = yV 1 w v r := ⟨_, rfl⟩
  rw [← hZ] at z0 z1 ⊢
  have hn : false = decide (N < 0) := by symm; simp; omega
  have hd : false = decide (D < 0) := by symm; simp; omega
  have hs : false = decide (Z < 0) := by symm; simp; omega
  have hz : (if 0 < D then rz N D 4 else rz (-N) (-D) 4) = Z := by rw [if_pos (by omega), hZ]; unfold yV; rw [if_neg (by omega), if_pos rfl, show N = (w + v) * 117 * 10000 by omega, show D = r * 98 by omega]
  have OA := Lib.hid (fun W => of_s N false hn (by omega) (by omega) W)
  have OC := Lib.hid (fun W => of_s D false hd (by omega) (by omega) W)
  have RD := Lib.hid (fun p q e d l k W (A : BigR 5 W p l N) (B : BigR 5 W q k D) => rounded_s N D 4 Z false false false hn hd hz hs (by omega) (by omega) (by omega) p q e d l k W A B (by omega))
  have WI := Lib.hid (fun p e l W (A : BigR 11 W p l Z) => within_s Z 1125899906842624 false hs p e l (by omega) (by omega) W A (by omega))
  rw [show wiV Z 1125899906842624 = Z from if_pos (by omega), show wiB Z 1125899906842624 = true from by simp [wiB]; omega] at WI
  clear hn hd hz hs z0 z1
  clear h hZ hN hD h1 h2 h3 h4 h5 h6
  go_enter Try.func17, Try.ntmps17
  go_wp2_with fail
  refine (OA.out _).mono ?_
  rintro e w1 ⟨p1, l1, c1, rfl, r1, -, r3⟩
  have A1 := Lib.hid r1
  have K1 := Lib.hid r3
  clear r1 r3
  go_wp2_with fail
  refine (OC.out _).mono ?_
  rintro e w4 ⟨p4, l4, c4, rfl, r1, -, r3⟩
  have A4 := Lib.hid (A1.out.below r3)
  have B4 := Lib.hid r1
  have K4 := Lib.hid (K1.out.trans (r3.mono K1.out.size))
  clear r1 r3
  go_wp2_with fail
  refine (RD.out _ _ _ _ _ _ _ A4.out B4.out).mono ?_
  rintro e w5 ⟨p5, l5, c5, rfl, r1, -, r3⟩
  have A5 := Lib.hid r1
  have K5 := Lib.hid (K4.out.trans (r3.mono K4.out.size))
  clear r1 r3
  go_wp2_with fail
  refine (WI.out _ _ _ _ A5.out).mono ?_
  rintro e w6 ⟨rfl, r3⟩
  have K6 := Lib.hid (K5.out.trans (r3.mono K5.out.size))
  clear r3 OA OC RD WI A1 A4 A5 B4 K1 K4 K5
  go_wp2_with fail
  go_ret2
  exact ⟨rfl, K6.out⟩

set_option maxRecDepth 100000 in
set_option maxHeartbeats 4000000 in
theorem rYield_2 (w v r : Int) (h : yOk w v r = true) (W : World) :
    Calls Try.prog 17 #[.int .i64 2, .int .i64 w, .int .i64 v, .int .i64 r] W fun e W' => e = .returned (.tuple #[.int .i64 (yV 2 w v r), .int .i64 0]) ∧ Below W.heap.size W W' := by
  obtain ⟨h1, h2, h3, h4, h5, h6⟩ := yOk_true.1 h
  obtain ⟨z0, z1⟩ := yV_bound h 2 (by omega) (by omega)
  have g1 : decide (r < 1) = false := by simp; omega
  have g2 : decide (80000 < r) = false := by simp; omega
  have g3 : decide (w < 0) = false := by simp; omega
  have g4 : decide (v < 0) = false := by simp; omega
  have g5 : decide (r < w) = false := by simp; omega
  have g6 : decide (r - w < v) = false := by simp; omega
  have e0 : IntKind.i64.wrap (r - w) = r - w := by rw [IntKind.wrap_i64]; omega
  have e1 : IntKind.i64.wrap (10000 * w) = 10000 * w := by rw [IntKind.wrap_i64]; omega
  have y := yb h
  have k1 := y.a1
  have k2 := y.a2
  have k5 := y.c1
  have k6 := y.c2
  have k7 := y.d1
  have k8 := y.d2
  have bb := ovr_big h
  obtain ⟨o, ho⟩ : ∃ o, o = ovr w v r := ⟨_, rfl⟩
  obtain ⟨t, ht⟩ : ∃ t, t = wst v r := ⟨_, rfl⟩
  rw [← ht] at k1 k2 k7 k8
  rw [← ho] at bb
  have te : t = 39 * r + 500 * v := ht
  obtain ⟨M, hM⟩ : ∃ M, M = 78 * r + 1000 * v := ⟨_, rfl⟩
  have m2 : M = 2 * t := by omega
  obtain ⟨P, hP⟩ : ∃ P, P = 1207 * w * M := ⟨_, rfl⟩
  obtain ⟨Q, hQ⟩ : ∃ Q, Q = 77 * r * M := ⟨_, rfl⟩
  obtain ⟨S, hS⟩ : ∃ S, S = 4060 * r * r := ⟨_, rfl⟩
  obtain ⟨D, hD⟩ : ∃ D, D = r * M := ⟨_, rfl⟩
  have s1 : S = 4060 * (r * r) := by rw [hS, Int.mul_assoc]
  have d1 : D = 2 * (r * t) := by rw [hD, m2, Int.mul_left_comm]
  have pb0 : 0 ≤ P := by rw [hP]; exact Int.mul_nonneg (by omega) (by omega)
  have pb1 : P ≤ 96560000 * 86240000 := by rw [hP]; exact Int.mul_le_mul (by omega) (by omega) (by omega) (by omega)
  have qb0 : 0 ≤ Q := by rw [hQ]; exact Int.mul_nonneg (by omega) (by omega)
  have qb1 : Q ≤ 6160000 * 86240000 := by rw [hQ]; exact Int.mul_le_mul (by omega) (by omega) (by omega) (by omega)
  have oo : P - Q + S = 2 * o := by
    rw [ho, hP, hQ, s1]
    unfold ovr
    rw [← ht, m2, ← Int.sub_mul, Int.mul_left_comm, Int.mul_assoc 2030 r r]
    omega
  have a1 : IntKind.i64.wrap (78 * r) = 78 * r := by rw [IntKind.wrap_i64]; omega
  have a2 : IntKind.i64.wrap (1000 * v) = 1000 * v := by rw [IntKind.wrap_i64]; omega
  have a3 : IntKind.i64.wrap (78 * r + 1000 * v) = M := by rw [← hM, IntKind.wrap_i64]; omega
  have a4 : IntKind.i64.wrap (1207 * w) = 1207 * w := by rw [IntKind.wrap_i64]; omega
  have a5 : IntKind.i64.wrap (1207 * w * M) = P := by rw [← hP, IntKind.wrap_i64]; omega
  have a6 : IntKind.i64.wrap (77 * r) = 77 * r := by rw [IntKind.wrap_i64]; omega
  have a7 : IntKind.i64.wrap (77 * r * M) = Q := by rw [← hQ, IntKind.wrap_i64]; omega
  have a8 : IntKind.i64.wrap (P - Q) = P - Q := by rw [IntKind.wrap_i64]; omega
  have a9 : IntKind.i64.wrap (4060 * r) = 4060 * r := by rw [IntKind.wrap_i64]; omega
  have a10 : IntKind.i64.wrap (4060 * r * r) = S := by rw [← hS, IntKind.wrap_i64]; omega
  have a11 : IntKind.i64.wrap (P - Q + S) = 2 * o := by rw [oo, IntKind.wrap_i64]; omega
  obtain ⟨N, hN⟩ : ∃ N, N = 10 * (2 * o) := ⟨_, rfl⟩
  have a12 : IntKind.i64.wrap (10 * (2 * o)) = N := by rw [← hN, IntKind.wrap_i64]; omega
  have a13 : IntKind.i64.wrap (r * M) = D := by rw [← hD, IntKind.wrap_i64]; omega
  obtain ⟨Z, hZ⟩ : ∃ Z, Z = yV 2 w v r := ⟨_, rfl⟩
  rw [← hZ] at z0 z1 ⊢
  have zv : Z = rz (max o 0 * 10) (r * t) 4 := by rw [hZ, ho, ht]; unfold yV; rw [if_neg (by omega), if_neg (by omega)]
  rcases (by omega : N < 0 ∨ 0 ≤ N) with nn | nn
  · have n1 : decide (N < 0) = true := by simp; omega
    have zz : Z = 0 := by
      rw [zv, show max o 0 * 10 = 0 by omega]
      unfold rz
      simp
    subst zz
    clear zv nn z0 z1 hZ hN oo pb0 pb1 qb0 qb1 s1 d1 hP hQ hS hD hM m2 te ho ht bb k1 k2 k5 k6 k7 k8 y h h1 h2 h3 h4 h5 h6
    go_enter Try.func17, Try.ntmps17
    go_wp2_with fail
    go_ret2
    exact ⟨rfl, Below.refl _ _⟩
  have n1 : decide (N < 0) = false := by simp; omega
  have hn : false = decide (N < 0) := n1.symm
  have hd : false = decide (D < 0) := by symm; simp; omega
  have hs : false = decide (Z < 0) := by symm; simp; omega
  have hz : (if 0 < D then rz N D 4 else rz (-N) (-D) 4) = Z := by
    rw [if_pos (by omega), zv, show max o 0 * 10 = o * 10 by omega, ← rz_two (o * 10) (r * t) (by omega), show N = 2 * (o * 10) by omega, d1]
  have OA := Lib.hid (fun W => of_s N false hn (by omega) (by omega) W)
  have OC := Lib.hid (fun W => of_s D false hd (by omega) (by omega) W)
  have RD := Lib.hid (fun p q e d l k W (A : BigR 5 W p l N) (B : BigR 5 W q k D) => rounded_s N D 4 Z false false false hn hd hz hs (by omega) (by omega) (by omega) p q e d l k W A B (by omega))
  have WI := Lib.hid (fun p e l W (A : BigR 11 W p l Z) => within_s Z 1125899906842624 false hs p e l (by omega) (by omega) W A (by omega))
  rw [show wiV Z 1125899906842624 = Z from if_pos (by omega), show wiB Z 1125899906842624 = true from by simp [wiB]; omega] at WI
  clear hn hd hz hs z0 z1
  clear zv nn hZ hN oo pb0 pb1 qb0 qb1 s1 d1 hP hQ hS hD hM m2 te ho ht bb k1 k2 k5 k6 k7 k8 y h h1 h2 h3 h4 h5 h6
  go_enter Try.func17, Try.ntmps17
  go_wp2_with fail
  refine (OA.out _).mono ?_
  rintro e w1 ⟨p1, l1, c1, rfl, r1, -, r3⟩
  have A1 := Lib.hid r1
  have K1 := Lib.hid r3
  clear r1 r3
  go_wp2_with fail
  refine (OC.out _).mono ?_
  rintro e w4 ⟨p4, l4, c4, rfl, r1, -, r3⟩
  have A4 := Lib.hid (A1.out.below r3)
  have B4 := Lib.hid r1
  have K4 := Lib.hid (K1.out.trans (r3.mono K1.out.size))
  clear r1 r3
  go_wp2_with fail
  refine (RD.out _ _ _ _ _ _ _ A4.out B4.out).mono ?_
  rintro e w5 ⟨p5, l5, c5, rfl, r1, -, r3⟩
  have A5 := Lib.hid r1
  have K5 := Lib.hid (K4.out.trans (r3.mono K4.out.size))
  clear r1 r3
  go_wp2_with fail
  refine (WI.out _ _ _ _ A5.out).mono ?_
  rintro e w6 ⟨rfl, r3⟩
  have K6 := Lib.hid (K5.out.trans (r3.mono K5.out.size))
  clear r3 OA OC RD WI A1 A4 A5 B4 K1 K4 K5
  go_wp2_with fail
  go_ret2
  exact ⟨rfl, K6.out⟩

set_option maxRecDepth 100000 in
set_option maxHeartbeats 4000000 in
theorem rYield_bad (k w v r : Int) (h : yGood k w v r = false) (W : World) :
    Calls Try.prog 17 #[.int .i64 k, .int .i64 w, .int .i64 v, .int .i64 r] W fun e W' => e = .returned (.tuple #[.int .i64 0, .int .i64 2]) ∧ Below W.heap.size W W' := by
  have hb : ¬ (1 ≤ r ∧ r ≤ 80000 ∧ 0 ≤ w ∧ w ≤ r ∧ 0 ≤ v ∧ v ≤ r - w ∧ 0 ≤ k ∧ k ≤ 2) := fun c => by rw [yGood_ok c] at h; cases h
  clear h
  by_cases c0 : k < 0
  · have q0 : decide (k < 0) = true := by simpa using c0
    clear hb c0
    go_enter Try.func17, Try.ntmps17
    go_wp2_with fail
    go_ret2
    exact ⟨rfl, Below.refl _ _⟩
  have q0 : decide (k < 0) = false := by simpa using c0
  by_cases c1 : 2 < k
  · have q1 : decide (2 < k) = true := by simpa using c1
    clear hb c0 c1
    go_enter Try.func17, Try.ntmps17
    go_wp2_with fail
    go_ret2
    exact ⟨rfl, Below.refl _ _⟩
  have q1 : decide (2 < k) = false := by simpa using c1
  by_cases c2 : r < 1
  · have q2 : decide (r < 1) = true := by simpa using c2
    clear hb c0 c1 c2
    go_enter Try.func17, Try.ntmps17
    go_wp2_with fail
    go_ret2
    exact ⟨rfl, Below.refl _ _⟩
  have q2 : decide (r < 1) = false := by simpa using c2
  by_cases c3 : 80000 < r
  · have q3 : decide (80000 < r) = true := by simpa using c3
    clear hb c0 c1 c2 c3
    go_enter Try.func17, Try.ntmps17
    go_wp2_with fail
    go_ret2
    exact ⟨rfl, Below.refl _ _⟩
  have q3 : decide (80000 < r) = false := by simpa using c3
  by_cases c4 : w < 0
  · have q4 : decide (w < 0) = true := by simpa using c4
    clear hb c0 c1 c2 c3 c4
    go_enter Try.func17, Try.ntmps17
    go_wp2_with fail
    go_ret2
    exact ⟨rfl, Below.refl _ _⟩
  have q4 : decide (w < 0) = false := by simpa using c4
  by_cases c5 : v < 0
  · have q5 : decide (v < 0) = true := by simpa using c5
    clear hb c0 c1 c2 c3 c4 c5
    go_enter Try.func17, Try.ntmps17
    go_wp2_with fail
    go_ret2
    exact ⟨rfl, Below.refl _ _⟩
  have q5 : decide (v < 0) = false := by simpa using c5
  by_cases c6 : r < w
  · have q6 : decide (r < w) = true := by simpa using c6
    clear hb c0 c1 c2 c3 c4 c5 c6
    go_enter Try.func17, Try.ntmps17
    go_wp2_with fail
    go_ret2
    exact ⟨rfl, Below.refl _ _⟩
  have q6 : decide (r < w) = false := by simpa using c6
  by_cases c7 : r - w < v
  · have q7 : decide (r - w < v) = true := by simpa using c7
    have e0 : IntKind.i64.wrap (r - w) = r - w := by rw [IntKind.wrap_i64]; omega
    clear hb c0 c1 c2 c3 c4 c5 c6 c7
    go_enter Try.func17, Try.ntmps17
    go_wp2_with fail
    go_ret2
    exact ⟨rfl, Below.refl _ _⟩
  have q7 : decide (r - w < v) = false := by simpa using c7
  exact absurd (by omega) hb
theorem rYield_all (k w v r : Int) (W : World) :
    Calls Try.prog 17 #[.int .i64 k, .int .i64 w, .int .i64 v, .int .i64 r] W fun e W' => e = .returned (yTup k w v r) ∧ Below W.heap.size W W' := by
  cases h : yGood k w v r
  · have := rYield_bad k w v r h W
    unfold yTup
    rw [h]
    exact this
  · have g := h
    unfold yGood at g
    simp only [Bool.and_eq_true, decide_eq_true_eq] at g
    obtain ⟨⟨g1, g2⟩, g3⟩ := g
    unfold yTup
    rw [h]
    rcases (by omega : k = 0 ∨ k = 1 ∨ k = 2) with rfl | rfl | rfl
    · exact rYield_0 w v r g1 W
    · exact rYield_1 w v r g1 W
    · exact rYield_2 w v r g1 W
end Go.Proofs.Ytlfffobfcledcaa

/- The law ClassingBases: its walk. -/
namespace Go.Proofs.Ytlfffobfcledcaa
open Go.RowKit
set_option linter.unusedVariables false
set_option linter.unusedSimpArgs false

set_option maxRecDepth 100000 in
set_option maxHeartbeats 4000000 in
theorem bases_walk (a b c d f k x y z : Int) (w : World) :
    Calls Try.prog 4 #[.agg #[.int .i64 a, .int .i64 b, .int .i64 c, .int .i64 d, .int .i64 f], .int .i64 k, .int .i64 x, .int .i64 y, .int .i64 z] w fun e w' => e = .returned (.bool true) ∧ Below w.heap.size w w' := by
  go_enter Try.func4, Try.ntmps4
  go_wp2_with fail
  refine (Base_all a b c d f _).mono ?_
  rintro e w1 ⟨V, D, E, R, rfl, q⟩
  unfold fracV
  have hb : Below w.heap.size w w1 := ((Below.refl _ _).alloc (Nat.le_refl _) _).trans (q.mono (by simp))
  have s0 := q.cell (p := ⟨w.heap.size, 0, none⟩) (by simp)
  have s1 := q.cell (p := ⟨w.heap.size, 1, none⟩) (by simp)
  have s2 := q.cell (p := ⟨w.heap.size, 2, none⟩) (by simp)
  have s3 := q.cell (p := ⟨w.heap.size, 3, none⟩) (by simp)
  have s4 := q.cell (p := ⟨w.heap.size, 4, none⟩) (by simp)
  simp [go_sem] at s0 s1 s2 s3 s4
  have z0 : w.heap.size < w1.heap.size := by have := q.size; simp at this; omega
  have HR := Lib.hid R
  clear q R
  go_wp2_with fail
  refine (rBase_all a b c d f _).mono ?_
  rintro e w2 ⟨V', D', E', R, rfl, q⟩
  obtain ⟨rfl, rfl, rfl⟩ := HR.out.unique R
  unfold fracV
  have x0 : w2.cell? ⟨w1.heap.size, 0, none⟩ = some (.int .i64 V') := (q.cell (p := ⟨w1.heap.size, 0, none⟩) (by simp)).trans (by simp [go_sem])
  have x1 : w2.cell? ⟨w1.heap.size, 1, none⟩ = some (.int .i64 D') := (q.cell (p := ⟨w1.heap.size, 1, none⟩) (by simp)).trans (by simp [go_sem])
  replace q : Below w1.heap.size w1 w2 := ((Below.refl _ w1).alloc (Nat.le_refl _) _).trans (q.mono (by simp))
  replace hb := hb.trans (q.mono hb.size)
  have zx : w1.heap.size < w2.heap.size := World.block_lt_of_cell? w2 _ x0
  clear q R HR s0 s1 s2 s3 s4 z0
  generalize w1.heap.size = gx at x0 x1 zx ⊢
  have YA := Lib.hid (fun W => Yield_all k x y z W)
  have YB := Lib.hid (fun W => rYield_all k x y z W)
  unfold yTup at YA YB
  generalize (bif yGood k x y z then yV k x y z else 0) = Y at YA YB
  generalize (bif yGood k x y z then (0 : Int) else 2) = F at YA YB
  go_wp2_with fail
  refine (YA.out _).mono ?_
  rintro e w3 ⟨rfl, q⟩
  have y0 : w3.cell? ⟨w2.heap.size, 0, none⟩ = some (.int .i64 V') := (q.cell (p := ⟨w2.heap.size, 0, none⟩) (by simp)).trans (by simp [go_sem])
  have y1 : w3.cell? ⟨w2.heap.size, 1, none⟩ = some (.int .i64 D') := (q.cell (p := ⟨w2.heap.size, 1, none⟩) (by simp)).trans (by simp [go_sem])
  replace q : Below w2.heap.size w2 w3 := ((Below.refl _ w2).alloc (Nat.le_refl _) _).trans (q.mono (by simp))
  replace x0 := (q.cell (p := ⟨gx, 0, none⟩) zx).trans x0
  replace x1 := (q.cell (p := ⟨gx, 1, none⟩) zx).trans x1
  replace hb := hb.trans (q.mono hb.size)
  replace zx := Nat.lt_of_lt_of_le zx q.size
  have zy : w2.heap.size < w3.heap.size := World.block_lt_of_cell? w3 _ y0
  clear q YA
  generalize w2.heap.size = gy at y0 y1 zy ⊢
  go_wp2_with fail
  refine (YB.out _).mono ?_
  rintro e w4 ⟨rfl, q⟩
  replace x0 := (q.cell (p := ⟨gx, 0, none⟩) zx).trans x0
  replace x1 := (q.cell (p := ⟨gx, 1, none⟩) zx).trans x1
  replace y0 := (q.cell (p := ⟨gy, 0, none⟩) zy).trans y0
  replace y1 := (q.cell (p := ⟨gy, 1, none⟩) zy).trans y1
  replace hb := hb.trans (q.mono hb.size)
  replace zx := Nat.lt_of_lt_of_le zx q.size
  replace zy := Nat.lt_of_lt_of_le zy q.size
  clear q YB
  go_wp2_with fail
  refine (alive_any _).mono ?_
  rintro e w5 ⟨rfl, q⟩
  replace hb := hb.trans (q.mono hb.size)
  clear q
  go_wp2_with fail
  go_ret
  exact ⟨rfl, hb⟩
end Go.Proofs.Ytlfffobfcledcaa
