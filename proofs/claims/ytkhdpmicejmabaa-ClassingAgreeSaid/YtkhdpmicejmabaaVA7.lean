/- Agreement: plain facts, near (merged). -/
import Derived.Test.YtkhdpmicejmabaaCT0
import Derived.Test.YtkhdpmicejmabaaCU1
import Derived.Test.YtkhdpmicejmabaaVA6
import Derived.Deep.RegionLaw
import Derived.Deep.Cut
import Derived.Deep.CutRange
import Derived.Deep.RegionHeld3
import Derived.Test.YtkhdpmicejmabaaVA4
/- Classing's tests: what agreement says. Plain facts. -/
namespace Go.Proofs.Ytkhdpmicejmabaa
open Go.RowKit Go.Proofs.Ytkhdpmicejmabaa.Ct
set_option linter.unusedVariables false
set_option linter.unusedSimpArgs false

namespace Ct
/-- Two bases differ by at most tol ten-thousandths: x is not the less. -/
def Nr (S : Nat → Sb) (tol : Int) (x y : Int) : Prop := bl S x y * 10000 ≤ tol * ((S x.toNat).raw * (S y.toNat).raw)
theorem mul_cancel {a x y : Int} (ha : 0 < a) (h : a * x ≤ a * y) : x ≤ y := by
  apply Classical.byContradiction
  intro n
  have := Int.mul_lt_mul_of_pos_left (show y < x by omega) ha
  omega
theorem nr_left {S : Nat → Sb} (G : Ct.Good S) {tol x y z : Int} (h : Nr S tol x z) (xy : 0 ≤ bl S x y) : Nr S tol y z := by
  have e := bl_tri S x y z
  have q1 := (Sb.bd (G x.toNat)).1; have q2 := (Sb.bd (G y.toNat)).1; have q3 := (Sb.bd (G z.toNat)).1
  unfold Nr at *
  generalize (S x.toNat).raw = rx at *
  generalize (S y.toNat).raw = ry at *
  generalize (S z.toNat).raw = rz at *
  generalize bl S x z = t at *
  generalize bl S x y = u at *
  generalize bl S y z = v at *
  apply mul_cancel (a := rx) (by omega)
  have a1 : ry * (t * 10000) ≤ ry * (tol * (rx * rz)) := Int.mul_le_mul_of_nonneg_left h (by omega)
  have a2 : 0 ≤ rz * u := Int.mul_nonneg (by omega) xy
  have a3 : ry * (t * 10000) = (rz * u + rx * v) * 10000 := by rw [← Int.mul_assoc, e]
  have a4 : rx * (v * 10000) = (rx * v) * 10000 := by rw [Int.mul_assoc]
  have a5 : rx * (tol * (ry * rz)) = ry * (tol * (rx * rz)) := by
    rw [Int.mul_left_comm rx tol, Int.mul_left_comm ry tol, Int.mul_left_comm rx ry rz]
  omega
theorem nr_right {S : Nat → Sb} (G : Ct.Good S) {tol x y z : Int} (h : Nr S tol x z) (yz : 0 ≤ bl S y z) : Nr S tol x y := by
  have e := bl_tri S x y z
  have q1 := (Sb.bd (G x.toNat)).1; have q2 := (Sb.bd (G y.toNat)).1; have q3 := (Sb.bd (G z.toNat)).1
  unfold Nr at *
  generalize (S x.toNat).raw = rx at *
  generalize (S y.toNat).raw = ry at *
  generalize (S z.toNat).raw = rz at *
  generalize bl S x z = t at *
  generalize bl S x y = u at *
  generalize bl S y z = v at *
  apply mul_cancel (a := rz) (by omega)
  have a1 : ry * (t * 10000) ≤ ry * (tol * (rx * rz)) := Int.mul_le_mul_of_nonneg_left h (by omega)
  have a2 : 0 ≤ rx * v := Int.mul_nonneg (by omega) yz
  have a3 : ry * (t * 10000) = (rz * u + rx * v) * 10000 := by rw [← Int.mul_assoc, e]
  have a4 : rz * (u * 10000) = (rz * u) * 10000 := by rw [Int.mul_assoc]
  have a5 : rz * (tol * (rx * ry)) = ry * (tol * (rx * rz)) := by
    rw [Int.mul_left_comm rz tol, Int.mul_left_comm ry tol, Int.mul_left_comm ry rx rz, Int.mul_left_comm rz rx ry, Int.mul_comm rz ry]
  omega
theorem rb_le {S : Nat → Sb} {x y : Int} (h : RB S x y) : 0 ≤ bl S y x := by
  have := bl_anti S x y
  unfold RB at h
  omega
/-- Any two of an accepted window agree. -/
theorem win_near {S : Nat → Sb} (G : Ct.Good S) {tol : Int} {n : Nat} (f : fits tol n S) (n2 : 2 ≤ n) {i j : Nat} (hi : i < zs n) (hj : j < zs n) (ij : i < j) : Nr S tol (gi (ordB S n) (at' n S + j)) (gi (ordB S n) (at' n S + i)) := by
  have b := bw_le S (ordB S n) (zs n) (n - zs n)
  have az : at' n S + zs n ≤ n := by unfold at' zs at *; omega
  have f' : Nr S tol (gi (ordB S n) (at' n S + zs n - 1)) (gi (ordB S n) (at' n S)) := f
  have le : ∀ a c, a ≤ c → c < n → 0 ≤ bl S (gi (ordB S n) c) (gi (ordB S n) a) := fun a c h hc => by
    rcases Nat.lt_or_ge a c with k | k
    · exact rb_le (ordB_rd G n a c k hc)
    · have : a = c := by omega
      subst this
      unfold bl; omega
  have s1 := nr_left G f' (le (at' n S + j) (at' n S + zs n - 1) (by omega) (by omega))
  exact nr_right G s1 (le (at' n S) (at' n S + i) (by omega) (by omega))
/-- Two of the used agree, whichever is the greater. -/
theorem used_near {S : Nat → Sb} (G : Ct.Good S) {tol : Int} {n : Nat} (f : fits tol n S) (n2 : 2 ≤ n) {x y : Int} (hx : x ∈ usd (ordB S n) (at' n S) (zs n) n) (hy : y ∈ usd (ordB S n) (at' n S) (zs n) n) (ne : x ≠ y) : Nr S tol x y ∧ Nr S tol y x ∨ Nr S tol x y ∧ bl S y x ≤ 0 ∨ Nr S tol y x ∧ bl S x y ≤ 0 := by
  obtain ⟨-, -, i, hi, ei⟩ := usd_mem.1 hx
  obtain ⟨-, -, j, hj, ej⟩ := usd_mem.1 hy
  have b := bw_le S (ordB S n) (zs n) (n - zs n)
  have az : at' n S + zs n ≤ n := by unfold at' zs at *; omega
  rcases Nat.lt_trichotomy i j with k | k | k
  · have := win_near G f n2 hi hj k
    rw [ei, ej] at this
    have r := rb_le (ordB_rd G n (at' n S + i) (at' n S + j) (by omega) (by omega))
    rw [ei, ej] at r
    have := bl_anti S x y
    exact .inr (.inr ⟨by assumption, by omega⟩)
  · subst k; exact absurd (ei.symm.trans ej) ne
  · have := win_near G f n2 hj hi k
    rw [ei, ej] at this
    have r := rb_le (ordB_rd G n (at' n S + j) (at' n S + i) (by omega) (by omega))
    rw [ei, ej] at r
    have := bl_anti S x y
    exact .inr (.inl ⟨by assumption, by omega⟩)
/-- The absolute difference. -/
def nearB (S : Nat → Sb) (tol : Int) (x y : Int) : Bool := decide ((max (bl S x y) (-(bl S x y))) * 10000 ≤ tol * ((S x.toNat).raw * (S y.toNat).raw))
theorem nearB_of {S : Nat → Sb} (G : Ct.Good S) {tol x y : Int} (tl : 0 ≤ tol) (h : Nr S tol x y ∧ Nr S tol y x ∨ Nr S tol x y ∧ bl S y x ≤ 0 ∨ Nr S tol y x ∧ bl S x y ≤ 0) : nearB S tol x y = true := by
  have a := bl_anti S x y
  have c : (S y.toNat).raw * (S x.toNat).raw = (S x.toNat).raw * (S y.toNat).raw := Int.mul_comm _ _
  have q1 := (Sb.bd (G x.toNat)).1; have q2 := (Sb.bd (G y.toNat)).1
  have p0 : 0 ≤ tol * ((S x.toNat).raw * (S y.toNat).raw) := Int.mul_nonneg tl (Int.mul_nonneg (by omega) (by omega))
  unfold nearB Nr at *
  rw [c] at h
  generalize tol * ((S x.toNat).raw * (S y.toNat).raw) = T at *
  rw [decide_eq_true_eq]
  omega
/-- The first decision. -/
theorem first_near {S : Nat → Sb} (G : Ct.Good S) {tol : Int} (tl : 0 ≤ tol) : fits tol 2 S ↔ nearB S tol 0 1 = true := by
  have o : ordB S 2 = [0, 1] ∨ ordB S 2 = [1, 0] := by
    have e : ordB S 2 = if bl S 1 0 < 0 then [1, 0] else [0, 1] := rfl
    rw [e]
    split
    · exact .inr rfl
    · exact .inl rfl
  have z : zs 2 = 2 := rfl
  have a0 : at' 2 S = 0 := by
    have b := bw_le S (ordB S 2) (zs 2) (2 - zs 2)
    unfold at'; rw [z] at b ⊢; omega
  have s := ordB_rd G 2 0 1 (by decide) (by decide)
  have le := rb_le s
  have an := bl_anti S 0 1
  have c : (S (1 : Int).toNat).raw * (S (0 : Int).toNat).raw = (S (0 : Int).toNat).raw * (S (1 : Int).toNat).raw := Int.mul_comm _ _
  have q1 := (Sb.bd (G (0 : Int).toNat)).1; have q2 := (Sb.bd (G (1 : Int).toNat)).1
  have p0 : 0 ≤ tol * ((S (0 : Int).toNat).raw * (S (1 : Int).toNat).raw) := Int.mul_nonneg tl (Int.mul_nonneg (by omega) (by omega))
  unfold fits nearB ov un
  rw [a0, z]
  rcases o with o | o <;> rw [o] at le ⊢
  · rw [show gi [0, 1] (0 + 2 - 1) = 1 from rfl, show gi [0, 1] 0 = 0 from rfl, decide_eq_true_eq]
    rw [show gi [0, 1] 1 = 1 from rfl, show gi [0, 1] 0 = 0 from rfl] at le
    rw [c]
    generalize tol * ((S (0 : Int).toNat).raw * (S (1 : Int).toNat).raw) = T at *
    omega
  · rw [show gi [1, 0] (0 + 2 - 1) = 0 from rfl, show gi [1, 0] 0 = 1 from rfl, decide_eq_true_eq]
    rw [show gi [1, 0] 1 = 0 from rfl, show gi [1, 0] 0 = 1 from rfl] at le
    generalize tol * ((S (0 : Int).toNat).raw * (S (1 : Int).toNat).raw) = T at *
    omega
/-- What an accepted test is. -/
structure Acc (tol : Int) (t : Tst) : Prop where
  void : t.st = 2 → t.n = 8
  good : t.st = 1 → fits tol t.n t.S ∧ 2 ≤ t.n ∧ t.U = usd (ordB t.S t.n) (at' t.n t.S) (zs t.n) t.n
  two : t.n = 2 → (t.st = 1 ↔ fits tol 2 t.S)
theorem Acc.zero (tol : Int) : Acc tol ⟨0, fun _ => default, 0, []⟩ := ⟨fun h => by simp at h, fun h => by simp at h, fun h => by simp at h⟩
theorem Acc.dec {tol : Int} {n : Nat} {S : Nat → Sb} (n8 : n ≤ 8) (n2 : 2 ≤ n) : Acc tol (dec tol n S) := by
  unfold Ct.dec
  split
  · next f => exact ⟨fun h => by simp at h, fun _ => ⟨f, n2, rfl⟩, fun h => by dsimp only at h ⊢; subst h; simp [f]⟩
  · next f =>
    split
    · exact ⟨fun _ => by dsimp only; omega, fun h => by simp at h, fun h => by dsimp only at h; omega⟩
    · exact ⟨fun h => by simp at h, fun h => by simp at h, fun h => by dsimp only at h ⊢; subst h; simp [f]⟩
theorem Acc.fds {tol : Int} {t : Tst} (h : Acc tol t) (ok : t.ok) (s : Sb) : Acc tol (fds tol t s) := by
  unfold Ct.fds
  split
  · exact h
  · next c =>
    have w := ok.wait (by omega)
    split
    · split
      · exact ⟨fun h => by simp at h, fun h => by simp at h, fun h => by dsimp only at h; omega⟩
      · exact Acc.dec (by omega) (by omega)
    · exact h
end Ct
end Go.Proofs.Ytkhdpmicejmabaa

/- Base, the program's; near. -/
namespace Go.Proofs.Ytkhdpmicejmabaa
open Go.RowKit
set_option linter.unusedVariables false
set_option linter.unusedSimpArgs false

/-- What Base comes to. -/
def BaseR (r d a g v : Int) (V D E : Int) : Prop := (subB r d a g v = false ∧ V = 0 ∧ D = 0 ∧ E = 2) ∨ (subB r d a g v = true ∧ IsFrac (d - a - g - v) r V D E)
theorem BaseR.unique {r d a g v V D E V' D' E' : Int} (h : BaseR r d a g v V D E) (h' : BaseR r d a g v V' D' E') : V' = V ∧ D' = D ∧ E' = E := by
  rcases h with ⟨x, b, c, e⟩ | ⟨x, b⟩ <;> rcases h' with ⟨x', b', c', e'⟩ | ⟨x', b'⟩
  · exact ⟨by omega, by omega, by omega⟩
  · rw [x] at x'; cases x'
  · rw [x] at x'; cases x'
  · have := subB_true.1 x; obtain ⟨p, q, t⟩ := frac_unique (show r ≠ 0 by omega) b b'; exact ⟨p.symm, q.symm, t.symm⟩

set_option maxRecDepth 100000 in
set_option maxHeartbeats 1000000 in
theorem Base_bad (r d a g v : Int) (h : subB r d a g v = false) (w : World) :
    Calls Try.prog 29 #[.agg #[.int .i64 r, .int .i64 d, .int .i64 a, .int .i64 g, .int .i64 v]] w fun e w' => e = .returned (fracV 0 0 2) ∧ Below w.heap.size w w' := by
  have C1 := Lib.hid (fun W => isSub_any r d a g v W)
  rw [h] at C1
  clear h
  go_enter Try.func29, Try.ntmps29
  go_wp2_with fail
  refine (C1.out _).mono ?_
  rintro e w1 ⟨rfl, hb⟩
  obtain ⟨hc, hf⟩ := bcell hb
  have hz : w.heap.size < w1.heap.size := by have := hb.size; simp at this; omega
  have hz1 : w.heap.size + 1 < w1.heap.size := by have := hb.size; simp at this; omega
  have k1 : Below w.heap.size w w1 := (((Below.refl _ _).alloc (Nat.le_refl _) _).alloc (by simp) _).trans (hb.mono (by simp; omega))
  go_wp2_with fail
  refine bodyPost_ret (v := fracV 0 0 2) (by simp [results, Try.results29, go_sem, fracV, hc, hz, hz1]) rfl ⟨rfl, ?_⟩
  exact (k1.setCell (by simp) _).setCell (by simp) _

/- The good case. -/
set_option maxRecDepth 100000 in
set_option maxHeartbeats 2000000 in
theorem Base_ok (r d a g v : Int) (h : subB r d a g v = true) (w : World) :
    Calls Try.prog 29 #[.agg #[.int .i64 r, .int .i64 d, .int .i64 a, .int .i64 g, .int .i64 v]] w (Res (IsFrac (d - a - g - v) r) w) := by
  have C1 := Lib.hid (fun W => isSub_any r d a g v W)
  have C2 := Lib.hid (fun W => wool_any r d a g v h W)
  rw [h] at C1
  obtain ⟨h1, h2, h3, h4, h5, h6, h7, h8, h9, h10⟩ := subB_true.1 h
  obtain ⟨n, hn⟩ : ∃ n, n = d - a - g - v := ⟨_, rfl⟩
  rw [← hn] at C2 ⊢
  have n1 : 0 ≤ n := by omega
  have n2 : n ≤ 10000 := by omega
  have C3 := Lib.hid (fun W => Make_any n r (by omega) (by omega) (by omega) (by omega) (by omega) W)
  clear hn h h1 h2 h3 h4 h5 h6 h7 h8 h9 h10 n1 n2
  go_enter Try.func29, Try.ntmps29
  go_wp2_with fail
  refine (C1.out _).mono ?_
  rintro e w1 ⟨rfl, q⟩
  have hb : Below w.heap.size w w1 := (((Below.refl _ _).alloc (Nat.le_refl _) _).alloc (by simp) _).trans (q.mono (by simp; omega))
  have z0 : w.heap.size < w1.heap.size := by have := q.size; simp at this; omega
  have z1 : w.heap.size + 1 < w1.heap.size := by have := q.size; simp at this; omega
  have s0 := q.cell (p := ⟨w.heap.size, 0, none⟩) (by simp; try omega)
  have s1 := q.cell (p := ⟨w.heap.size, 1, none⟩) (by simp; try omega)
  have s2 := q.cell (p := ⟨w.heap.size, 2, none⟩) (by simp; try omega)
  have s3 := q.cell (p := ⟨w.heap.size, 3, none⟩) (by simp; try omega)
  have s4 := q.cell (p := ⟨w.heap.size, 4, none⟩) (by simp; try omega)
  have k1 := q.cell (p := ⟨w.heap.size + 1, 0, none⟩) (by simp)
  have k2 := q.cell (p := ⟨w.heap.size + 1, 1, none⟩) (by simp)
  have k3 := q.frozen (p := ⟨w.heap.size + 1, 0, none⟩) (by simp)
  have k4 := q.frozen (p := ⟨w.heap.size + 1, 1, none⟩) (by simp)
  simp [go_sem] at s0 s1 s2 s3 s4 k1 k2 k3 k4
  clear q C1
  go_upto_region 3 with fail
  go_region_law (first
    | (go_simp; go_at_call 26; (with_reducible refine (C2.out _).mono ?_); rintro e w2 ⟨rfl, q⟩; have st : Below w1.heap.size w1 w2 := (by first | exact q | exact ((Below.refl _ _).drew).trans q | exact (below_drewN (Below.refl _ _) _).trans q); replace s0 := (st.cell (p := ⟨w.heap.size, 0, none⟩) z0).trans s0; replace s1 := (st.cell (p := ⟨w.heap.size, 1, none⟩) z0).trans s1; replace s2 := (st.cell (p := ⟨w.heap.size, 2, none⟩) z0).trans s2; replace s3 := (st.cell (p := ⟨w.heap.size, 3, none⟩) z0).trans s3; replace s4 := (st.cell (p := ⟨w.heap.size, 4, none⟩) z0).trans s4; replace k1 := (st.cell (p := ⟨w.heap.size + 1, 0, none⟩) z1).trans k1; replace k2 := (st.cell (p := ⟨w.heap.size + 1, 1, none⟩) z1).trans k2; replace k3 := (st.frozen (p := ⟨w.heap.size + 1, 0, none⟩) z1).trans k3; replace k4 := (st.frozen (p := ⟨w.heap.size + 1, 1, none⟩) z1).trans k4; replace z0 := Nat.lt_of_lt_of_le z0 st.size; replace z1 := Nat.lt_of_lt_of_le z1 st.size; replace hb := hb.trans (st.mono hb.size); clear q st)
    | (go_simp; go_at_call 41; (with_reducible refine (C3.out _).mono ?_); rintro e w3 ⟨V, D, E, hF, rfl, q⟩; unfold fracV; have st : Below w2.heap.size w2 w3 := (by first | exact q | exact ((Below.refl _ _).drew).trans q | exact (below_drewN (Below.refl _ _) _).trans q); replace s0 := (st.cell (p := ⟨w.heap.size, 0, none⟩) z0).trans s0; replace s1 := (st.cell (p := ⟨w.heap.size, 1, none⟩) z0).trans s1; replace s2 := (st.cell (p := ⟨w.heap.size, 2, none⟩) z0).trans s2; replace s3 := (st.cell (p := ⟨w.heap.size, 3, none⟩) z0).trans s3; replace s4 := (st.cell (p := ⟨w.heap.size, 4, none⟩) z0).trans s4; replace k1 := (st.cell (p := ⟨w.heap.size + 1, 0, none⟩) z1).trans k1; replace k2 := (st.cell (p := ⟨w.heap.size + 1, 1, none⟩) z1).trans k2; replace k3 := (st.frozen (p := ⟨w.heap.size + 1, 0, none⟩) z1).trans k3; replace k4 := (st.frozen (p := ⟨w.heap.size + 1, 1, none⟩) z1).trans k4; replace z0 := Nat.lt_of_lt_of_le z0 st.size; replace z1 := Nat.lt_of_lt_of_le z1 st.size; replace hb := hb.trans (st.mono hb.size); have HF := Lib.hid hF; clear q st hF))
  all_goals go_wp2_with fail
  all_goals refine bodyPost_ret (v := fracV V D E) (by simp [results, Try.results29, go_sem, fracV, k1, k2, z1]) rfl ⟨V, D, E, HF.out, rfl, ?_⟩
  all_goals first
    | exact (hb.setCell (by simp) _).setCell (by simp) _
    | exact ((hb.setCell (by simp) _).setCell (by simp) _).drew
    | exact below_drewN ((hb.setCell (by simp) _).setCell (by simp) _) _
    | exact (hb.drew.setCell (by simp) _).setCell (by simp) _
    | exact ((below_drewN hb _).setCell (by simp) _).setCell (by simp) _

theorem Base_all (r d a g v : Int) (w : World) : Calls Try.prog 29 #[.agg #[.int .i64 r, .int .i64 d, .int .i64 a, .int .i64 g, .int .i64 v]] w (Res (BaseR r d a g v) w) := by
  cases h : subB r d a g v
  · exact (Base_bad r d a g v h w).mono fun _ _ ⟨x, y⟩ => ⟨0, 0, 2, .inl ⟨h, rfl, rfl, rfl⟩, x, y⟩
  · exact (Base_ok r d a g v h w).mono fun _ _ ⟨V, D, E, x, y, z⟩ => ⟨V, D, E, .inr ⟨h, x⟩, y, z⟩
/-- A fraction with small parts is one. -/
theorem frac_is {n d : Int} (h1 : 1 ≤ d) (h2 : d ≤ 10000) (h3 : 0 ≤ n) (h4 : n ≤ d) {V D E : Int} (h : IsFrac n d V D E) : E = 0 ∧ V * d = n * D ∧ 1 ≤ D ∧ D ≤ 1048576 ∧ 0 ≤ V ∧ V ≤ D := by
  rcases h with ⟨e, v, q⟩ | ⟨-, -, -, no⟩
  · unfold vldB at v
    simp at v
    obtain ⟨⟨⟨⟨v1, v2⟩, -⟩, -⟩, -⟩ := v
    have a : 0 ≤ n * D := Int.mul_nonneg h3 (by omega)
    have b : n * D ≤ d * D := Int.mul_le_mul_of_nonneg_right h4 (by omega)
    refine ⟨e, q, v1, v2, ?_, ?_⟩
    · apply Classical.byContradiction
      intro c
      have := Int.mul_neg_of_neg_of_pos (show V < 0 by omega) (show 0 < d by omega)
      omega
    · apply Classical.byContradiction
      intro c
      have := Int.mul_lt_mul_of_pos_right (show D < V by omega) (show 0 < d by omega)
      have := Int.mul_comm D d
      omega
  · exfalso
    have gp : 0 < Int.gcd n d := Int.gcd_pos_of_ne_zero_right n (by omega)
    obtain ⟨x, hx⟩ := Int.gcd_dvd_left (a := n) (b := d)
    obtain ⟨y, hy⟩ := Int.gcd_dvd_right (a := n) (b := d)
    have cop : Int.gcd x y = 1 := by
      have := Int.gcd_mul_left (Int.gcd n d : Int) x y
      rw [← hx, ← hy] at this
      simp at this
      have h : Int.gcd n d * 1 = Int.gcd n d * Int.gcd x y := by rw [Nat.mul_one]; exact this
      exact (Nat.eq_of_mul_eq_mul_left gp h).symm
    have gI : (0 : Int) < (Int.gcd n d : Int) := by omega
    generalize (Int.gcd n d : Int) = g at *
    have y1 : 1 ≤ y := by
      apply Classical.byContradiction
      intro c
      have := Int.mul_nonpos_of_nonneg_of_nonpos (show 0 ≤ g by omega) (show y ≤ 0 by omega)
      omega
    have y2 : y ≤ d := by
      have := Int.mul_le_mul_of_nonneg_right (show 1 ≤ g by omega) (show 0 ≤ y by omega)
      omega
    have x1 : 0 ≤ x := by
      apply Classical.byContradiction
      intro c
      have := Int.mul_neg_of_pos_of_neg gI (show x < 0 by omega)
      omega
    have x2 : x ≤ n := by
      have := Int.mul_le_mul_of_nonneg_right (show 1 ≤ g by omega) x1
      omega
    refine no x y ?_ ?_
    · unfold vldB
      simp
      exact ⟨⟨⟨⟨by omega, by omega⟩, by omega⟩, by omega⟩, cop⟩
    · rw [hx, hy, Int.mul_left_comm, Int.mul_comm x y, Int.mul_assoc, Int.mul_comm y x]
end Go.Proofs.Ytkhdpmicejmabaa

/- Classing's tests: near. -/
namespace Go.Proofs.Ytkhdpmicejmabaa
open Go.RowKit Go.Proofs.Ytkhdpmicejmabaa.Ct Go.Proofs.Ytkhdpmicejmabaa.Stb
set_option linter.unusedVariables false
set_option linter.unusedSimpArgs false

def dif (a b : Sb) : Int := a.wl * b.raw - b.wl * a.raw
def nearS (a b : Sb) (tol : Int) : Bool := decide (max (dif a b) (-(dif a b)) * 10000 ≤ tol * (a.raw * b.raw))
theorem near_scale {va da wa ra vb db wb rb tol : Int} (qa : va * ra = wa * da) (qb : vb * rb = wb * db) (da1 : 1 ≤ da) (db1 : 1 ≤ db) (ra1 : 1 ≤ ra) (rb1 : 1 ≤ rb) :
    max (va * db - vb * da) (-(va * db - vb * da)) * 10000 ≤ tol * da * db ↔ max (wa * rb - wb * ra) (-(wa * rb - wb * ra)) * 10000 ≤ tol * (ra * rb) := by
  -- n * (ra rb) = m * (da db)
  have e : (va * db - vb * da) * (ra * rb) = (wa * rb - wb * ra) * (da * db) := by
    rw [Int.sub_mul, Int.sub_mul]
    have h1 : va * db * (ra * rb) = wa * rb * (da * db) := by
      rw [show va * db * (ra * rb) = (va * ra) * (db * rb) by simp only [Int.mul_assoc, Int.mul_left_comm, Int.mul_comm], qa]
      simp only [Int.mul_assoc, Int.mul_left_comm, Int.mul_comm]
    have h2 : vb * da * (ra * rb) = wb * ra * (da * db) := by
      rw [show vb * da * (ra * rb) = (vb * rb) * (da * ra) by simp only [Int.mul_assoc, Int.mul_left_comm, Int.mul_comm], qb]
      simp only [Int.mul_assoc, Int.mul_left_comm, Int.mul_comm]
    rw [h1, h2]
  have R0 : 0 < ra * rb := Int.mul_pos (by omega) (by omega)
  have D0 : 0 < da * db := Int.mul_pos (by omega) (by omega)
  rw [Int.mul_assoc tol]
  generalize va * db - vb * da = n at *
  generalize wa * rb - wb * ra = m at *
  generalize ra * rb = R at *
  generalize da * db = D at *
  have mx : max n (-n) * R = max m (-m) * D := by
    rcases Int.le_total 0 n with h | h
    · have : 0 ≤ m := by
        apply Classical.byContradiction
        intro c
        have a := Int.mul_nonneg h (show 0 ≤ R by omega)
        have b := Int.mul_neg_of_neg_of_pos (show m < 0 by omega) D0
        omega
      rw [show max n (-n) = n by omega, show max m (-m) = m by omega, e]
    · have : m ≤ 0 := by
        apply Classical.byContradiction
        intro c
        have a := Int.mul_nonpos_of_nonpos_of_nonneg h (show 0 ≤ R by omega)
        have b := Int.mul_pos (show 0 < m by omega) D0
        omega
      rw [show max n (-n) = -n by omega, show max m (-m) = -m by omega, Int.neg_mul, Int.neg_mul, e]
  generalize max n (-n) = x at *
  generalize max m (-m) = y at *
  constructor
  · intro h
    apply mul_cancel (a := D) D0
    have a1 := Int.mul_le_mul_of_nonneg_right h (show 0 ≤ R by omega)
    have a2 : x * 10000 * R = D * (y * 10000) := by rw [Int.mul_assoc, Int.mul_comm 10000 R, ← Int.mul_assoc, mx, Int.mul_comm y D, Int.mul_assoc]
    have a3 : tol * D * R = D * (tol * R) := by rw [Int.mul_comm tol D, Int.mul_assoc]
    omega
  · intro h
    apply mul_cancel (a := R) R0
    have a1 := Int.mul_le_mul_of_nonneg_right h (show 0 ≤ D by omega)
    have a2 : y * 10000 * D = R * (x * 10000) := by rw [Int.mul_assoc, Int.mul_comm 10000 D, ← Int.mul_assoc, ← mx, Int.mul_comm x R, Int.mul_assoc]
    have a3 : tol * R * D = R * (tol * D) := by rw [Int.mul_comm tol R, Int.mul_assoc]
    omega

set_option maxRecDepth 100000 in
set_option maxHeartbeats 8000000 in
theorem near_any (a b : Sb) (oa : a.ok = true) (ob : b.ok = true) (tol : Int) (tl : 0 ≤ tol ∧ tol ≤ 10000) (w : World) :
    Calls Try.prog 16 #[sbV a, sbV b, .int .i64 tol] w fun e w' => e = .returned (.bool (nearS a b tol)) ∧ Below w.heap.size w w' := by
  have CA := Lib.hid (fun W => Base_ok a.raw a.dry a.ash a.gre a.veg oa W)
  have CB := Lib.hid (fun W => Base_ok b.raw b.dry b.ash b.gre b.veg ob W)
  have EA := Lib.hid (show a.dry - a.ash - a.gre - a.veg = a.wl from rfl)
  have EB := Lib.hid (show b.dry - b.ash - b.gre - b.veg = b.wl from rfl)
  rw [EA.out] at CA
  rw [EB.out] at CB
  have BA := Lib.hid (Sb.bd oa)
  have BB := Lib.hid (Sb.bd ob)
  have NS := Lib.hid (show nearS a b tol = decide (max (a.wl * b.raw - b.wl * a.raw) (-(a.wl * b.raw - b.wl * a.raw)) * 10000 ≤ tol * (a.raw * b.raw)) from rfl)
  have o1 := ob_old (ob_n5 w a 35) (Obj.cells #[.int .i64 b.raw, .int .i64 b.dry, .int .i64 b.ash, .int .i64 b.gre, .int .i64 b.veg] 35)
  have o2 := ob_n5' w (Obj.cells #[.int .i64 a.raw, .int .i64 a.dry, .int .i64 a.ash, .int .i64 a.gre, .int .i64 a.veg] 35) b 35
  have HB := Lib.hid (show Below w.heap.size w ((w.alloc (Obj.cells #[.int .i64 a.raw, .int .i64 a.dry, .int .i64 a.ash, .int .i64 a.gre, .int .i64 a.veg] 35)).alloc (Obj.cells #[.int .i64 b.raw, .int .i64 b.dry, .int .i64 b.ash, .int .i64 b.gre, .int .i64 b.veg] 35)) from ((Below.refl _ _).alloc (Nat.le_refl _) _).alloc (by simp) _)
  unfold sbV
  clear oa ob EA EB
  go_enter Try.func16, Try.ntmps16
  go_upto_region 1 with fail
  generalize ((w.alloc (Obj.cells #[.int .i64 a.raw, .int .i64 a.dry, .int .i64 a.ash, .int .i64 a.gre, .int .i64 a.veg] 35)).alloc (Obj.cells #[.int .i64 b.raw, .int .i64 b.dry, .int .i64 b.ash, .int .i64 b.gre, .int .i64 b.veg] 35)) = w1 at *
  have a0 : w1.cell? ⟨w.heap.size, 0, none⟩ = some (.int .i64 a.raw) := o1.cell (k := 0) (by decide)
  have a1 : w1.cell? ⟨w.heap.size, 1, none⟩ = some (.int .i64 a.dry) := o1.cell (k := 1) (by decide)
  have a2 : w1.cell? ⟨w.heap.size, 2, none⟩ = some (.int .i64 a.ash) := o1.cell (k := 2) (by decide)
  have a3 : w1.cell? ⟨w.heap.size, 3, none⟩ = some (.int .i64 a.gre) := o1.cell (k := 3) (by decide)
  have a4 : w1.cell? ⟨w.heap.size, 4, none⟩ = some (.int .i64 a.veg) := o1.cell (k := 4) (by decide)
  clear o1
  go_wp2_with fail
  refine (CA.out _).mono ?_
  rintro e w2 ⟨va, da, ea, fa, rfl, st⟩
  unfold fracV
  obtain ⟨rfl, qa, da1, da2, va1, va2⟩ := frac_is BA.out.1 BA.out.2.1 BA.out.2.2.1 BA.out.2.2.2.1 fa
  have st3 := st.trans (((Below.refl _ w2).alloc (Nat.le_refl _) (Obj.cells #[.int .i64 va, .int .i64 da] 70)).mono st.size)
  have o2 := o2.below st3
  have o3 := ob_n w2 (.int .i64 va) (.int .i64 da) 70
  have HB := Lib.hid (HB.out.trans (st3.mono HB.out.size))
  clear a0 a1 a2 a3 a4 st fa st3
  go_upto_region 2 with fail
  generalize w2.alloc (Obj.cells #[.int .i64 va, .int .i64 da] 70) = w3 at *
  generalize w2.heap.size = g7 at *
  have b0 : w3.cell? ⟨w.heap.size + 1, 0, none⟩ = some (.int .i64 b.raw) := o2.cell (k := 0) (by decide)
  have b1 : w3.cell? ⟨w.heap.size + 1, 1, none⟩ = some (.int .i64 b.dry) := o2.cell (k := 1) (by decide)
  have b2 : w3.cell? ⟨w.heap.size + 1, 2, none⟩ = some (.int .i64 b.ash) := o2.cell (k := 2) (by decide)
  have b3 : w3.cell? ⟨w.heap.size + 1, 3, none⟩ = some (.int .i64 b.gre) := o2.cell (k := 3) (by decide)
  have b4 : w3.cell? ⟨w.heap.size + 1, 4, none⟩ = some (.int .i64 b.veg) := o2.cell (k := 4) (by decide)
  clear o2
  go_wp2_with fail
  refine (CB.out _).mono ?_
  rintro e w4 ⟨vb, db, eb, fb, rfl, st⟩
  unfold fracV
  obtain ⟨rfl, qb, db1, db2, vb1, vb2⟩ := frac_is BB.out.1 BB.out.2.1 BB.out.2.2.1 BB.out.2.2.2.1 fb
  have st3 := st.trans (((Below.refl _ w4).alloc (Nat.le_refl _) (Obj.cells #[.int .i64 vb, .int .i64 db] 70)).mono st.size)
  have o3 := o3.below st3
  have o4 := ob_n w4 (.int .i64 vb) (.int .i64 db) 70
  have HB := Lib.hid (HB.out.trans (st3.mono HB.out.size))
  clear b0 b1 b2 b3 b4 st fb st3
  go_upto_region 3 with fail
  generalize w4.alloc (Obj.cells #[.int .i64 vb, .int .i64 db] 70) = w5 at *
  generalize w4.heap.size = g9 at *
  have p0 : w5.cell? ⟨g7, 0, none⟩ = some (.int .i64 va) := o3.cell (k := 0) (by decide)
  have p1 : w5.cell? ⟨g7, 1, none⟩ = some (.int .i64 da) := o3.cell (k := 1) (by decide)
  have p2 : w5.cell? ⟨g9, 0, none⟩ = some (.int .i64 vb) := o4.cell (k := 0) (by decide)
  have p3 : w5.cell? ⟨g9, 1, none⟩ = some (.int .i64 db) := o4.cell (k := 1) (by decide)
  have m1 := Int.mul_nonneg va1 (show 0 ≤ db by omega)
  have m2 := Int.mul_le_mul (show va ≤ 1048576 by omega) db2 (by omega) (by omega)
  have m3 := Int.mul_nonneg vb1 (show 0 ≤ da by omega)
  have m4 := Int.mul_le_mul (show vb ≤ 1048576 by omega) da2 (by omega) (by omega)
  have m5 := Int.mul_nonneg tl.1 (show 0 ≤ da by omega)
  have m6 := Int.mul_le_mul tl.2 da2 (by omega) (by omega)
  have m7 := Int.mul_nonneg m5 (show 0 ≤ db by omega)
  have m8 := Int.mul_le_mul m6 db2 (by omega) (by omega)
  have x1 : IntKind.i64.wrap (va * db) = va * db := hwI (by omega) (by omega)
  have x2 : IntKind.i64.wrap (vb * da) = vb * da := hwI (by omega) (by omega)
  have x3 : IntKind.i64.wrap (va * db - vb * da) = va * db - vb * da := hwI (by omega) (by omega)
  have x4 : IntKind.i64.wrap (-(va * db - vb * da)) = -(va * db - vb * da) := hwI (by omega) (by omega)
  have x5 : IntKind.i64.wrap (max (va * db - vb * da) (-(va * db - vb * da)) * 10000) = max (va * db - vb * da) (-(va * db - vb * da)) * 10000 := hwI (by omega) (by omega)
  have x6 : IntKind.i64.wrap (tol * da) = tol * da := hwI (by omega) (by omega)
  have x7 : IntKind.i64.wrap (tol * da * db) = tol * da * db := hwI (by omega) (by omega)
  have RS := Lib.hid (show nearS a b tol = decide (max (va * db - vb * da) (-(va * db - vb * da)) * 10000 ≤ tol * da * db) from by
    rw [NS.out, decide_eq_decide]
    exact (near_scale qa qb da1 db1 BA.out.1 BB.out.1).symm)
  clear m1 m2 m3 m4 m5 m6 m7 m8 o3 o4 qa qb NS
  go_wp2_with fail
  go_ret
  rw [RS.out]
  exact ⟨rfl, HB.out⟩
end Go.Proofs.Ytkhdpmicejmabaa
