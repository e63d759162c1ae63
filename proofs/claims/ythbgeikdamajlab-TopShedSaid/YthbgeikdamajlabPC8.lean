/- Press: the order by Johnson's rule. -/
import Derived.Test.YthbgeikdamajlabPC7
import Derived.OwnWalk
namespace Go.Proofs.Ythbgeikdamajlab
open Go.RowKit Go.Proofs.Ythbgeikdamajlab.Prs Go.Proofs.Ythbgeikdamajlab.Stb
set_option linter.unusedVariables false
set_option linter.unusedSimpArgs false

/-- What the comparison of Sequence looks at. -/
def KpD (X : Nat) (p : Option Addr) (c : Nat) (D : List (Int × Int)) (B : Nat) (w : World) : Prop := w.cell? ⟨X, 0, none⟩ = some (.slice p D.length c) ∧ DmpR w p D ∧ X ≠ B ∧ ∀ x, p = some x → 0 < D.length → x.block ≠ B
theorem KpD.begin {X : Nat} {p : Option Addr} {c : Nat} {D : List (Int × Int)} {w : World} (h : w.cell? ⟨X, 0, none⟩ = some (.slice p D.length c)) (r : DmpR w p D) : KpD X p c D w.heap.size w :=
  ⟨h, r, by have := World.block_lt_of_cell? w _ h; dsimp only at this; omega, fun x e hl => by
    obtain ⟨y, e', k, _⟩ := r 0 hl
    rw [e] at e'; cases e'; omega⟩
theorem KpD.keep {X : Nat} {p : Option Addr} {c : Nat} {D : List (Int × Int)} {B : Nat} {u v : World} (sz : u.heap.size ≤ v.heap.size) (bl : ∀ k, k ≠ B → k < u.heap.size → v.heap[k]? = u.heap[k]?) (h : KpD X p c D B u) : KpD X p c D B v := by
  obtain ⟨h1, h2, h3, h4⟩ := h
  refine ⟨(World.cell?_of_block (w := u) (a := ⟨X, 0, none⟩) (bl X h3 (World.block_lt_of_cell? u _ h1))).trans h1, fun i hi => ?_, h3, h4⟩
  obtain ⟨x, e, k, a, b⟩ := h2 i hi
  have g := bl x.block (h4 x e (by omega)) k
  exact ⟨x, e, Nat.lt_of_lt_of_le k sz, (World.cell?_of_block (w := u) (a := x.add (i * 2)) (by rw [addB]; exact g)).trans a, (World.cell?_of_block (w := u) (a := ⟨(x.add (i * 2)).block, (x.add (i * 2)).off + 1, none⟩) (by dsimp only; rw [addB]; exact g)).trans b⟩
def jcD (D : List (Int × Int)) (x y : Int) : Int := jc (pd D x.toNat) (sd D x.toNat) (pd D y.toNat) (sd D y.toNat)

set_option maxRecDepth 100000 in
set_option maxHeartbeats 4000000 in
theorem seqLess_any (X : Nat) (p : Option Addr) (c : Nat) (D : List (Int × Int)) (B : Nat) (x y : Int) (w : World) (h : KpD X p c D B w) (hx : 0 ≤ x ∧ x < D.length) (hy : 0 ≤ y ∧ y < D.length) (ln : D.length ≤ 1000000) :
    Calls Try.prog 43 #[.int .i64 x, .int .i64 y, .pointer (some ⟨X, 0, none⟩)] w fun e w' => e = .returned (.int .i64 (jcD D x y)) ∧ Below w.heap.size w w' := by
  obtain ⟨cX, r, -, -⟩ := h
  obtain ⟨u, rfl⟩ := Int.eq_ofNat_of_zero_le hx.1
  obtain ⟨v, rfl⟩ := Int.eq_ofNat_of_zero_le hy.1
  obtain ⟨xa, rfl, kx, a0, a1⟩ := r u (by omega)
  obtain ⟨xb, e, -, b0, b1⟩ := r v (by omega)
  cases e
  have JC := Lib.hid (fun W => byJohnson_any (pd D u) (sd D u) (pd D v) (sd D v) W)
  have JE := Lib.hid (show jcD D (u : Int) (v : Int) = jc (pd D u) (sd D u) (pd D v) (sd D v) by unfold jcD; rw [Int.toNat_natCast, Int.toNat_natCast])
  obtain ⟨n, hn⟩ : ∃ n, n = D.length := ⟨_, rfl⟩
  rw [← hn] at hx hy cX ln
  have u1 : (0 : Int) ≤ (u : Int) := by omega
  have u2 : (u : Int) < (n : Int) := by omega
  have v1 : (0 : Int) ≤ (v : Int) := by omega
  have v2 : (v : Int) < (n : Int) := by omega
  rw [JE.out]
  clear JE hn hx hy r kx
  generalize jc (pd D u) (sd D u) (pd D v) (sd D v) = z at *
  generalize pd D u = pa at *
  generalize sd D u = sa at *
  generalize pd D v = pb at *
  generalize sd D v = sb at *
  go_enter Try.func43, Try.ntmps43
  go_wp2_with fail
  go_region_held3 (fun w' => w'.cell? ⟨X, 0, none⟩ = some (.slice (some xa) n c) ∧ (w'.cell? (xa.add (u * 2)) = some (.int .i64 pa) ∧ w'.cell? ⟨(xa.add (u * 2)).block, (xa.add (u * 2)).off + 1, none⟩ = some (.int .i64 sa)) ∧ w'.cell? (xa.add (v * 2)) = some (.int .i64 pb) ∧ w'.cell? ⟨(xa.add (v * 2)).block, (xa.add (v * 2)).off + 1, none⟩ = some (.int .i64 sb)) (first | exact ⟨cX, ⟨a0, a1⟩, b0, b1⟩ | exact ⟨cellDr cX, ⟨cellDr a0, cellDr a1⟩, cellDr b0, cellDr b1⟩) (first | (go_at_call 44; refine (JC.out _).mono ?_; rintro e w1 ⟨rfl, st⟩; have cX := cellGr st (cellDr cX); have a0 := cellGr st (cellDr a0); have a1 := cellGr st (cellDr a1); have b0 := cellGr st (cellDr b0); have b1 := cellGr st (cellDr b1)))
  go_wp2_with fail
  go_ret
  exact ⟨rfl, ⟨st.os, st.tape, st.output, st.size, st.block⟩⟩

/-- The order: by the rule, equal ones by their numbers. -/
def RJ (D : List (Int × Int)) (x y : Int) : Prop := jcD D x y < 0 ∨ (jcD D x y = 0 ∧ x < y)
theorem jc_neg (D : List (Int × Int)) (n : Nat) (x y : Int) (h : x < y) : jcD D y x < 0 ↔ RJ D y x := by unfold RJ; omega
theorem jcD_cases (D : List (Int × Int)) (x y : Int) : ∃ gx vx gy vy : Int, gx = (if pd D x.toNat ≤ sd D x.toNat then 0 else 1) ∧ vx = (if pd D x.toNat ≤ sd D x.toNat then pd D x.toNat else - sd D x.toNat) ∧
    gy = (if pd D y.toNat ≤ sd D y.toNat then 0 else 1) ∧ vy = (if pd D y.toNat ≤ sd D y.toNat then pd D y.toNat else - sd D y.toNat) ∧
    (jcD D x y < 0 ↔ gx < gy ∨ (gx = gy ∧ vx < vy)) ∧ (jcD D x y = 0 ↔ gx = gy ∧ vx = vy) := by
  refine ⟨_, _, _, _, rfl, rfl, rfl, rfl, ?_⟩
  unfold jcD jc cmpV
  generalize pd D x.toNat = a
  generalize sd D x.toNat = b
  generalize pd D y.toNat = a'
  generalize sd D y.toNat = b'
  by_cases c1 : a ≤ b <;> by_cases c2 : a' ≤ b' <;> by_cases d1 : a < a' <;> by_cases d2 : a' < a <;> by_cases d3 : b' < b <;> by_cases d4 : b < b'
  all_goals first
    | (exfalso; omega)
    | (simp [c1, c2, d1, d2, d3, d4]; done)
    | (simp [c1, c2, d1, d2, d3, d4]; omega)
theorem rj_key (D : List (Int × Int)) : ∃ g v : Int → Int, ∀ x y, RJ D x y ↔ g x < g y ∨ (g x = g y ∧ (v x < v y ∨ (v x = v y ∧ x < y))) := by
  refine ⟨fun x => if pd D x.toNat ≤ sd D x.toNat then 0 else 1, fun x => if pd D x.toNat ≤ sd D x.toNat then pd D x.toNat else - sd D x.toNat, fun x y => ?_⟩
  obtain ⟨gx, vx, gy, vy, e1, e2, e3, e4, h1, h2⟩ := jcD_cases D x y
  show RJ D x y ↔ _
  unfold RJ
  rw [h1, h2]
  dsimp only
  rw [← e1, ← e2, ← e3, ← e4]
  omega
theorem rj_tot (D : List (Int × Int)) (V : Int → Prop) : Tot (RJ D) V := by
  obtain ⟨g, v, h⟩ := rj_key D
  refine ⟨fun x y z _ _ _ a b => ?_, fun x y _ _ ne n => ?_⟩
  · rw [h] at a b ⊢; omega
  · rw [h] at n ⊢; omega
theorem rj_jo (D : List (Int × Int)) (x y : Int) (h : RJ D x y) : Jo (pd D) (sd D) x.toNat y.toNat := by
  have h' : jcD D x y ≤ 0 := by rcases h with h | h <;> omega
  unfold jcD jc cmpV at h'
  unfold Jo
  by_cases c1 : pd D x.toNat ≤ sd D x.toNat
  · rw [if_pos c1] at h' ⊢
    by_cases c2 : pd D y.toNat ≤ sd D y.toNat
    · rw [if_pos c2] at h' ⊢
      apply Classical.byContradiction; intro g
      rw [if_neg (by omega), if_pos (by omega)] at h'; omega
    · rw [if_neg c2]; trivial
  · rw [if_neg c1] at h' ⊢
    by_cases c2 : pd D y.toNat ≤ sd D y.toNat
    · rw [if_pos c2] at h'; omega
    · rw [if_neg c2] at h' ⊢
      apply Classical.byContradiction; intro g
      rw [if_neg (by omega), if_pos (by omega)] at h'; omega
end Go.Proofs.Ythbgeikdamajlab
