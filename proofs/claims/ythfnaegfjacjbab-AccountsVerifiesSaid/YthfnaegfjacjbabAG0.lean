/- Accounts: what is charged, plain. -/
import Derived.Test.YthfnaegfjacjbabB10
namespace Go.Proofs.Ythfnaegfjacjbab
open Go.RowKit
set_option linter.unusedVariables false
set_option linter.unusedSimpArgs false

def pd (D : List (Int × Int)) (i : Nat) : Int := (D[i]?.getD (0, 0)).1
def sd (D : List (Int × Int)) (i : Nat) : Int := (D[i]?.getD (0, 0)).2
/-- The upper end of the band before. -/
def lastU (D : List (Int × Int)) : Nat → Int
  | 0 => 0
  | j + 1 => pd D j
/-- Parts of a cent, ten thousand of which are one. -/
def pts (n : Int) (D : List (Int × Int)) : Nat → Int
  | 0 => 0
  | j + 1 => pts n D j + (min n (pd D j) - min n (lastU D j)) * sd D j
/-- The first bands are a scale. -/
def ScOk (D : List (Int × Int)) (j : Nat) : Prop := ∀ i, i < j → lastU D i < pd D i ∧ pd D i ≤ 1099511627776 ∧ 0 ≤ sd D i ∧ sd D i ≤ 10000
theorem ScOk.lo {D : List (Int × Int)} : ∀ {j : Nat}, ScOk D j → 0 ≤ lastU D j ∧ lastU D j ≤ 1099511627776
  | 0, _ => ⟨Int.le_refl _, by simp [lastU]⟩
  | j + 1, h => by
    have a := h j (by omega)
    have b := ScOk.lo (j := j) (fun i hi => h i (by omega))
    simp only [lastU]; omega
theorem ScOk.less {D : List (Int × Int)} {j k : Nat} (h : ScOk D k) (hj : j ≤ k) : ScOk D j := fun i hi => h i (by omega)
theorem pts_bound {n : Int} {D : List (Int × Int)} (n0 : 0 ≤ n) : ∀ {j : Nat}, ScOk D j → 0 ≤ pts n D j ∧ pts n D j ≤ 10000 * min n (lastU D j)
  | 0, _ => by simp [pts, lastU]; omega
  | j + 1, h => by
    obtain ⟨a1, a2, a3, a4⟩ := h j (by omega)
    obtain ⟨b1, b2⟩ := pts_bound n0 (h.less (Nat.le_succ j))
    have l := (h.less (Nat.le_succ j)).lo.1
    show 0 ≤ pts n D j + (min n (pd D j) - min n (lastU D j)) * sd D j ∧ pts n D j + (min n (pd D j) - min n (lastU D j)) * sd D j ≤ 10000 * min n (pd D j)
    have d0 : 0 ≤ min n (pd D j) - min n (lastU D j) := by omega
    have m0 := Int.mul_nonneg d0 a3
    have m1 : (min n (pd D j) - min n (lastU D j)) * sd D j ≤ (min n (pd D j) - min n (lastU D j)) * 10000 := Int.mul_le_mul_of_nonneg_left a4 d0
    omega
/-- More cents have no fewer parts. -/
theorem pts_mono {a b : Int} {D : List (Int × Int)} (h : a ≤ b) : ∀ {j : Nat}, ScOk D j → pts a D j ≤ pts b D j ∧ (∀ u, lastU D j ≤ u → True)
  | 0, _ => ⟨Int.le_refl _, fun _ _ => trivial⟩
  | j + 1, g => by
    obtain ⟨a1, a2, a3, a4⟩ := g j (by omega)
    have ih := (pts_mono h (g.less (Nat.le_succ j))).1
    refine ⟨?_, fun _ _ => trivial⟩
    simp only [pts]
    have : (min a (pd D j) - min a (lastU D j)) * sd D j ≤ (min b (pd D j) - min b (lastU D j)) * sd D j := Int.mul_le_mul_of_nonneg_right (by omega) a3
    omega
/-- What is charged for parts: rounded, a half upwards. -/
def chg (P : Int) : Int := (P + 5000) / 10000
/-- What Charge answers. -/
def ChQ (n : Int) (D : List (Int × Int)) (x E : Int) : Prop :=
  (¬ (0 ≤ n ∧ n ≤ 1099511627776) ∧ x = 0 ∧ E = 2) ∨ ((0 ≤ n ∧ n ≤ 1099511627776) ∧ 16 < D.length ∧ x = 0 ∧ E = 3) ∨
  ((0 ≤ n ∧ n ≤ 1099511627776) ∧ D.length ≤ 16 ∧ ¬ ScOk D D.length ∧ x = 0 ∧ E = 2) ∨
  ((0 ≤ n ∧ n ≤ 1099511627776) ∧ D.length ≤ 16 ∧ ScOk D D.length ∧ lastU D D.length < n ∧ x = 0 ∧ E = 4) ∨
  ((0 ≤ n ∧ n ≤ 1099511627776) ∧ D.length ≤ 16 ∧ ScOk D D.length ∧ n ≤ lastU D D.length ∧ x = chg (pts n D D.length) ∧ E = 0)
theorem ChQ.det {n : Int} {D : List (Int × Int)} {x y E F : Int} (h : ChQ n D x E) (g : ChQ n D y F) : x = y ∧ E = F := by
  rcases h with ⟨a, b, c⟩ | ⟨a, b, c, d⟩ | ⟨a, b, c, d, e⟩ | ⟨a, b, c, d, e, f⟩ | ⟨a, b, c, d, e, f⟩ <;> rcases g with ⟨a', b', c'⟩ | ⟨a', b', c', d'⟩ | ⟨a', b', c', d', e'⟩ | ⟨a', b', c', d', e', f'⟩ | ⟨a', b', c', d', e', f'⟩ <;>
    first | exact absurd a' a | exact absurd a a' | exact absurd c' c | exact absurd c c' | (exfalso; omega) | (constructor <;> omega)
theorem chg_split (P : Int) (h : 0 ≤ P) : P / 10000 + (if 5000 ≤ P % 10000 then 1 else 0) = chg P := by unfold chg; split <;> omega
theorem chg_rnd (r : Int) (r0 : 0 ≤ r) (r1 : r < 10000) : rndV (!((!(decide (r < 0) == decide ((1 : Int) < 0))) == decide ((10000 : Int) < 0))) ((r.natAbs : Int) * ((1 : Int).natAbs : Int)) ((10000 : Int).natAbs : Int) 3 = (if 5000 ≤ r then 1 else 0) ∧ rndE (!((!(decide (r < 0) == decide ((1 : Int) < 0))) == decide ((10000 : Int) < 0))) ((r.natAbs : Int) * ((1 : Int).natAbs : Int)) ((10000 : Int).natAbs : Int) 3 = 0 := by
  have e1 : (!((!(decide (r < 0) == decide ((1 : Int) < 0))) == decide ((10000 : Int) < 0))) = false := by
    rw [decide_eq_false (show ¬ r < 0 by omega)]; rfl
  have e2 : (r.natAbs : Int) * ((1 : Int).natAbs : Int) = r := by
    rw [show ((1 : Int).natAbs : Int) = 1 from rfl, Int.mul_one]; omega
  have e3 : ((10000 : Int).natAbs : Int) = 10000 := rfl
  have e4 : r / 10000 = 0 := Int.ediv_eq_zero_of_lt r0 r1
  have e5 : r % 10000 = r := Int.emod_eq_of_lt r0 r1
  have e6 : rndQ false r 10000 3 = if 5000 ≤ r then 1 else 0 := by
    unfold rndQ
    rw [e4, e5]
    unfold upB
    rw [if_neg (by decide), if_neg (by decide), if_neg (by decide), if_pos rfl]
    have hb : (decide ((10000 : Int) < 2 * r) || (decide (2 * r = 10000) && !false)) = decide (5000 ≤ r) := by rw [Bool.eq_iff_iff]; simp; omega
    rw [hb]
    by_cases h : 5000 ≤ r
    · simp [h]
    · simp [h]
  rw [e1, e2, e3]
  unfold rndV rndE
  rw [e6]
  constructor
  · split <;> simp
  · rw [if_pos (by split <;> omega)]
theorem addB (x : Addr) (i : Nat) : (x.add i).block = x.block := by unfold Addr.add; split <;> rfl
/-- The slice, wherever it lies, reads as these pairs. -/
def DmpR (w : World) (p : Option Addr) (D : List (Int × Int)) : Prop := ∀ i, i < D.length → ∃ x : Addr, p = some x ∧ x.block < w.heap.size ∧ w.cell? (x.add (i * 2)) = some (.int .i64 (pd D i)) ∧ w.cell? ⟨(x.add (i * 2)).block, (x.add (i * 2)).off + 1, none⟩ = some (.int .i64 (sd D i))
theorem DmpR.below {w w' : World} {p : Option Addr} {D : List (Int × Int)} (r : DmpR w p D) (hb : Below w.heap.size w w') : DmpR w' p D := fun i h => by
  obtain ⟨x, e, k, c, d⟩ := r i h
  exact ⟨x, e, Nat.lt_of_lt_of_le k hb.size, by rw [hb.cell (p := x.add (i * 2)) (by rw [addB]; exact k)]; exact c, by rw [hb.cell (p := ⟨(x.add (i * 2)).block, (x.add (i * 2)).off + 1, none⟩) (by show (x.add (i * 2)).block < _; rw [addB]; exact k)]; exact d⟩
end Go.Proofs.Ythfnaegfjacjbab
