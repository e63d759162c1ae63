/- FromPath: the plain part. -/
import Derived.Test.YtblaakjldpcjlaaDoorY1
import Derived.Test.YtblaakjldpcjlaaDoorM1
namespace Go.Proofs.YtblaakjldpcjlaaDoor
open Go.RowKit
set_option linter.unusedVariables false
set_option linter.unusedSimpArgs false

/-- The value of a path, from its last element back. -/
def evB : List Int → Int × Int
  | [] => (1, 0)
  | s :: r => (s * (evB r).1 + (evB r).2, (evB r).1)
theorem evB_cop (l : List Int) : Int.gcd (evB l).1 (evB l).2 = 1 := by
  induction l with
  | nil => decide
  | cons s r ih =>
    show Int.gcd (s * (evB r).1 + (evB r).2) (evB r).1 = 1
    rw [Int.gcd_comm, Int.add_comm, Int.gcd_add_mul_right_right]
    exact ih
/-- Every element is at least 1. -/
def Ones (r : List Int) : Prop := ∀ x ∈ r, 1 ≤ x
theorem Ones.tail {s : Int} {r : List Int} (h : Ones (s :: r)) : 1 ≤ s ∧ Ones r := ⟨h s (by simp), fun x m => h x (by simp [m])⟩
theorem evB_ge {r : List Int} (h : Ones r) : 1 ≤ (evB r).1 ∧ 0 ≤ (evB r).2 ∧ (evB r).2 ≤ (evB r).1 := by
  induction r with
  | nil => decide
  | cons s r ih =>
    obtain ⟨h1, h2⟩ := h.tail
    obtain ⟨a, b, c⟩ := ih h2
    have : 1 * (evB r).1 ≤ s * (evB r).1 := Int.mul_le_mul_of_nonneg_right h1 (by omega)
    show 1 ≤ s * (evB r).1 + (evB r).2 ∧ 0 ≤ (evB r).1 ∧ (evB r).1 ≤ s * (evB r).1 + (evB r).2
    omega
theorem evB_lt {r : List Int} (h : Ones r) (hl : ∀ x, r.getLast? = some x → x ≠ 1) : (evB r).2 < (evB r).1 := by
  induction r with
  | nil => decide
  | cons s r ih =>
    obtain ⟨h1, h2⟩ := h.tail
    obtain ⟨a, b, c⟩ := evB_ge h2
    show (evB r).1 < s * (evB r).1 + (evB r).2
    cases r with
    | nil =>
      have : s ≠ 1 := hl s rfl
      have e1 : (evB ([] : List Int)).1 = 1 := rfl
      have e2 : (evB ([] : List Int)).2 = 0 := rfl
      rw [e1, e2]; omega
    | cons t r' =>
      have k := evB_ge h2.tail.2
      have e : (evB (t :: r')).2 = (evB r').1 := rfl
      have : 1 * (evB (t :: r')).1 ≤ s * (evB (t :: r')).1 := Int.mul_le_mul_of_nonneg_right h1 (by omega)
      rw [e]; omega
/-- What a round of FromPath keeps: r is what is left of the path a0 :: .. whose value is N/D. -/
structure Cv (N D a0 bn bd ln ld : Int) (r : List Int) : Prop where
  num : N = ln * (evB r).1 + bn * (evB r).2
  den : D = ld * (evB r).1 + bd * (evB r).2
  ones : Ones r
  rng : (bd = 0 ∧ bn = 1 ∧ ln = a0 ∧ ld = 1) ∨ (1 ≤ bd ∧ bd ≤ ld ∧ a0 * bd ≤ bn ∧ bn ≤ a0 * bd + bd ∧ a0 * ld ≤ ln ∧ ln ≤ a0 * ld + ld)
theorem Cv.start (a0 : Int) {r : List Int} (h : Ones r) : Cv (evB (a0 :: r)).1 (evB (a0 :: r)).2 a0 1 0 a0 1 r :=
  ⟨by show a0 * (evB r).1 + (evB r).2 = _; omega, by show (evB r).1 = _; omega, h, .inl ⟨rfl, rfl, rfl, rfl⟩⟩
theorem Cv.ld1 {N D a0 bn bd ln ld : Int} {r : List Int} (h : Cv N D a0 bn bd ln ld r) : 1 ≤ ld ∧ 0 ≤ bd ∧ bd ≤ ld := by rcases h.rng with a | a <;> omega
theorem Cv.step {N D a0 bn bd ln ld s : Int} {r : List Int} (h : Cv N D a0 bn bd ln ld (s :: r)) : Cv N D a0 ln ld (s * ln + bn) (s * ld + bd) r := by
  obtain ⟨h1, h2, h3, h4⟩ := h
  obtain ⟨s1, h5⟩ := h3.tail
  have e1 : (evB (s :: r)).1 = s * (evB r).1 + (evB r).2 := rfl
  have e2 : (evB (s :: r)).2 = (evB r).1 := rfl
  rw [e1, e2] at h1 h2
  refine ⟨by rw [h1]; grind, by rw [h2]; grind, h5, .inr ?_⟩
  have L : 1 ≤ ld ∧ a0 * ld ≤ ln ∧ ln ≤ a0 * ld + ld := by
    rcases h4 with ⟨a, b, c, d⟩ | ⟨a, b, c, d, e, f⟩
    · subst c d; omega
    · omega
  obtain ⟨l1, l2, l3⟩ := L
  have m1 : 1 * ld ≤ s * ld := Int.mul_le_mul_of_nonneg_right s1 (by omega)
  have m2 : s * (a0 * ld) ≤ s * ln := Int.mul_le_mul_of_nonneg_left l2 (by omega)
  have m3 : s * ln ≤ s * (a0 * ld + ld) := Int.mul_le_mul_of_nonneg_left l3 (by omega)
  have e3 : a0 * (s * ld + bd) = s * (a0 * ld) + a0 * bd := by grind
  have e4 : s * (a0 * ld + ld) = s * (a0 * ld) + s * ld := by grind
  rw [e3]
  rcases h4 with ⟨a, b, c, d⟩ | ⟨a, b, c, d, e, f⟩
  · subst a b c d
    have m4 : s * ln = s * (ln * 1) := by rw [Int.mul_one]
    refine ⟨by omega, by omega, l2, l3, ?_, ?_⟩
    · rw [Int.mul_zero]; omega
    · rw [Int.mul_zero]; omega
  · exact ⟨by omega, by omega, l2, l3, by omega, by omega⟩
theorem Cv.big {N D a0 bn bd ln ld s : Int} {r : List Int} (h : Cv N D a0 bn bd ln ld (s :: r)) : s * ld + bd ≤ D ∧ s ≤ D := by
  have L := h.ld1
  obtain ⟨h1, h2, h3, h4⟩ := h
  obtain ⟨s1, h5⟩ := h3.tail
  obtain ⟨a, b, c⟩ := evB_ge h5
  have e1 : (evB (s :: r)).1 = s * (evB r).1 + (evB r).2 := rfl
  have e2 : (evB (s :: r)).2 = (evB r).1 := rfl
  rw [e1, e2] at h2
  have e3 : D = (s * ld + bd) * (evB r).1 + ld * (evB r).2 := by rw [h2]; grind
  have m1 : s * 1 ≤ s * ld := Int.mul_le_mul_of_nonneg_left L.1 (by omega)
  have m2 : (s * ld + bd) * 1 ≤ (s * ld + bd) * (evB r).1 := Int.mul_le_mul_of_nonneg_left a (by omega)
  have m3 : 0 ≤ ld * (evB r).2 := Int.mul_nonneg (by omega) b
  omega
theorem Cv.done {N D a0 bn bd ln ld : Int} (h : Cv N D a0 bn bd ln ld []) : N = ln ∧ D = ld := by
  have h1 := h.num
  have h2 := h.den
  have e1 : (evB ([] : List Int)).1 = 1 := rfl
  have e2 : (evB ([] : List Int)).2 = 0 := rfl
  rw [e1, e2] at h1 h2
  omega
theorem no_frac {N D : Int} (hD : 1 ≤ D) (g : Int.gcd N D = 1) (h : 1048576 < D ∨ 1099511627776 < N ∨ N < -1099511627776) : IsFrac N D 0 0 4 := by
  refine .inr ⟨rfl, rfl, rfl, fun x y hv e => ?_⟩
  obtain ⟨y1, y2, x1, x2, _⟩ := vldB_true.1 hv
  obtain ⟨k, hk⟩ : D ∣ y := dvd_cop (n := N) (by rw [Int.gcd_comm]; exact g) ⟨x, by rw [Int.mul_comm y, ← e, Int.mul_comm]⟩
  have k0 : 1 ≤ k := by
    rcases Int.lt_or_le 0 k with t | t
    · omega
    · have := Int.mul_le_mul_of_nonneg_left t (show 0 ≤ D by omega); omega
  have kD : D * 1 ≤ D * k := Int.mul_le_mul_of_nonneg_left k0 (by omega)
  have hx : x = N * k := by
    refine Int.eq_of_mul_eq_mul_right (a := D) (by omega) ?_
    rw [e, hk]; ac_rfl
  rcases h with h | h | h
  · omega
  · have : N * 1 ≤ N * k := Int.mul_le_mul_of_nonneg_left k0 (by omega)
    omega
  · have : N * k ≤ N * 1 := Int.mul_le_mul_of_nonpos_left (by omega) k0
    omega
/-- A path that is none. -/
def BadPath (l : List Int) : Prop := l.length = 0 ∨ (∃ i, 1 ≤ i ∧ i < l.length ∧ gd l i < 1) ∨ (1 < l.length ∧ gd l (l.length - 1) = 1)
/-- What FromPath returns. -/
def FromR (l : List Int) (V D E : Int) : Prop :=
  (64 < l.length ∧ V = 0 ∧ D = 0 ∧ E = 3) ∨ (l.length ≤ 64 ∧ BadPath l ∧ V = 0 ∧ D = 0 ∧ E = 2) ∨ (l.length ≤ 64 ∧ ¬ BadPath l ∧ IsFrac (evB l).1 (evB l).2 V D E)
theorem good_parts {l : List Int} (h : ¬ BadPath l) : ∃ a0 r, l = a0 :: r ∧ Ones r ∧ (evB r).2 < (evB r).1 := by
  cases l with
  | nil => exact absurd (.inl rfl) h
  | cons a0 r =>
    have on : Ones r := fun x m => by
      obtain ⟨i, hi, e⟩ := List.getElem_of_mem m
      rcases Int.lt_or_le x 1 with t | t
      · refine absurd (.inr (.inl ⟨i + 1, by omega, by simpa using hi, ?_⟩)) h
        have : gd (a0 :: r) (i + 1) = x := by unfold gd; simp [hi, e]
        omega
      · exact t
    refine ⟨a0, r, rfl, on, evB_lt on fun x hx hx1 => ?_⟩
    apply h
    refine .inr (.inr ⟨?_, ?_⟩)
    · cases r with
      | nil => simp at hx
      | cons t r' => simp
    · unfold gd
      have : (a0 :: r)[(a0 :: r).length - 1]? = r.getLast? := by
        rw [← List.getLast?_eq_getElem?]
        cases r with
        | nil => simp at hx
        | cons t r' => rfl
      rw [this, hx, hx1]; rfl
theorem FromR.uniq {l : List Int} {V D E V' D' E' : Int} (h : FromR l V D E) (h' : FromR l V' D' E') : V = V' ∧ D = D' ∧ E = E' := by
  rcases h with ⟨a, b, c, d⟩ | ⟨a, a', b, c, d⟩ | ⟨a, a', b⟩ <;> rcases h' with ⟨p, q, r, s⟩ | ⟨p, p', q, r, s⟩ | ⟨p, p', q⟩
  · omega
  · omega
  · omega
  · omega
  · omega
  · exact absurd a' p'
  · omega
  · exact absurd p' a'
  · obtain ⟨a0, r, rfl, on, lt⟩ := good_parts a'
    have := evB_ge on
    exact frac_unique (by show (evB r).1 ≠ 0; omega) b q
theorem head_out {a0 : Int} {r : List Int} (h : Ones r) (hl : (evB r).2 < (evB r).1) (ha : ¬ (-1099511627776 ≤ a0 ∧ a0 ≤ 1099511627776)) : IsFrac (evB (a0 :: r)).1 (evB (a0 :: r)).2 0 0 4 := by
  obtain ⟨a, b, c⟩ := evB_ge h
  refine no_frac a (evB_cop (a0 :: r)) (.inr ?_)
  show 1099511627776 < a0 * (evB r).1 + (evB r).2 ∨ a0 * (evB r).1 + (evB r).2 < -1099511627776
  rcases (by omega : 1099511627776 < a0 ∨ a0 + 1 ≤ -1099511627776) with t | t
  · have : a0 * 1 ≤ a0 * (evB r).1 := Int.mul_le_mul_of_nonneg_left a (by omega)
    omega
  · have : (a0 + 1) * (evB r).1 ≤ (a0 + 1) * 1 := Int.mul_le_mul_of_nonpos_left (by omega) a
    rw [Int.add_mul, Int.one_mul] at this
    omega
end Go.Proofs.YtblaakjldpcjlaaDoor
