/- The calendar, the plain part. -/
namespace Go.Proofs.Ytlahdfmciaibdaa
set_option linter.unusedVariables false

def leapB (y : Int) : Bool := decide (y % 4 = 0 ∧ (y % 100 ≠ 0 ∨ y % 400 = 0))
def mlen (y m : Int) : Int := if m = 2 then (if leapB y then 29 else 28) else if m = 4 ∨ m = 6 ∨ m = 9 ∨ m = 11 then 30 else 31
def ylen (y : Int) : Int := if leapB y then 366 else 365
/-- Days of the months before. -/
def mcnt (y : Int) : Nat → Int
  | 0 => 0
  | m + 1 => mcnt y m + mlen y (m + 1)
/-- Days of the years before. -/
def ycnt : Nat → Int
  | 0 => 0
  | k + 1 => ycnt k + ylen (2000 + k)
theorem mlen_lo (y m : Int) : 28 ≤ mlen y m := by unfold mlen; (repeat' split) <;> omega
theorem mlen_hi (y m : Int) : mlen y m ≤ 31 := by unfold mlen; (repeat' split) <;> omega
theorem ylen_lo (y : Int) : 365 ≤ ylen y := by unfold ylen; split <;> omega
theorem ylen_hi (y : Int) : ylen y ≤ 366 := by unfold ylen; split <;> omega
theorem mcnt_12 (y : Int) : mcnt y 12 = ylen y := by
  simp only [mcnt, mlen, ylen]
  cases leapB y <;> simp
theorem leapB_iff (y : Int) : leapB y = true ↔ (y % 4 = 0 ∧ (y % 100 ≠ 0 ∨ y % 400 = 0)) := by unfold leapB; simp
theorem ycnt_eq : ∀ k : Nat, ycnt k = 365 * k + ((k : Int) + 3) / 4 - ((k : Int) + 99) / 100 + ((k : Int) + 399) / 400
  | 0 => by decide
  | k + 1 => by
    have ih := ycnt_eq k
    have := leapB_iff (2000 + k)
    simp only [ycnt, ylen, ih]
    cases h : leapB (2000 + k) with
    | true => rw [h] at this; simp at this; simp; omega
    | false => rw [h] at this; simp at this; simp; omega
theorem ycnt_lo : ∀ k : Nat, 365 * (k : Int) ≤ ycnt k
  | 0 => by decide
  | k + 1 => by have := ycnt_lo k; have := ylen_lo (2000 + k); simp only [ycnt]; omega
theorem ycnt_hi : ∀ k : Nat, ycnt k ≤ 366 * (k : Int)
  | 0 => by decide
  | k + 1 => by have := ycnt_hi k; have := ylen_hi (2000 + k); simp only [ycnt]; omega
theorem ycnt_mono {a b : Nat} (h : a ≤ b) : ycnt a + 365 * ((b : Int) - a) ≤ ycnt b := by
  induction b with
  | zero => (obtain rfl : a = 0 := by omega); simp
  | succ b ih =>
    by_cases e : a = b + 1
    · subst e; simp
    · have := ih (by omega); have := ylen_lo (2000 + b); simp only [ycnt]; omega
theorem mcnt_mono (y : Int) {a b : Nat} (h : a ≤ b) : mcnt y a + 28 * ((b : Int) - a) ≤ mcnt y b := by
  induction b with
  | zero => (obtain rfl : a = 0 := by omega); simp
  | succ b ih =>
    by_cases e : a = b + 1
    · subst e; simp
    · have := ih (by omega); have := mlen_lo y ((b : Nat) + 1); simp only [mcnt]; omega
/-- The date of a day: year 2000 + k, month m + 1, day d. -/
structure IsDate (day : Int) (k m : Nat) (d : Int) : Prop where
  hm : m ≤ 11
  d1 : 1 ≤ d
  d2 : d ≤ mlen (2000 + k) (m + 1)
  e : day = ycnt k + mcnt (2000 + k) m + d - 1
theorem IsDate.lt {day : Int} {k m : Nat} {d : Int} (h : IsDate day k m d) : ycnt k ≤ day ∧ day < ycnt (k + 1) := by
  have h1 := mcnt_mono (2000 + k) (a := 0) (b := m) (by omega)
  have h2 := mcnt_mono (2000 + k) (a := m + 1) (b := 12) (by have := h.hm; omega)
  have h3 := h.hm; have h4 := h.d1; have h5 := h.d2; have h6 := h.e
  rw [mcnt_12] at h2
  simp only [mcnt, ycnt] at *
  omega
theorem IsDate.uniq {day : Int} {k m k' m' : Nat} {d d' : Int} (h : IsDate day k m d) (g : IsDate day k' m' d') : k = k' ∧ m = m' ∧ d = d' := by
  have hk : k = k' := by
    have a := h.lt; have b := g.lt
    rcases Nat.lt_trichotomy k k' with c | c | c
    · have := ycnt_mono (a := k + 1) (b := k') c; omega
    · exact c
    · have := ycnt_mono (a := k' + 1) (b := k) c; omega
  subst hk
  have hm : m = m' := by
    have a1 := h.d1; have a2 := h.d2; have a3 := h.e; have b1 := g.d1; have b2 := g.d2; have b3 := g.e
    rcases Nat.lt_trichotomy m m' with c | c | c
    · have := mcnt_mono (2000 + k) (a := m + 1) (b := m') c; simp only [mcnt] at this; omega
    · exact c
    · have := mcnt_mono (2000 + k) (a := m' + 1) (b := m) c; simp only [mcnt] at this; omega
  subst hm
  have := h.e; have := g.e
  exact ⟨rfl, rfl, by omega⟩
end Go.Proofs.Ytlahdfmciaibdaa
