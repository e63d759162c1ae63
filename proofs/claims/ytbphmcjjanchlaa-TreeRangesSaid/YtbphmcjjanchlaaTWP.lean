/- Plain: ranges cut at a key. -/
import Derived.Test.YtbphmcjjanchlaaTWK
namespace Go.Proofs.Ytbphmcjjanchlaa
open Go.RowKit Go.Proofs.Ytbphmcjjanchlaa.Mii
set_option linter.unusedVariables false
set_option linter.unusedSimpArgs false

theorem rng_mem {t r : List (Int × Value)} {x y : Int} (h : RngT t r x y) {a : Int × Value} (ha : a ∈ r) : x ≤ a.1 ∧ a.1 < y := by
  have h1 : val r a.1 ≠ none := val_in.2 ⟨a, ha, rfl⟩
  rw [h.v] at h1
  by_cases c : ¬ KO.lt a.1 x ∧ KO.lt a.1 y
  · exact ⟨Int.not_lt.1 c.1, c.2⟩
  · rw [if_neg c] at h1; exact absurd rfl h1
theorem rng_cut {t r1 r2 : List (Int × Value)} {x m y : Int} (h1 : RngT t r1 x m) (h2 : RngT t r2 m y) : Asc (r1 ++ r2) :=
  asc_append.2 ⟨h1.asc, h2.asc, fun a ha b hb => Int.lt_of_lt_of_le (rng_mem h1 ha).2 (rng_mem h2 hb).1⟩
theorem rng_join {t r0 r1 r2 : List (Int × Value)} {x m y : Int} (h0 : RngT t r0 x y) (h1 : RngT t r1 x m) (h2 : RngT t r2 m y) (xm : x ≤ m) (my : m ≤ y) : r1 ++ r2 = r0 :=
  asc_ext (rng_cut h1 h2) h0.asc fun q => by
    rw [val_append, h0.v, h1.v, h2.v]
    simp only [KO.lt]
    by_cases c1 : x ≤ q <;> by_cases c2 : q < m <;> by_cases c3 : q < y
    all_goals first
      | omega
      | (have e1 : ¬ q < x := by omega
         have e2 : ¬ q < m ↔ m ≤ q := by omega
         simp [c1, c2, c3, e1]; done)
      | (have e1 : q < x := by omega
         simp [c1, c2, c3, e1]; try omega)
theorem rng_filT {t r : List (Int × Value)} {x y : Int} (ht : Asc t) (h : RngT t r x y) : r = filL (pRng x y) t :=
  asc_ext h.asc (filL_asc ht) fun q => by
    rw [h.v, filL_val]; unfold pRng; by_cases c : x ≤ q <;> by_cases d : q < y <;> simp [KO.lt, c, d]
theorem rng_len {t r : List (Int × Value)} {x y : Int} (ht : Asc t) (h : RngT t r x y) (xy : x ≤ y) : (r.length : Int) = (rnk t y : Int) - (rnk t x : Int) := by
  rw [rng_filT ht h]
  unfold rnk filL
  clear h ht
  induction t with
  | nil => simp
  | cons a s ih =>
    simp only [List.filter_cons, List.countP_cons, pRng]
    simp only [pRng, KO.lt] at ih
    rcases Int.lt_or_le a.1 x with c | c
    · have c2 : ¬ x ≤ a.1 := by omega
      have d : a.1 < y := by omega
      simp [KO.lt, c, c2, d] at ih ⊢
      omega
    · have c2 : ¬ a.1 < x := by omega
      by_cases d : a.1 < y
      · simp [KO.lt, c, c2, d] at ih ⊢
        omega
      · simp [KO.lt, c, c2, d] at ih ⊢
        omega
theorem rng_none' {t r : List (Int × Value)} {x y : Int} (h : RngT t r y x) (xy : x ≤ y) : r = [] := by
  cases r with
  | nil => rfl
  | cons a s => have := rng_mem h List.mem_cons_self; omega
theorem rng_enc {L : List (Int × Int)} {r : List (Int × Value)} {x y : Int} (hL : Asc L) (h : RngT (encL L) r x y) : r = encL (filL (pRng x y) L) :=
  enc_eq h.asc (filL_asc hL) fun q => by rw [h.v, filL_val, enc_val]; unfold pRng; by_cases c : x ≤ q <;> by_cases d : q < y <;> simp [KO.lt, c, d]
end Go.Proofs.Ytbphmcjjanchlaa
