/- Plain: the errors of the divisions under scaling; a division in order is fair. -/
import Derived.Test.YtacliakmhkebbaaDoorAQ3
import Derived.Test.YtacliakmhkebbaaDoorV3
namespace Go.Proofs.YtacliakmhkebbaaDoor
open Go.RowKit Go.Proofs.YtacliakmhkebbaaDoor.Prs
set_option linter.unusedVariables false
set_option linter.unusedSimpArgs false

theorem SumR.det {T : Int} {l : List Int} {S S' E E' : Int} (h : SumR T l S E) (h' : SumR T l S' E') : E = E' := by
  rcases h with ⟨a, b, c⟩ | ⟨a, b, c, d⟩ | ⟨a, b, c, d, e⟩ | ⟨a, b, c, d⟩ <;> rcases h' with ⟨a', b', c'⟩ | ⟨a', b', c', d'⟩ | ⟨a', b', c', d', e'⟩ | ⟨a', b', c', d'⟩
  · omega
  · omega
  · have := a'.1; omega
  · have := a'.1; omega
  · omega
  · omega
  · exfalso; rcases b with b | ⟨i, hi, b⟩
    · exact b a'.2.1
    · exact b (a'.2.2 i hi)
  · exfalso; rcases b with b | ⟨i, hi, b⟩
    · exact b a'.2.1
    · exact b (a'.2.2 i hi)
  · have := a.1; omega
  · exfalso; rcases b' with b' | ⟨i, hi, b'⟩
    · exact b' a.2.1
    · exact b' (a.2.2 i hi)
  · omega
  · have := b' b; omega
  · have := a.1; omega
  · exfalso; rcases b' with b' | ⟨i, hi, b'⟩
    · exact b' a.2.1
    · exact b' (a.2.2 i hi)
  · have := b b'; omega
  · omega
/-- Weights that may be. -/
def WOk (l : List Int) : Prop := l.length ≤ 256 ∧ ∀ i, i < l.length → 0 ≤ gd l i ∧ gd l i ≤ 1073741824
theorem SumR.like {T : Int} {l m : List Int} {S E k : Int} (hl : WOk l) (hm : WOk m) (hk : 0 < k) (hs : m.sum = l.sum * k) (h : SumR T l S E) : ∃ S', SumR T m S' E := by
  have z : m.sum = 0 → l.sum = 0 := fun e => by
    rw [hs] at e
    rcases Int.mul_eq_zero.1 e with e | e
    · exact e
    · omega
  rcases h with ⟨a, b, c⟩ | ⟨a, b, c, d⟩ | ⟨a, b, c, d, e⟩ | ⟨a, b, c, d⟩
  · have := hl.1; omega
  · refine ⟨0, .inr (.inl ⟨hm.1, .inl ?_, rfl, d⟩)⟩
    rcases b with b | ⟨i, hi, b⟩
    · exact b
    · exact absurd (hl.2 i hi) b
  · exact ⟨0, .inr (.inr (.inl ⟨⟨hm.1, a.2.1, hm.2⟩, by rw [hs, b]; simp, c, rfl, e⟩))⟩
  · exact ⟨m.sum, .inr (.inr (.inr ⟨⟨hm.1, a.2.1, hm.2⟩, fun e => b (z e), rfl, d⟩))⟩
theorem sum_map_mul (l : List Int) (k : Int) : (l.map (· * k)).sum = l.sum * k := by
  induction l with
  | nil => simp
  | cons x l ih => rw [List.map_cons, List.sum_cons, List.sum_cons, ih, Int.add_mul]
theorem WOk.mul {l : List Int} {k : Int} (hn : l.length ≤ 200) (h : ∀ i, i < l.length → 0 ≤ gd l i ∧ gd l i ≤ 21474836) (k0 : 0 < k) (k1 : k ≤ 50) : WOk (l.map (· * k)) ∧ WOk (l.map (· * k) ++ [0]) ∧ WOk l := by
  have b : ∀ i, i < l.length → 0 ≤ gd l i * k ∧ gd l i * k ≤ 1073741824 := fun i hi => by
    obtain ⟨x, y⟩ := h i hi
    have p := Int.mul_nonneg x (show 0 ≤ k by omega)
    have q1 : gd l i * k ≤ 21474836 * k := Int.mul_le_mul_of_nonneg_right y (by omega)
    omega
  refine ⟨⟨by simp; omega, fun i hi => ?_⟩, ⟨by simp; omega, fun i hi => ?_⟩, ⟨by omega, fun i hi => by have := h i hi; omega⟩⟩
  · rw [gd_mul]; exact b i (by simpa using hi)
  · by_cases c : i < l.length
    · rw [gd_app (by simpa using c), gd_mul]; exact b i c
    · have : gd (l.map (· * k) ++ [0]) i = 0 := by
        have e : i = l.length := by simp at hi; omega
        subst e
        unfold gd; rw [List.getElem?_append_right (by simp)]; simp
      omega
theorem sum_mul_zero (l : List Int) (k : Int) : (l.map (· * k) ++ [0]).sum = l.sum * k := by rw [List.sum_append, sum_map_mul]; simp
theorem Dn.okF {l P : List Int} (h : Dn l P) (hl : ∀ i, i < l.length → 0 ≤ gd l i) : OkF P l := fun i hi pp => by
  have pi : 0 < gd l i := by
    rcases Int.lt_or_le 0 (gd l i) with z | z
    · exact z
    · have := h.none i hi z; omega
  refine ⟨by omega, fun j hj pj => ?_⟩
  by_cases e : i = j
  · subst e
    have : (2 * gd P i - 1) * gd l i ≤ (2 * gd P i + 1) * gd l i := Int.mul_le_mul_of_nonneg_right (by omega) (by omega)
    omega
  · have := h.down i j hi hj pi pj pp e
    unfold Ahead at this
    omega

/-- What a division answers, either way. -/
structure DivQ (G : List Int → Prop) (T : Int) (l : List Int) (w : World) (v : Value) (E : Int) (w' : World) : Prop where
  err : ∃ S, SumR T l S E
  bel : Below w.heap.size w w'
  bad : E ≠ 0 → v = .slice none 0 0
  good : E = 0 → ∃ b P, v = .slice (some ⟨b, 0, none⟩) l.length l.length ∧ w.heap.size ≤ b ∧ RowA w' (some ⟨b, 0, none⟩) P ∧ P.length = l.length ∧ Takes T l ∧ G P
def DivE (G : List Int → Prop) (T : Int) (l : List Int) (w : World) (e : Ending) (w' : World) : Prop := ∃ v E, e = .returned (.tuple #[v, .int .i64 E]) ∧ DivQ G T l w v E w'
theorem MadeI.rowA {w wr : World} {b N : Nat} {O : List Int} (h : MadeI w wr b N O) : RowA wr (some ⟨b, 0, none⟩) O := fun i hi => ⟨⟨b, 0, none⟩, rfl, h.lt, by rw [add_zero_addr]; exact h.cell i hi⟩
/-- By largest remainders. -/
def GA (T : Int) (l P : List Int) : Prop := (l.sum = 0 → P = List.replicate l.length 0) ∧ (0 < l.sum → ∃ o left, LR T l.sum l P o left)
/-- By highest averages. -/
def GD (T : Int) (l P : List Int) : Prop := Dn l P ∧ P.sum = T
theorem Apportion_q (T : Int) (q : Option Addr) (c : Nat) (l : List Int) (w : World) (r : RowA w q l) (ln : l.length ≤ 1000000) :
    Calls Tryd.prog 10 #[.int .i64 T, .slice q l.length c] w (DivE (GA T l) T l w) := by
  refine (Apportion_any T q c l w r ln).mono fun e w' h => ?_
  rcases h with ⟨E, hE, rfl, S, hb⟩ | ⟨b, P, rfl, MP, TK, TZ, z, g⟩
  · exact ⟨_, E, rfl, ⟨⟨_, S⟩, hb, fun _ => rfl, fun e => absurd e hE⟩⟩
  · exact ⟨_, 0, rfl, ⟨⟨_, .inr (.inr (.inr ⟨TK, TZ, rfl, rfl⟩))⟩, MP.2.2.2, fun h => absurd rfl h, fun _ => ⟨b, P, rfl, MP.2.1, MP.rowA, MP.1, TK, z, g⟩⟩⟩
theorem Divide_q (T : Int) (q : Option Addr) (c : Nat) (l : List Int) (w : World) (r : RowA w q l) (ln : l.length ≤ 1000000) :
    Calls Tryd.prog 12 #[.int .i64 T, .slice q l.length c] w (DivE (GD T l) T l w) := by
  refine (Divide_any T q c l w r ln).mono fun e w' h => ?_
  rcases h with ⟨E, hE, rfl, S, hb⟩ | ⟨b, P, rfl, MP, TK, TZ, z, g⟩
  · exact ⟨_, E, rfl, ⟨⟨_, S⟩, hb, fun _ => rfl, fun e => absurd e hE⟩⟩
  · exact ⟨_, 0, rfl, ⟨⟨_, .inr (.inr (.inr ⟨TK, TZ, rfl, rfl⟩))⟩, MP.2.2.2, fun h => absurd rfl h, fun _ => ⟨b, P, rfl, MP.2.1, MP.rowA, MP.1, TK, z, g⟩⟩⟩
theorem GA.scaled {T k : Int} {l P P' : List Int} (hk : 0 < k) (hl : ∀ i, i < l.length → 0 ≤ gd l i) (h : GA T l P) (h' : GA T (l.map (· * k)) P') : P = P' := by
  have s0 : 0 ≤ l.sum := by
    have := sum_le_of (a := List.replicate l.length 0) (b := l) (by simp) (fun i hi => by rw [gd_zeros]; exact hl i (by simpa using hi))
    rw [sum_zeros] at this; omega
  have e := sum_map_mul l k
  rcases (by omega : l.sum = 0 ∨ 0 < l.sum) with z | z
  · rw [h.1 z, h'.1 (by rw [e, z]; simp)]; simp
  · obtain ⟨o, left, a⟩ := h.2 z
    obtain ⟨o', left', b⟩ := h'.2 (by rw [e]; exact Int.mul_pos z hk)
    rw [e] at b
    exact a.scaled hk b
theorem GD.scaled {T k : Int} {l P P' : List Int} (hk : 0 < k) (h : GD T l P) (h' : GD T (l.map (· * k) ++ [0]) P') : P'.take l.length = P ∧ gd P' l.length = 0 := by
  obtain ⟨a, b, c⟩ := h'.1.scaled hk
  exact ⟨a.uniq h.1 (by rw [c, h'.2, h.2]), b⟩
end Go.Proofs.YtacliakmhkebbaaDoor
