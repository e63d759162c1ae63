/- Classing: what merging says. Plain facts; histograms in blocks. -/
import Derived.Test.YthbgeikdamajlaaHA4
import Derived.Test.YthbgeikdamajlaaHA5
namespace Go.Proofs.Ythbgeikdamajlaa
open Go.RowKit
set_option linter.unusedVariables false
set_option linter.unusedSimpArgs false

theorem mrg_comm {A B X Y : Nat → Int} {x y : Int} (h : MrgQ A B X x) (g : MrgQ B A Y y) : x = y ∧ hC X = hC Y := by
  rcases h with ⟨h1, h2, h3⟩ | ⟨h1, h2, h3, h4, h5⟩ | ⟨h1, h2, h3, h4, h5⟩ <;> rcases g with ⟨g1, g2, g3⟩ | ⟨g1, g2, g3, g4, g5⟩ | ⟨g1, g2, g3, g4, g5⟩
  · exact ⟨by omega, hC_ext fun k _ => by rw [h3, g3]⟩
  · exact absurd ⟨g2, g1⟩ h1
  · exact absurd ⟨g2, g1⟩ h1
  · exact absurd ⟨h2, h1⟩ g1
  · exact ⟨by omega, hC_ext fun k _ => by rw [h5, g5]⟩
  · omega
  · exact absurd ⟨h2, h1⟩ g1
  · omega
  · exact ⟨by omega, hC_ext fun k hk => by rw [h5 k hk, g5 k hk]; omega⟩
theorem MrgQ.good {A B X : Nat → Int} (h : MrgQ A B X 0) : HOk A 64 ∧ HOk B 64 ∧ hsum A 64 + hsum B 64 ≤ 1048576 ∧ (∀ k, k < 64 → X k = A k + B k) ∧ HOk X 64 ∧ hsum X 64 = hsum A 64 + hsum B 64 := by
  rcases h with ⟨h1, h2, h3⟩ | ⟨h1, h2, h3, h4, h5⟩ | ⟨h1, h2, h3, h4, h5⟩
  · omega
  · omega
  · have e : hsum X 64 = hsum A 64 + hsum B 64 := by rw [← hsum_add]; exact hsum_congr h5
    exact ⟨h1, h2, h3, h5, ⟨fun j hj => by rw [h5 j hj]; have := h1.1 j hj; have := h2.1 j hj; omega, by omega⟩, e⟩
theorem MrgQ.bad {A B X : Nat → Int} {x : Int} (h : MrgQ A B X x) (x0 : x ≠ 0) : hC X = hC (fun _ => 0) := by
  rcases h with ⟨h1, h2, h3⟩ | ⟨h1, h2, h3, h4, h5⟩ | ⟨h1, h2, h3, h4, h5⟩
  · exact hC_ext fun k _ => h3 k
  · exact hC_ext fun k _ => h5 k
  · exact absurd h4 x0
theorem MrgQ.zero {A B X : Nat → Int} {x : Int} (h : MrgQ A B X x) (a : HOk A 64) (b : HOk B 64) (c : hsum A 64 + hsum B 64 ≤ 1048576) : x = 0 := by
  rcases h with ⟨h1, h2, h3⟩ | ⟨h1, h2, h3, h4, h5⟩ | ⟨h1, h2, h3, h4, h5⟩
  · exact absurd ⟨a, b⟩ h1
  · omega
  · exact h4
theorem mrg_assoc {A B C X L Y R : Nat → Int} {y z : Int} (h : MrgQ A B X 0) (l : MrgQ X C L 0) (b : MrgQ B C Y y) (r : MrgQ A Y R z) : y = 0 ∧ z = 0 ∧ hC L = hC R := by
  obtain ⟨a1, a2, a3, a4, a5, a6⟩ := h.good
  obtain ⟨l1, l2, l3, l4, l5, l6⟩ := l.good
  have n1 := hsum_nonneg a1
  obtain rfl := b.zero a2 l2 (by omega)
  obtain ⟨b1, b2, b3, b4, b5, b6⟩ := b.good
  obtain rfl := r.zero a1 b5 (by omega)
  obtain ⟨r1, r2, r3, r4, r5, r6⟩ := r.good
  exact ⟨rfl, rfl, hC_ext fun k hk => by rw [l4 k hk, r4 k hk, a4 k hk, b4 k hk]; omega⟩
theorem hmom_add {A B X : Nat → Int} (h : ∀ k, k < 64 → X k = A k + B k) : hmom X 64 = hmom A 64 + hmom B 64 := by
  unfold hmom
  rw [← hsum_add]
  exact hsum_congr fun j hj => by rw [h j hj, Int.add_mul]
theorem tot_says {A B X : Nat → Int} {n m s a b c : Int} (h : MrgQ A B X 0) (p : TotQ A n a) (q : TotQ B m b) (r : TotQ X s c) : a = 0 ∧ b = 0 ∧ c = 0 ∧ s = n + m ∧ s = hsum X 64 := by
  obtain ⟨a1, a2, a3, a4, a5, a6⟩ := h.good
  rcases p with ⟨_, p1, p2⟩ | ⟨p1, _⟩
  · rcases q with ⟨_, q1, q2⟩ | ⟨q1, _⟩
    · rcases r with ⟨_, r1, r2⟩ | ⟨r1, _⟩
      · exact ⟨p1, q1, r1, by omega, r2⟩
      · exact absurd a5 r1
    · exact absurd a2 q1
  · exact absurd a1 p1
theorem mic_says {A B X : Nat → Int} {x y z a b c : Int} (h : MrgQ A B X 0) (p : MicQ A x a) (q : MicQ B y b) (r : MicQ X z c) : (¬ (a = 0 ∧ b = 0) → (c = 0 ↔ 0 < hsum X 64)) ∧ (a = 0 → b = 0 → c = 0 ∧ min x y ≤ z ∧ z ≤ max x y) := by
  obtain ⟨a1, a2, a3, a4, a5, a6⟩ := h.good
  have n0 := hsum_nonneg a5
  refine ⟨fun _ => ?_, fun a0 b0 => ?_⟩
  · rcases r with ⟨r1, _⟩ | ⟨_, r1, r2, _⟩ | ⟨_, r1, r2, _⟩
    · exact absurd a5 r1
    · constructor <;> intro <;> omega
    · exact ⟨fun _ => r1, fun _ => r2⟩
  · have pa : 0 < hsum A 64 ∧ x = hev (hmom A 64 * 100) (hsum A 64) := by
      rcases p with ⟨p1, _⟩ | ⟨_, _, p2, _⟩ | ⟨_, p1, _, p2⟩
      · exact absurd a1 p1
      · omega
      · exact ⟨p1, p2⟩
    have qa : 0 < hsum B 64 ∧ y = hev (hmom B 64 * 100) (hsum B 64) := by
      rcases q with ⟨p1, _⟩ | ⟨_, _, p2, _⟩ | ⟨_, p1, _, p2⟩
      · exact absurd a2 p1
      · omega
      · exact ⟨p1, p2⟩
    have hb := hev_between (p := hmom A 64 * 100) (q := hmom B 64 * 100) pa.1 qa.1
    rw [← Int.add_mul, ← hmom_add a4, ← a6, ← pa.2, ← qa.2] at hb
    rcases r with ⟨r1, _⟩ | ⟨_, r1, r2, _⟩ | ⟨_, r1, r2, r3⟩
    · exact absurd a5 r1
    · omega
    · exact ⟨r2, by rw [r3]; exact hb.1, by rw [r3]; exact hb.2⟩
theorem HB.below {W W' : World} {g : Nat} {H : Nat → Int} (h : HB W g H) (b : Below W.heap.size W W') : HB W' g H := h.keep (b.block _ h.lt)
/-- A histogram in a new block. -/
theorem new_row (W : World) (X : Nat → Int) : HB ((W.alloc (Obj.cells (hC (fun _ => 0)) 23)).setRow W.heap.size (hC X)) W.heap.size X ∧ Below W.heap.size W ((W.alloc (Obj.cells (hC (fun _ => 0)) 23)).setRow W.heap.size (hC X)) := by
  have h0 : HB (W.alloc (Obj.cells (hC (fun _ => 0)) 23)) W.heap.size (fun _ => 0) := heap_alloc_new W _
  exact ⟨h0.row X, ((Below.refl _ W).alloc (Nat.le_refl _) _).trans (hb_setRow h0.lt (Nat.le_refl _) _)⟩
/-- A load of a whole histogram under a guard that is met. -/
theorem wpList_load_want {ops : Array Oper} {rest : List Oper} {o : Oper} {a : Act} {w : World} {Q : Exit → Act → World → Prop} (hw : Region.wanted o (yielded ops a.tmps) = true) (x : Operand) (ho : o.op = .load 23 x)
    (g : Nat) (H : Nat → Int) (hx : a.eval x = .pointer (some ⟨g, 0, none⟩)) (hg : HB w g H)
    (h : wpList Try.prog ops Q rest (a.put o.dst (hV H)) w) : wpList Try.prog ops Q (o :: rest) a w :=
  BigFrame.wpList_want hw fun _ hK => wp_load_row 23 x ho g hx 23 (hC H) (0, 0) _ hg Try.underlying23 rfl (histSize' H) (hK _ _ h)
end Go.Proofs.Ythbgeikdamajlaa
