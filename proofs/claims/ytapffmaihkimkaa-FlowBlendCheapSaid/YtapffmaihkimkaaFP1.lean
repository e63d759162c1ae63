/- Flow, plain: what the search for a blend finds. -/
import Derived.Test.YtapffmaihkimkaaFP0
namespace Go.Proofs.Ytapffmaihkimkaa.Bl
set_option linter.unusedVariables false
set_option linter.unusedSimpArgs false

/-- A way to go on from ys with d parcels: what is taken of these, left in all. -/
def Way (ba : Nat → Int) : Nat → Int → Nat → List Int → Prop
  | 0, left, _, [] => left = 0
  | 0, _, _, _ :: _ => False
  | _ + 1, _, _, [] => False
  | d + 1, left, i, z :: zs => (0 ≤ z ∧ z ≤ left ∧ z ≤ ba i) ∧ Way ba d (left - z) (i + 1) zs
def Ok (mi : Nat → Int) (lo hi : Int) (ys : List Int) : Prop := lo ≤ dot mi 0 ys ∧ dot mi 0 ys ≤ hi
/-- The first is the greater where they part. -/
def Ahead : List Int → List Int → Prop
  | x :: xs, z :: zs => z < x ∨ (x = z ∧ Ahead xs zs)
  | _, _ => False
theorem ahead_head {x z : Int} {xs zs : List Int} (h : z < x) : Ahead (x :: xs) (z :: zs) := .inl h
theorem ahead_cons {y : Int} {xs zs : List Int} (h : Ahead xs zs) : Ahead (y :: xs) (y :: zs) := .inr ⟨rfl, h⟩
theorem ahead_app {xs zs : List Int} (h : Ahead xs zs) : ∀ ys : List Int, Ahead (ys ++ xs) (ys ++ zs)
  | [] => h
  | y :: ys => ahead_cons (ahead_app h ys)
/-- What a part of the search makes of the best so far. -/
structure Sp (ba mi pr : Nat → Int) (lo hi : Int) (C : List Int → Prop) (s r : Best) : Prop where
  from' : r = s ∨ ∃ zs, C zs ∧ Ok mi lo hi zs ∧ r = some (zs, dot pr 0 zs) ∧ ∀ b, s = some b → dot pr 0 zs < b.2
  all : ∀ zs, C zs → Ok mi lo hi zs → ∃ b, r = some b ∧ b.2 ≤ dot pr 0 zs
  first : ∀ xs c, r = some (xs, c) → r ≠ s → ∀ zs, C zs → Ok mi lo hi zs → dot pr 0 zs = c → xs = zs ∨ Ahead xs zs
section
variable {ba mi pr : Nat → Int} {lo hi : Int} {C D : List Int → Prop} {s t r : Best}
theorem Sp.less (h : Sp ba mi pr lo hi C s r) {b : List Int × Int} (e : s = some b) : ∃ b', r = some b' ∧ b'.2 ≤ b.2 ∧ (b'.2 = b.2 → b' = b) := by
  rcases h.from' with k | ⟨zs, h1, h2, h3, h4⟩
  · exact ⟨b, by rw [k, e], Int.le_refl _, fun _ => rfl⟩
  · have := h4 b e
    exact ⟨_, h3, by show dot pr 0 zs ≤ b.2; omega, fun e2 => by exfalso; have e3 : dot pr 0 zs = b.2 := e2; omega⟩
/-- One part behind the other: all of the first lie ahead of all of the second. -/
theorem Sp.then (h : Sp ba mi pr lo hi C s t) (k : Sp ba mi pr lo hi D t r) (ahead : ∀ xs zs, C xs → D zs → Ahead xs zs) : Sp ba mi pr lo hi (fun z => C z ∨ D z) s r := by
  refine ⟨?_, ?_, ?_⟩
  · rcases k.from' with e | ⟨zs, h1, h2, h3, h4⟩
    · rcases h.from' with e2 | ⟨zs, g1, g2, g3, g4⟩
      · exact .inl (by rw [e, e2])
      · exact .inr ⟨zs, .inl g1, g2, by rw [e, g3], g4⟩
    · refine .inr ⟨zs, .inr h1, h2, h3, fun b e => ?_⟩
      obtain ⟨b', e', l, _⟩ := h.less e
      have := h4 b' e'
      omega
  · intro zs hz ok
    rcases hz with hz | hz
    · obtain ⟨b, e, l⟩ := h.all zs hz ok
      obtain ⟨b', e', l', _⟩ := k.less e
      exact ⟨b', e', by omega⟩
    · exact k.all zs hz ok
  · intro xs c e ne zs hz ok hc
    by_cases q : r = t
    · -- found in the first part
      have ne' : t ≠ s := fun e' => ne (by rw [q, e'])
      rcases hz with hz | hz
      · exact h.first xs c (by rw [← q]; exact e) ne' zs hz ok hc
      · rcases h.from' with e2 | ⟨ws, g1, g2, g3, g4⟩
        · exact absurd e2 ne'
        · have e3 : some (xs, c) = some (ws, dot pr 0 ws) := by rw [← e, q, g3]
          injection e3 with e3
          injection e3 with e3 e4
          subst e3
          exact .inr (ahead _ _ g1 hz)
    · rcases hz with hz | hz
      · exfalso
        obtain ⟨b, e2, l⟩ := h.all zs hz ok
        obtain ⟨b', e', l', eq⟩ := k.less e2
        rw [e] at e'
        injection e' with e'
        subst e'
        have : c = b.2 := by have : c ≤ b.2 := l'; omega
        exact q (by rw [e, e2, eq this])
      · exact k.first xs c e q zs hz ok hc
theorem Sp.none_ (h : ∀ z, ¬ C z) (s : Best) : Sp ba mi pr lo hi C s s := ⟨.inl rfl, fun z hz => absurd hz (h z), fun xs c e ne => absurd rfl ne⟩
theorem Sp.congr (h : Sp ba mi pr lo hi C s r) (e : ∀ z, C z ↔ D z) : Sp ba mi pr lo hi D s r :=
  ⟨by rcases h.from' with k | ⟨zs, h1, h2⟩
      · exact .inl k
      · exact .inr ⟨zs, (e zs).1 h1, h2⟩, fun z hz => h.all z ((e z).2 hz), fun xs c e1 ne z hz => h.first xs c e1 ne z ((e z).2 hz)⟩
end
/-- A leaf. -/
theorem fin_sp {ba mi pr : Nat → Int} {lo hi left : Int} (ys : List Int) (s : Best) : Sp ba mi pr lo hi (fun z => z = ys ∧ left = 0) s (fin mi pr lo hi left ys s) := by
  by_cases c : left = 0 ∧ lo ≤ dot mi 0 ys ∧ dot mi 0 ys ≤ hi ∧ (∀ b, s = some b → dot pr 0 ys < b.2)
  · rw [fin_some c.1 c.2.1 c.2.2.1 c.2.2.2]
    refine ⟨.inr ⟨ys, ⟨rfl, c.1⟩, ⟨c.2.1, c.2.2.1⟩, rfl, c.2.2.2⟩, fun z hz _ => ⟨_, rfl, by rw [hz.1]; exact Int.le_refl _⟩, fun xs k e _ z hz _ _ => ?_⟩
    injection e with e
    injection e with e _
    exact .inl (by rw [← e, hz.1])
  · rw [fin_keep c]
    refine ⟨.inl rfl, fun z hz ok => ?_, fun xs k e ne => absurd rfl ne⟩
    obtain ⟨rfl, l0⟩ := hz
    apply Classical.byContradiction
    intro no
    apply c
    refine ⟨l0, ok.1, ok.2, fun b e => ?_⟩
    apply Classical.byContradiction
    intro g
    exact no ⟨b, e, by omega⟩
/-- All numbers down from k. -/
theorem down_sp {ba mi pr : Nat → Int} {lo hi : Int} {f : Nat → Best → Best} {C : Nat → List Int → Prop} (hf : ∀ j s, Sp ba mi pr lo hi (C j) s (f j s)) (ahead : ∀ i j, i < j → ∀ xs zs, C j xs → C i zs → Ahead xs zs) : ∀ (k : Nat) (s : Best), Sp ba mi pr lo hi (fun z => ∃ j, j ≤ k ∧ C j z) s (down f k s)
  | 0, s => (hf 0 s).congr fun z => ⟨fun h => ⟨0, Nat.le_refl _, h⟩, fun ⟨j, hj, h⟩ => by rwa [show j = 0 by omega] at h⟩
  | k + 1, s => by
    have h1 := hf (k + 1) s
    have h2 := down_sp hf ahead k (f (k + 1) s)
    refine (h1.then h2 (fun xs zs hx hz => ?_)).congr fun z => ⟨fun h => ?_, fun ⟨j, hj, h⟩ => ?_⟩
    · obtain ⟨j, hj, hz⟩ := hz
      exact ahead j (k + 1) (by omega) xs zs hx hz
    · rcases h with h | ⟨j, hj, h⟩
      · exact ⟨k + 1, Nat.le_refl _, h⟩
      · exact ⟨j, by omega, h⟩
    · by_cases e : j = k + 1
      · exact .inl (by rwa [e] at h)
      · exact .inr ⟨j, by omega, h⟩
theorem sea_sp {ba mi pr : Nat → Int} {lo hi : Int} (b0 : ∀ j, 0 ≤ ba j) : ∀ (d : Nat) (left : Int) (ys : List Int) (s : Best), 0 ≤ left → Sp ba mi pr lo hi (fun z => ∃ zs, z = ys ++ zs ∧ Way ba d left ys.length zs) s (sea ba mi pr lo hi d left ys s)
  | 0, left, ys, s, l0 => (fin_sp (left := left) ys s).congr fun z => ⟨fun h => ⟨[], by rw [h.1, List.append_nil], h.2⟩, fun ⟨zs, h1, h2⟩ => by
      cases zs with
      | nil => exact ⟨by rw [h1, List.append_nil], h2⟩
      | cons x xs => exact absurd h2 (by simp [Way])⟩
  | d + 1, left, ys, s, l0 => by
    have hf : ∀ (j : Nat) (s : Best), Sp ba mi pr lo hi (fun z => (j : Int) ≤ left ∧ ∃ zs, z = (ys ++ [(j : Int)]) ++ zs ∧ Way ba d (left - j) (ys ++ [(j : Int)]).length zs) s (if (j : Int) ≤ left then sea ba mi pr lo hi d (left - j) (ys ++ [(j : Int)]) s else s) := fun j s => by
      by_cases c : (j : Int) ≤ left
      · rw [if_pos c]
        exact (sea_sp b0 d (left - j) (ys ++ [(j : Int)]) s (by omega)).congr fun z => ⟨fun h => ⟨c, h⟩, fun h => h.2⟩
      · rw [if_neg c]
        exact Sp.none_ (fun z h => c h.1) s
    have hd := down_sp hf (fun i j ij xs zs hx hz => by
      obtain ⟨_, a, rfl, _⟩ := hx
      obtain ⟨_, b, rfl, _⟩ := hz
      rw [List.append_assoc, List.append_assoc]
      exact ahead_app (ahead_head (by omega)) ys) (min left (ba ys.length)).toNat s
    have e := down_congr (f := fun j s => if (j : Int) ≤ left then sea ba mi pr lo hi d (left - j) (ys ++ [(j : Int)]) s else s) (g := fun j s => sea ba mi pr lo hi d (left - j) (ys ++ [(j : Int)]) s) (k := (min left (ba ys.length)).toNat) (fun j hj s => if_pos (by omega)) s
    rw [e] at hd
    have bb := b0 ys.length
    refine hd.congr fun z => ⟨fun ⟨j, hj, c, zs, h1, h2⟩ => ⟨(j : Int) :: zs, by rw [h1, List.append_assoc]; rfl, ⟨⟨by omega, c, by omega⟩, by simpa using h2⟩⟩, fun ⟨zs, h1, h2⟩ => ?_⟩
    cases zs with
    | nil => exact absurd h2 (by simp [Way])
    | cons x xs =>
      obtain ⟨⟨x0, x1, x2⟩, h3⟩ := h2
      obtain ⟨j, rfl⟩ := Int.eq_ofNat_of_zero_le x0
      exact ⟨j, by omega, x1, xs, by rw [h1, List.append_assoc]; rfl, by simpa using h3⟩
end Go.Proofs.Ytapffmaihkimkaa.Bl
