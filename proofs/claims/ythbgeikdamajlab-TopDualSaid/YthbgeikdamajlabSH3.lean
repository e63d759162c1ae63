/- Press: there is an assignment; more room, more presses, one thing more; plain. -/
import Derived.Test.YthbgeikdamajlabSH2
namespace Go.Proofs.Ythbgeikdamajlab.Sea
open Go.Proofs.Ythbgeikdamajlab.Prs
set_option linter.unusedVariables false
set_option linter.unusedSimpArgs false

theorem getD_all {ts : List Int} {p : Int → Prop} (h : ∀ t ∈ ts, p t) {i : Nat} (hi : i < ts.length) : p (ts.getD i 0) := by
  have : ts.getD i 0 = ts[i] := by simp [hi]
  rw [this]; exact h _ (List.getElem_mem hi)
theorem share_ex {ts : List Int} {m : Nat} (h12 : ts.length ≤ 12) (ht : ∀ t ∈ ts, 1 ≤ t ∧ t ≤ 1073741824) (hm : 1 ≤ m) : ∃ E s', Ok m E ∧ fin addS ts (fun _ => 0) E = some s' ∧ mx s' m < 9223372036854775807 := by
  refine ⟨List.replicate ts.length 0, _, fun b hb => by have := (List.mem_replicate.1 hb).2; omega, fin_ldf (by simp) (fun t h => by have := ht t h; omega), ?_⟩
  have : mx (fun b => 0 + ldf (fun i => (List.replicate ts.length 0).getD i 0) (fun i => ts.getD i 0) ts.length b) m ≤ ts.length * 1073741824 := by
    rw [mx_le]
    refine ⟨by omega, fun b hb => ?_⟩
    have := sm_top (F := fun i => if (List.replicate ts.length 0).getD i 0 = b then ts.getD i 0 else 0) (B := 1073741824) (n := ts.length) (fun k hk => by
      have := getD_all ht hk
      split <;> omega) (by omega)
    show 0 + sm (fun i => if (List.replicate ts.length 0).getD i 0 = b then ts.getD i 0 else 0) ts.length ≤ _
    omega
  omega
theorem fin_fresh {most each : Int} (he : 1 ≤ each) : ∀ {ts : List Int} {s : Nat → Int × Int} {E : List Nat}, E.length = ts.length → E.Nodup → (∀ b ∈ E, s b = (0, 0)) → (∀ t ∈ ts, t ≤ most) → ∃ s', fin (addP most each) ts s E = some s'
  | [], s, [], _, _, _, _ => ⟨s, rfl⟩
  | [], s, b :: E, h, _, _, _ => by simp at h
  | t :: ts, s, [], h, _, _, _ => by simp at h
  | t :: ts, s, b :: E, h, nd, hs, ht => by
    have e : addP most each (s b) t = some (t, 1) := by
      rw [hs b (by simp)]
      unfold addP
      rw [if_pos ⟨by simp, by simp; omega, by have := ht t (by simp); simp; omega⟩]
      simp
    rw [List.nodup_cons] at nd
    obtain ⟨s', hs'⟩ := fin_fresh (ts := ts) (s := up s b (t, 1)) (E := E) he (by simpa using h) nd.2 (fun c hc => by rw [up_ne s _ (fun e => nd.1 (by rw [← e]; exact hc))]; exact hs c (List.mem_cons_of_mem _ hc)) (fun x hx => ht x (List.mem_cons_of_mem _ hx))
    exact ⟨s', by simp only [fin]; rw [e]; exact hs'⟩
theorem cnt_len {M : Nat} {most each : Int} : ∀ {ts : List Int} {s s' : Nat → Int × Int} {E : List Nat}, Ok M E → fin (addP most each) ts s E = some s' → cnt M s' ≤ cnt M s + ts.length
  | [], s, s', [], _, h => by simp [fin] at h; rw [h]; simp
  | [], s, s', b :: E, _, h => by simp [fin] at h
  | t :: ts, s, s', [], _, h => by simp [fin] at h
  | t :: ts, s, s', b :: E, ok, h => by
    simp only [fin] at h
    cases y : addP most each (s b) t with
    | none => rw [y] at h; cases h
    | some x =>
      rw [y] at h
      have a := cnt_len (fun c hc => ok c (List.mem_cons_of_mem _ hc)) h
      have b := cnt_more s x (ok b (by simp))
      simp only [List.length_cons]
      omega
theorem cnt_zero (M : Nat) : cnt M (fun _ => (0, 0)) = 0 := by
  have : ∀ m, sm (fun _ => if ((0 : Int), (0 : Int)).2 = 0 then (0 : Int) else 1) m = 0 := fun m => by
    induction m with
    | zero => rfl
    | succ m ih => rw [sm, ih]; rfl
  exact this M
theorem pack_ex {ts : List Int} {M : Nat} {most each : Int} (hM : ts.length ≤ M) (ht : ∀ t ∈ ts, t ≤ most) (he : 1 ≤ each) : ∃ E s', Ok M E ∧ fin (addP most each) ts (fun _ => (0, 0)) E = some s' ∧ cnt M s' < ts.length + 1 := by
  have ok : Ok M (List.range ts.length) := fun b hb => by have := List.mem_range.1 hb; omega
  obtain ⟨s', h⟩ := fin_fresh (most := most) (each := each) he (ts := ts) (s := fun _ => (0, 0)) (E := List.range ts.length) (by simp) List.nodup_range (fun _ _ => rfl) ht
  refine ⟨_, s', ok, h, ?_⟩
  have := cnt_len ok h
  rw [cnt_zero] at this
  omega
/-- The final state of Pack. -/
def Can (M : Nat) (s : Nat → Int × Int) : Prop := ∃ u, u ≤ M ∧ Cn s u
abbrev BestS (m : Nat) (ts : List Int) (L : Int) (E : List Nat) : Prop := Best addS (fun s => mx s m) (fun _ => True) m ts (fun _ => 0) L E
abbrev BestP (most each : Int) (M : Nat) (ts : List Int) (L : Int) (E : List Nat) : Prop := Best (addP most each) (cnt M) (Can M) M ts (fun _ => (0, 0)) L E
theorem addP_weak {most each most' each' : Int} (h1 : most ≤ most') (h2 : each ≤ each') : ∀ x t y, addP most each x t = some y → addP most' each' x t = some y := fun x t y h => by
  unfold addP at h ⊢
  split at h
  · next g => rw [if_pos ⟨g.1, by omega, by omega⟩]; exact h
  · cases h
/-- More room never needs more boxes. -/
theorem BestP.room {most each most' each' : Int} {M : Nat} {ts : List Int} {L L' : Int} {E E' : List Nat} (h : BestP most each M ts L E) (g : BestP most' each' M ts L' E') (h1 : most ≤ most') (h2 : each ≤ each') : L' ≤ L := by
  obtain ⟨s1, f1, v1, -⟩ := h.fin_
  have := g.low E s1 h.ok (fin_weak (addP_weak h1 h2) f1)
  omega
/-- One thing more never needs fewer boxes, and one box more at most. -/
theorem BestP.more {most each t : Int} {M : Nat} {ts : List Int} {L L' : Int} {E E' : List Nat} (h : BestP most each M ts L E) (g : BestP most each M (ts ++ [t]) L' E') (hM : ts.length < M) (ht : t ≤ most) (he : 1 ≤ each) : L ≤ L' ∧ L' ≤ L + 1 := by
  constructor
  · obtain ⟨s2, f2, v2, -⟩ := g.fin_
    obtain ⟨E1, b, s', y, rfl, f1, a, rfl⟩ := fin_snoc_inv f2
    have ok1 : Ok M E1 := fun c hc => g.ok c (by simp [hc])
    have := h.low E1 s' ok1 f1
    have := cnt_mono (M := M) s' b y t a (g.ok b (by simp))
    omega
  · obtain ⟨s1, f1, v1, u, hu, cn⟩ := h.fin_
    have l := cnt_len h.ok f1
    rw [cnt_zero, cn.cnt hu] at l
    have hb : u < M := by omega
    have e : addP most each (s1 u) t = some (t, 1) := by
      rw [cn.hi u (Nat.le_refl u)]
      unfold addP
      rw [if_pos ⟨by simp, by simp; omega, by simp; omega⟩]
      simp
    have f2 : fin (addP most each) (ts ++ [t]) (fun _ => (0, 0)) (E ++ [u]) = some (up s1 u (t, 1)) := by
      rw [fin_snoc _ _ (fin_len f1), f1]
      simp only [Option.bind_some, e, Option.map_some]
    have := g.low (E ++ [u]) _ (fun c hc => by
      rcases List.mem_append.1 hc with hc | hc
      · exact h.ok c hc
      · simp at hc; omega) f2
    have := cnt_more s1 (t, 1) hb
    omega
/-- One press more never finishes later. -/
theorem BestS.press {m : Nat} {ts : List Int} {L L' : Int} {E E' : List Nat} (ht : ∀ t ∈ ts, 1 ≤ t ∧ t ≤ 1073741824) (h : BestS m ts L E) (g : BestS (m + 1) ts L' E') : L' ≤ L := by
  obtain ⟨s1, f1, v1, -⟩ := h.fin_
  have := g.low E s1 (fun b hb => Nat.lt_succ_of_lt (h.ok b hb)) f1
  have f2 := fin_ldf (s := fun _ => 0) (fin_len f1) (fun t k => by have := ht t k; omega)
  rw [f1] at f2
  have f2 := Option.some.inj f2
  have z : s1 m = 0 := by
    rw [f2]
    have le : ldf (fun i => E.getD i 0) (fun i => ts.getD i 0) ts.length m = 0 := by
      have : ∀ k, k ≤ ts.length → ldf (fun i => E.getD i 0) (fun i => ts.getD i 0) k m = 0 := fun k => by
        induction k with
        | zero => intro _; rfl
        | succ k ih =>
          intro hk
          rw [ldf_succ, ih (by omega), if_neg]
          · rfl
          · have hE : k < E.length := by rw [fin_len f1]; omega
            have := h.ok (E.getD k 0) (by simp [hE])
            omega
      exact this _ (Nat.le_refl _)
    show 0 + ldf (fun i => E.getD i 0) (fun i => ts.getD i 0) ts.length m = 0
    rw [le]; rfl
  have n0 := mx_nonneg s1 m
  have : mx s1 (m + 1) = max (mx s1 m) (s1 m) := rfl
  omega
end Go.Proofs.Ythbgeikdamajlab.Sea
