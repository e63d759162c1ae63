/- Apportion in general. -/
import Derived.Test.YtacliakmhkebbaaDoorAQ1
import Derived.Test.YtacliakmhkebbaaDoorST7
import Derived.Test.YtacliakmhkebbaaDoorU3
import Derived.OwnWalk
namespace Go.Proofs.YtacliakmhkebbaaDoor
open Go.RowKit Go.Proofs.YtacliakmhkebbaaDoor.Prs Go.Proofs.YtacliakmhkebbaaDoor.Stb
set_option linter.unusedVariables false
set_option linter.unusedSimpArgs false

theorem own_kept {w w' : World} {a b m c s n : Nat} {e : TypeId} {xs : List Value} (h : w.ownsRow a e s (.slice (some ⟨b, 0, none⟩) m c) n xs) (hb : w'.heap[b]? = w.heap[b]?) : w'.ownsRow a e s (.slice (some ⟨b, 0, none⟩) m c) n xs := by
  refine ⟨h.1, ?_⟩
  rcases h.2 with h0 | ⟨g, cap, cur, e1, h1, h2, r⟩
  · exact .inl h0
  · cases e1; exact .inr ⟨b, c, cur, rfl, h1, hb.trans h2, r⟩
theorem own_base {W : World} {a b : Nat} {e : TypeId} {s : Nat} {v : Value} {n : Nat} {xs : List Value} (hab : a ≤ b) (h : W.ownsRow b e s v n xs) : W.ownsRow a e s v n xs := by
  refine ⟨h.1, ?_⟩
  rcases h.2 with h0 | ⟨g, cap, cur, e1, hb, r⟩
  · exact .inl h0
  · exact .inr ⟨g, cap, cur, e1, Nat.le_trans hab hb, r⟩
theorem map_upd (K : Int → Value) (N : Nat) (f : Nat → Int) (k : Nat) (v : Int) : ((List.range N).map fun k => K (f k)).set k (K v) = (List.range N).map fun j => K (upd f k v j) := by
  apply List.ext_getElem
  · simp
  · intro i h1 h2
    simp only [List.getElem_set, List.getElem_map, List.getElem_range, upd]
    by_cases c : k = i
    · subst c; simp
    · rw [if_neg c, if_neg (fun e => c e.symm)]
/-- The memory while Apportion works: parts at p, remainders at r (their box at x), the order at o. -/
structure AW (p r x o N : Nat) (w wr : World) (fP fR fO : Nat → Int) : Prop where
  P : wr.ownsRow w.heap.size 3 1 (.slice (some ⟨p, 0, none⟩) N N) N ((List.range N).map fun k => .int .i64 (fP k))
  R : wr.ownsRow w.heap.size 59 1 (.slice (some ⟨r, 0, none⟩) N N) N ((List.range N).map fun k => .int .u64 (fR k))
  X : wr.cell? ⟨x, 0, none⟩ = some (.slice (some ⟨r, 0, none⟩) N N)
  O : wr.ownsRow w.heap.size 3 1 (.slice (some ⟨o, 0, none⟩) N N) N ((List.range N).map fun k => .int .i64 (fO k))
  B : Below w.heap.size w wr
  pw : w.heap.size ≤ p
  pr : p < r
  rx : r < x
  xo : x < o
section
variable {p r x o N : Nat} {w wr : World} {fP fR fO : Nat → Int}
theorem AW.setP (s : AW p r x o N w wr fP fR fO) (k : Nat) (v : Int) : AW p r x o N w (wr.setCell ⟨p, k, none⟩ (.int .i64 v)) (upd fP k v) fR fO := by
  have h1 := s.pw; have h2 := s.pr; have h3 := s.rx; have h4 := s.xo
  refine ⟨?_, own_kept s.R (Below.heap_setCell _ _ _ _ (by dsimp only; omega)), (World.cell?_of_block (w := wr) (a := ⟨x, 0, none⟩) (Below.heap_setCell _ _ _ _ (by dsimp only; omega))).trans s.X, own_kept s.O (Below.heap_setCell _ _ _ _ (by dsimp only; omega)), s.B.setCell h1 _, h1, h2, h3, h4⟩
  have := (s.P.stored k (.int .i64 v)).1
  rwa [map_upd (Value.int .i64)] at this
theorem AW.setR (s : AW p r x o N w wr fP fR fO) (k : Nat) (v : Int) : AW p r x o N w (wr.setCell ⟨r, k, none⟩ (.int .u64 v)) fP (upd fR k v) fO := by
  have h1 := s.pw; have h2 := s.pr; have h3 := s.rx; have h4 := s.xo
  refine ⟨own_kept s.P (Below.heap_setCell _ _ _ _ (by dsimp only; omega)), ?_, (World.cell?_of_block (w := wr) (a := ⟨x, 0, none⟩) (Below.heap_setCell _ _ _ _ (by dsimp only; omega))).trans s.X, own_kept s.O (Below.heap_setCell _ _ _ _ (by dsimp only; omega)), s.B.setCell (by dsimp only; omega) _, h1, h2, h3, h4⟩
  have := (s.R.stored k (.int .u64 v)).1
  rwa [map_upd (Value.int .u64)] at this
theorem AW.setO (s : AW p r x o N w wr fP fR fO) (k : Nat) (v : Int) : AW p r x o N w (wr.setCell ⟨o, k, none⟩ (.int .i64 v)) fP fR (upd fO k v) := by
  have h1 := s.pw; have h2 := s.pr; have h3 := s.rx; have h4 := s.xo
  refine ⟨own_kept s.P (Below.heap_setCell _ _ _ _ (by dsimp only; omega)), own_kept s.R (Below.heap_setCell _ _ _ _ (by dsimp only; omega)), (World.cell?_of_block (w := wr) (a := ⟨x, 0, none⟩) (Below.heap_setCell _ _ _ _ (by dsimp only; omega))).trans s.X, ?_, s.B.setCell (by dsimp only; omega) _, h1, h2, h3, h4⟩
  have := (s.O.stored k (.int .i64 v)).1
  rwa [map_upd (Value.int .i64)] at this
theorem AW.drewN (s : AW p r x o N w wr fP fR fO) (n : Nat) : AW p r x o N w (wr.drewN n) fP fR fO := ⟨s.P, s.R, by simpa using s.X, s.O, below_drewN s.B n, s.pw, s.pr, s.rx, s.xo⟩
theorem AW.ext (s : AW p r x o N w wr fP fR fO) {gP gR gO : Nat → Int} (h : ∀ k, k < N → fP k = gP k ∧ fR k = gR k ∧ fO k = gO k) : AW p r x o N w wr gP gR gO := by
  have e1 : ((List.range N).map fun k => Value.int .i64 (fP k)) = (List.range N).map fun k => Value.int .i64 (gP k) := List.map_congr_left fun k hk => by rw [(h k (List.mem_range.1 hk)).1]
  have e2 : ((List.range N).map fun k => Value.int .u64 (fR k)) = (List.range N).map fun k => Value.int .u64 (gR k) := List.map_congr_left fun k hk => by rw [(h k (List.mem_range.1 hk)).2.1]
  have e3 : ((List.range N).map fun k => Value.int .i64 (fO k)) = (List.range N).map fun k => Value.int .i64 (gO k) := List.map_congr_left fun k hk => by rw [(h k (List.mem_range.1 hk)).2.2]
  exact ⟨e1 ▸ s.P, e2 ▸ s.R, s.X, e3 ▸ s.O, s.B, s.pw, s.pr, s.rx, s.xo⟩
theorem AW.cP (s : AW p r x o N w wr fP fR fO) {k : Nat} (h : k < N) : wr.cell? ⟨p, k, none⟩ = some (.int .i64 (fP k)) := by rw [s.P.cellAt k (by omega)]; simp [h]
theorem AW.cR (s : AW p r x o N w wr fP fR fO) {k : Nat} (h : k < N) : wr.cell? ⟨r, k, none⟩ = some (.int .u64 (fR k)) := by rw [s.R.cellAt k (by omega)]; simp [h]
theorem AW.cO (s : AW p r x o N w wr fP fR fO) {k : Nat} (h : k < N) : wr.cell? ⟨o, k, none⟩ = some (.int .i64 (fO k)) := by rw [s.O.cellAt k (by omega)]; simp [h]
theorem AW.sw (s : AW p r x o N w wr fP fR fO) : SW o N N wr wr fO := ⟨own_base (Nat.zero_le _) s.O, Nat.le_refl _, fun _ _ _ => rfl, rfl, rfl, rfl⟩
theorem AW.lt (s : AW p r x o N w wr fP fR fO) : o < wr.heap.size := (s.O.lt _ rfl).2
theorem AW.sorted {wz : World} {gO : Nat → Int} (s : AW p r x o N w wr fP fR fO) (t : SW o N N wr wz gO) : AW p r x o N w wz fP fR gO := by
  have h1 := s.pw; have h2 := s.pr; have h3 := s.rx; have h4 := s.xo; have h5 := s.lt
  have rr : wz.ownsRow w.heap.size 3 1 (.slice (some ⟨o, 0, none⟩) N N) N ((List.range N).map fun k => .int .i64 (gO k)) := by
    refine ⟨t.row.1, ?_⟩
    rcases t.row.2 with h0 | ⟨g, cap, cur, e1, hb, q⟩
    · exact .inl h0
    · cases e1; exact .inr ⟨o, N, cur, rfl, by omega, q⟩
  exact ⟨own_kept s.P (t.bl p (by omega) (by omega)), own_kept s.R (t.bl r (by omega) (by omega)), (World.cell?_of_block (w := wr) (a := ⟨x, 0, none⟩) (t.bl x (by omega) (by omega))).trans s.X, rr,
    ⟨t.os.trans s.B.os, t.tp.trans s.B.tape, t.ou.trans s.B.output, Nat.le_trans s.B.size t.sz, fun k hk => (t.bl k (by omega) (Nat.lt_of_lt_of_le hk s.B.size)).trans (s.B.block k hk)⟩, h1, h2, h3, h4⟩
theorem AW.made (s : AW p r x o N w wr fP fR fO) : MadeI w wr p N ((List.range N).map fP) := by
  refine ⟨by simp, s.pw, ?_, s.B⟩
  rw [List.map_map]
  exact s.P
end
/-- What the comparison looks at. -/
def KpA (r x N : Nat) (fR : Nat → Int) (B : Nat) (w : World) : Prop := w.cell? ⟨x, 0, none⟩ = some (.slice (some ⟨r, 0, none⟩) N N) ∧ (∀ k, k < N → w.cell? ⟨r, k, none⟩ = some (.int .u64 (fR k))) ∧ x ≠ B ∧ r ≠ B
theorem KpA.keep {r x N : Nat} {fR : Nat → Int} {B : Nat} {u v : World} (bl : ∀ k, k ≠ B → k < u.heap.size → v.heap[k]? = u.heap[k]?) (h : KpA r x N fR B u) : KpA r x N fR B v := by
  obtain ⟨h1, h2, h3, h4⟩ := h
  exact ⟨(World.cell?_of_block (w := u) (a := ⟨x, 0, none⟩) (bl x h3 (World.block_lt_of_cell? u _ h1))).trans h1, fun k hk => (World.cell?_of_block (w := u) (a := ⟨r, k, none⟩) (bl r h4 (World.block_lt_of_cell? u _ (h2 k hk)))).trans (h2 k hk), h3, h4⟩
theorem below_of_drew {w w' : World} (h : ∃ q, w' = w.drewN q) : Below w.heap.size w w' := by obtain ⟨q, rfl⟩ := h; exact below_drewN (Below.refl _ _) q
theorem cmp_rem (fR : Nat → Int) (x y : Int) (h : x < y) : cmpV (fR x.toNat) (fR y.toNat) < 0 ↔ RemB fR y x := by
  unfold cmpV RemB
  repeat' split
  all_goals omega
theorem remB_tot (fR : Nat → Int) (V : Int → Prop) : Tot (RemB fR) V := by
  refine ⟨fun x y z _ _ _ a b => ?_, fun x y _ _ ne n => ?_⟩
  · unfold RemB at *; omega
  · unfold RemB at *; omega
set_option maxRecDepth 100000 in
theorem cmpA (r x N : Nat) (fR : Nat → Int) (B : Nat) (hN : N ≤ 1000) : Cmp 35 (.pointer (some ⟨x, 0, none⟩)) B (fun y => 0 ≤ y ∧ y < N) (RemB fR) (fun a b => cmpV (fR b.toNat) (fR a.toNat)) (KpA r x N fR B) :=
  ⟨fun a b w h ha hb => (less_any x r N N a b (fR a.toNat) (fR b.toNat) w ha.1 hb.1 ha.2 hb.2 hN h.1 (h.2.1 _ (by omega)) (h.2.1 _ (by omega))).mono fun e w' h => ⟨h.1, below_of_drew h.2⟩,
   fun a b _ _ h => cmp_rem fR a b h, fun A B _ bl h => h.keep bl, remB_tot fR _, fun args W => by rfl⟩
theorem AW.kp {p r x o N : Nat} {w wr : World} {fP fR fO : Nat → Int} (s : AW p r x o N w wr fP fR fO) : KpA r x N fR o wr := ⟨s.X, fun k hk => s.cR hk, by have := s.xo; omega, by have := s.rx; have := s.xo; omega⟩

/-- What Apportion returns. -/
def ApR (T : Int) (l : List Int) (w : World) (e : Ending) (w' : World) : Prop :=
  (∃ E, E ≠ 0 ∧ e = .returned (.tuple #[.slice none 0 0, .int .i64 E]) ∧ SumR T l 0 E ∧ Below w.heap.size w w') ∨
  (∃ b P, e = .returned (.tuple #[.slice (some ⟨b, 0, none⟩) l.length l.length, .int .i64 0]) ∧ MadeI w w' b l.length P ∧ Takes T l ∧ (l.sum = 0 → T = 0) ∧ (l.sum = 0 → P = List.replicate l.length 0) ∧ (0 < l.sum → ∃ o left, LR T l.sum l P o left))
end Go.Proofs.YtacliakmhkebbaaDoor
