/- Flow: arcs and numbers in memory; what the laws of flow copy and compare. -/
import Derived.Test.YtapffmaihkimkaaFN0
import Derived.BigRegion
import Derived.Deep.Cut
import Derived.Deep.CutRange
import Derived.Deep.RegionHeld3
import Derived.Deep.RegionLaw
import Derived.Deep.AppendLies
import Derived.Laws.MakeOwn
import Derived.Laws.CopyOwn
namespace Go.Proofs.Ytapffmaihkimkaa
open Go.RowKit
set_option linter.unusedVariables false
set_option linter.unusedSimpArgs false

theorem hwI {x : Int} (h1 : -9223372036854775808 ≤ x) (h2 : x ≤ 9223372036854775807) : IntKind.i64.wrap x = x := IntWalk.i64_in _ ⟨h1, h2⟩
def upd (f : Nat → Int) (k : Nat) (v : Int) : Nat → Int := fun j => if j = k then v else f j
theorem addB (x : Addr) (i : Nat) : (x.add i).block = x.block := by unfold Addr.add; split <;> rfl
theorem add0 (b i : Nat) : (⟨b, 0, none⟩ : Addr).add i = ⟨b, i, none⟩ := by unfold Addr.add; split <;> simp_all
theorem cellDr {W : World} {a : Addr} {x : Value} (h : W.cell? a = some x) : W.drew.cell? a = some x := h
theorem intInfo : (Try.prog.info? 3).map (fun i => (i.zero, i.size, i.bytes)) = some (some (.int .i64 0), 1, 8) := by kernel_rfl
theorem arcInfo : (Try.prog.info? 34).map (fun i => (i.zero, i.size, i.bytes)) = some (some (.agg #[.int .i64 0, .int .i64 0, .int .i64 0, .int .i64 0]), 4, 32) := by kernel_rfl
theorem made_ints (n : Nat) : (madeCells (Value.int .i64 0).cells (n * 1)).toList = (List.range n).map fun k => Value.int .i64 ((fun _ => 0) k) := by
  rw [Nat.mul_one, show (Value.int .i64 0).cells = #[.int .i64 0] from rfl, toList_madeCells_one]
  apply List.ext_getElem <;> simp
/-- A row of numbers that is a block whole. -/
def IR (W : World) (g : Nat) (t : TypeId) (n : Nat) (f : Nat → Int) : Prop := W.heap[g]? = some (.cells ((List.range n).map fun k => Value.int .i64 (f k)).toArray t (0, 0))
/-- A box. -/
def BX (W : World) (b : Nat) (t : TypeId) (v : Value) : Prop := W.heap[b]? = some (.cells #[v] t (0, 0))
section
variable {W W' : World} {g b n : Nat} {t : TypeId} {f : Nat → Int} {v : Value}
theorem IR.cell (h : IR W g t n f) {k : Nat} (hk : k < n) : W.cell? ⟨g, k, none⟩ = some (.int .i64 (f k)) := by
  unfold IR at h
  simp [World.cell?, h, hk]
theorem IR.frozen (h : IR W g t n f) (k : Nat) : W.frozen? ⟨g, k, none⟩ = false := by
  unfold IR at h
  simp [World.frozen?, h]
theorem IR.lt (h : IR W g t n f) : g < W.heap.size := (Array.getElem?_eq_some_iff.1 h).1
theorem IR.ext {f' : Nat → Int} (h : IR W g t n f) (e : ∀ k, k < n → f k = f' k) : IR W g t n f' := by
  have e : ((List.range n).map fun k => Value.int .i64 (f k)) = (List.range n).map fun k => Value.int .i64 (f' k) := List.map_congr_left fun k hk => by rw [e k (List.mem_range.1 hk)]
  unfold IR at *
  rw [← e]; exact h
theorem IR.set (h : IR W g t n f) (k : Nat) (x : Int) : IR (W.setCell ⟨g, k, none⟩ (.int .i64 x)) g t n (upd f k x) := by
  have := heap_setCell_same W g k _ t (.int .i64 x) h
  unfold IR
  rw [this]
  congr 2
  apply Array.ext'
  simp only [Array.toList_setIfInBounds]
  apply List.ext_getElem
  · simp
  · intro i h1 h2
    simp only [List.getElem_set, List.getElem_map, List.getElem_range, upd]
    by_cases c : k = i
    · subst c; simp
    · rw [if_neg c, if_neg (fun e => c e.symm)]
theorem IR.keep (h : IR W g t n f) (e : W'.heap[g]? = W.heap[g]?) : IR W' g t n f := e.trans h
theorem BX.cell (h : BX W b t v) : W.cell? ⟨b, 0, none⟩ = some v := by
  unfold BX at h
  simp [World.cell?, h]
theorem BX.frozen (h : BX W b t v) : W.frozen? ⟨b, 0, none⟩ = false := by
  unfold BX at h
  simp [World.frozen?, h]
theorem BX.lt (h : BX W b t v) : b < W.heap.size := (Array.getElem?_eq_some_iff.1 h).1
theorem BX.keep (h : BX W b t v) (e : W'.heap[b]? = W.heap[b]?) : BX W' b t v := e.trans h
theorem BX.set (h : BX W b t v) (u : Value) : BX (W.setCell ⟨b, 0, none⟩ u) b t u := by
  have := heap_setCell_same W b 0 _ t u h
  unfold BX
  rw [this]; rfl
theorem IR.of (h : W.ownsRow b t 1 (.slice (some ⟨g, 0, none⟩) n n) n ((List.range n).map fun k => .int .i64 (f k))) : IR W g t n f := by
  rcases h.2 with ⟨e, _⟩ | ⟨g', cap, cur, e, _, hg, hn, _, hs, ht⟩
  · cases e
  · simp at e
    obtain ⟨rfl, rfl⟩ := e
    unfold IR
    rw [hg]
    congr 2
    apply Array.ext'
    rw [← ht]
    simp only [Nat.mul_one] at hs ⊢
    rw [List.take_of_length_le (by simp [hs])]
end
/-- All blocks but some are as they were. -/
structure Fm (M : Nat → Prop) (w w' : World) : Prop where
  os : w'.os = w.os
  tape : w'.tape = w.tape
  output : w'.output = w.output
  size : w.heap.size ≤ w'.heap.size
  block : ∀ k, k < w.heap.size → ¬ M k → w'.heap[k]? = w.heap[k]?
theorem Fm.refl (M : Nat → Prop) (w : World) : Fm M w w := ⟨rfl, rfl, rfl, Nat.le_refl _, fun _ _ _ => rfl⟩
theorem Fm.trans {M : Nat → Prop} {a b c : World} (h : Fm M a b) (k : Fm M b c) : Fm M a c :=
  ⟨k.os.trans h.os, k.tape.trans h.tape, k.output.trans h.output, Nat.le_trans h.size k.size, fun q hq hm => (k.block q (Nat.lt_of_lt_of_le hq h.size) hm).trans (h.block q hq hm)⟩
theorem Fm.call {M : Nat → Prop} {w w' : World} (h : Below w.heap.size w w') : Fm M w w' := ⟨h.os, h.tape, h.output, h.size, fun k hk _ => h.block k hk⟩
theorem Fm.set {M : Nat → Prop} {w : World} (a : Addr) (v : Value) (h : M a.block) : Fm M w (w.setCell a v) :=
  ⟨rfl, rfl, rfl, by simp [World.setCell], fun k hk hm => by rw [Below.heap_setCell _ _ _ _ (fun e => hm (by rw [e]; exact h))]⟩
theorem Fm.setRow {M : Nat → Prop} {w : World} (g : Nat) (cs : Array Value) (h : M g) : Fm M w (w.setRow g cs) :=
  ⟨rfl, rfl, rfl, by simp [World.setRow], fun k hk hm => setRow_other w g k cs (fun e => hm (by rw [e]; exact h))⟩
theorem own_ltF {w : World} {base : Nat} {e : TypeId} {s : Nat} {v : Value} {n : Nat} {xs : List Value} (h : w.ownsRow base e s v n xs) : ∀ k, v.ownBlock = some k → base ≤ k := fun k ek => (World.ownsRow.lt h k ek).1
theorem own_belowF {w w' : World} {base : Nat} {e : TypeId} {s : Nat} {v : Value} {n : Nat} {xs : List Value} (h : w.ownsRow base e s v n xs) (hb : Below w.heap.size w w') : w'.ownsRow base e s v n xs := by
  refine ⟨h.1, ?_⟩
  rcases h.2 with h0 | ⟨g, cap, cur, rfl, hbg, hg, r⟩
  · exact .inl h0
  · exact .inr ⟨g, cap, cur, rfl, hbg, by rw [hb.block g (by have := (Array.getElem?_eq_some_iff.1 hg).1; exact this)]; exact hg, r⟩


/-- The slice, wherever it lies, reads as these numbers. -/
def NmR (w : World) (p : Option Addr) (n : Nat) (M : Nat → Int) : Prop := ∀ i, i < n → ∃ x : Addr, p = some x ∧ x.block < w.heap.size ∧ w.cell? (x.add i) = some (.int .i64 (M i))
theorem NmR.below {w w' : World} {p : Option Addr} {n : Nat} {M : Nat → Int} (r : NmR w p n M) (hb : Below w.heap.size w w') : NmR w' p n M := fun i h => by
  obtain ⟨x, e, k, c⟩ := r i h
  exact ⟨x, e, Nat.lt_of_lt_of_le k hb.size, by rw [hb.cell (p := x.add i) (by rw [addB]; exact k)]; exact c⟩
theorem IR.nm {W : World} {g n m : Nat} {t : TypeId} {f : Nat → Int} (h : IR W g t n f) (hm : m ≤ n) : NmR W (some ⟨g, 0, none⟩) m f := fun i hi => by
  refine ⟨⟨g, 0, none⟩, rfl, h.lt, ?_⟩
  rw [add0]; exact h.cell (by omega)
/-- An arc. -/
structure Ar where
  fr : Int
  to' : Int
  cap : Int
  cost : Int
structure ArAt (w : World) (x : Addr) (r : Ar) : Prop where
  blk : x.block < w.heap.size
  c0 : w.cell? x = some (.int .i64 r.fr)
  c1 : w.cell? ⟨x.block, x.off + 1, none⟩ = some (.int .i64 r.to')
  c2 : w.cell? ⟨x.block, x.off + 2, none⟩ = some (.int .i64 r.cap)
  c3 : w.cell? ⟨x.block, x.off + 3, none⟩ = some (.int .i64 r.cost)
theorem ArAt.below {w w' : World} {x : Addr} {r : Ar} (h : ArAt w x r) (hb : Below w.heap.size w w') : ArAt w' x r :=
  ⟨Nat.lt_of_lt_of_le h.blk hb.size, (hb.cell (p := x) h.blk).trans h.c0, (hb.cell (p := ⟨x.block, x.off + 1, none⟩) h.blk).trans h.c1, (hb.cell (p := ⟨x.block, x.off + 2, none⟩) h.blk).trans h.c2, (hb.cell (p := ⟨x.block, x.off + 3, none⟩) h.blk).trans h.c3⟩
/-- .. as these arcs. -/
def ArcR (w : World) (p : Option Addr) (n : Nat) (A : Nat → Ar) : Prop := ∀ i, i < n → ∃ x : Addr, p = some x ∧ ArAt w (x.add (i * 4)) (A i)
theorem ArcR.below {w w' : World} {p : Option Addr} {n : Nat} {A : Nat → Ar} (h : ArcR w p n A) (hb : Below w.heap.size w w') : ArcR w' p n A := fun i hi => by
  obtain ⟨x, e, k⟩ := h i hi
  exact ⟨x, e, k.below hb⟩
/-- A row's cells. -/
def flA (A : Nat → Ar) (j : Nat) : Int := if j % 4 = 0 then (A (j / 4)).fr else if j % 4 = 1 then (A (j / 4)).to' else if j % 4 = 2 then (A (j / 4)).cap else (A (j / 4)).cost
theorem flA_0 (A : Nat → Ar) (i : Nat) : flA A (i * 4) = (A i).fr := by unfold flA; rw [if_pos (by omega), show i * 4 / 4 = i by omega]
theorem flA_1 (A : Nat → Ar) (i : Nat) : flA A (i * 4 + 1) = (A i).to' := by unfold flA; rw [if_neg (by omega), if_pos (by omega), show (i * 4 + 1) / 4 = i by omega]
theorem flA_2 (A : Nat → Ar) (i : Nat) : flA A (i * 4 + 2) = (A i).cap := by unfold flA; rw [if_neg (by omega), if_neg (by omega), if_pos (by omega), show (i * 4 + 2) / 4 = i by omega]
theorem flA_3 (A : Nat → Ar) (i : Nat) : flA A (i * 4 + 3) = (A i).cost := by unfold flA; rw [if_neg (by omega), if_neg (by omega), if_neg (by omega), show (i * 4 + 3) / 4 = i by omega]
theorem IR.arc {W : World} {g n : Nat} {t : TypeId} {A : Nat → Ar} (h : IR W g t (n * 4) (flA A)) : ArcR W (some ⟨g, 0, none⟩) n A := fun i hi => by
  refine ⟨⟨g, 0, none⟩, rfl, ?_⟩
  rw [add0]
  refine ⟨h.lt, ?_, ?_, ?_, ?_⟩
  · rw [← flA_0]; exact h.cell (by omega)
  · rw [← flA_1]; exact h.cell (k := i * 4 + 1) (by omega)
  · rw [← flA_2]; exact h.cell (k := i * 4 + 2) (by omega)
  · rw [← flA_3]; exact h.cell (k := i * 4 + 3) (by omega)
theorem arcMade (u : Nat) : (madeCells (Value.agg #[.int .i64 0, .int .i64 0, .int .i64 0, .int .i64 0]).cells (u * 4)).toList = (List.range (u * 4)).map fun k => Value.int .i64 ((fun _ => 0) k) := by
  have e : (Value.agg #[.int .i64 0, .int .i64 0, .int .i64 0, .int .i64 0]).cells = #[.int .i64 0, .int .i64 0, .int .i64 0, .int .i64 0] := by rfl
  rw [e]
  apply List.ext_getElem
  · simp [madeCells]
  · intro i h1 h2
    simp only [madeCells, Array.getElem_toList, Array.getElem_map, Array.getElem_range, List.getElem_map, List.getElem_range]
    have h : i % 4 = 0 ∨ i % 4 = 1 ∨ i % 4 = 2 ∨ i % 4 = 3 := by omega
    rcases h with h | h | h | h <;> simp [h]
theorem IR.of4 {W : World} {b g u : Nat} {t : TypeId} {f : Nat → Int} (h : W.ownsRow b t 4 (.slice (some ⟨g, 0, none⟩) u u) u ((List.range (u * 4)).map fun k => .int .i64 (f k))) : IR W g t (u * 4) f := by
  rcases h.2 with ⟨e, _⟩ | ⟨g', cap, cur, e, _, hg, hn, _, hs, ht⟩
  · cases e
  · simp at e
    obtain ⟨rfl, rfl⟩ := e
    unfold IR
    rw [hg]
    congr 2
    apply Array.ext'
    rw [← ht]
    rw [List.take_of_length_le (by simp [hs])]

set_option maxRecDepth 100000 in
set_option maxHeartbeats 8000000 in
theorem fsame_any (p : Option Addr) (c : Nat) (q : Option Addr) (d n : Nat) (M : Nat → Int) (w : World) (r : NmR w p n M) (r2 : NmR w q n M) (ln : n ≤ 1000000) :
    Calls Try.prog 8 #[.slice p n c, .slice q n d] w fun e w' => e = .returned (.bool true) ∧ Below w.heap.size w w' := by
  have R := Lib.hid r
  have R2 := Lib.hid r2
  clear r r2
  have m1 : ((n : Int) != (n : Int)) = false := by simp
  go_enter Try.func8, Try.ntmps8
  go_wp2_with fail
  clear m1
  go_loopw [5] (fun kv wr => ∃ i : Nat, i ≤ n ∧ kv = .int .i64 i ∧ Hid (Below w.heap.size w wr)) (fun kv _ => n - (intOf kv).toNat)
  case atStart => exact ⟨0, Nat.zero_le _, rfl, Lib.hid (Below.refl _ _)⟩
  case round =>
    obtain ⟨i, hi', rfl, HB⟩ := hrel
    by_cases t1 : i < n
    · have i1 : (0 : Int) ≤ (i : Int) := by omega
      have i2 : (i : Int) < (n : Int) := by omega
      obtain ⟨x, rfl, kx, cx⟩ := (R.out.below HB.out) i t1
      obtain ⟨y, rfl, ky, cy⟩ := (R2.out.below HB.out) i t1
      clear kx ky
      generalize M i = t at *
      have e1 : (t != t) = false := by simp
      go_upto_region 6 with fail
      go_quiet (fail)
      go_wp2_with fail
      go_roundw
      case rel => exact ⟨i + 1, by omega, by go_num, Lib.hid (below_drewN HB.out _)⟩
      case measure => simp [intOf]; omega
    · obtain rfl : i = n := by omega
      go_wp2_with fail
      go_ret
      exact ⟨rfl, HB.out⟩

end Go.Proofs.Ytapffmaihkimkaa
