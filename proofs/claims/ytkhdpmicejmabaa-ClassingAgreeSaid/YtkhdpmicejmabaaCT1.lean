/- Classing's tests: subsamples and a test in memory; the small functions. -/
import Derived.Test.YtkhdpmicejmabaaCT0
import Derived.Test.YtkhdpmicejmabaaST7
import Derived.BigRegion
import Derived.Deep.Cut
import Derived.Deep.CutRange
import Derived.Deep.RegionHeld3
import Derived.Deep.RegionLaw
import Derived.Deep.AppendLies
import Derived.Laws.MakeOwn
import Derived.Laws.CopyOwn
namespace Go.Proofs.Ytkhdpmicejmabaa
open Go.RowKit Go.Proofs.Ytkhdpmicejmabaa.Ct
set_option linter.unusedVariables false
set_option linter.unusedSimpArgs false

theorem hwI {x : Int} (h1 : -9223372036854775808 ≤ x) (h2 : x ≤ 9223372036854775807) : IntKind.i64.wrap x = x := IntWalk.i64_in _ ⟨h1, h2⟩
theorem addB (x : Addr) (i : Nat) : (x.add i).block = x.block := by unfold Addr.add; split <;> rfl
theorem add0 (b i : Nat) : (⟨b, 0, none⟩ : Addr).add i = ⟨b, i, none⟩ := by unfold Addr.add; split <;> simp_all
theorem addK (b o i : Nat) : (⟨b, o, none⟩ : Addr).add i = ⟨b, o + i, none⟩ := by unfold Addr.add; split <;> simp_all
/-- A subsample at x. -/
structure SbAt (w : World) (x : Addr) (r : Sb) : Prop where
  blk : x.block < w.heap.size
  c0 : w.cell? x = some (.int .i64 r.raw)
  c1 : w.cell? ⟨x.block, x.off + 1, none⟩ = some (.int .i64 r.dry)
  c2 : w.cell? ⟨x.block, x.off + 2, none⟩ = some (.int .i64 r.ash)
  c3 : w.cell? ⟨x.block, x.off + 3, none⟩ = some (.int .i64 r.gre)
  c4 : w.cell? ⟨x.block, x.off + 4, none⟩ = some (.int .i64 r.veg)
theorem SbAt.keep {w w' : World} {x : Addr} {r : Sb} (h : SbAt w x r) (s : w.heap.size ≤ w'.heap.size) (e : w'.heap[x.block]? = w.heap[x.block]?) : SbAt w' x r := by
  have c : ∀ p : Addr, p.block = x.block → w'.cell? p = w.cell? p := fun p hp => by unfold World.cell?; rw [hp, e]
  exact ⟨Nat.lt_of_lt_of_le h.blk s, (c x rfl).trans h.c0, (c ⟨x.block, x.off + 1, none⟩ rfl).trans h.c1, (c ⟨x.block, x.off + 2, none⟩ rfl).trans h.c2, (c ⟨x.block, x.off + 3, none⟩ rfl).trans h.c3, (c ⟨x.block, x.off + 4, none⟩ rfl).trans h.c4⟩
theorem SbAt.below {w w' : World} {x : Addr} {r : Sb} (h : SbAt w x r) (hb : Below w.heap.size w w') : SbAt w' x r := h.keep hb.size (hb.block _ h.blk)
/-- A slice that reads as these subsamples. -/
def SbR (w : World) (p : Option Addr) (n : Nat) (A : Nat → Sb) : Prop := ∀ i, i < n → ∃ x : Addr, p = some x ∧ SbAt w (x.add (i * 5)) (A i)
theorem SbR.below {w w' : World} {p : Option Addr} {n : Nat} {A : Nat → Sb} (h : SbR w p n A) (hb : Below w.heap.size w w') : SbR w' p n A := fun i hi => by
  obtain ⟨x, e, k⟩ := h i hi
  exact ⟨x, e, k.below hb⟩
/-- The slice, wherever it lies, reads as these numbers. -/
def NmR (w : World) (p : Option Addr) (n : Nat) (M : Nat → Int) : Prop := ∀ i, i < n → ∃ x : Addr, p = some x ∧ x.block < w.heap.size ∧ w.cell? (x.add i) = some (.int .i64 (M i))
theorem NmR.below {w w' : World} {p : Option Addr} {n : Nat} {M : Nat → Int} (r : NmR w p n M) (hb : Below w.heap.size w w') : NmR w' p n M := fun i h => by
  obtain ⟨x, e, k, c⟩ := r i h
  exact ⟨x, e, Nat.lt_of_lt_of_le k hb.size, by rw [hb.cell (p := x.add i) (by rw [addB]; exact k)]; exact c⟩
/-- All blocks but some are as they were. -/
structure Fm (M : Nat → Prop) (w w' : World) : Prop where
  os : w'.os = w.os
  tape : w'.tape = w.tape
  output : w'.output = w.output
  size : w.heap.size ≤ w'.heap.size
  block : ∀ k, k < w.heap.size → ¬ M k → w'.heap[k]? = w.heap[k]?
theorem Fm.refl (M : Nat → Prop) (w : World) : Fm M w w := ⟨rfl, rfl, rfl, Nat.le_refl _, fun _ _ _ => rfl⟩
theorem Fm.trans {M : Nat → Prop} {a b c : World} (h : Fm M a b) (k : Fm M b c) : Fm M a c :=
  ⟨k.os.trans h.os, k.tape.trans h.tape, k.output.trans h.output, Nat.le_trans h.size k.size, fun q hq hm => (k.block q (Nat.lt_of_lt_of_le hq h.size) hm).trans (h.block q hq hm)⟩
theorem Fm.call {M : Nat → Prop} {w w' : World} (h : Below w.heap.size w w') : Fm M w w' := ⟨h.os, h.tape, h.output, h.size, fun k hk _ => h.block k hk⟩
theorem Fm.set {M : Nat → Prop} {w : World} (a : Addr) (v : Value) (h : M a.block) : Fm M w (w.setCell a v) :=
  ⟨rfl, rfl, rfl, by simp [World.setCell], fun k hk hm => by rw [Below.heap_setCell _ _ _ _ (fun e => hm (by rw [e]; exact h))]⟩
theorem SbR.fm {w w' : World} {M : Nat → Prop} {p : Option Addr} {n : Nat} {A : Nat → Sb} (h : SbR w p n A) (f : Fm M w w') (q : ∀ x, p = some x → ¬ M x.block) : SbR w' p n A := fun i hi => by
  obtain ⟨x, e, k⟩ := h i hi
  exact ⟨x, e, k.keep f.size (f.block _ k.blk (by rw [addB]; exact q x e))⟩
theorem NmR.fm {w w' : World} {M : Nat → Prop} {p : Option Addr} {n : Nat} {A : Nat → Int} (h : NmR w p n A) (f : Fm M w w') (q : ∀ x, p = some x → ¬ M x.block) : NmR w' p n A := fun i hi => by
  obtain ⟨x, e, k, c⟩ := h i hi
  refine ⟨x, e, Nat.lt_of_lt_of_le k f.size, ?_⟩
  have : w'.heap[(x.add i).block]? = w.heap[(x.add i).block]? := by rw [addB]; exact f.block _ k (q x e)
  unfold World.cell? at *
  rw [this]; exact c
theorem Fm.below {M : Nat → Prop} {w w' : World} {base : Nat} (h : Fm M w w') (q : ∀ k, k < base → ¬ M k) (hb : base ≤ w.heap.size) : Below base w w' :=
  ⟨h.os, h.tape, h.output, h.size, fun k hk => h.block k (Nat.lt_of_lt_of_le hk hb) (q k hk)⟩

/-- A block of n cells, told by a function. -/
def OB (W : World) (g : Nat) (t : TypeId) (n : Nat) (c : Nat → Value) : Prop := W.heap[g]? = some (.cells ((List.range n).map c).toArray t (0, 0))
def updV (f : Nat → Value) (k : Nat) (v : Value) : Nat → Value := fun j => if j = k then v else f j
section
variable {W W' : World} {g n : Nat} {t : TypeId} {c : Nat → Value}
theorem OB.cell (h : OB W g t n c) {k : Nat} (hk : k < n) : W.cell? ⟨g, k, none⟩ = some (c k) := by
  unfold OB at h
  simp [World.cell?, h, hk]
theorem OB.frozen (h : OB W g t n c) (k : Nat) : W.frozen? ⟨g, k, none⟩ = false := by
  unfold OB at h
  simp [World.frozen?, h]
theorem OB.lt (h : OB W g t n c) : g < W.heap.size := (Array.getElem?_eq_some_iff.1 h).1
theorem OB.ext {c' : Nat → Value} (h : OB W g t n c) (e : ∀ k, k < n → c k = c' k) : OB W g t n c' := by
  have e : ((List.range n).map c) = (List.range n).map c' := List.map_congr_left fun k hk => e k (List.mem_range.1 hk)
  unfold OB at *
  rw [← e]; exact h
theorem OB.set (h : OB W g t n c) (k : Nat) (x : Value) : OB (W.setCell ⟨g, k, none⟩ x) g t n (updV c k x) := by
  have := heap_setCell_same W g k _ t x h
  unfold OB
  rw [this]
  congr 2
  apply Array.ext'
  simp only [Array.toList_setIfInBounds]
  apply List.ext_getElem
  · simp
  · intro i h1 h2
    simp only [List.getElem_set, List.getElem_map, List.getElem_range, updV]
    by_cases c : k = i
    · subst c; simp
    · rw [if_neg c, if_neg (fun e => c e.symm)]
theorem OB.keep (h : OB W g t n c) (e : W'.heap[g]? = W.heap[g]?) : OB W' g t n c := e.trans h
theorem OB.below (h : OB W g t n c) (st : Below W.heap.size W W') : OB W' g t n c := h.keep (st.block _ h.lt)
theorem OB.fm {M : Nat → Prop} (h : OB W g t n c) (f : Fm M W W') (q : ¬ M g) : OB W' g t n c := h.keep (f.block _ h.lt q)
end
/-- A test's cells. -/
structure TC (c : Nat → Value) (tol : Int) (t : Tst) (q : Option Addr) (m d : Nat) : Prop where
  made : c 0 = .bool true
  tol : c 1 = .int .i64 tol
  n : c 2 = .int .i64 t.n
  subs : ∀ k, k < t.n → c (3 + k * 5) = .int .i64 (t.S k).raw ∧ c (3 + k * 5 + 1) = .int .i64 (t.S k).dry ∧ c (3 + k * 5 + 2) = .int .i64 (t.S k).ash ∧ c (3 + k * 5 + 3) = .int .i64 (t.S k).gre ∧ c (3 + k * 5 + 4) = .int .i64 (t.S k).veg
  st : c 43 = .int .i64 t.st
  used : c 44 = .slice q m d
/-- A test at block b. -/
structure TA (w : World) (b lo : Nat) (tol : Int) (t : Tst) : Prop where
  ok : t.ok
  tl : 0 ≤ tol ∧ tol ≤ 10000
  mem : ∃ c q d, OB w b 61 45 c ∧ TC c tol t q t.U.length d ∧ NmR w q t.U.length (gi t.U) ∧ (∀ x, q = some x → (x.block ≠ b ∧ lo ≤ x.block) ∧ x = ⟨x.block, x.off, none⟩) ∧ (t.U = [] → q = none)
theorem TA.below {w w' : World} {b lo : Nat} {tol : Int} {t : Tst} (h : TA w b lo tol t) (st : Below w.heap.size w w') : TA w' b lo tol t := by
  obtain ⟨c, q, d, o, k, r, e⟩ := h.mem
  exact ⟨h.ok, h.tl, c, q, d, o.below st, k, r.below st, e⟩
/-- A subsample of the test. -/
theorem TC.sb {c : Nat → Value} {tol : Int} {t : Tst} {q : Option Addr} {m d : Nat} {w : World} {b : Nat} (k : TC c tol t q m d) (o : OB w b 61 45 c) (n8 : t.n ≤ 8) (i : Nat) (hi : i < t.n) : SbAt w ⟨b, 3 + i * 5, none⟩ (t.S i) := by
  obtain ⟨a0, a1, a2, a3, a4⟩ := k.subs i hi
  exact ⟨o.lt, (o.cell (by omega)).trans (by rw [a0]), (o.cell (k := 3 + i * 5 + 1) (by omega)).trans (by rw [a1]), (o.cell (k := 3 + i * 5 + 2) (by omega)).trans (by rw [a2]), (o.cell (k := 3 + i * 5 + 3) (by omega)).trans (by rw [a3]), (o.cell (k := 3 + i * 5 + 4) (by omega)).trans (by rw [a4])⟩

set_option maxRecDepth 100000 in
theorem isTest_any (b : Nat) (w : World) (h : w.cell? ⟨b, 0, none⟩ = some (.bool true)) :
    Calls Try.prog 19 #[.pointer (some ⟨b, 0, none⟩)] w fun e w' => e = .returned (.bool true) ∧ w = w' := by
  go_enter Try.func19, Try.ntmps19
  go_wp2_with fail
  go_ret
  exact ⟨rfl, rfl⟩

set_option maxRecDepth 100000 in
theorem State_any (b lo : Nat) (tol : Int) (t : Tst) (w : World) (h : TA w b lo tol t) :
    Calls Try.prog 10 #[.pointer (some ⟨b, 0, none⟩)] w fun e w' => e = .returned (.int .i64 t.st) ∧ w = w' := by
  obtain ⟨c, q, d, o, k, -, -⟩ := h.mem
  have c0 := (o.cell (k := 0) (by omega)).trans (by rw [k.made])
  have c43 := (o.cell (k := 43) (by omega)).trans (by rw [k.st])
  have C1 := Lib.hid (isTest_any b w c0)
  clear o k h
  go_enter Try.func10, Try.ntmps10
  go_wp2_with fail
  refine C1.out.mono ?_
  rintro e w1 ⟨rfl, rfl⟩
  go_wp2_with fail
  go_ret
  exact ⟨rfl, rfl⟩
def ned (t : Tst) : Int := if t.st ≠ 0 then 0 else 2 - ((t.n : Int) % 2)
set_option maxRecDepth 100000 in
theorem Need_any (b lo : Nat) (tol : Int) (t : Tst) (w : World) (h : TA w b lo tol t) :
    Calls Try.prog 11 #[.pointer (some ⟨b, 0, none⟩)] w fun e w' => e = .returned (.int .i64 (ned t)) ∧ w = w' := by
  have n8 := h.ok.n8
  have st3 := h.ok.st
  obtain ⟨c, q, d, o, k, -, -⟩ := h.mem
  have c0 := (o.cell (k := 0) (by omega)).trans (by rw [k.made])
  have c2 := (o.cell (k := 2) (by omega)).trans (by rw [k.n])
  have c43 := (o.cell (k := 43) (by omega)).trans (by rw [k.st])
  have C1 := Lib.hid (isTest_any b w c0)
  have NE := Lib.hid (show ned t = if t.st ≠ 0 then 0 else 2 - ((t.n : Int) % 2) from rfl)
  clear o k h
  generalize ned t = r at *
  generalize t.st = s at *
  generalize t.n = n at *
  have m1 : (n : Int) % 2 = 0 ∨ (n : Int) % 2 = 1 := by omega
  have e1 : IntKind.i64.wrap (Int.tmod (n : Int) 2) = (n : Int) % 2 := by rw [Int.tmod_eq_emod_of_nonneg (by omega)]; exact hwI (by omega) (by omega)
  by_cases z : s = 0
  · subst z
    rw [if_neg (by simp)] at NE
    have w2 : IntKind.i64.wrap (2 - (n : Int) % 2) = 2 - (n : Int) % 2 := hwI (by omega) (by omega)
    clear m1 st3
    go_enter Try.func11, Try.ntmps11
    go_wp2_with fail
    refine C1.out.mono ?_
    rintro e w1 ⟨rfl, rfl⟩
    go_wp2_with fail
    go_ret
    rw [NE.out]
    exact ⟨rfl, rfl⟩
  · rw [if_pos z] at NE
    have z2 : (s == 0) = false := by simpa using z
    clear m1 st3 z
    go_enter Try.func11, Try.ntmps11
    go_wp2_with fail
    refine C1.out.mono ?_
    rintro e w1 ⟨rfl, rfl⟩
    go_wp2_with fail
    go_ret
    rw [NE.out]
    exact ⟨rfl, rfl⟩
end Go.Proofs.Ytkhdpmicejmabaa
