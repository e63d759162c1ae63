/- Classing's lines: fleeces in memory; mass, centre; kinds. -/
import Derived.Test.YtmdhmpfagekonaaCT0
import Derived.Test.YtmdhmpfagekonaaST7
import Derived.BigRegion
import Derived.Deep.Cut
import Derived.Deep.CutRange
import Derived.Deep.RegionHeld3
import Derived.Deep.RegionLaw
import Derived.Deep.AppendLies
import Derived.Laws.MakeOwn
import Derived.Laws.CopyOwn
import Derived.Test.YtmdhmpfagekonaaLP
import Derived.Laws.StructEq
import Derived.Laws.Tables
import Derived.KernelRfl
/- Classing: rows of numbers, blocks told by a function, worlds that keep all but some blocks. -/
namespace Go.Proofs.Ytmdhmpfagekonaa
open Go.RowKit Go.Proofs.Ytmdhmpfagekonaa.Ct
set_option linter.unusedVariables false
set_option linter.unusedSimpArgs false

theorem hwI {x : Int} (h1 : -9223372036854775808 ≤ x) (h2 : x ≤ 9223372036854775807) : IntKind.i64.wrap x = x := IntWalk.i64_in _ ⟨h1, h2⟩
theorem addB (x : Addr) (i : Nat) : (x.add i).block = x.block := by unfold Addr.add; split <;> rfl
theorem add0 (b i : Nat) : (⟨b, 0, none⟩ : Addr).add i = ⟨b, i, none⟩ := by unfold Addr.add; split <;> simp_all
theorem addK (b o i : Nat) : (⟨b, o, none⟩ : Addr).add i = ⟨b, o + i, none⟩ := by unfold Addr.add; split <;> simp_all
/-- The slice, wherever it lies, reads as these numbers. -/
def NmR (w : World) (p : Option Addr) (n : Nat) (M : Nat → Int) : Prop := ∀ i, i < n → ∃ x : Addr, p = some x ∧ x.block < w.heap.size ∧ w.cell? (x.add i) = some (.int .i64 (M i))
theorem NmR.below {w w' : World} {p : Option Addr} {n : Nat} {M : Nat → Int} (r : NmR w p n M) (hb : Below w.heap.size w w') : NmR w' p n M := fun i h => by
  obtain ⟨x, e, k, c⟩ := r i h
  exact ⟨x, e, Nat.lt_of_lt_of_le k hb.size, by rw [hb.cell (p := x.add i) (by rw [addB]; exact k)]; exact c⟩
/-- All blocks but some are as they were. -/
structure Fm (M : Nat → Prop) (w w' : World) : Prop where
  os : w'.os = w.os
  tape : w'.tape = w.tape
  output : w'.output = w.output
  size : w.heap.size ≤ w'.heap.size
  block : ∀ k, k < w.heap.size → ¬ M k → w'.heap[k]? = w.heap[k]?
theorem Fm.refl (M : Nat → Prop) (w : World) : Fm M w w := ⟨rfl, rfl, rfl, Nat.le_refl _, fun _ _ _ => rfl⟩
theorem Fm.trans {M : Nat → Prop} {a b c : World} (h : Fm M a b) (k : Fm M b c) : Fm M a c :=
  ⟨k.os.trans h.os, k.tape.trans h.tape, k.output.trans h.output, Nat.le_trans h.size k.size, fun q hq hm => (k.block q (Nat.lt_of_lt_of_le hq h.size) hm).trans (h.block q hq hm)⟩
theorem Fm.call {M : Nat → Prop} {w w' : World} (h : Below w.heap.size w w') : Fm M w w' := ⟨h.os, h.tape, h.output, h.size, fun k hk _ => h.block k hk⟩
theorem Fm.set {M : Nat → Prop} {w : World} (a : Addr) (v : Value) (h : M a.block) : Fm M w (w.setCell a v) :=
  ⟨rfl, rfl, rfl, by simp [World.setCell], fun k hk hm => by rw [Below.heap_setCell _ _ _ _ (fun e => hm (by rw [e]; exact h))]⟩
theorem NmR.fm {w w' : World} {M : Nat → Prop} {p : Option Addr} {n : Nat} {A : Nat → Int} (h : NmR w p n A) (f : Fm M w w') (q : ∀ x, p = some x → ¬ M x.block) : NmR w' p n A := fun i hi => by
  obtain ⟨x, e, k, c⟩ := h i hi
  refine ⟨x, e, Nat.lt_of_lt_of_le k f.size, ?_⟩
  have : w'.heap[(x.add i).block]? = w.heap[(x.add i).block]? := by rw [addB]; exact f.block _ k (q x e)
  unfold World.cell? at *
  rw [this]; exact c
theorem Fm.below {M : Nat → Prop} {w w' : World} {base : Nat} (h : Fm M w w') (q : ∀ k, k < base → ¬ M k) (hb : base ≤ w.heap.size) : Below base w w' :=
  ⟨h.os, h.tape, h.output, h.size, fun k hk => h.block k (Nat.lt_of_lt_of_le hk hb) (q k hk)⟩

/-- A block of n cells, told by a function. -/
def OB (W : World) (g : Nat) (t : TypeId) (n : Nat) (c : Nat → Value) : Prop := W.heap[g]? = some (.cells ((List.range n).map c).toArray t (0, 0))
def updV (f : Nat → Value) (k : Nat) (v : Value) : Nat → Value := fun j => if j = k then v else f j
section
variable {W W' : World} {g n : Nat} {t : TypeId} {c : Nat → Value}
theorem OB.cell (h : OB W g t n c) {k : Nat} (hk : k < n) : W.cell? ⟨g, k, none⟩ = some (c k) := by
  unfold OB at h
  simp [World.cell?, h, hk]
theorem OB.frozen (h : OB W g t n c) (k : Nat) : W.frozen? ⟨g, k, none⟩ = false := by
  unfold OB at h
  simp [World.frozen?, h]
theorem OB.lt (h : OB W g t n c) : g < W.heap.size := (Array.getElem?_eq_some_iff.1 h).1
theorem OB.ext {c' : Nat → Value} (h : OB W g t n c) (e : ∀ k, k < n → c k = c' k) : OB W g t n c' := by
  have e : ((List.range n).map c) = (List.range n).map c' := List.map_congr_left fun k hk => e k (List.mem_range.1 hk)
  unfold OB at *
  rw [← e]; exact h
theorem OB.set (h : OB W g t n c) (k : Nat) (x : Value) : OB (W.setCell ⟨g, k, none⟩ x) g t n (updV c k x) := by
  have := heap_setCell_same W g k _ t x h
  unfold OB
  rw [this]
  congr 2
  apply Array.ext'
  simp only [Array.toList_setIfInBounds]
  apply List.ext_getElem
  · simp
  · intro i h1 h2
    simp only [List.getElem_set, List.getElem_map, List.getElem_range, updV]
    by_cases c : k = i
    · subst c; simp
    · rw [if_neg c, if_neg (fun e => c e.symm)]
theorem OB.keep (h : OB W g t n c) (e : W'.heap[g]? = W.heap[g]?) : OB W' g t n c := e.trans h
theorem OB.below (h : OB W g t n c) (st : Below W.heap.size W W') : OB W' g t n c := h.keep (st.block _ h.lt)
theorem OB.fm {M : Nat → Prop} (h : OB W g t n c) (f : Fm M W W') (q : ¬ M g) : OB W' g t n c := h.keep (f.block _ h.lt q)
end
end Go.Proofs.Ytmdhmpfagekonaa

/- Classing's lines: fleeces in memory; mass, centre, isLess. -/
namespace Go.Proofs.Ytmdhmpfagekonaa
open Go.RowKit Go.Proofs.Ytmdhmpfagekonaa.Ct Go.Proofs.Ytmdhmpfagekonaa.Ce Go.Proofs.Ytmdhmpfagekonaa.Stb
set_option linter.unusedVariables false
set_option linter.unusedSimpArgs false

/-- A fleece at x. -/
structure FlAt (w : World) (x : Addr) (r : Fl) : Prop where
  blk : x.block < w.heap.size
  c0 : w.cell? x = some (.int .u8 r.ka)
  c1 : w.cell? ⟨x.block, x.off + 1, none⟩ = some (.int .u8 r.kb)
  c2 : w.cell? ⟨x.block, x.off + 2, none⟩ = some (.int .u8 r.kc)
  c3 : w.cell? ⟨x.block, x.off + 3, none⟩ = some (.int .u8 r.kd)
  c4 : w.cell? ⟨x.block, x.off + 4, none⟩ = some (.int .i64 r.mic)
  c5 : w.cell? ⟨x.block, x.off + 5, none⟩ = some (.int .i64 r.gr)
theorem FlAt.keep {w w' : World} {x : Addr} {r : Fl} (h : FlAt w x r) (s : w.heap.size ≤ w'.heap.size) (e : w'.heap[x.block]? = w.heap[x.block]?) : FlAt w' x r := by
  have c : ∀ p : Addr, p.block = x.block → w'.cell? p = w.cell? p := fun p hp => by unfold World.cell?; rw [hp, e]
  exact ⟨Nat.lt_of_lt_of_le h.blk s, (c x rfl).trans h.c0, (c ⟨x.block, x.off + 1, none⟩ rfl).trans h.c1, (c ⟨x.block, x.off + 2, none⟩ rfl).trans h.c2, (c ⟨x.block, x.off + 3, none⟩ rfl).trans h.c3, (c ⟨x.block, x.off + 4, none⟩ rfl).trans h.c4, (c ⟨x.block, x.off + 5, none⟩ rfl).trans h.c5⟩
theorem FlAt.below {w w' : World} {x : Addr} {r : Fl} (h : FlAt w x r) (hb : Below w.heap.size w w') : FlAt w' x r := h.keep hb.size (hb.block _ h.blk)
/-- A slice that reads as these fleeces. -/
def FlR (w : World) (p : Option Addr) (n : Nat) (A : Nat → Fl) : Prop := ∀ i, i < n → ∃ x : Addr, p = some x ∧ FlAt w (x.add (i * 6)) (A i)
theorem FlR.below {w w' : World} {p : Option Addr} {n : Nat} {A : Nat → Fl} (h : FlR w p n A) (hb : Below w.heap.size w w') : FlR w' p n A := fun i hi => by
  obtain ⟨x, e, k⟩ := h i hi
  exact ⟨x, e, k.below hb⟩
/-- A fleece's own box. -/
def flC (s : Fl) (k : Nat) : Value := if k = 0 then .int .u8 s.ka else if k = 1 then .int .u8 s.kb else if k = 2 then .int .u8 s.kc else if k = 3 then .int .u8 s.kd else if k = 4 then .int .i64 s.mic else .int .i64 s.gr
theorem ob_n6 (W : World) (s : Fl) (t : TypeId) : OB (W.alloc (Obj.cells #[.int .u8 s.ka, .int .u8 s.kb, .int .u8 s.kc, .int .u8 s.kd, .int .i64 s.mic, .int .i64 s.gr] t)) W.heap.size t 6 (flC s) := by
  unfold OB
  rw [heap_alloc_new]
  rfl
theorem mas_step (A : Nat → Fl) (j : Nat) : mas A 0 (j + 1) = mas A 0 j + (A j).gr := by
  show mas A 0 j + (if 0 ≤ j then (A j).gr else 0) = _
  rw [if_pos (Nat.zero_le _)]

set_option maxRecDepth 100000 in
set_option maxHeartbeats 4000000 in
theorem mass_any (p : Option Addr) (c n : Nat) (A : Nat → Fl) (w : World) (r : FlR w p n A) (ln : n ≤ 1000) (ok : ∀ k, k < n → (A k).ok) :
    Calls Try.prog 58 #[.slice p n c] w fun e w' => e = .returned (.int .i64 (mas A 0 n)) ∧ Below w.heap.size w w' := by
  have R := Lib.hid r
  have OK := Lib.hid ok
  clear r ok
  go_enter Try.func58, Try.ntmps58
  go_wp2_with fail
  go_loopw [3, 8] (fun sv kv wr => ∃ i : Nat, i ≤ n ∧ kv = .int .i64 i ∧ sv = .int .i64 (mas A 0 i) ∧ Hid (Below w.heap.size w wr)) (fun _ kv _ => n - (intOf kv).toNat)
  case atStart => exact ⟨0, Nat.zero_le _, rfl, rfl, Lib.hid (Below.refl _ _)⟩
  case round =>
    obtain ⟨i, hi, rfl, rfl, HB⟩ := hrel
    by_cases t1 : i < n
    · have i1 : (0 : Int) ≤ (i : Int) := by omega
      have i2 : (i : Int) < (n : Int) := by omega
      obtain ⟨x, rfl, -, a0, a1, a2, a3, a4, a5⟩ := (R.out.below HB.out) i t1
      have b := mas_bd (A := A) (i := 0) OK.out (j := i) (by omega)
      have o := OK.out i t1
      unfold Fl.ok at o
      have e1 : IntKind.i64.wrap (mas A 0 i + (A i).gr) = mas A 0 i + (A i).gr := hwI (by omega) (by omega)
      have NX := Lib.hid (mas_step A i)
      clear b o
      generalize mas A 0 i = z at *
      generalize A i = s at *
      have OBX := Lib.hid (ob_n6 wr s 55)
      have HB2 := Lib.hid (HB.out.alloc HB.out.size (Obj.cells #[.int .u8 s.ka, .int .u8 s.kb, .int .u8 s.kc, .int .u8 s.kd, .int .i64 s.mic, .int .i64 s.gr] 55))
      clear HB
      go_upto_region 5 with fail
      generalize (wr.alloc (Obj.cells #[.int .u8 s.ka, .int .u8 s.kb, .int .u8 s.kc, .int .u8 s.kd, .int .i64 s.mic, .int .i64 s.gr] 55)) = wa at *
      have b5 : wa.cell? ⟨wr.heap.size, 5, none⟩ = some (.int .i64 s.gr) := OBX.out.cell (k := 5) (by decide)
      clear OBX a0 a1 a2 a3 a4 a5
      go_wp2_with fail
      go_roundw
      case rel => exact ⟨i + 1, by omega, by go_num, by rw [NX.out], HB2⟩
      case measure => simp [intOf]; omega
    · obtain rfl : i = n := by omega
      go_wp2_with fail
      go_ret
      exact ⟨rfl, HB.out⟩
theorem isLess_any (a b : Int) (w : World) : Calls Try.prog 35 #[.int .i64 a, .int .i64 b] w fun e w' => e = .returned (.bool (decide (lss a b))) ∧ w = w' := by
  obtain ⟨r, hr⟩ : ∃ r : Bool, r = decide (lss a b) := ⟨_, rfl⟩
  rw [← hr]
  by_cases h1 : a = -1
  · have E := Lib.hid (show r = false from by rw [hr]; exact decide_eq_false (fun h => h.1 h1))
    clear hr
    subst h1
    go_enter Try.func35, Try.ntmps35
    go_wp2_with fail
    go_ret
    rw [E.out]
    exact ⟨rfl, rfl⟩
  · have d1 : (a == -1) = false := by simpa using h1
    have d1' : (a != -1) = true := by simpa using h1
    by_cases h2 : b = -1
    · have E := Lib.hid (show r = true from by rw [hr]; exact decide_eq_true ⟨h1, .inl h2⟩)
      clear hr h1
      subst h2
      go_enter Try.func35, Try.ntmps35
      go_wp2_with fail
      go_ret
      rw [E.out]
      exact ⟨rfl, rfl⟩
    · have d2 : (b == -1) = false := by simpa using h2
      by_cases h3 : a < b
      · have d3 : decide (a < b) = true := decide_eq_true h3
        have E := Lib.hid (show r = true from by rw [hr]; exact decide_eq_true ⟨h1, .inr h3⟩)
        clear h3 h1 h2 hr
        go_enter Try.func35, Try.ntmps35
        go_wp2_with fail
        go_ret
        rw [E.out]
        exact ⟨rfl, rfl⟩
      · have d3 : decide (a < b) = false := decide_eq_false h3
        have E := Lib.hid (show r = false from by rw [hr]; exact decide_eq_false (fun h => h.2.elim h2 h3))
        clear h3 h1 h2 hr
        go_enter Try.func35, Try.ntmps35
        go_wp2_with fail
        go_ret
        rw [E.out]
        exact ⟨rfl, rfl⟩
end Go.Proofs.Ytmdhmpfagekonaa

/- Classing's lines: centre. -/
namespace Go.Proofs.Ytmdhmpfagekonaa
open Go.RowKit Go.Proofs.Ytmdhmpfagekonaa.Ct Go.Proofs.Ytmdhmpfagekonaa.Ce Go.Proofs.Ytmdhmpfagekonaa.Stb
set_option linter.unusedVariables false
set_option linter.unusedSimpArgs false

theorem cenF_step (A : Nat → Fl) (all : Int) {i n : Nat} (h : i < n) : cenF A all 0 (n - i) i = if all ≤ 2 * mas A 0 (i + 1) then i else cenF A all 0 (n - (i + 1)) (i + 1) := by
  rw [show n - i = (n - (i + 1)) + 1 from by omega]
  rfl
theorem FlR.at {w : World} {p : Option Addr} {n : Nat} {A : Nat → Fl} (h : FlR w p n A) {i : Nat} (hi : i < n) {x : Addr} (e : p = some x) : FlAt w (x.add (i * 6)) (A i) := by
  obtain ⟨y, e', k⟩ := h i hi
  rw [e] at e'
  cases e'
  exact k

set_option maxRecDepth 100000 in
set_option maxHeartbeats 4000000 in
theorem centre_any (p : Option Addr) (c n : Nat) (A : Nat → Fl) (w : World) (r : FlR w p n A) (l1 : 1 ≤ n) (ln : n ≤ 1000) (ok : ∀ k, k < n → (A k).ok) :
    Calls Try.prog 59 #[.slice p n c] w fun e w' => e = .returned (.int .i64 (cen A 0 n)) ∧ Below w.heap.size w w' := by
  have R := Lib.hid r
  have OK := Lib.hid ok
  have C1 := Lib.hid (fun W (h : FlR W p n A) => mass_any p c n A W h ln ok)
  obtain ⟨x, rfl, X⟩ := r 0 (by omega)
  have X0 := Lib.hid X
  clear r ok
  have MB := mas_bd (A := A) (i := 0) OK.out (j := n) (Nat.le_refl _)
  have i2 : (0 : Int) < (n : Int) := by omega
  have i3 : 0 < n := l1
  have z0 := X.blk
  have a5 := X.c5
  simp [Addr.add] at a5 z0
  have hb : Below w.heap.size w w := Below.refl _ _
  clear X

  go_enter Try.func59, Try.ntmps59
  go_upto_region 1 with fail
  go_region_law (first
    | (go_simp; go_at_call 58; (with_reducible refine (C1.out _ (R.out.below ((Below.refl _ _).drew))).mono ?_); rintro e w1 ⟨rfl, q⟩; have st : Below w.heap.size w w1 := ((Below.refl _ _).drew).trans q; replace a5 := (st.cell (p := ⟨x.block, x.off + 5, none⟩) z0).trans a5; replace hb := hb.trans st; clear q st))
  all_goals clear a5 z0
  all_goals go_wp2_with fail
  all_goals go_simp
  all_goals (
    go_loopw [3, 4] (fun kv sv wr => ∃ i : Nat, i < n ∧ kv = .int .i64 i ∧ sv = .int .i64 (mas A 0 (i + 1)) ∧ Hid (cenF A (mas A 0 n) 0 (n - i) i = cenP A 0 n) ∧ Hid (Below w.heap.size w wr)) (fun kv _ _ => n - (intOf kv).toNat)
    case atStart => exact ⟨0, i3, rfl, by rw [mas_step, show mas A 0 0 = 0 from rfl, Int.zero_add], Lib.hid rfl, Lib.hid hb⟩
    case round =>
      obtain ⟨i, hi, rfl, rfl, HC, HB⟩ := hrel
      have b := mas_bd (A := A) (i := 0) OK.out (j := i + 1) (by omega)
      have e1 : IntKind.i64.wrap (2 * mas A 0 (i + 1)) = 2 * mas A 0 (i + 1) := hwI (by omega) (by omega)
      have ST := Lib.hid (cenF_step A (mas A 0 n) hi)
      by_cases t1 : 2 * mas A 0 (i + 1) < mas A 0 n
      · have d1 : decide (2 * mas A 0 (i + 1) < mas A 0 n) = true := decide_eq_true t1
        obtain ⟨j, ej⟩ : ∃ j, j = i + 1 := ⟨_, rfl⟩
        have jn : j < n := by
          rcases Nat.lt_or_ge j n with h | h
          · exact h
          · have : i + 1 = n := by omega
            rw [this] at t1 b
            omega
        have HC2 : Hid (cenF A (mas A 0 n) 0 (n - j) j = cenP A 0 n) := Lib.hid (by
          rw [← HC.out, ST.out, if_neg (by omega), ej])
        have NX := Lib.hid (mas_step A j)
        have b2 := mas_bd (A := A) (i := 0) OK.out (j := j + 1) (by omega)
        rw [NX.out, ej] at b2
        have e2 : IntKind.i64.wrap (mas A 0 (i + 1) + (A j).gr) = mas A 0 (i + 1) + (A j).gr := hwI (by rw [ej]; omega) (by rw [ej]; omega)
        have e3 : IntKind.i64.wrap ((i : Int) + 1) = (i : Int) + 1 := hwI (by omega) (by omega)
        have j1 : (0 : Int) ≤ (i : Int) + 1 := by omega
        have j2 : (i : Int) + 1 < (n : Int) := by omega
        obtain ⟨-, -, -, -, -, -, a5⟩ := (R.out.below HB.out).at jn rfl
        have NX2 := Lib.hid (show mas A 0 (j + 1) = mas A 0 (i + 1) + (A j).gr from by rw [NX.out, ej])
        clear b b2 HC ST NX t1 X0 C1 MB R OK hb
        subst ej
        generalize (A (i + 1)).gr = gj at *
        go_wp2_with fail
        go_roundw
        case rel => exact ⟨i + 1, jn, by go_num, by rw [NX2.out], HC2, HB⟩
        case measure => simp [intOf]; omega
      · have d1 : decide (2 * mas A 0 (i + 1) < mas A 0 n) = false := decide_eq_false t1
        have E := Lib.hid (show cen A 0 n = (A i).mic from by
          unfold cen
          rw [← HC.out, ST.out, if_pos (by omega)])
        have j1 : (0 : Int) ≤ (i : Int) := by omega
        have j2 : (i : Int) < (n : Int) := by omega
        obtain ⟨-, -, -, -, -, a4, -⟩ := (R.out.below HB.out).at hi rfl
        clear b HC ST t1 X0 C1 MB R OK hb
        generalize (A i).mic = gj at *
        go_wp2_with fail
        go_ret
        rw [E.out]
        exact ⟨rfl, HB.out⟩)
end Go.Proofs.Ytmdhmpfagekonaa

/- Classing's lines: kinds compare; what the cost of a line keeps. -/
namespace Go.Proofs.Ytmdhmpfagekonaa
open Go.RowKit Go.Proofs.Ytmdhmpfagekonaa.Ct Go.Proofs.Ytmdhmpfagekonaa.Ce Go.Proofs.Ytmdhmpfagekonaa.Stb
set_option linter.unusedVariables false
set_option linter.unusedSimpArgs false

/-- A line of the rules as a box. -/
def spC (ls le sp : Int) (k : Nat) : Value := if k = 0 then .int .i64 ls else if k = 1 then .int .i64 le else .int .i64 sp
/-- What the cost of a line keeps: the rules' box, the first fleece's, the last one's. -/
structure LcW (w : World) (ls le sp : Int) (s u : Fl) (g5 g6 : Nat) (W : World) : Prop where
  oh : OB W w.heap.size 24 3 (spC ls le sp)
  o5 : OB W g5 55 6 (flC s)
  o6 : OB W g6 55 6 (flC u)
  bl : Below w.heap.size w W
theorem LcW.call {w : World} {ls le sp : Int} {s u : Fl} {g5 g6 : Nat} {W W' : World} (h : LcW w ls le sp s u g5 g6 W) (b : Below W.heap.size W W') : LcW w ls le sp s u g5 g6 W' :=
  ⟨h.oh.below b, h.o5.below b, h.o6.below b, h.bl.trans (b.mono h.bl.size)⟩
theorem lcw_new (w : World) (ls le sp : Int) (s u : Fl) : LcW w ls le sp s u (w.heap.size + 1) (w.heap.size + 1 + 1) (((w.alloc (Obj.cells #[.int .i64 ls, .int .i64 le, .int .i64 sp] 24)).alloc (Obj.cells #[.int .u8 s.ka, .int .u8 s.kb, .int .u8 s.kc, .int .u8 s.kd, .int .i64 s.mic, .int .i64 s.gr] 55)).alloc (Obj.cells #[.int .u8 u.ka, .int .u8 u.kb, .int .u8 u.kc, .int .u8 u.kd, .int .i64 u.mic, .int .i64 u.gr] 55)).drew := by
  have n0 : OB (w.alloc (Obj.cells #[.int .i64 ls, .int .i64 le, .int .i64 sp] 24)) w.heap.size 24 3 (spC ls le sp) := by
    unfold OB
    rw [heap_alloc_new]
    rfl
  have n1 := ob_n6 (w.alloc (Obj.cells #[.int .i64 ls, .int .i64 le, .int .i64 sp] 24)) s 55
  have n2 := ob_n6 ((w.alloc (Obj.cells #[.int .i64 ls, .int .i64 le, .int .i64 sp] 24)).alloc (Obj.cells #[.int .u8 s.ka, .int .u8 s.kb, .int .u8 s.kc, .int .u8 s.kd, .int .i64 s.mic, .int .i64 s.gr] 55)) u 55
  have B : Below w.heap.size w _ := ((((Below.refl _ _).alloc (Nat.le_refl _) (Obj.cells #[.int .i64 ls, .int .i64 le, .int .i64 sp] 24)).alloc (by simp) (Obj.cells #[.int .u8 s.ka, .int .u8 s.kb, .int .u8 s.kc, .int .u8 s.kd, .int .i64 s.mic, .int .i64 s.gr] 55)).alloc (by simp; omega) (Obj.cells #[.int .u8 u.ka, .int .u8 u.kb, .int .u8 u.kc, .int .u8 u.kd, .int .i64 u.mic, .int .i64 u.gr] 55)).drew
  have a1 : ∀ (W : World) (o : Obj), Below W.heap.size W (W.alloc o) := fun W o => (Below.refl _ _).alloc (Nat.le_refl _) _
  have a2 : ∀ (W : World), Below W.heap.size W W.drew := fun W => (Below.refl _ _).drew
  have hs : ∀ (W : World) (o : Obj), (W.alloc o).heap.size = W.heap.size + 1 := fun W o => by simp
  refine ⟨(((n0.below (a1 _ _)).below (a1 _ _)).below (a2 _)), ?_, ?_, B⟩
  · rw [hs] at n1
    exact (n1.below (a1 _ _)).below (a2 _)
  · rw [hs, hs] at n2
    exact n2.below (a2 _)
theorem LcW.swap {w : World} {ls le sp : Int} {s u : Fl} {g5 g6 : Nat} {W : World} (h : LcW w ls le sp s u g5 g6 W) : LcW w ls le sp u s g6 g5 W := ⟨h.oh, h.o6, h.o5, h.bl⟩

theorem u8Size : (Try.prog.info? 5).map (·.size) = some 1 := by kernel_rfl
theorem size_u8 (w : World) : (sizeOf 5).run Try.prog w = .ok 1 w := by
  cases hq : Try.prog.info? 5 with
  | none => have := u8Size; simp [hq] at this
  | some i =>
    have hs : i.size = 1 := by have := u8Size; simpa [hq] using this
    simp [sizeOf, typeInfo, hq, hs]
theorem agg_u8 (w : World) : (isAgg 5).run Try.prog w = .ok false w := by
  unfold isAgg
  rw [Sem.run_bind, run_underlying Try.underlying5 w]
  rfl
set_option maxRecDepth 100000 in
/-- Kinds compare byte by byte. -/
theorem eq_kind (a b c d a' b' c' d' : Int) (w : World) : (Op.equalIn 10000 35 (.agg #[.int .u8 a, .int .u8 b, .int .u8 c, .int .u8 d]) (.agg #[.int .u8 a', .int .u8 b', .int .u8 c', .int .u8 d'])).run Try.prog w = .ok (decide (a = a' ∧ b = b' ∧ c = c' ∧ d = d')) w := by
  have u3 := Try.underlying5
  have a3 : ∀ w, (isAgg 5).run Try.prog w = .ok false w := agg_u8
  have z3 : ∀ w, (sizeOf 5).run Try.prog w = .ok 1 w := size_u8
  rw [show (10000 : Nat) = 9999 + 1 from rfl, Op.equalIn]
  simp only [Sem.run_bind, run_underlying Try.underlying35, Result.andThen_ok]
  simp only [Std.Legacy.Range.forIn_eq_forIn_range', Std.Legacy.Range.size, Nat.sub_zero, Nat.add_sub_cancel, Nat.div_one, List.range'_succ, List.range'_zero, List.forIn_cons, List.forIn_nil]
  go_simp
  by_cases h1 : a = a' <;> by_cases h2 : b = b' <;> by_cases h3 : c = c' <;> by_cases h4 : d = d' <;> simp [h1, h2, h3, h4]
end Go.Proofs.Ytmdhmpfagekonaa
