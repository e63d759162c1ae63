/- Classing's lines: own blocks; the memory of sorted. -/
import Derived.Test.YtmdhmpfagekonaaLC
/- Classing's lines: own blocks of fleeces, of numbers, of rows. -/
namespace Go.Proofs.Ytmdhmpfagekonaa
open Go.RowKit Go.Proofs.Ytmdhmpfagekonaa.Ct Go.Proofs.Ytmdhmpfagekonaa.Ce Go.Proofs.Ytmdhmpfagekonaa.Stb
set_option linter.unusedVariables false
set_option linter.unusedSimpArgs false

theorem intInfo : (Try.prog.info? 3).map (fun i => (i.zero, i.size, i.bytes)) = some (some (.int .i64 0), 1, 8) := by kernel_rfl
theorem flInfo : (Try.prog.info? 55).map (fun i => (i.zero, i.size, i.bytes)) = some (some (.agg #[.int .u8 0, .int .u8 0, .int .u8 0, .int .u8 0, .int .i64 0, .int .i64 0]), 6, 24) := by kernel_rfl
theorem rowInfo : (Try.prog.info? 36).map (fun i => (i.zero, i.size, i.bytes)) = some (some (.slice none 0 0), 1, 24) := by kernel_rfl
/-- A row of fleeces, cell by cell. -/
def rowF (G : Nat → Fl) (k : Nat) : Value := flC (G (k / 6)) (k % 6)
def fl0 : Fl := ⟨0, 0, 0, 0, 0, 0⟩
theorem madeInts (n : Nat) : madeCells (Value.int .i64 0).cells n = ((List.range n).map fun _ => Value.int .i64 0).toArray := by
  apply Array.ext'
  show _ = (List.range n).map fun _ => Value.int .i64 0
  rw [show (Value.int .i64 0).cells = #[.int .i64 0] from rfl, toList_madeCells_one]
  apply List.ext_getElem <;> simp
theorem madeRows (n : Nat) : madeCells (Value.slice none 0 0).cells n = ((List.range n).map fun _ => Value.slice none 0 0).toArray := by
  apply Array.ext'
  show _ = (List.range n).map fun _ => Value.slice none 0 0
  rw [show (Value.slice none 0 0).cells = #[.slice none 0 0] from rfl, toList_madeCells_one]
  apply List.ext_getElem <;> simp
theorem madeFls (u : Nat) : madeCells (Value.agg #[.int .u8 0, .int .u8 0, .int .u8 0, .int .u8 0, .int .i64 0, .int .i64 0]).cells (u * 6) = ((List.range (u * 6)).map (rowF fun _ => fl0)).toArray := by
  have e : (Value.agg #[.int .u8 0, .int .u8 0, .int .u8 0, .int .u8 0, .int .i64 0, .int .i64 0]).cells = #[.int .u8 0, .int .u8 0, .int .u8 0, .int .u8 0, .int .i64 0, .int .i64 0] := by rfl
  rw [e]
  apply Array.ext'
  show _ = (List.range (u * 6)).map (rowF fun _ => fl0)
  apply List.ext_getElem
  · simp [madeCells]
  · intro i h1 h2
    simp only [madeCells, Array.getElem_toList, Array.getElem_map, Array.getElem_range, List.getElem_map, List.getElem_range]
    have h : i % 6 = 0 ∨ i % 6 = 1 ∨ i % 6 = 2 ∨ i % 6 = 3 ∨ i % 6 = 4 ∨ i % 6 = 5 := by omega
    unfold rowF
    rcases h with h | h | h | h | h | h <;> simp [h, flC, fl0]
theorem ob_made {W : World} {n : Nat} {t : TypeId} {c : Nat → Value} {cs : Array Value} (h : cs = ((List.range n).map c).toArray) : OB (W.alloc (.cells cs t)) W.heap.size t n c := by
  unfold OB
  rw [heap_alloc_new, h]
theorem OB.of {W : World} {b g u m : Nat} {t : TypeId} {c : Nat → Value} (h : W.ownsRow b t m (.slice (some ⟨g, 0, none⟩) u u) u ((List.range (u * m)).map c)) : OB W g t (u * m) c := by
  rcases h.2 with ⟨e, _⟩ | ⟨g', cap, cur, e, _, hg, hn, _, hs, ht⟩
  · cases e
  · simp at e
    obtain ⟨rfl, rfl⟩ := e
    unfold OB
    rw [hg]
    congr 2
    apply Array.ext'
    rw [← ht]
    rw [List.take_of_length_le (by simp [hs])]
theorem OB.sw {W : World} {g n : Nat} {f : Nat → Int} (h : OB W g 3 n (fun k => .int .i64 (f k))) (hn : n ≤ 1000000) : SW g n n W W f :=
  ⟨⟨by simp, .inr ⟨g, n, _, rfl, Nat.zero_le _, h, Nat.le_refl _, by unfold maxLen; omega, by simp, by rw [Nat.mul_one]; exact List.take_of_length_le (by simp)⟩⟩, Nat.le_refl _, fun _ _ _ => rfl, rfl, rfl, rfl⟩
theorem SW.ob {W w0 : World} {g n : Nat} {f : Nat → Int} (s : SW g n n w0 W f) : OB W g 3 n (fun k => .int .i64 (f k)) := by
  have := OB.of (b := 0) (g := g) (u := n) (m := 1) (t := 3) (c := fun k => .int .i64 (f k)) (by rw [Nat.mul_one]; exact s.row)
  rwa [Nat.mul_one] at this
theorem OB.nm {W : World} {g n : Nat} {t : TypeId} {f : Nat → Int} (h : OB W g t n (fun k => .int .i64 (f k))) : NmR W (some ⟨g, 0, none⟩) n f := fun i hi => ⟨⟨g, 0, none⟩, rfl, h.lt, by rw [add0]; exact h.cell hi⟩
theorem rowF_k (G : Nat → Fl) (i : Nat) : rowF G (i * 6) = .int .u8 (G i).ka ∧ rowF G (i * 6 + 1) = .int .u8 (G i).kb ∧ rowF G (i * 6 + 2) = .int .u8 (G i).kc ∧ rowF G (i * 6 + 3) = .int .u8 (G i).kd ∧ rowF G (i * 6 + 4) = .int .i64 (G i).mic ∧ rowF G (i * 6 + 5) = .int .i64 (G i).gr := by
  unfold rowF
  rw [show i * 6 / 6 = i by omega, show (i * 6 + 1) / 6 = i by omega, show (i * 6 + 2) / 6 = i by omega, show (i * 6 + 3) / 6 = i by omega, show (i * 6 + 4) / 6 = i by omega, show (i * 6 + 5) / 6 = i by omega, show i * 6 % 6 = 0 by omega, show (i * 6 + 1) % 6 = 1 by omega, show (i * 6 + 2) % 6 = 2 by omega, show (i * 6 + 3) % 6 = 3 by omega, show (i * 6 + 4) % 6 = 4 by omega, show (i * 6 + 5) % 6 = 5 by omega]
  exact ⟨rfl, rfl, rfl, rfl, rfl, rfl⟩
theorem OB.flAt {W : World} {g m : Nat} {t : TypeId} {G : Nat → Fl} (h : OB W g t m (rowF G)) {i : Nat} (hi : i * 6 + 6 ≤ m) : FlAt W ⟨g, i * 6, none⟩ (G i) := by
  obtain ⟨k0, k1, k2, k3, k4, k5⟩ := rowF_k G i
  exact ⟨h.lt, (h.cell (by omega)).trans (by rw [k0]), (h.cell (k := i * 6 + 1) (by omega)).trans (by rw [k1]), (h.cell (k := i * 6 + 2) (by omega)).trans (by rw [k2]), (h.cell (k := i * 6 + 3) (by omega)).trans (by rw [k3]), (h.cell (k := i * 6 + 4) (by omega)).trans (by rw [k4]), (h.cell (k := i * 6 + 5) (by omega)).trans (by rw [k5])⟩
theorem OB.fl {W : World} {g n m : Nat} {t : TypeId} {G : Nat → Fl} (h : OB W g t m (rowF G)) (hn : n * 6 ≤ m) : FlR W (some ⟨g, 0, none⟩) n G := fun i hi => by
  refine ⟨⟨g, 0, none⟩, rfl, ?_⟩
  rw [add0]
  exact h.flAt (by omega)
def upG (G : Nat → Fl) (i : Nat) (s : Fl) : Nat → Fl := fun k => if k = i then s else G k
/-- A fleece stored. -/
def setF (W : World) (g i : Nat) (s : Fl) : World := (((((W.setCell ⟨g, i * 6, none⟩ (.int .u8 s.ka)).setCell ⟨g, i * 6 + 1, none⟩ (.int .u8 s.kb)).setCell ⟨g, i * 6 + 2, none⟩ (.int .u8 s.kc)).setCell ⟨g, i * 6 + 3, none⟩ (.int .u8 s.kd)).setCell ⟨g, i * 6 + 4, none⟩ (.int .i64 s.mic)).setCell ⟨g, i * 6 + 5, none⟩ (.int .i64 s.gr)
theorem OB.setF {W : World} {g m : Nat} {t : TypeId} {G : Nat → Fl} (h : OB W g t m (rowF G)) (i : Nat) (s : Fl) : OB (setF W g i s) g t m (rowF (upG G i s)) := by
  refine ((((((h.set (i * 6) (.int .u8 s.ka)).set (i * 6 + 1) (.int .u8 s.kb)).set (i * 6 + 2) (.int .u8 s.kc)).set (i * 6 + 3) (.int .u8 s.kd)).set (i * 6 + 4) (.int .i64 s.mic)).set (i * 6 + 5) (.int .i64 s.gr)).ext fun k _ => ?_
  unfold updV rowF upG
  by_cases e : k / 6 = i
  · have h6 : k = i * 6 ∨ k = i * 6 + 1 ∨ k = i * 6 + 2 ∨ k = i * 6 + 3 ∨ k = i * 6 + 4 ∨ k = i * 6 + 5 := by omega
    rw [if_pos e]
    rcases h6 with rfl | rfl | rfl | rfl | rfl | rfl
    · rw [show i * 6 % 6 = 0 by omega]; simp [flC]
    · rw [show (i * 6 + 1) % 6 = 1 by omega]; simp [flC]
    · rw [show (i * 6 + 2) % 6 = 2 by omega]; simp [flC]
    · rw [show (i * 6 + 3) % 6 = 3 by omega]; simp [flC]
    · rw [show (i * 6 + 4) % 6 = 4 by omega]; simp [flC]
    · rw [show (i * 6 + 5) % 6 = 5 by omega]; simp [flC]
  · rw [if_neg e, if_neg (by omega), if_neg (by omega), if_neg (by omega), if_neg (by omega), if_neg (by omega), if_neg (by omega)]
theorem fm_setF (W : World) (g i : Nat) (s : Fl) : Fm (fun k => k = g) W (setF W g i s) := by
  have h : ∀ (W : World) (k : Nat) (v : Value), Fm (fun q => q = g) W (W.setCell ⟨g, k, none⟩ v) := fun W k v => Fm.set _ _ rfl
  unfold setF
  exact (((((h _ _ _).trans (h _ _ _)).trans (h _ _ _)).trans (h _ _ _)).trans (h _ _ _)).trans (h _ _ _)
theorem below_setF {w W : World} {b : Nat} (h : Below b w W) {g : Nat} (hg : b ≤ g) (i : Nat) (s : Fl) : Below b w (setF W g i s) := by
  have f := fm_setF W g i s
  exact ⟨f.os.trans h.os, f.tape.trans h.tape, f.output.trans h.output, Nat.le_trans h.size f.size, fun k hk => by
    by_cases l : k < W.heap.size
    · exact (f.block k l (by omega)).trans (h.block k hk)
    · have s1 : W.heap.size = (setF W g i s).heap.size := by simp [setF, World.setCell]
      rw [← h.block k hk, Array.getElem?_eq_none (by omega), Array.getElem?_eq_none (by omega)]⟩
end Go.Proofs.Ytmdhmpfagekonaa

/- Classing's lines: the memory while fleeces are sorted and their lines are priced. -/
namespace Go.Proofs.Ytmdhmpfagekonaa
open Go.RowKit Go.Proofs.Ytmdhmpfagekonaa.Ct Go.Proofs.Ytmdhmpfagekonaa.Ce Go.Proofs.Ytmdhmpfagekonaa.Stb
set_option linter.unusedVariables false
set_option linter.unusedSimpArgs false

def clZ (k : Nat) : Value := if k < 3 then .int .i64 0 else .slice none 0 0
def rowS (n r : Nat) (gr : Nat → Nat) (i : Nat) : Value := if i < r then .slice (some ⟨gr i, 0, none⟩) (n + 1) (n + 1) else .slice none 0 0
/-- The memory of sorted: the boxes of its arguments and its answer, the clip's box, the places, the fleeces, the rows of costs. -/
structure SoM (w : World) (p : Option Addr) (c n : Nat) (ls le sp : Int) (gk gp gf gc r : Nat) (P : Nat → Int) (G : Nat → Fl) (gr : Nat → Nat) (D : Nat → Nat → Int) (W : World) : Prop where
  bx : OB W w.heap.size 22 1 (fun _ => .slice p n c)
  sx : OB W (w.heap.size + 1) 24 3 (spC ls le sp)
  rx : OB W (w.heap.size + 2) 67 6 clZ
  kx : OB W gk 67 6 (clC ls le sp (.slice (some ⟨gp, 0, none⟩) n n) (.slice (some ⟨gf, 0, none⟩) n n) (.slice (some ⟨gc, 0, none⟩) n n))
  px : OB W gp 3 n (fun k => .int .i64 (P k))
  fx : OB W gf 55 (n * 6) (rowF G)
  cx : OB W gc 36 n (rowS n r gr)
  rr : ∀ i, i < r → OB W (gr i) 3 (n + 1) (fun j => .int .i64 (D i j))
  bl : Below w.heap.size w W
/-- Its blocks are apart. -/
structure SoD (b gk gp gf gc r : Nat) (gr : Nat → Nat) : Prop where
  k3 : b + 3 ≤ gk
  p3 : b + 3 ≤ gp
  f3 : b + 3 ≤ gf
  c3 : b + 3 ≤ gc
  kp : gk ≠ gp
  kf : gk ≠ gf
  kc : gk ≠ gc
  pf : gp ≠ gf
  pc : gp ≠ gc
  fc : gf ≠ gc
  rw : ∀ i, i < r → b + 3 ≤ gr i ∧ gr i ≠ gk ∧ gr i ≠ gp ∧ gr i ≠ gf ∧ gr i ≠ gc
  ri : ∀ i j, i < r → j < r → gr i = gr j → i = j
section
variable {w : World} {p : Option Addr} {c n : Nat} {ls le sp : Int} {gk gp gf gc r : Nat} {P : Nat → Int} {G : Nat → Fl} {gr : Nat → Nat} {D : Nat → Nat → Int} {W W' : World}
theorem SoM.call (h : SoM w p c n ls le sp gk gp gf gc r P G gr D W) (b : Below W.heap.size W W') : SoM w p c n ls le sp gk gp gf gc r P G gr D W' :=
  ⟨h.bx.below b, h.sx.below b, h.rx.below b, h.kx.below b, h.px.below b, h.fx.below b, h.cx.below b, fun i hi => (h.rr i hi).below b, h.bl.trans (b.mono h.bl.size)⟩
theorem SoM.sizes (h : SoM w p c n ls le sp gk gp gf gc r P G gr D W) : w.heap.size + 2 < W.heap.size := h.rx.lt
theorem fm_below {b g : Nat} {w W W' : World} (h : Below b w W) (f : Fm (fun k => k = g) W W') (hg : b ≤ g) (gl : g < W.heap.size) : Below b w W' :=
  ⟨f.os.trans h.os, f.tape.trans h.tape, f.output.trans h.output, Nat.le_trans h.size f.size, fun k hk => by
    by_cases l : k < W.heap.size
    · exact (f.block k l (by omega)).trans (h.block k hk)
    · omega⟩
theorem SoM.setP (h : SoM w p c n ls le sp gk gp gf gc r P G gr D W) (d : SoD w.heap.size gk gp gf gc r gr) (f : Fm (fun k => k = gp) W W') {P' : Nat → Int} (o : OB W' gp 3 n (fun k => .int .i64 (P' k))) : SoM w p c n ls le sp gk gp gf gc r P' G gr D W' :=
  ⟨h.bx.fm f (by have := d.p3; omega), h.sx.fm f (by have := d.p3; omega), h.rx.fm f (by have := d.p3; omega), h.kx.fm f d.kp, o, h.fx.fm f d.pf.symm, h.cx.fm f d.pc.symm, fun i hi => (h.rr i hi).fm f (d.rw i hi).2.2.1, fm_below h.bl f (by have := d.p3; omega) h.px.lt⟩
theorem SoM.setG (h : SoM w p c n ls le sp gk gp gf gc r P G gr D W) (d : SoD w.heap.size gk gp gf gc r gr) (f : Fm (fun k => k = gf) W W') {G' : Nat → Fl} (o : OB W' gf 55 (n * 6) (rowF G')) : SoM w p c n ls le sp gk gp gf gc r P G' gr D W' :=
  ⟨h.bx.fm f (by have := d.f3; omega), h.sx.fm f (by have := d.f3; omega), h.rx.fm f (by have := d.f3; omega), h.kx.fm f d.kf, h.px.fm f d.pf, o, h.cx.fm f d.fc.symm, fun i hi => (h.rr i hi).fm f (d.rw i hi).2.2.2.1, fm_below h.bl f (by have := d.f3; omega) h.fx.lt⟩
/-- A new row of zeros, r. -/
def upN (f : Nat → Nat) (k v : Nat) : Nat → Nat := fun j => if j = k then v else f j
def upR (D : Nat → Nat → Int) (r : Nat) (f : Nat → Int) : Nat → Nat → Int := fun i => if i = r then f else D i
theorem SoD.row (d : SoD w.heap.size gk gp gf gc r gr) {g : Nat} (h : SoM w p c n ls le sp gk gp gf gc r P G gr D W) (hg : g = W.heap.size) : SoD w.heap.size gk gp gf gc (r + 1) (upN gr r g) := by
  have s := h.sizes
  have a1 := h.kx.lt
  have a2 := h.px.lt
  have a3 := h.fx.lt
  have a4 := h.cx.lt
  have a5 := fun i hi => (h.rr i hi).lt
  refine ⟨d.k3, d.p3, d.f3, d.c3, d.kp, d.kf, d.kc, d.pf, d.pc, d.fc, fun i hi => ?_, fun i j hi hj => ?_⟩
  · unfold upN
    by_cases e : i = r
    · rw [if_pos e]; omega
    · rw [if_neg e]; exact d.rw i (by omega)
  · unfold upN
    by_cases e : i = r <;> by_cases e' : j = r
    · intro _; omega
    · rw [if_pos e, if_neg e']; intro q; have := a5 j (by omega); omega
    · rw [if_neg e, if_pos e']; intro q; have := a5 i (by omega); omega
    · rw [if_neg e, if_neg e']; exact d.ri i j (by omega) (by omega)
theorem SoM.row (h : SoM w p c n ls le sp gk gp gf gc r P G gr D W) (d : SoD w.heap.size gk gp gf gc r gr) {g : Nat} (hg : g = W.heap.size) {f : Nat → Int} {o : Obj} (ob : OB (W.alloc o) g 3 (n + 1) (fun j => .int .i64 (f j))) :
    SoM w p c n ls le sp gk gp gf gc (r + 1) P G (upN gr r g) (upR D r f) ((W.setCell ⟨gc, r, none⟩ (.slice (some ⟨g, 0, none⟩) (n + 1) (n + 1))).alloc o) := by
  rw [← World.setCell_alloc_past _ _ _ _ h.cx.lt]
  have h1 := h.call ((Below.refl _ W).alloc (Nat.le_refl _) o)
  have f1 : Fm (fun k => k = gc) (W.alloc o) ((W.alloc o).setCell ⟨gc, r, none⟩ (.slice (some ⟨g, 0, none⟩) (n + 1) (n + 1))) := Fm.set _ _ rfl
  have gl := h.cx.lt
  refine ⟨h1.bx.fm f1 (by have := d.c3; omega), h1.sx.fm f1 (by have := d.c3; omega), h1.rx.fm f1 (by have := d.c3; omega), h1.kx.fm f1 d.kc, h1.px.fm f1 d.pc, h1.fx.fm f1 d.fc, (h1.cx.set r _).ext fun k hk => ?_, fun i hi => ?_, fm_below h1.bl f1 (by have := d.c3; omega) h1.cx.lt⟩
  · unfold updV rowS upN
    by_cases e : k = r
    · subst e; simp
    · rw [if_neg e]
      by_cases l : k < r
      · rw [if_pos l, if_pos (by omega), if_neg e]
      · rw [if_neg l, if_neg (by omega)]
  · unfold upN upR
    by_cases e : i = r
    · rw [if_pos e, if_pos e]; exact ob.fm f1 (by omega)
    · rw [if_neg e, if_neg e]; exact (h1.rr i (by omega)).fm f1 (d.rw i (by omega)).2.2.2.2
/-- A cost stored. -/
theorem SoM.cost (h : SoM w p c n ls le sp gk gp gf gc r P G gr D W) (d : SoD w.heap.size gk gp gf gc r gr) {i : Nat} (hi : i < r) (j : Nat) (v : Int) :
    SoM w p c n ls le sp gk gp gf gc r P G gr (upR D i (upF (D i) j v)) (W.setCell ⟨gr i, j, none⟩ (.int .i64 v)) := by
  obtain ⟨d1, d2, d3, d4, d5⟩ := d.rw i hi
  have f1 : Fm (fun k => k = gr i) W (W.setCell ⟨gr i, j, none⟩ (.int .i64 v)) := Fm.set _ _ rfl
  refine ⟨h.bx.fm f1 (by omega), h.sx.fm f1 (by omega), h.rx.fm f1 (by omega), h.kx.fm f1 d2.symm, h.px.fm f1 d3.symm, h.fx.fm f1 d4.symm, h.cx.fm f1 d5.symm, fun k hk => ?_, fm_below h.bl f1 (by omega) (h.rr i hi).lt⟩
  unfold upR
  by_cases e : k = i
  · subst e
    rw [if_pos rfl]
    exact ((h.rr k hi).set j (.int .i64 v)).ext fun m _ => by
      unfold updV upF
      by_cases q : m = j
      · rw [if_pos q, if_pos q]
      · rw [if_neg q, if_neg q]
  · rw [if_neg e]
    exact (h.rr k hk).fm f1 (fun q => e (d.ri k i hk hi q))
end
/-- Four made one behind the other. -/
theorem four (w : World) (o1 o2 o3 o4 : Obj) : ((((w.alloc o1).alloc o2).alloc o3).alloc o4).heap[w.heap.size]? = some o1 ∧ ((((w.alloc o1).alloc o2).alloc o3).alloc o4).heap[w.heap.size + 1]? = some o2 ∧ ((((w.alloc o1).alloc o2).alloc o3).alloc o4).heap[w.heap.size + 1 + 1]? = some o3 ∧ ((((w.alloc o1).alloc o2).alloc o3).alloc o4).heap[w.heap.size + 1 + 1 + 1]? = some o4 ∧ Below w.heap.size w ((((w.alloc o1).alloc o2).alloc o3).alloc o4) := by
  refine ⟨?_, ?_, ?_, ?_, ((((Below.refl _ w).alloc (Nat.le_refl _) _).alloc (by simp <;> omega) _).alloc (by simp <;> omega) _).alloc (by simp <;> omega) _⟩
  · rw [Below.heap_alloc _ _ _ (by simp <;> omega), Below.heap_alloc _ _ _ (by simp <;> omega), Below.heap_alloc _ _ _ (by simp <;> omega), heap_alloc_new]
  · rw [Below.heap_alloc _ _ _ (by simp <;> omega), Below.heap_alloc _ _ _ (by simp <;> omega)]
    have := heap_alloc_new (w.alloc o1) o2
    simpa using this
  · rw [Below.heap_alloc _ _ _ (by simp <;> omega)]
    have := heap_alloc_new ((w.alloc o1).alloc o2) o3
    simpa using this
  · have := heap_alloc_new (((w.alloc o1).alloc o2).alloc o3) o4
    simpa using this
theorem below_drewN {b : Nat} {w w' : World} (h : Below b w w') (n : Nat) : Below b w (w'.drewN n) := ⟨h.os, h.tape, h.output, h.size, h.block⟩
/-- The rules in their box. -/
def ScX (b : Nat) (ls le sp : Int) (W : World) : Prop := W.cell? ⟨b, 0, none⟩ = some (.int .i64 ls) ∧ W.cell? ⟨b, 1, none⟩ = some (.int .i64 le) ∧ W.cell? ⟨b, 2, none⟩ = some (.int .i64 sp)
theorem ScX.below {b : Nat} {ls le sp : Int} {W W' : World} (h : ScX b ls le sp W) (st : Below W.heap.size W W') : ScX b ls le sp W' := ⟨cellGr st h.1, cellGr st h.2.1, cellGr st h.2.2⟩
theorem ScX.al {b : Nat} {ls le sp : Int} {W : World} {o : Obj} (h : ScX b ls le sp W) : ScX b ls le sp (W.alloc o) := h.below ((Below.refl _ _).alloc (Nat.le_refl _) _)
theorem ScX.dr {b : Nat} {ls le sp : Int} {W : World} (h : ScX b ls le sp W) : ScX b ls le sp W.drew := h.below (Below.refl _ _).drew
/-- What sorted's first steps make, in any order. -/
theorem SoM.of {w w3 W : World} {p : Option Addr} {c n : Nat} {ls le sp : Int} {gk gp gf gc : Nat} (gr : Nat → Nat) (D : Nat → Nat → Int) (hs : w3.heap.size = w.heap.size + 3)
    (b0 : OB w3 w.heap.size 22 1 (fun _ => .slice p n c)) (b1 : OB w3 (w.heap.size + 1) 24 3 (spC ls le sp)) (b2 : OB w3 (w.heap.size + 2) 67 6 clZ) (bb : Below w.heap.size w w3)
    (xk : W.heap[gk]? = some (.cells #[.int .i64 ls, .int .i64 le, .int .i64 sp, .slice (some ⟨gp, 0, none⟩) n n, .slice (some ⟨gf, 0, none⟩) n n, .slice (some ⟨gc, 0, none⟩) n n] 67 (0, 0)))
    (xp : W.heap[gp]? = some (.cells (madeCells #[.int .i64 0] n) 3 (0, 0)))
    (xf : W.heap[gf]? = some (.cells (madeCells #[.int .u8 0, .int .u8 0, .int .u8 0, .int .u8 0, .int .i64 0, .int .i64 0] (n * 6)) 55 (0, 0)))
    (xc : W.heap[gc]? = some (.cells (madeCells #[.slice none 0 0] n) 36 (0, 0)))
    (st : Below w3.heap.size w3 W) : SoM w p c n ls le sp gk gp gf gc 0 (fun _ => 0) (fun _ => fl0) gr D W := by
  have m1 := madeInts n
  have m2 := madeRows n
  have m3 := madeFls n
  rw [show (Value.int .i64 0).cells = #[.int .i64 0] from rfl] at m1
  rw [show (Value.slice none 0 0).cells = #[.slice none 0 0] from rfl] at m2
  rw [show (Value.agg #[.int .u8 0, .int .u8 0, .int .u8 0, .int .u8 0, .int .i64 0, .int .i64 0]).cells = #[.int .u8 0, .int .u8 0, .int .u8 0, .int .u8 0, .int .i64 0, .int .i64 0] from rfl] at m3
  rw [m1] at xp
  rw [m2] at xc
  rw [m3] at xf
  refine ⟨b0.below st, b1.below st, b2.below st, xk, xp, xf, ?_, fun i hi => absurd hi (by omega), bb.trans (st.mono (by omega))⟩
  exact OB.ext xc fun k _ => by unfold rowS; rw [if_neg (by omega)]
theorem so_made {w w3 W : World} {p : Option Addr} {c n : Nat} {ls le sp : Int} {gk gp gf gc : Nat} (hs : w3.heap.size = w.heap.size + 3)
    (b0 : OB w3 w.heap.size 22 1 (fun _ => .slice p n c)) (b1 : OB w3 (w.heap.size + 1) 24 3 (spC ls le sp)) (b2 : OB w3 (w.heap.size + 2) 67 6 clZ) (bb : Below w.heap.size w w3)
    (xk : W.heap[gk]? = some (.cells #[.int .i64 ls, .int .i64 le, .int .i64 sp, .slice (some ⟨gp, 0, none⟩) n n, .slice (some ⟨gf, 0, none⟩) n n, .slice (some ⟨gc, 0, none⟩) n n] 67 (0, 0)))
    (xp : W.heap[gp]? = some (.cells (madeCells #[.int .i64 0] n) 3 (0, 0)))
    (xf : W.heap[gf]? = some (.cells (madeCells #[.int .u8 0, .int .u8 0, .int .u8 0, .int .u8 0, .int .i64 0, .int .i64 0] (n * 6)) 55 (0, 0)))
    (xc : W.heap[gc]? = some (.cells (madeCells #[.slice none 0 0] n) 36 (0, 0)))
    (st : Below w3.heap.size w3 W) (ap : (w3.heap.size ≤ gk ∧ w3.heap.size ≤ gp ∧ w3.heap.size ≤ gf ∧ w3.heap.size ≤ gc) ∧ gk ≠ gp ∧ gk ≠ gf ∧ gk ≠ gc ∧ gp ≠ gf ∧ gp ≠ gc ∧ gf ≠ gc) (k : Nat) :
    ∃ gk' gp gf gc, Value.pointer (some ⟨gk, 0, none⟩) = .pointer (some ⟨gk', 0, none⟩) ∧ Hid (SoM w p c n ls le sp gk' gp gf gc 0 (fun _ => 0) (fun _ => fl0) (fun _ => 0) (fun _ _ => 0) (W.drewN k)) ∧ Hid (SoD w.heap.size gk' gp gf gc 0 (fun _ => 0)) := by
  obtain ⟨⟨a1, a2, a3, a4⟩, a5, a6, a7, a8, a9, a10⟩ := ap
  exact ⟨gk, gp, gf, gc, rfl, Lib.hid ((SoM.of _ _ hs b0 b1 b2 bb xk xp xf xc st).call (below_drewN (Below.refl _ _) k)), Lib.hid ⟨by omega, by omega, by omega, by omega, a5, a6, a7, a8, a9, a10, fun i hi => absurd hi (by omega), fun i j hi => absurd hi (by omega)⟩⟩
end Go.Proofs.Ytmdhmpfagekonaa
