/- Flow: the program's Blend. -/
import Derived.Test.YtapffmaihkimkaaFP5
namespace Go.Proofs.Ytapffmaihkimkaa
open Go.RowKit
set_option linter.unusedVariables false
set_option linter.unusedSimpArgs false

theorem store_one2 {v : Value} (hv : v.oneCell' = true) (W : World) (a : Addr) (h1 : (W.cell? a).isSome = true) (h2 : W.frozen? a = false) : (store a v .plain).run Try.prog W = .ok () (W.setCell a v) := by
  rw [run_store _ _ _ _ _ hv]
  cases h : W.cell? a with
  | none => rw [h] at h1; cases h1
  | some x => simp [h2]
theorem box_new (W : World) (v : Value) (t : TypeId) : BX (W.alloc (Obj.cells #[v] t)) W.heap.size t v := heap_alloc_new W _
theorem box_old {W : World} {o : Obj} {q : Nat} (h : q < W.heap.size) : (W.alloc o).heap[q]? = W.heap[q]? := Below.heap_alloc _ _ _ h
theorem box_size (W : World) (o : Obj) : (W.alloc o).heap.size = W.heap.size + 1 := by simp
/-- The arguments' boxes. -/
structure P4 (b1 b2 b3 b4 : Nat) (p : Option Addr) (n c : Nat) (b l h : Int) (W : World) : Prop where
  x1 : BX W b1 22 (.slice p n c)
  x2 : BX W b2 3 (.int .i64 b)
  x3 : BX W b3 3 (.int .i64 l)
  x4 : BX W b4 3 (.int .i64 h)
theorem P4.keep {b1 b2 b3 b4 : Nat} {p : Option Addr} {n c : Nat} {b l h : Int} {W W' : World} (x : P4 b1 b2 b3 b4 p n c b l h W) (k : ∀ q, q = b1 ∨ q = b2 ∨ q = b3 ∨ q = b4 → W'.heap[q]? = W.heap[q]?) : P4 b1 b2 b3 b4 p n c b l h W' :=
  ⟨x.x1.keep (k _ (.inl rfl)), x.x2.keep (k _ (.inr (.inl rfl))), x.x3.keep (k _ (.inr (.inr (.inl rfl)))), x.x4.keep (k _ (.inr (.inr (.inr rfl))))⟩
theorem P4.call {b1 b2 b3 b4 : Nat} {p : Option Addr} {n c : Nat} {b l h : Int} {W W' : World} (x : P4 b1 b2 b3 b4 p n c b l h W) (st : Below W.heap.size W W') : P4 b1 b2 b3 b4 p n c b l h W' :=
  x.keep fun q hq => st.block q (by rcases hq with rfl | rfl | rfl | rfl; exact x.x1.lt; exact x.x2.lt; exact x.x3.lt; exact x.x4.lt)
theorem four_boxes (w : World) (p : Option Addr) (m c : Nat) (b l h : Int) : P4 w.heap.size (w.heap.size + 1) (w.heap.size + 1 + 1) (w.heap.size + 1 + 1 + 1) p m c b l h ((((w.alloc (Obj.cells #[Value.slice p m c] 22)).alloc (Obj.cells #[Value.int .i64 b] 3)).alloc (Obj.cells #[Value.int .i64 l] 3)).alloc (Obj.cells #[Value.int .i64 h] 3)) ∧ Below w.heap.size w ((((w.alloc (Obj.cells #[Value.slice p m c] 22)).alloc (Obj.cells #[Value.int .i64 b] 3)).alloc (Obj.cells #[Value.int .i64 l] 3)).alloc (Obj.cells #[Value.int .i64 h] 3)) ∧ ((((w.alloc (Obj.cells #[Value.slice p m c] 22)).alloc (Obj.cells #[Value.int .i64 b] 3)).alloc (Obj.cells #[Value.int .i64 l] 3)).alloc (Obj.cells #[Value.int .i64 h] 3)).heap.size = w.heap.size + 1 + 1 + 1 + 1 := by
  refine ⟨⟨?_, ?_, ?_, ?_⟩, ((((Below.refl _ w).alloc (Nat.le_refl _) _).alloc (by simp only [box_size]; omega) _).alloc (by simp only [box_size]; omega) _).alloc (by simp only [box_size]; omega) _, by simp only [box_size]⟩
  · unfold BX
    rw [box_old (by simp only [box_size]; omega), box_old (by simp only [box_size]; omega), box_old (by simp only [box_size]; omega), heap_alloc_new]
  · unfold BX
    rw [box_old (by simp only [box_size]; omega), box_old (by simp only [box_size]; omega)]
    have := heap_alloc_new (w.alloc (Obj.cells #[Value.slice p m c] 22)) (Obj.cells #[Value.int .i64 b] 3)
    simpa only [box_size] using this
  · unfold BX
    rw [box_old (by simp only [box_size]; omega)]
    have := heap_alloc_new ((w.alloc (Obj.cells #[Value.slice p m c] 22)).alloc (Obj.cells #[Value.int .i64 b] 3)) (Obj.cells #[Value.int .i64 l] 3)
    simpa only [box_size] using this
  · unfold BX
    have := heap_alloc_new (((w.alloc (Obj.cells #[Value.slice p m c] 22)).alloc (Obj.cells #[Value.int .i64 b] 3)).alloc (Obj.cells #[Value.int .i64 l] 3)) (Obj.cells #[Value.int .i64 h] 3)
    simpa only [box_size] using this
/-- The bales of the parcels; none behind them. -/
def baF (A : Nat → Pa) (m j : Nat) : Int := if j < m then (A j).ba else 0
/-- What the search finds. -/
def BRes (m : Nat) (A : Nat → Pa) (b l h : Int) : Bl.Best := Bl.sea (baF A m) (fun j => (A j).mi) (fun j => (A j).pr) (l * b) (h * b) m b [] none
/-- What Blend answers. -/
def BlQ (m : Nat) (A : Nat → Pa) (b l h : Int) (w : World) (e : Ending) (w' : World) : Prop := ∃ x v L, e = .returned (.tuple #[v, .int .i64 L, .int .i64 x]) ∧ Below w.heap.size w w' ∧ ((x ≠ 0 ∧ v = .slice none 0 0 ∧ L = 0 ∧ (BErr m A b l h x ∨ (BErr m A b l h 0 ∧ x = 13 ∧ BRes m A b l h = none))) ∨ (x = 0 ∧ BErr m A b l h 0 ∧ ∃ ys g cc, BRes m A b l h = some (ys, L) ∧ v = .slice (some ⟨g, 0, none⟩) m cc ∧ ys.length = m ∧ NmR w' (some ⟨g, 0, none⟩) m (nm ys)))

set_option maxRecDepth 100000 in
set_option maxHeartbeats 8000000 in
theorem Blend_any (p : Option Addr) (c m : Nat) (A : Nat → Pa) (b l h : Int) (w : World) (r : PaR w p m A) (lm : m ≤ 9223372036854775807) :
    Calls Try.prog 6 #[.slice p m c, .int .i64 b, .int .i64 l, .int .i64 h] w (BlQ m A b l h w) := by
  obtain ⟨i0, hi, hz0, hz1, hz2⟩ := info_parts intInfo
  have R := Lib.hid r
  have CB := Lib.hid (fun W (st : Below w.heap.size w W) => checkBlend_any p c m A b l h W (r.below st) lm)
  have X0 := Lib.hid (four_boxes w p m c b l h)
  have QE := Lib.hid (show ∀ x w', BErr m A b l h x → x ≠ 0 → Below w.heap.size w w' → BlQ m A b l h w (.returned (.tuple #[.slice none 0 0, .int .i64 0, .int .i64 x])) w' from fun x w' q g B => ⟨x, _, 0, rfl, B, .inl ⟨g, rfl, rfl, .inl q⟩⟩)
  clear r
  go_enter Try.func6, Try.ntmps6
  go_upto_region 1 with fail
  generalize ((((w.alloc (Obj.cells #[Value.slice p m c] 22)).alloc (Obj.cells #[Value.int .i64 b] 3)).alloc (Obj.cells #[Value.int .i64 l] 3)).alloc (Obj.cells #[Value.int .i64 h] 3)) = w1 at *
  obtain ⟨b1, hb1⟩ : ∃ b1, b1 = w.heap.size := ⟨_, rfl⟩
  have c1 := X0.out.1.x1.cell
  have c2 := X0.out.1.x2.cell
  have c3 := X0.out.1.x3.cell
  have c4 := X0.out.1.x4.cell
  rw [← hb1] at X0 c1 c2 c3 c4 ⊢
  have HB1 := Lib.hid hb1
  clear hb1
  go_wp2_with fail
  refine (CB.out w1 (by rw [← HB1.out]; exact X0.out.2.1)).mono ?_
  rintro e w2 ⟨x, rfl, be, st⟩
  have BE := Lib.hid be
  have X1 := Lib.hid (X0.out.1.call st)
  have B1 := Lib.hid (show Below b1 w w2 from X0.out.2.1.trans (st.mono (by have := X0.out.2.2; omega)))
  have S1 := Lib.hid (show b1 + 1 + 1 + 1 < w2.heap.size from X1.out.x4.lt)
  clear st X0 CB c1 c2 c3 c4 be
  by_cases x0 : x = 0
  case neg =>
    have x1 : (x == 0) = false := by simpa using x0
    have x2 : decide (x = 0) = false := decide_eq_false x0
    have x3 : (x != 0) = true := by simpa using x0
    have FF := Lib.hid (QE.out x w2 BE.out x0 (by rw [← HB1.out]; exact B1.out))
    clear x0 QE
    go_wp2_with fail
    go_returns
    exact FF.out
  subst x0
  have c1 := X1.out.x1.cell
  obtain ⟨m6, ⟨bb, bl, bh⟩, aok⟩ := BE.out.good
  have AOK := Lib.hid aok
  clear aok QE
  have wn : IntKind.i64.wrap ((m : Int) + 1) = ((m + 1 : Nat) : Int) := hwI (by omega) (by omega)
  go_upto_region 5 with (first
    | (at_make; refine wpList_make_full _ rfl _ _ 24 rfl w2.heap.size 3 i0 (.int .i64 0) 1 Try.underlying24 hi hz0 hz1 .i64 .i64 _ _ (m + 1) rfl rfl (by omega) (by omega) (by rw [hz2]; omega) (by unfold maxLen; omega) (Nat.le_refl _) ?_; intro w3 hown0 hgrow0))
  rw [made_ints] at hown0
  have I3 := Lib.hid (IR.of hown0)
  have B3 := Lib.hid (show Below w2.heap.size w2 w3 from (Below.refl _ _).grown hgrow0 (Nat.le_refl _) (fun k e => by cases e))
  clear hown0 hgrow0 c1
  obtain ⟨b5, hb5⟩ : ∃ b5, b5 = w2.heap.size := ⟨_, rfl⟩
  obtain ⟨b6, hb6⟩ : ∃ b6, b6 = w3.heap.size := ⟨_, rfl⟩
  rw [← hb5] at I3 S1 ⊢
  have X4 := Lib.hid (show P4 b1 (b1 + 1) (b1 + 1 + 1) (b1 + 1 + 1 + 1) p m c b l h (w3.alloc (Obj.cells #[Value.slice (some ⟨b5, 0, none⟩) (m + 1) (m + 1)] 24)) ∧ IR (w3.alloc (Obj.cells #[Value.slice (some ⟨b5, 0, none⟩) (m + 1) (m + 1)] 24)) b5 3 (m + 1) (fun _ => 0) ∧ BX (w3.alloc (Obj.cells #[Value.slice (some ⟨b5, 0, none⟩) (m + 1) (m + 1)] 24)) w3.heap.size 24 (.slice (some ⟨b5, 0, none⟩) (m + 1) (m + 1)) ∧ Below b1 w (w3.alloc (Obj.cells #[Value.slice (some ⟨b5, 0, none⟩) (m + 1) (m + 1)] 24)) from by
    have s3 := B3.out.size
    have s1 := S1.out
    exact ⟨(X1.out.call B3.out).call ((Below.refl _ _).alloc (Nat.le_refl _) _), I3.out.keep (box_old I3.out.lt), box_new _ _ _, (B1.out.trans (B3.out.mono (by omega))).alloc (by omega) _⟩)
  have S5 := Lib.hid (show b5 < b6 from by rw [hb6]; exact I3.out.lt)
  rw [← hb6] at X4 ⊢
  clear B3 I3 X1 B1 hb5 hb6
  generalize w3.alloc (Obj.cells #[Value.slice (some ⟨b5, 0, none⟩) (m + 1) (m + 1)] 24) = w4 at *
  have c1 := X4.out.1.x1.cell
  have wm : IntKind.i64.wrap ((m : Int) - 1) = (m : Int) - 1 := hwI (by omega) (by omega)
  go_wp2_with fail
  clear c1
  go_loopw [13] (fun iv wr => ∃ (i : Nat) (z : Int), i ≤ m ∧ iv = .int .i64 z ∧ z = (i : Int) - 1 ∧ Hid (P4 b1 (b1 + 1) (b1 + 1 + 1) (b1 + 1 + 1 + 1) p m c b l h wr) ∧ Hid (IR wr b5 3 (m + 1) (fun j => if i ≤ j then Bl.beh (baF A m) m (m - j) else 0)) ∧ Hid (BX wr b6 24 (.slice (some ⟨b5, 0, none⟩) (m + 1) (m + 1))) ∧ Hid (Below b1 w wr)) (fun iv _ => (intOf iv + 1).toNat)
  case atStart => exact ⟨m, _, Nat.le_refl _, rfl, rfl, Lib.hid X4.out.1, Lib.hid (X4.out.2.1.ext fun j hj => by
    by_cases e : m ≤ j
    · rw [if_pos e, show m - j = 0 by omega]; rfl
    · rw [if_neg e]), Lib.hid X4.out.2.2.1, Lib.hid X4.out.2.2.2⟩
  case round =>
    clear X4
    obtain ⟨i, z, hi', rfl, hz, P, I, C6, HB⟩ := hrel
    have b0 : ∀ j, 0 ≤ baF A m j := fun j => by unfold baF; split <;> first | exact (AOK.out _ (by assumption)).1.1 | omega
    have b4k : ∀ j, baF A m j ≤ 4096 := fun j => by unfold baF; split <;> first | exact (AOK.out _ (by assumption)).1.2 | omega
    have c1 := P.out.x1.cell
    have c6 := C6.out.cell
    by_cases t1 : 1 ≤ i
    · obtain ⟨j, rfl⟩ : ∃ j, i = j + 1 := ⟨i - 1, by omega⟩
      obtain rfl : z = (j : Int) := by omega
      clear hz
      obtain ⟨xa, rfl, -, a0, -⟩ := (R.out.below (by have k := HB.out; rw [HB1.out] at k; exact k)) j (by omega)
      have ea : baF A m j = (A j).ba := if_pos (by omega)
      obtain ⟨e, he⟩ : ∃ e, e = Bl.beh (baF A m) m (m - (j + 1)) := ⟨_, rfl⟩
      have e0 : 0 ≤ e := by rw [he]; exact beh_pos b0 m _
      have e6 : e ≤ 24576 := by have := beh_most b4k m (m - (j + 1)); omega
      have c5 := I.out.cell (k := j + 1) (by omega)
      rw [if_pos (Nat.le_refl _), ← he] at c5
      have c5' := I.out.cell (k := j) (by omega)
      rw [if_neg (by omega)] at c5'
      have f5 := I.out.frozen j
      have v00 := b0 j
      have v04 := b4k j
      rw [ea] at v00 v04
      have ws : IntKind.i64.wrap (e + (A j).ba) = e + (A j).ba := hwI (by omega) (by omega)
      have wj : IntKind.i64.wrap ((j : Int) + 1) = (j : Int) + 1 := hwI (by omega) (by omega)
      have k1 : (0 : Int) ≤ (j : Int) := by omega
      have k2 : (j : Int) < (m : Int) := by omega
      have k3 : (0 : Int) ≤ (j : Int) + 1 := by omega
      have k4 : (j : Int) + 1 < (m : Int) + 1 := by omega
      have k5 : (j : Int) < (m : Int) + 1 := by omega
      have kt : ((j : Int) + 1).toNat = j + 1 := by omega
      have kk : ∀ q, q ≠ b5 → (wr.setCell ⟨b5, j, none⟩ (.int .i64 (e + (A j).ba))).heap[q]? = wr.heap[q]? := fun q hq => Below.heap_setCell _ _ _ _ hq
      have s1 := S1.out
      have s5 := S5.out
      have P2 := Lib.hid (P.out.keep (W' := wr.setCell ⟨b5, j, none⟩ (.int .i64 (e + (A j).ba))) fun q hq => kk q (by omega))
      have C62 := Lib.hid (C6.out.keep (kk b6 (by omega)))
      have HB2 := Lib.hid (show Below b1 w (wr.setCell ⟨b5, j, none⟩ (.int .i64 (e + (A j).ba))) from HB.out.setCell (by show b1 ≤ b5; omega) _)
      have I2 := Lib.hid (show IR (wr.setCell ⟨b5, j, none⟩ (.int .i64 (e + (A j).ba))) b5 3 (m + 1) (fun q => if j ≤ q then Bl.beh (baF A m) m (m - q) else 0) from (I.out.set j _).ext fun q hq => by
        unfold upd
        by_cases e1 : q = j
        · subst e1
          rw [if_pos rfl, if_pos (Nat.le_refl _), show m - q = (m - (q + 1)) + 1 by omega]
          show _ = Bl.beh (baF A m) m (m - (q + 1)) + baF A m (m - ((m - (q + 1)) + 1))
          rw [show m - ((m - (q + 1)) + 1) = q by omega, ea, he]
        · rw [if_neg e1]
          show (if j + 1 ≤ q then Bl.beh (baF A m) m (m - q) else 0) = _
          by_cases e2 : j + 1 ≤ q
          · rw [if_pos e2, if_pos (by omega)]
          · rw [if_neg e2, if_neg (by omega)])
      clear b0 b4k kk P I C6 HB ea he e0 e6 v00 v04 s1 s5
      generalize (A j).ba = v0 at *
      go_upto_region 8 with fail
      go_region_law (fail)
      all_goals
        go_wp2_with fail
        go_roundw
        case rel => exact ⟨j, _, by omega, rfl, by go_num, (by first | exact P2 | exact Lib.hid (P2.out.call (Below.refl _ _).drew) | exact Lib.hid (P2.out.call (below_drewN (Below.refl _ _) _))), (by first | exact I2 | exact Lib.hid (show IR _ _ _ _ _ from I2.out)), (by first | exact C62 | exact Lib.hid (show BX _ _ _ _ from C62.out)), (by first | exact HB2 | exact Lib.hid HB2.out.drew | exact Lib.hid (below_drewN HB2.out _))⟩
        case measure => simp only [intOf]; omega
    · obtain rfl : i = 0 := by omega
      have t2 : decide (0 ≤ z) = false := decide_eq_false (by omega)
      have I5 := Lib.hid (show IR wr b5 3 (m + 1) (fun j => Bl.beh (baF A m) m (m - j)) from I.out.ext fun q _ => if_pos (Nat.zero_le _))
      have S7 := Lib.hid (show b6 < wr.heap.size from C6.out.lt)
      clear I c1 c6 t1 t2 b0 b4k
      go_upto_region 11 with fail
      have Q6 := Lib.hid (show P4 b1 (b1 + 1) (b1 + 1 + 1) (b1 + 1 + 1 + 1) p m c b l h ((wr.alloc (Obj.cells #[Value.slice none 0 0] 24)).alloc (Obj.cells #[Value.int .i64 0] 3)) ∧ IR ((wr.alloc (Obj.cells #[Value.slice none 0 0] 24)).alloc (Obj.cells #[Value.int .i64 0] 3)) b5 3 (m + 1) (fun j => Bl.beh (baF A m) m (m - j)) ∧ BX ((wr.alloc (Obj.cells #[Value.slice none 0 0] 24)).alloc (Obj.cells #[Value.int .i64 0] 3)) b6 24 (.slice (some ⟨b5, 0, none⟩) (m + 1) (m + 1)) ∧ BX ((wr.alloc (Obj.cells #[Value.slice none 0 0] 24)).alloc (Obj.cells #[Value.int .i64 0] 3)) wr.heap.size 24 (.slice none 0 0) ∧ BX ((wr.alloc (Obj.cells #[Value.slice none 0 0] 24)).alloc (Obj.cells #[Value.int .i64 0] 3)) (wr.heap.size + 1) 3 (.int .i64 0) ∧ Below b1 w ((wr.alloc (Obj.cells #[Value.slice none 0 0] 24)).alloc (Obj.cells #[Value.int .i64 0] 3)) ∧ ((wr.alloc (Obj.cells #[Value.slice none 0 0] 24)).alloc (Obj.cells #[Value.int .i64 0] 3)).heap.size = wr.heap.size + 1 + 1 from by
        have k : ∀ q, q < wr.heap.size → ((wr.alloc (Obj.cells #[Value.slice none 0 0] 24)).alloc (Obj.cells #[Value.int .i64 0] 3)).heap[q]? = wr.heap[q]? := fun q hq => by rw [box_old (by simp only [box_size]; omega), box_old hq]
        have s1 := S1.out
        have s5 := S5.out
        have s7 := S7.out
        refine ⟨P.out.keep fun q hq => k q (by omega), I5.out.keep (k _ I5.out.lt), C6.out.keep (k _ C6.out.lt), ?_, ?_, (HB.out.alloc (by omega) _).alloc (by simp only [box_size]; omega) _, by simp only [box_size]⟩
        · unfold BX
          rw [box_old (by simp only [box_size]; omega), heap_alloc_new]
        · have := box_new (wr.alloc (Obj.cells #[Value.slice none 0 0] 24)) (Value.int .i64 0) 3
          rw [box_size] at this
          exact this)
      generalize ((wr.alloc (Obj.cells #[Value.slice none 0 0] 24)).alloc (Obj.cells #[Value.int .i64 0] 3)) = w6 at *
      obtain ⟨b7, hb7⟩ : ∃ b7, b7 = wr.heap.size := ⟨_, rfl⟩
      rw [← hb7] at Q6 S7 ⊢
      clear hb7 P I5 C6 HB
      have c1 := Q6.out.1.x1.cell
      go_upto_region 13 with (first
        | (at_make; refine wpList_make_full _ rfl _ _ 24 rfl w6.heap.size 3 i0 (.int .i64 0) 1 Try.underlying24 hi hz0 hz1 .i64 .i64 _ _ m rfl rfl (by omega) (by omega) (by rw [hz2]; omega) (by unfold maxLen; omega) (Nat.le_refl _) ?_; intro w5 hown0 hgrow0))
      rw [made_ints] at hown0
      have I9 := Lib.hid (IR.of hown0)
      have B9 := Lib.hid (show Below w6.heap.size w6 w5 from (Below.refl _ _).grown hgrow0 (Nat.le_refl _) (fun k e => by cases e))
      clear hown0 hgrow0 c1
      obtain ⟨b9, hb9⟩ : ∃ b9, b9 = w6.heap.size := ⟨_, rfl⟩
      rw [← hb9] at I9 B9 ⊢
      have K7 := Lib.hid (show (∀ q, q < w5.heap.size → ((w5.alloc (Obj.cells #[Value.slice (some ⟨b9, 0, none⟩) m m] 24)).alloc (Obj.cells #[Value.nilFunc] 45)).heap[q]? = w5.heap[q]?) ∧ BX ((w5.alloc (Obj.cells #[Value.slice (some ⟨b9, 0, none⟩) m m] 24)).alloc (Obj.cells #[Value.nilFunc] 45)) w5.heap.size 24 (.slice (some ⟨b9, 0, none⟩) m m) ∧ BX ((w5.alloc (Obj.cells #[Value.slice (some ⟨b9, 0, none⟩) m m] 24)).alloc (Obj.cells #[Value.nilFunc] 45)) (w5.heap.size + 1) 45 .nilFunc ∧ Below w5.heap.size w5 ((w5.alloc (Obj.cells #[Value.slice (some ⟨b9, 0, none⟩) m m] 24)).alloc (Obj.cells #[Value.nilFunc] 45)) from by
        refine ⟨fun q hq => by rw [box_old (by simp only [box_size]; omega), box_old hq], ?_, ?_, ((Below.refl _ _).alloc (Nat.le_refl _) _).alloc (by simp only [box_size]; omega) _⟩
        · unfold BX
          rw [box_old (by simp only [box_size]; omega), heap_alloc_new]
        · have := box_new (w5.alloc (Obj.cells #[Value.slice (some ⟨b9, 0, none⟩) m m] 24)) Value.nilFunc 45
          rw [box_size] at this
          exact this)
      generalize ((w5.alloc (Obj.cells #[Value.slice (some ⟨b9, 0, none⟩) m m] 24)).alloc (Obj.cells #[Value.nilFunc] 45)) = w7 at *
      have S9 := Lib.hid (show b9 = b7 + 1 + 1 ∧ b9 < w5.heap.size from ⟨hb9.trans Q6.out.2.2.2.2.2.2, I9.out.lt⟩)
      obtain ⟨b10, hb10⟩ : ∃ b10, b10 = w5.heap.size := ⟨_, rfl⟩
      rw [← hb10] at K7 S9 ⊢
      have XLh := Lib.hid (show XL b1 (b1 + 1) (b1 + 1 + 1) (b1 + 1 + 1 + 1) b5 b6 b7 (b7 + 1) b9 b10 (b10 + 1) from by
        have h1 := S1.out
        have h5 := S5.out
        have h7 := S7.out
        have h9 := S9.out
        exact ⟨by omega, by omega, by omega, by omega, by omega, by omega, by omega, by omega, by omega, by omega⟩)
      obtain ⟨F, hF⟩ : ∃ F, F = (Value.func (.func 13) #[] #[.pointer (some ⟨b1, 0, none⟩), .pointer (some ⟨b1 + 1 + 1, 0, none⟩), .pointer (some ⟨b1 + 1, 0, none⟩), .pointer (some ⟨b1 + 1 + 1 + 1, 0, none⟩), .pointer (some ⟨b7, 0, none⟩), .pointer (some ⟨b7 + 1, 0, none⟩), .pointer (some ⟨b10, 0, none⟩), .pointer (some ⟨b6, 0, none⟩), .pointer (some ⟨b10 + 1, 0, none⟩)]) := ⟨_, rfl⟩
      have st8 : (store ⟨b10 + 1, 0, none⟩ (Value.func (.func 13) #[] #[.pointer (some ⟨b1, 0, none⟩), .pointer (some ⟨b1 + 1 + 1, 0, none⟩), .pointer (some ⟨b1 + 1, 0, none⟩), .pointer (some ⟨b1 + 1 + 1 + 1, 0, none⟩), .pointer (some ⟨b7, 0, none⟩), .pointer (some ⟨b7 + 1, 0, none⟩), .pointer (some ⟨b10, 0, none⟩), .pointer (some ⟨b6, 0, none⟩), .pointer (some ⟨b10 + 1, 0, none⟩)]) .plain).run Try.prog w7 = .ok () (w7.setCell ⟨b10 + 1, 0, none⟩ F) := by
        rw [← hF]
        exact store_one2 (by rw [hF]; rfl) w7 _ (by rw [K7.out.2.2.1.cell]; rfl) K7.out.2.2.1.frozen
      have X8 := Lib.hid (show XM b1 (b1 + 1) (b1 + 1 + 1) (b1 + 1 + 1 + 1) b5 b6 b7 (b7 + 1) b9 b10 (b10 + 1) p m c b l h (fun j => Bl.beh (baF A m) m (m - j)) (w7.setCell ⟨b10 + 1, 0, none⟩ F) (.slice none 0 0) 0 (fun _ => 0) from by
        have h1 := S1.out
        have h5 := S5.out
        have h7 := S7.out
        have h9 := S9.out
        have k : ∀ q, q < b9 → (w7.setCell ⟨b10 + 1, 0, none⟩ F).heap[q]? = w6.heap[q]? := fun q hq => by
          rw [Below.heap_setCell _ _ _ _ (by show q ≠ b10 + 1; omega), K7.out.1 q (by omega)]
          exact B9.out.block q hq
        have k9 : (w7.setCell ⟨b10 + 1, 0, none⟩ F).heap[b9]? = w5.heap[b9]? := by
          rw [Below.heap_setCell _ _ _ _ (by show b9 ≠ b10 + 1; omega), K7.out.1 b9 (by omega)]
        have k10 : (w7.setCell ⟨b10 + 1, 0, none⟩ F).heap[b10]? = w7.heap[b10]? := Below.heap_setCell _ _ _ _ (by show b10 ≠ b10 + 1; omega)
        obtain ⟨⟨x1, x2, x3, x4⟩, x5, x6, x7, x8, -, -⟩ := Q6.out
        obtain ⟨-, y1, y2, -⟩ := K7.out
        exact ⟨x1.keep (k _ (by omega)), x2.keep (k _ (by omega)), x3.keep (k _ (by omega)), x4.keep (k _ (by omega)), x5.keep (k _ (by omega)), x6.keep (k _ (by omega)), x7.keep (k _ (by omega)), x8.keep (k _ (by omega)), I9.out.keep k9, y1.keep k10, by rw [← hF]; exact y2.set F⟩)
      have B8 := Lib.hid (show Below b1 w (w7.setCell ⟨b10 + 1, 0, none⟩ F) from by
        have h1 := S1.out
        have h5 := S5.out
        have h7 := S7.out
        have h9 := S9.out
        exact ((Q6.out.2.2.2.2.2.1.trans (B9.out.mono (by omega))).trans (K7.out.2.2.2.mono (by omega))).setCell (by show b1 ≤ b10 + 1; omega) _)
      clear Q6 I9 B9 K7 hb9 hb10 S1 S5 S7 S9
      go_upto_region 14 with fail
      clear st8
      rw [← hF]
      generalize w7.setCell ⟨b10 + 1, 0, none⟩ F = w8 at *
      have cg := X8.out.x11.cell
      have c2 := X8.out.x2.cell
      have hp := Lib.hid (show ∀ x, p = some x → 0 < m → x.block < b1 from fun x e h0 => by
        obtain ⟨y, e', k⟩ := R.out 0 h0
        rw [e] at e'; cases e'
        have := k.blk
        rw [addB] at this
        rw [HB1.out]; exact this)
      have RT := Lib.hid (R.out.below (by have k := B8.out; rw [HB1.out] at k; exact k))
      have GC := Lib.hid (bsea_any XLh.out m6 bb bl bh A AOK.out hp.out (baF A m) (fun j hj => if_pos hj) (fun j => by unfold baF; split <;> first | exact (AOK.out _ (by assumption)).1.1 | omega) (fun j => by unfold baF; split <;> first | exact (AOK.out _ (by assumption)).1.2 | omega) (fun i d e => by show Bl.beh (baF A m) m (m - i) = _; rw [show m - i = d by omega]) m 0 (Nat.zero_add m) b [] none w8 (.slice none 0 0) 0 (fun _ => 0) rfl (by omega) bb.2 (fun e => by omega) X8.out (.inl ⟨rfl, rfl, rfl⟩) RT.out (fun j hj => by omega) ⟨Int.le_refl _, by show (0 : Int) + b * 10000 ≤ 240000; omega⟩ ⟨Int.le_refl _, by show (0 : Int) + b * 16384 ≤ 393216; omega⟩)
      rw [show Bl.dot (fun j => (A j).mi) 0 [] = 0 from rfl, show Bl.dot (fun j => (A j).pr) 0 [] = 0 from rfl] at GC
      have q22 : ∀ (w : World) (a : Option Addr) (n c n' c' : Nat), (binOp .eql 24 (.slice a n c) (.slice none n' c')).run Try.prog w = .ok (.bool a.isNone) w := fun w a n c n' c' => Lib.run_eql_slice_nil w _ _ a n c n' c' Try.underlying24
      have Z8 := Lib.hid X8.out.x1.lt
      clear hF RT hp X8 m6 bb bl bh AOK
      go_wp2_with fail
      refine (GC.out).mono ?_
      rintro e w9 ⟨rfl, v9, L9, O9, x9, hb9, -, f9⟩
      have B9 := Lib.hid (show Below w.heap.size w w9 from by
        rw [← HB1.out]
        exact B8.out.trans ⟨f9.os, f9.tape, f9.output, f9.size, fun k hk => f9.block k (by have := Z8.out; omega) (XLh.out.mod (.inl hk))⟩)
      have c7 := x9.x7.cell
      have c8 := x9.x8.cell
      rcases hb9 with ⟨e1, rfl, rfl⟩ | ⟨ys, g, cc, e1, rfl, hg, hy, nr⟩
      · have FF := Lib.hid (show BlQ m A b l h w (.returned (.tuple #[.slice none 0 0, .int .i64 0, .int .i64 13])) w9 from ⟨13, _, 0, rfl, B9.out, .inl ⟨by decide, rfl, rfl, .inr ⟨BE.out, rfl, e1⟩⟩⟩)
        clear x9 f9 e1 GC cg c2
        go_wp2_with fail
        go_returns
        exact FF.out
      · have FF := Lib.hid (show ∀ k, BlQ m A b l h w (.returned (.tuple #[.slice (some ⟨g, 0, none⟩) m cc, .int .i64 L9, .int .i64 0])) (w9.drewN k) from fun k => ⟨0, _, L9, rfl, below_drewN B9.out _, .inr ⟨rfl, BE.out, ys, g, cc, e1, rfl, hy, fun i hi => nr i hi⟩⟩)
        clear x9 f9 e1 GC cg c2 nr hy hg
        go_upto_region 17 with fail
        go_region_law (fail)
        all_goals
          go_wp2_with fail
          go_returns
          first | exact FF.out 0 | exact FF.out 1 | exact FF.out _
end Go.Proofs.Ytapffmaihkimkaa
