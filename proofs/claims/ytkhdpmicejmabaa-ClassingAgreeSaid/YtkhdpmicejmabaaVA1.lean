/- Classing tests: the order and the sort (merged). -/
import Derived.Test.YtkhdpmicejmabaaCT3
/- Classing's tests: the comparison of the sort, and the order. -/
namespace Go.Proofs.Ytkhdpmicejmabaa
open Go.RowKit Go.Proofs.Ytkhdpmicejmabaa.Ct Go.Proofs.Ytkhdpmicejmabaa.Stb
set_option linter.unusedVariables false
set_option linter.unusedSimpArgs false

def ocB (S : Nat → Sb) (x y : Int) : Int := cmpV ((S x.toNat).wl * (S y.toNat).raw) ((S y.toNat).wl * (S x.toNat).raw)
theorem ocB_lt (S : Nat → Sb) (x y : Int) : ocB S x y < 0 ↔ bl S x y < 0 := by
  unfold ocB bl
  rw [cmpV_lt]
  omega
theorem ocB_neg (S : Nat → Sb) (x y : Int) (h : x < y) : ocB S y x < 0 ↔ RB S y x := by rw [ocB_lt]; exact rb_neg S x y h
theorem rb_Tot {S : Nat → Sb} (G : Ct.Good S) (V : Int → Prop) : Tot (RB S) V :=
  ⟨fun x y z _ _ _ a b => rb_tr G a b, fun x y _ _ ne n => by
    rcases rb_tot3 (S := S) ne with h | h
    · exact absurd h n
    · exact h⟩
/-- What the comparison reads. -/
structure KpB (X b n : Nat) (S : Nat → Sb) (B : Nat) (w : World) : Prop where
  cX : w.cell? ⟨X, 0, none⟩ = some (.pointer (some ⟨b, 0, none⟩))
  sb : SubsAt w b n S
  xB : X ≠ B
  bB : b ≠ B
  xl : X < w.heap.size
  bl : b < w.heap.size
theorem KpB.keep {X b n : Nat} {S : Nat → Sb} {B : Nat} {w w' : World} (sz : w.heap.size ≤ w'.heap.size) (e : ∀ k, k ≠ B → k < w.heap.size → w'.heap[k]? = w.heap[k]?) (h : KpB X b n S B w) : KpB X b n S B w' := by
  refine ⟨?_, fun i hi => (h.sb i hi).keep sz (e b h.bB h.bl), h.xB, h.bB, Nat.lt_of_lt_of_le h.xl sz, Nat.lt_of_lt_of_le h.bl sz⟩
  have := h.cX
  unfold World.cell? at *
  rw [e X h.xB h.xl]; exact this

set_option maxRecDepth 100000 in
set_option maxHeartbeats 4000000 in
theorem baseLess_any (X b n : Nat) (S : Nat → Sb) (G : Ct.Good S) (n8 : n ≤ 8) (B : Nat) (x y : Int) (w : World) (h : KpB X b n S B w) (hx : 0 ≤ x ∧ x < n) (hy : 0 ≤ y ∧ y < n) :
    Calls Try.prog 56 #[.int .i64 x, .int .i64 y, .pointer (some ⟨X, 0, none⟩)] w fun e w' => e = .returned (.int .i64 (ocB S x y)) ∧ Below w.heap.size w w' := by
  obtain ⟨cX, sb, -, -, -, -⟩ := h
  obtain ⟨u, rfl⟩ := Int.eq_ofNat_of_zero_le hx.1
  obtain ⟨v, rfl⟩ := Int.eq_ofNat_of_zero_le hy.1
  obtain ⟨-, a0, a1, a2, a3, a4⟩ := sb u (by omega)
  obtain ⟨-, b0, b1, b2, b3, b4⟩ := sb v (by omega)
  have JE := Lib.hid (show ocB S (u : Int) (v : Int) = cmpV ((S u).wl * (S v).raw) ((S v).wl * (S u).raw) from rfl)
  obtain ⟨p1, p2, p3, p4, -⟩ := Sb.bd (G u)
  obtain ⟨q1, q2, q3, q4, -⟩ := Sb.bd (G v)
  have m1 := Int.mul_nonneg p3 (show 0 ≤ (S v).raw by omega)
  have m2 := Int.mul_le_mul (show (S u).wl ≤ 10000 by omega) q2 (by omega) (by omega)
  have m3 := Int.mul_nonneg q3 (show 0 ≤ (S u).raw by omega)
  have m4 := Int.mul_le_mul (show (S v).wl ≤ 10000 by omega) p2 (by omega) (by omega)
  have CU := Lib.hid (fun W => base_any (S u) (G u) W)
  have CV := Lib.hid (fun W => base_any (S v) (G v) W)
  have CC := Lib.hid (fun W => compare_any (S u).wl (S u).raw (S v).wl (S v).raw (by omega) (by omega) W)
  unfold sbV at CU CV
  have u1 : (0 : Int) ≤ (u : Int) := by omega
  have u2 : (u : Int) < 8 := by omega
  have v1 : (0 : Int) ≤ (v : Int) := by omega
  have v2 : (v : Int) < 8 := by omega
  rw [JE.out]
  clear JE hx hy sb G p1 p2 p3 p4 q1 q2 q3 q4 m1 m2 m3 m4
  generalize cmpV ((S u).wl * (S v).raw) ((S v).wl * (S u).raw) = r at *
  generalize S u = su at *
  generalize S v = sv at *
  go_enter Try.func56, Try.ntmps56
  go_wp2_with fail
  go_region_held3 (fun w' => w'.cell? ⟨X, 0, none⟩ = some (.pointer (some ⟨b, 0, none⟩)) ∧ w'.cell? ⟨b, 3 + u * 5, none⟩ = some (.int .i64 su.raw) ∧ w'.cell? ⟨b, 3 + u * 5 + 1, none⟩ = some (.int .i64 su.dry) ∧ w'.cell? ⟨b, 3 + u * 5 + 2, none⟩ = some (.int .i64 su.ash) ∧ w'.cell? ⟨b, 3 + u * 5 + 3, none⟩ = some (.int .i64 su.gre) ∧ w'.cell? ⟨b, 3 + u * 5 + 4, none⟩ = some (.int .i64 su.veg) ∧ w'.cell? ⟨b, 3 + v * 5, none⟩ = some (.int .i64 sv.raw) ∧ w'.cell? ⟨b, 3 + v * 5 + 1, none⟩ = some (.int .i64 sv.dry) ∧ w'.cell? ⟨b, 3 + v * 5 + 2, none⟩ = some (.int .i64 sv.ash) ∧ w'.cell? ⟨b, 3 + v * 5 + 3, none⟩ = some (.int .i64 sv.gre) ∧ w'.cell? ⟨b, 3 + v * 5 + 4, none⟩ = some (.int .i64 sv.veg)) (first | exact ⟨cX, a0, a1, a2, a3, a4, b0, b1, b2, b3, b4⟩ | exact ⟨cellDr cX, cellDr a0, cellDr a1, cellDr a2, cellDr a3, cellDr a4, cellDr b0, cellDr b1, cellDr b2, cellDr b3, cellDr b4⟩) (first
    | ((go_at_call 57; (with_reducible refine (CU.out _).mono ?_); rintro e w2 ⟨rfl, q⟩; have st : Below w.heap.size w w2 := (by first | exact q | exact (Below.refl _ _).drew.trans q); have cX := cellGr st cX; have a0 := cellGr st a0; have a1 := cellGr st a1; have a2 := cellGr st a2; have a3 := cellGr st a3; have a4 := cellGr st a4; have b0 := cellGr st b0; have b1 := cellGr st b1; have b2 := cellGr st b2; have b3 := cellGr st b3; have b4 := cellGr st b4; have ST := Lib.hid st; clear q st))
    | ((go_at_call 57; (with_reducible refine (CV.out _).mono ?_); rintro e w3 ⟨rfl, q⟩; have st : Below w2.heap.size w2 w3 := (by first | exact q | exact (Below.refl _ _).drew.trans q); have cX := cellGr st cX; have a0 := cellGr st a0; have a1 := cellGr st a1; have a2 := cellGr st a2; have a3 := cellGr st a3; have a4 := cellGr st a4; have b0 := cellGr st b0; have b1 := cellGr st b1; have b2 := cellGr st b2; have b3 := cellGr st b3; have b4 := cellGr st b4; have ST := Lib.hid (ST.out.trans (st.mono ST.out.size)); clear q st))
    | ((go_at_call 39; (with_reducible refine (CC.out _).mono ?_); rintro e w4 ⟨rfl, q⟩; have st : Below w3.heap.size w3 w4 := (by first | exact q | exact (Below.refl _ _).drew.trans q); have cX := cellGr st cX; have a0 := cellGr st a0; have a1 := cellGr st a1; have a2 := cellGr st a2; have a3 := cellGr st a3; have a4 := cellGr st a4; have b0 := cellGr st b0; have b1 := cellGr st b1; have b2 := cellGr st b2; have b3 := cellGr st b3; have b4 := cellGr st b4; have ST := Lib.hid (ST.out.trans (st.mono ST.out.size)); clear q st)))
  go_wp2_with fail
  go_ret
  exact ⟨rfl, ST.out⟩
end Go.Proofs.Ytkhdpmicejmabaa

/- Classing's tests: the order of the subsamples, the program's. -/
namespace Go.Proofs.Ytkhdpmicejmabaa
open Go.RowKit Go.Proofs.Ytkhdpmicejmabaa.Ct Go.Proofs.Ytkhdpmicejmabaa.Stb
set_option linter.unusedVariables false
set_option linter.unusedSimpArgs false

theorem intInfo : (Try.prog.info? 3).map (fun i => (i.zero, i.size, i.bytes)) = some (some (.int .i64 0), 1, 8) := by kernel_rfl
theorem made_ints (n : Nat) : (madeCells (Value.int .i64 0).cells (n * 1)).toList = (List.range n).map fun k => Value.int .i64 ((fun _ => 0) k) := by
  rw [Nat.mul_one, show (Value.int .i64 0).cells = #[.int .i64 0] from rfl, toList_madeCells_one]
  apply List.ext_getElem <;> simp
theorem ownBase {W : World} {a b : Nat} {e : TypeId} {s : Nat} {v : Value} {n : Nat} {xs : List Value} (hab : a ≤ b) (h : W.ownsRow b e s v n xs) : W.ownsRow a e s v n xs := by
  refine ⟨h.1, ?_⟩
  rcases h.2 with h0 | ⟨g, cap, cur, e1, hb, r⟩
  · exact .inl h0
  · exact .inr ⟨g, cap, cur, e1, Nat.le_trans hab hb, r⟩
theorem SW.ext {B N C : Nat} {w0 w : World} {f g : Nat → Int} (s : SW B N C w0 w f) (h : ∀ k, k < N → f k = g k) : SW B N C w0 w g := by
  refine ⟨?_, s.sz, s.bl, s.os, s.tp, s.ou⟩
  have e : ((List.range N).map fun k => Value.int .i64 (f k)) = (List.range N).map fun k => Value.int .i64 (g k) := List.map_congr_left fun k hk => by rw [h k (List.mem_range.1 hk)]
  rw [← e]; exact s.row
theorem SW.lt {B N C : Nat} {w0 w : World} {f : Nat → Int} (s : SW B N C w0 w f) (h : 0 < N) : B < w.heap.size := World.block_lt_of_cell? w ⟨B, 0, none⟩ (s.cell h)
/-- The order in a block of its own. -/
theorem gi_map {n : Nat} {g : Nat → Int} {k : Nat} (h : k < n) : gi ((List.range n).map g) k = g k := by simp [gi, h]
theorem sort_ord {n : Nat} {g : Nat → Int} (h : Pm 0 n (fun k => (k : Int)) g) : IsO n ((List.range n).map g) := by
  refine ⟨by simp, fun k hk => ?_, fun i j ij jn => ?_⟩
  · rw [gi_map hk]
    obtain ⟨j, j1, j2, e⟩ := h.src (Nat.zero_le k) hk
    rw [e]; omega
  · rw [gi_map (by omega), gi_map jn]
    intro e
    have := h.inj (fun i j e => by omega) i j e
    omega
theorem below_sw {B N C : Nat} {w w0 w' : World} {f : Nat → Int} (s : SW B N C w0 w' f) (b : Below w.heap.size w w0) (h : w.heap.size ≤ B) : Below w.heap.size w w' :=
  ⟨s.os.trans b.os, s.tp.trans b.tape, s.ou.trans b.output, Nat.le_trans b.size s.sz, fun k hk => (s.bl k (by omega) (Nat.lt_of_lt_of_le hk b.size)).trans (b.block k hk)⟩

/-- What byBase answers: the order in a row of its own. -/
def BbQ (S : Nat → Sb) (n : Nat) (w : World) (e : Ending) (w' : World) : Prop := ∃ (g : Nat), e = .returned (.slice (some ⟨g, 0, none⟩) n n) ∧ w.heap.size ≤ g ∧ SW g n n w' w' (gi (ordB S n)) ∧ Below w.heap.size w w'

set_option maxRecDepth 100000 in
set_option maxHeartbeats 4000000 in
theorem byBase_any (b n : Nat) (S : Nat → Sb) (G : Ct.Good S) (n8 : n ≤ 8) (w : World) (hs : SubsAt w b n S) (hb : b < w.heap.size) (c2 : w.cell? ⟨b, 2, none⟩ = some (.int .i64 n)) :
    Calls Try.prog 37 #[.pointer (some ⟨b, 0, none⟩)] w (BbQ S n w) := by
  obtain ⟨i0, hi, hz0, hz1, hz2⟩ := info_parts intInfo
  have B1 : Below w.heap.size w (w.alloc (Obj.cells #[.pointer (some ⟨b, 0, none⟩)] 24)) := (Below.refl _ _).alloc (Nat.le_refl _) _
  have X1 : (w.alloc (Obj.cells #[.pointer (some ⟨b, 0, none⟩)] 24)).cell? ⟨w.heap.size, 0, none⟩ = some (.pointer (some ⟨b, 0, none⟩)) := by simp [go_sem]
  have z1 : (w.alloc (Obj.cells #[.pointer (some ⟨b, 0, none⟩)] 24)).heap.size = w.heap.size + 1 := by simp
  have P := Lib.hid (show SubsAt (w.alloc (Obj.cells #[.pointer (some ⟨b, 0, none⟩)] 24)) b n S from hs.below B1)
  have c2 := cellGr B1 c2
  have PB := Lib.hid (show Below w.heap.size w (w.alloc (Obj.cells #[.pointer (some ⟨b, 0, none⟩)] 24)) ∧ b < w.heap.size ∧ (w.alloc (Obj.cells #[.pointer (some ⟨b, 0, none⟩)] 24)).heap.size = w.heap.size + 1 from ⟨B1, hb, z1⟩)
  have XX := Lib.hid X1
  clear hs B1 hb z1
  go_enter Try.func37, Try.ntmps37
  go_upto_region 1 with fail
  generalize (w.alloc (Obj.cells #[.pointer (some ⟨b, 0, none⟩)] 24)) = w1 at *
  have n0 : ¬ (n : Int) < 0 := by omega
  go_wp2_with (first
    | (at_make; refine wpList_make_full _ rfl _ _ 28 rfl w1.heap.size 3 i0 (.int .i64 0) 1 Try.underlying28 hi hz0 hz1 .i64 .i64 _ _ n rfl rfl (by omega) (by omega) (by rw [hz2]; omega) (by unfold maxLen; omega) (Nat.le_refl _) ?_; intro w0 hown0 hgrow0))
  rw [made_ints] at hown0
  have B0 := Lib.hid (show Below w1.heap.size w1 w0 from (Below.refl _ _).grown hgrow0 (Nat.le_refl _) (fun k e => by cases e))
  obtain ⟨g, hg⟩ : ∃ g, g = w1.heap.size := ⟨_, rfl⟩
  have S0 := Lib.hid (show SW g n n w0 w0 (fun _ => 0) from by rw [hg]; exact ⟨ownBase (Nat.zero_le _) hown0, Nat.le_refl _, fun _ _ _ => rfl, rfl, rfl, rfl⟩)
  have K0 := Lib.hid (show KpB w.heap.size b n S g w0 from by
    obtain ⟨p1, p2, p3⟩ := PB.out
    have bs := B0.out.size
    exact ⟨cellGr B0.out XX.out, P.out.below B0.out, by omega, by omega, by omega, by omega⟩)
  rw [← hg]
  have HG := Lib.hid hg
  have cx := K0.out.cX
  clear hown0 hgrow0 hg c2 X1 XX P
  go_loopw [12] (fun kv wr => ∃ i : Nat, i ≤ n ∧ kv = .int .i64 i ∧ Hid (SW g n n w0 wr (fun k => if k < i then (k : Int) else 0))) (fun kv _ => n - (intOf kv).toNat)
  case atStart => exact ⟨0, Nat.zero_le _, rfl, Lib.hid (S0.out.ext fun k _ => by simp)⟩
  case round =>
    obtain ⟨i, hi', rfl, HS⟩ := hrel
    clear S0
    by_cases t1 : i < n
    · have i1 : (0 : Int) ≤ (i : Int) := by omega
      have i2 : (i : Int) < (n : Int) := by omega
      have ci := HS.out.cell t1
      have fi := HS.out.frozen i
      have NX := Lib.hid ((HS.out.set i (i : Int)).ext (g := fun k => if k < i + 1 then (k : Int) else 0) fun k _ => by
        unfold upd
        by_cases e : k = i
        · subst e; simp
        · rw [if_neg e]
          dsimp only
          by_cases l : k < i
          · rw [if_pos l, if_pos (by omega)]
          · rw [if_neg l, if_neg (by omega)])
      clear HS
      generalize (if i < i then (i : Int) else 0) = z at ci
      go_wp2_with fail
      go_roundw
      case rel => exact ⟨i + 1, by omega, by go_num, NX⟩
      case measure => simp [intOf]; omega
    · obtain rfl : i = n := by omega
      have CC := Lib.hid (sortStable_any g i i 56 (.pointer (some ⟨w.heap.size, 0, none⟩)) (fun x => 0 ≤ x ∧ x < i) (RB S) (ocB S) (KpB w.heap.size b i S g)
        ⟨fun x y w' h hx hy => baseLess_any w.heap.size b i S G n8 g x y w' h hx hy, fun x y _ _ h => ocB_neg S x y h, fun A B sz bl h => h.keep sz bl, rb_Tot G _, fun args W' => by rfl⟩
        w0 K0.out (fun k => (k : Int)) wr (HS.out.ext fun k hk => if_pos hk) (by omega) (fun _ _ => rfl) (fun k hk => ⟨by omega, by omega⟩))
      clear HS
      go_wp2_with fail
      refine CC.out.mono ?_
      rintro e w4 ⟨rfl, h, S1, P1, R1⟩
      have IO : (List.range i).map h = ordB S i := base_uniq G (sort_ord P1) (ordB_ord G i) (fun a c ij jn => by
        rw [gi_map (by omega), gi_map jn]
        exact R1 a c (Nat.zero_le _) ij jn) (ordB_rd G i)
      have Q := Lib.hid (show BbQ S i w (.returned (.slice (some ⟨g, 0, none⟩) i i)) w4 from by
        obtain ⟨p1, p2, p3⟩ := PB.out
        have e := HG.out
        have bb := below_sw (w := w) S1 (p1.trans (B0.out.mono p1.size)) (by omega)
        refine ⟨g, rfl, by omega, ?_, bb⟩
        have S2 : SW g i i w4 w4 h := ⟨S1.row, Nat.le_refl _, fun _ _ _ => rfl, rfl, rfl, rfl⟩
        exact S2.ext fun k hk => by rw [← IO, gi_map hk])
      clear CC S1 P1 R1 IO
      go_wp2_with fail
      go_ret
      exact Q.out
end Go.Proofs.Ytkhdpmicejmabaa

/- Classing's tests: slices.Sort on a piece of a row. -/
namespace Go.Proofs.Ytkhdpmicejmabaa
open Go.RowKit Go.Proofs.Ytkhdpmicejmabaa.Ct Go.Proofs.Ytkhdpmicejmabaa.Stb
set_option linter.unusedVariables false
set_option linter.unusedSimpArgs false

theorem less_any (a b : Int) (w : World) : Calls Try.prog 77 #[.int .i64 a, .int .i64 b] w fun e w' => e = .returned (.bool (decide (a < b))) ∧ w = w' := by
  have I1 := Lib.hid (isNaN_any a)
  by_cases h1 : a < b
  · have d1 : decide (a < b) = true := decide_eq_true h1
    rw [d1]
    go_enter Try.func77, Try.ntmps77
    go_wp2_with fail
    refine (I1.out _).mono ?_
    rintro e w1 ⟨rfl, rfl⟩
    go_wp2_with fail
    go_ret
    exact ⟨rfl, rfl⟩
  · have d1 : decide (a < b) = false := decide_eq_false h1
    rw [d1]
    go_enter Try.func77, Try.ntmps77
    go_wp2_with fail
    refine (I1.out _).mono ?_
    rintro e w1 ⟨rfl, rfl⟩
    go_wp2_with fail
    go_ret
    exact ⟨rfl, rfl⟩
theorem lt_tot : Tot (fun x y : Int => x < y) (fun _ => True) := ⟨fun x y z _ _ _ a b => by omega, fun x y _ _ ne n => by omega⟩

set_option maxRecDepth 100000 in
set_option maxHeartbeats 4000000 in
theorem insOrd_any (B N C a z cap : Nat) (f : Nat → Int) (w0 w : World) (s : SW B N C w0 w f) (haz : a + z ≤ N) (hN : N ≤ 1000000) (inj : ∀ i j, f i = f j → i = j) :
    Calls Try.prog 71 #[.slice (some ⟨B, a, none⟩) z cap, .int .i64 0, .int .i64 z] w fun e w' => e = .returned (.tuple #[]) ∧ ∃ g, SW B N C w0 w' g ∧ Pm a (a + z) f g ∧ Srt (fun x y : Int => x < y) a (a + z) g := by
  have S := Lib.hid s
  have HI := Lib.hid inj
  clear s inj
  go_enter Try.func71, Try.ntmps71
  go_wp2_with fail
  go_loopw [6] (fun kv wr => ∃ (i : Nat) (g : Nat → Int), 1 ≤ i ∧ kv = .int .i64 i ∧ (i ≤ z ∨ i = 1) ∧ Hid (SW B N C w0 wr g ∧ Pm a (a + z) f g ∧ Srt (fun x y : Int => x < y) a (a + i) g)) (fun kv _ => z - (intOf kv).toNat)
  case atStart => exact ⟨1, f, Nat.le_refl _, rfl, .inr rfl, Lib.hid ⟨S.out, Pm.refl _ _ _, fun p q h1 h2 h3 => by omega⟩⟩
  case round =>
    obtain ⟨i, g, hi, rfl, hb, G⟩ := hrel
    clear S
    by_cases t1 : i < z
    · have G0 := Lib.hid G.out.1
      have IB := Lib.hid (show Ins (fun x y : Int => x < y) a (a + i) (a + i) g ∧ Pm a (a + z) f g from ⟨Ins.begin G.out.2.2, G.out.2.1⟩)
      have IZ := Lib.hid (show i < z ∧ 1 ≤ i from ⟨t1, hi⟩)
      clear G hi
      go_wp2_with fail
      go_loopw [7] (fun jv wr => ∃ (j : Nat) (h : Nat → Int), j ≤ i ∧ jv = .int .i64 j ∧ Hid (SW B N C w0 wr h) ∧ Hid (Ins (fun x y : Int => x < y) a (a + i) (a + j) h ∧ Pm a (a + z) f h)) (fun jv _ => (intOf jv).toNat)
      case atStart => exact ⟨i, g, Nat.le_refl _, rfl, G0, IB⟩
      case round =>
        obtain ⟨j, h, ji, rfl, RS, RI⟩ := hrel
        clear G0 IB
        by_cases t2 : j = 0
        · have DN := Lib.hid (show Srt (fun x y : Int => x < y) a (a + (i + 1)) h from RI.out.1.done lt_tot (by omega) (by omega) (fun _ _ _ => trivial) (.inl (by omega)))
          have PN := Lib.hid RI.out.2
          subst t2
          clear RI
          go_wp2_with fail
          go_quiet (fail)
          have RS := Lib.hid (RS.out.drewN nq)
          generalize wr.drewN nq = v at RS ⊢
          go_wp2_with fail
          go_roundw
          case rel =>
            have := IZ.out
            exact ⟨i + 1, h, by omega, by go_num, .inl (by omega), Lib.hid ⟨RS.out, PN.out, DN.out⟩⟩
          case measure => have := IZ.out; simp [intOf]; omega
        · obtain ⟨x, hx⟩ : ∃ x, j = x + 1 := ⟨j - 1, by omega⟩
          have cj := RS.out.cell (show a + j < N by have := IZ.out; omega)
          have cx := RS.out.cell (show a + x < N by have := IZ.out; omega)
          have ex : IntKind.i64.wrap ((j : Int) - 1) = (x : Int) := by rw [hwI (by omega) (by omega)]; omega
          have t3 : decide ((0 : Int) < (j : Int)) = true := decide_eq_true (by omega)
          have t4 : 0 < j := by omega
          have x0 : (0 : Int) ≤ (x : Int) := by omega
          have x1 : (x : Int) < (z : Int) := by have := IZ.out; omega
          have j0 : (0 : Int) ≤ (j : Int) := by omega
          have j1 : (j : Int) < (z : Int) := by have := IZ.out; omega
          have CL := Lib.hid (fun W => less_any (h (a + j)) (h (a + x)) W)
          have NE := Lib.hid (show h (a + j) ≠ h (a + x) from fun e => by have := RI.out.2.inj HI.out _ _ e; omega)
          have xi := Lib.hid (show j = x + 1 ∧ j ≤ i from ⟨hx, ji⟩)
          have XJ : ¬ a + x = a + j := by omega
          have JX : ¬ a + j = a + x := by omega
          clear t2 ji hx
          by_cases cc : h (a + j) < h (a + x)
          · have ST := Lib.hid (show Ins (fun x y : Int => x < y) a (a + i) (a + x) (swp (a + j) (a + x) h) ∧ Pm a (a + z) f (swp (a + j) (a + x) h) from by
              obtain ⟨e1, e2⟩ := xi.out
              have z2 := IZ.out
              have := RI.out.1.step (by omega) (by omega) (show h (a + j) < h (a + j - 1) from by rw [show a + j - 1 = a + x by omega]; exact cc)
              rw [show a + j - 1 = a + x by omega] at this
              exact ⟨this, RI.out.2.trans (Pm.swp _ (by omega) (by omega) (by omega) (by omega))⟩)
            have d1 : decide (h (a + j) < h (a + x)) = true := decide_eq_true cc
            have RS0 := RS
            rw [d1] at CL
            clear RI RS NE cc d1
            generalize hp : h (a + j) = p at *
            generalize hq : h (a + x) = q at *
            have hp := Lib.hid hp
            have hq := Lib.hid hq
            go_wp2_with fail
            go_region_held3 (fun w' => w'.cell? ⟨B, a + j, none⟩ = some (.int .i64 p) ∧ w'.cell? ⟨B, a + x, none⟩ = some (.int .i64 q)) (first | exact ⟨cj, cx⟩ | exact ⟨cellDr cj, cellDr cx⟩) (first | ((go_at_call 77; (with_reducible refine (CL.out _).mono ?_); rintro e w1 ⟨rfl, rfl⟩)))
            have RS1 := Lib.hid RS0.out.drew
            clear CL cj cx
            have fj := RS1.out.frozen (a + j)
            have fx := RS1.out.frozen (a + x)
            have SP := Lib.hid (RS1.out.swap (a + j) (a + x))
            have cj := RS1.out.cell (show a + j < N by have := IZ.out; have := xi.out; omega)
            have cx := RS1.out.cell (show a + x < N by have := IZ.out; have := xi.out; omega)
            rw [hp.out] at cj SP
            rw [hq.out] at cx SP
            clear RS0 RS1 hp hq
            generalize wr.drew = v at *
            go_wp2_with fail
            go_region
            have RS := Lib.hid SP.out.drew
            clear SP cj cx fj fx
            generalize ((v.setCell ⟨B, a + j, none⟩ (.int .i64 q)).setCell ⟨B, a + x, none⟩ (.int .i64 p)).drew = v2 at RS ⊢
            go_wp2_with fail
            go_roundw
            case rel => exact ⟨x, swp (a + j) (a + x) h, by have := xi.out; omega, rfl, RS, ST⟩
            case measure => have := xi.out; simp [intOf]; omega
          · have DN := Lib.hid (show Srt (fun x y : Int => x < y) a (a + (i + 1)) h from by
              obtain ⟨e1, e2⟩ := xi.out
              have ne := NE.out
              exact RI.out.1.done lt_tot (by omega) (by omega) (fun _ _ _ => trivial) (.inr (show h (a + j - 1) < h (a + j) from by rw [show a + j - 1 = a + x by omega]; omega)))
            have PN := Lib.hid RI.out.2
            have d1 : decide (h (a + j) < h (a + x)) = false := decide_eq_false cc
            have RS0 := RS
            rw [d1] at CL
            clear RI RS NE cc d1
            generalize h (a + j) = p at *
            generalize h (a + x) = q at *
            go_wp2_with fail
            go_region_held3 (fun w' => w'.cell? ⟨B, a + j, none⟩ = some (.int .i64 p) ∧ w'.cell? ⟨B, a + x, none⟩ = some (.int .i64 q)) (first | exact ⟨cj, cx⟩ | exact ⟨cellDr cj, cellDr cx⟩) (first | ((go_at_call 77; (with_reducible refine (CL.out _).mono ?_); rintro e w1 ⟨rfl, rfl⟩)))
            have RS := Lib.hid RS0.out.drew
            clear RS0 CL cj cx
            generalize wr.drew = v at *
            go_wp2_with fail
            go_roundw
            case rel =>
              have := IZ.out
              exact ⟨i + 1, h, by omega, by go_num, .inl (by omega), Lib.hid ⟨RS.out, PN.out, DN.out⟩⟩
            case measure => have := IZ.out; simp [intOf]; omega
    · go_wp2_with fail
      go_end0
      refine ⟨rfl, g, G.out.1, G.out.2.1, ?_⟩
      rcases hb with hb | hb
      · have : i = z := by omega
        rw [this] at G; exact G.out.2.2
      · exact fun p q h1 h2 h3 => by omega
end Go.Proofs.Ytkhdpmicejmabaa

/- Classing's tests: slices.Sort whole, on a piece of a row of at most five. -/
namespace Go.Proofs.Ytkhdpmicejmabaa
open Go.RowKit Go.Proofs.Ytkhdpmicejmabaa.Ct Go.Proofs.Ytkhdpmicejmabaa.Stb
set_option linter.unusedVariables false
set_option linter.unusedSimpArgs false

set_option maxRecDepth 100000 in
theorem len64_small (z : Nat) (h : z = 2 ∨ z = 3 ∨ z = 4 ∨ z = 5) (w : World) : Calls Try.prog 81 #[.int .u64 z] w fun e w' => ∃ r : Int, e = .returned (.int .i64 r) ∧ w = w' := by
  rcases h with rfl | rfl | rfl | rfl
  all_goals
    go_enter Try.func81, Try.ntmps81
    go_wp2_with fail
    go_ret
    exact ⟨_, rfl, rfl⟩
theorem len_small (z : Nat) (h : z = 2 ∨ z = 3 ∨ z = 4 ∨ z = 5) (w : World) : Calls Try.prog 59 #[.int .u64 z] w fun e w' => ∃ r : Int, e = .returned (.int .i64 r) ∧ w = w' := by
  have C1 := Lib.hid (len64_small z h w)
  clear h
  go_enter Try.func59, Try.ntmps59
  go_wp2_with fail
  refine C1.out.mono ?_
  rintro e w1 ⟨r, rfl, rfl⟩
  go_wp2_with fail
  go_ret
  exact ⟨_, rfl, rfl⟩
set_option maxRecDepth 100000 in
set_option maxHeartbeats 4000000 in
theorem pdq_any (B N C a z cap : Nat) (f : Nat → Int) (w0 w : World) (s : SW B N C w0 w f) (haz : a + z ≤ N) (hN : N ≤ 1000000) (inj : ∀ i j, f i = f j → i = j) (hz : z ≤ 12) (r : Int) :
    Calls Try.prog 58 #[.slice (some ⟨B, a, none⟩) z cap, .int .i64 0, .int .i64 z, .int .i64 r] w fun e w' => e = .returned (.tuple #[]) ∧ ∃ g, SW B N C w0 w' g ∧ Pm a (a + z) f g ∧ Srt (fun x y : Int => x < y) a (a + z) g := by
  have C1 := Lib.hid (insOrd_any B N C a z cap f w0 w s haz hN inj)
  have e1 : IntKind.i64.wrap ((z : Int) - 0) = (z : Int) := by rw [hwI (by omega) (by omega)]; omega
  have d1 : decide ((z : Int) ≤ 12) = true := decide_eq_true (by omega)
  clear s inj
  go_enter Try.func58, Try.ntmps58
  go_wp2_with fail
  refine wp_loop_rounds 1 ?_
  rw [rounds_succ]
  go_wp2_with fail
  refine C1.out.mono ?_
  rintro e w1 ⟨rfl, Q⟩
  have Q := Lib.hid Q
  go_wp2_with fail
  refine bodyPost_ret (v := .tuple #[]) (by simp [results, Try.results58, go_sem]) rfl ?_
  exact ⟨rfl, Q.out⟩
set_option maxRecDepth 100000 in
theorem sort_any (B N C a z cap : Nat) (f : Nat → Int) (w0 w : World) (s : SW B N C w0 w f) (haz : a + z ≤ N) (hN : N ≤ 1000000) (inj : ∀ i j, f i = f j → i = j) (hz : z = 2 ∨ z = 3 ∨ z = 4 ∨ z = 5) :
    Calls Try.prog 40 #[.slice (some ⟨B, a, none⟩) z cap] w fun e w' => e = .returned (.tuple #[]) ∧ ∃ g, SW B N C w0 w' g ∧ Pm a (a + z) f g ∧ Srt (fun x y : Int => x < y) a (a + z) g := by
  have C1 := Lib.hid (len_small z hz w)
  have C2 := Lib.hid (fun r => pdq_any B N C a z cap f w0 w s haz hN inj (by omega) r)
  have e1 : IntKind.u64.wrap (z : Int) = (z : Int) := IntWalk.u64_in _ (by omega)
  clear s inj hz
  go_enter Try.func40, Try.ntmps40
  go_wp2_with fail
  refine C1.out.mono ?_
  rintro e w1 ⟨r, rfl, rfl⟩
  go_wp2_with fail
  refine (C2.out r).mono ?_
  rintro e w1 ⟨rfl, Q⟩
  have Q := Lib.hid Q
  go_wp2_with fail
  go_end0
  exact ⟨rfl, Q.out⟩
end Go.Proofs.Ytkhdpmicejmabaa
