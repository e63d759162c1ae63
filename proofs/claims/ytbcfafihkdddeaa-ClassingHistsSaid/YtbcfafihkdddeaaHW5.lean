/- Several texts in one: R13 R14 R15 R16 R17. -/
import Derived.Test.YtbcfafihkdddeaaHW4
import Derived.Test.YtbcfafihkdddeaaB1
import Derived.Test.YtbcfafihkdddeaaB4

/- The reference's Big: Minus, Of. -/
namespace Go.Proofs.Ytbcfafihkdddeaa
open Go.RowKit
set_option linter.unusedVariables false
set_option linter.unusedSimpArgs false

set_option maxRecDepth 100000 in
set_option maxHeartbeats 1000000 in
theorem Minus_any {k : Nat} (pa pb : Option Addr) (ca cb : Nat) (a b : List Int) (x y : Int) (w : World) (A : BigR k w pa a x) (B : BigR k w pb b y) (hk : k ≤ 90000) :
    Calls Try.prog 65 #[.agg #[.bool (decide (x < 0)), .slice pa a.length ca], .agg #[.bool (decide (y < 0)), .slice pb b.length cb]] w (BigRes (k + 1) (x - y) w) := by
  have K := Box3.new w (decide (x < 0)) (decide (y < 0)) (.slice pa a.length ca) (.slice pb b.length cb)
  have G := Lib.hid (fun W (h : Below w.heap.size w W) => Neg_any pb cb b y W (B.below h) (by omega))
  have PL := Lib.hid (fun p c l W (hB : BigR k W p l (-y)) (h : Below w.heap.size w W) => by
    have := Plus_any pa p ca c a l x (-y) W (A.below h) hB hk
    rw [show x + -y = x - y from by omega] at this
    exact this)
  clear A B
  generalize decide (x < 0) = s at *
  generalize decide (y < 0) = t at *
  obtain ⟨u, hu⟩ : ∃ u, u = decide (-y < 0) := ⟨_, rfl⟩
  have G' := Lib.hid (fun W (h : Below w.heap.size w W) => show Calls Try.prog 112 #[.agg #[.bool t, .slice pb b.length cb]] W (fun e w' => ∃ p l c, e = .returned (.agg #[.bool u, .slice p l.length c]) ∧ BigR k w' p l (-y) ∧ (∀ a, p = some a → W.heap.size ≤ a.block) ∧ Below W.heap.size W w') by rw [hu]; exact G.out W h)
  rw [← hu] at PL
  clear G hu
  generalize x - y = X at *
  go_enter Try.func65, Try.ntmps65
  go_wp2_with fail
  generalize (((w.alloc (Obj.cells #[Value.bool s, Value.slice pa a.length ca] 89)).alloc (Obj.cells #[Value.bool t, Value.slice pb b.length cb] 89)).alloc (Obj.cells #[Value.bool false, Value.slice none 0 0] 89)) = v at *
  have HK := Lib.hid K
  obtain ⟨k1, k2, k3, k4, k5, k6, k7, k8, k9, kb⟩ := K
  go_region_held3 (fun w' => w'.cell? ⟨w.heap.size, 0, none⟩ = some (.bool s) ∧ w'.cell? ⟨w.heap.size, 1, none⟩ = some (.slice pa a.length ca) ∧ w'.cell? ⟨w.heap.size + 1, 0, none⟩ = some (.bool t) ∧ w'.cell? ⟨w.heap.size + 1, 1, none⟩ = some (.slice pb b.length cb))
    (first | exact ⟨k1, k2, k3, k4⟩ | (refine ⟨?_, ?_, ?_, ?_⟩ <;> simp [go_sem, k1, k2, k3, k4]; done))
    (first
      | (go_at_call 112; refine (G'.out _ (by first | exact kb | exact kb.drew)).mono ?_; rintro e w1 ⟨p1, l1, c1, rfl, d1, d2, d6⟩; have K1 := Lib.hid (show Box3 w w1 s t _ _ from (by first | exact HK.out.below d6 | exact HK.out.drew.below d6)); clear k1 k2 k3 k4 k5 k6 k7 k8 k9 kb; obtain ⟨k1, k2, k3, k4, k5, k6, k7, k8, k9, kb⟩ := K1.out; have D1 := Lib.hid d1; clear d1 d2 d6)
      | (go_at_call 116; refine (PL.out p1 c1 l1 _ (by exact D1.out) (by first | exact kb | exact kb.drew)).mono ?_; rintro e w2 ⟨p2, l2, c2, rfl, r1, r2, r3⟩; have K2 := Lib.hid (show Box3 w w2 s t _ _ from (by first | exact K1.out.below r3 | exact K1.out.drew.below r3)); clear k1 k2 k3 k4 k5 k6 k7 k8 k9 kb; obtain ⟨k1, k2, k3, k4, k5, k6, k7, k8, k9, kb⟩ := K2.out; have R1 := Lib.hid r1; have R2 := Lib.hid r2; have R3 := Lib.hid r3; clear r1 r2 r3))
  have FIN := Lib.hid (BigRes.stored (c := c2) (r := w.heap.size + 1 + 1) K1.out.bel (by omega) K1.out.sz R1.out R2.out R3.out)
  clear PL G' HK K1 K2 D1 R1 R2 R3
  generalize decide (X < 0) = sg at *
  go_wp2_with fail
  exact bodyPost_ret (v := .agg #[.bool sg, .slice p2 l2.length c2]) (by simp [results, Try.results65, go_sem, k5, k6, k9]) rfl FIN.out

theorem of_step {o : List Int} {k : Nat} {m N : Int} (hl : o.length = k) (h : dval o + 10000 ^ k * m = N) : dval (o ++ [m % 10000]) + 10000 ^ (k + 1) * (m / 10000) = N := by
  rw [dval_snoc, hl, ← h, Int.pow_succ]
  rw [carry_step (P := 10000 ^ k) (u := m) (m := m % 10000) (z := m / 10000) (by omega)]
  omega
theorem of_less {j : Nat} {m : Int} (h : m < 10000 ^ (j + 1)) : m / 10000 < 10000 ^ j := by
  rw [Int.pow_succ] at h
  omega
theorem of_start {m : Int} (h : m ≤ 9223372036854775808) : m < 10000 ^ 5 := by
  have : (10000 : Int) ^ 5 = 100000000000000000000 := by decide
  omega
theorem neg_tmod' {m : Int} (h : 0 ≤ m) : (-m).tmod 10000 = -(m % 10000) := by rw [Int.neg_tmod, Int.tmod_eq_emod_of_nonneg h]
theorem neg_tdiv' {m : Int} (h : 0 ≤ m) : (-m).tdiv 10000 = -(m / 10000) := by rw [Int.neg_tdiv, Int.tdiv_eq_ediv_of_nonneg h]

set_option maxRecDepth 100000 in
set_option maxHeartbeats 1000000 in
theorem Of_any (n : Int) (h1 : -9223372036854775808 ≤ n) (h2 : n ≤ 9223372036854775807) (w : World) :
    Calls Try.prog 64 #[.int .i64 n] w (BigRes 5 n w) := by
  obtain ⟨i0, hi, hz0, hz1, hz2⟩ := info_parts intInfo
  by_cases hn : 0 ≤ n
  · have n0 : ¬ n < 0 := by omega
    obtain ⟨N, hN⟩ : ∃ N, N = n := ⟨_, rfl⟩
    have HN := Lib.hid hN
    clear hN
    go_enter Try.func64, Try.ntmps64
    go_wp2_with fail
    have cv0 : (w.alloc (Obj.cells #[Value.bool false, Value.slice none 0 0] 89)).cell? ⟨w.heap.size, 0, none⟩ = some (.bool false) := by simp [go_sem]
    have cv1 : (w.alloc (Obj.cells #[Value.bool false, Value.slice none 0 0] 89)).cell? ⟨w.heap.size, 1, none⟩ = some (.slice none 0 0) := by simp [go_sem]
    have fv0 : (w.alloc (Obj.cells #[Value.bool false, Value.slice none 0 0] 89)).frozen? ⟨w.heap.size, 0, none⟩ = false := by simp [go_sem]
    have fv1 : (w.alloc (Obj.cells #[Value.bool false, Value.slice none 0 0] 89)).frozen? ⟨w.heap.size, 1, none⟩ = false := by simp [go_sem]
    have zv : w.heap.size < (w.alloc (Obj.cells #[Value.bool false, Value.slice none 0 0] 89)).heap.size := by simp
    have bv : Below w.heap.size w (w.alloc (Obj.cells #[Value.bool false, Value.slice none 0 0] 89)) := by go_grown
    generalize w.alloc (Obj.cells #[Value.bool false, Value.slice none 0 0] 89) = v at *
    have BV := Lib.hid bv
    have CV := Lib.hid (And.intro cv0 (And.intro cv1 (And.intro fv0 fv1)))
    clear bv cv0 cv1 fv0 fv1
    go_loopw [0, 3] (fun cur d wr => ∃ (k j : Nat) (m : Int) (o : List Int), k + j = 5 ∧ 0 ≤ m ∧ m ≤ 9223372036854775807 ∧ cur = .int .i64 m ∧ Hid (m < 10000 ^ j) ∧ Hid (o.length = k) ∧ Hid (Digs o) ∧ Hid (dval o + 10000 ^ k * m = N) ∧
      wr.ownsRow v.heap.size 3 1 d k (o.map (Value.int .i64)) ∧ Below v.heap.size v wr) (fun cur _ _ => (intOf cur).toNat)
    case atStart => exact ⟨0, 5, n, [], by omega, hn, h2, rfl, of_start (by omega), rfl, Digs.nil, by show _ = _; rw [HN.out]; simp [dval], World.ownsRow_nil _ _ _ _, Below.refl _ _⟩
    case round =>
      obtain ⟨k, j, m, o, kj, m0, m1, rfl, mj, ol, od, ov, hown, hbel⟩ := hrel
      have hbs : ∀ o, v.heap.size ≤ (wr.alloc o).heap.size := fun o => by have := hbel.size; simp; omega
      by_cases hm : m = 0
      · have vv : dval o = N := by have := ov.out; rw [hm, Int.mul_zero, Int.add_zero] at this; exact this
        obtain ⟨q, cc, hv, hlen, hr, hn', hf⟩ := own_row hown
        have WH := Lib.hid (whole_to (s := false) (V := N) (X := n) (by simpa using HN.out) q cc o wr od.out vv hr (by have := ol.out; omega))
        have HB := Lib.hid hbel
        have OL := Lib.hid ol.out
        have HV := Lib.hid hv
        clear vv hlen hr hn' hf hown hbel hbs ol od ov mj
        subst hm
        have hv := HV.out
        subst hv
        clear HV
        go_wp2_with fail
        refine (WH.out).mono ?_
        rintro e w2 ⟨p2, l2, c2, rfl, r1, r2, r3⟩
        have B2 := HB.out.trans (r3.mono HB.out.size)
        have k5 := (B2.cell (p := ⟨w.heap.size, 0, none⟩) zv).trans CV.out.1
        have k6 := (B2.cell (p := ⟨w.heap.size, 1, none⟩) zv).trans CV.out.2.1
        have k9 := Nat.lt_of_lt_of_le zv B2.size
        have FIN := Lib.hid (BigRes.stored (c := c2) (r := w.heap.size) BV.out (Nat.le_refl _) zv (r1.more (m := 5) (by have := OL.out; omega)) (fun a ha => Nat.le_trans HB.out.size (r2 a ha)) B2)
        have k7 := (B2.frozen (p := ⟨w.heap.size, 0, none⟩) zv).trans CV.out.2.2.1
        have k8 := (B2.frozen (p := ⟨w.heap.size, 1, none⟩) zv).trans CV.out.2.2.2
        clear r1 r2 r3 B2 WH HB OL CV BV HN
        generalize decide (n < 0) = sg at *
        go_wp2_with fail
        exact bodyPost_ret (v := .agg #[.bool sg, .slice p2 l2.length c2]) (by simp [results, Try.results64, go_sem, k5, k6, k9]) rfl FIN.out
      · rcases j with _ | j
        · exact absurd mj.out (by rw [Int.pow_zero]; omega)
        · have S := Lib.hid (of_step ol.out ov.out)
          have L := Lib.hid (of_less mj.out)
          have hm' : (m == 0) = false := by simpa using hm
          have hm'' : (m != 0) = true := by simpa using hm
          have p : 0 < m := by omega
          clear hm
          go_wp2_with (first
            | (at_builtin; refine wpList_append_own _ rfl _ _ 40 rfl v.heap.size 3 i0 (.int .i64 0) 1 8 Try.underlying40 hi hz0 hz1 hz2 rfl (by decide) _ _ _ rfl (hown.alloc _) ⟨wr.heap.size, 0, none⟩ 1 1 [.int .i64 (m % 10000)] rfl rfl (one_cell _) one_one (by unfold maxLen; omega) (by omega) (hbs _) ?_))
          intro v' w1 hown' hgrow _
          have RR := own_snoc (l := o) _ rfl hbel hown hown' hgrow
          have OL := Lib.hid (show (o ++ [m % 10000]).length = k + 1 by have := ol.out; simp [this])
          have OD := Lib.hid (od.out.snoc (d := m % 10000) (by omega) (by omega))
          clear hown' hgrow hown hbel hbs ol od ov hm' hm''
          go_wp2
          go_roundw
          case rel => exact ⟨k + 1, j, m / 10000, _, by omega, by omega, by omega, rfl, L, OL, OD, S, RR.1, RR.2⟩
          case measure => simp [intOf]; omega
  · have n0 : n < 0 := by omega
    obtain ⟨N, hN⟩ : ∃ N, N = -n := ⟨_, rfl⟩
    have HN := Lib.hid hN
    clear hN
    go_enter Try.func64, Try.ntmps64
    go_wp2_with fail
    have cv0 : (w.alloc (Obj.cells #[Value.bool false, Value.slice none 0 0] 89)).cell? ⟨w.heap.size, 0, none⟩ = some (.bool false) := by simp [go_sem]
    have cv1 : (w.alloc (Obj.cells #[Value.bool false, Value.slice none 0 0] 89)).cell? ⟨w.heap.size, 1, none⟩ = some (.slice none 0 0) := by simp [go_sem]
    have fv0 : (w.alloc (Obj.cells #[Value.bool false, Value.slice none 0 0] 89)).frozen? ⟨w.heap.size, 0, none⟩ = false := by simp [go_sem]
    have fv1 : (w.alloc (Obj.cells #[Value.bool false, Value.slice none 0 0] 89)).frozen? ⟨w.heap.size, 1, none⟩ = false := by simp [go_sem]
    have zv : w.heap.size < (w.alloc (Obj.cells #[Value.bool false, Value.slice none 0 0] 89)).heap.size := by simp
    have bv : Below w.heap.size w (w.alloc (Obj.cells #[Value.bool false, Value.slice none 0 0] 89)) := by go_grown
    generalize w.alloc (Obj.cells #[Value.bool false, Value.slice none 0 0] 89) = v at *
    have BV := Lib.hid bv
    have CV := Lib.hid (And.intro cv0 (And.intro cv1 (And.intro fv0 fv1)))
    clear bv cv0 cv1 fv0 fv1
    go_loopw [0, 3] (fun cur d wr => ∃ (k j : Nat) (m : Int) (o : List Int), k + j = 5 ∧ 0 ≤ m ∧ m ≤ 9223372036854775808 ∧ cur = .int .i64 (-m) ∧ Hid (m < 10000 ^ j) ∧ Hid (o.length = k) ∧ Hid (Digs o) ∧ Hid (dval o + 10000 ^ k * m = N) ∧
      wr.ownsRow v.heap.size 3 1 d k (o.map (Value.int .i64)) ∧ Below v.heap.size v wr) (fun cur _ _ => (-intOf cur).toNat)
    case atStart => exact ⟨0, 5, -n, [], by omega, by omega, by omega, by rw [Int.neg_neg], of_start (by omega), rfl, Digs.nil, by show _ = _; rw [HN.out]; simp [dval], World.ownsRow_nil _ _ _ _, Below.refl _ _⟩
    case round =>
      obtain ⟨k, j, m, o, kj, m0, m1, rfl, mj, ol, od, ov, hown, hbel⟩ := hrel
      have hbs : ∀ o, v.heap.size ≤ (wr.alloc o).heap.size := fun o => by have := hbel.size; simp; omega
      by_cases hm : m = 0
      · have vv : dval o = N := by have := ov.out; rw [hm, Int.mul_zero, Int.add_zero] at this; exact this
        obtain ⟨q, cc, hv, hlen, hr, hn', hf⟩ := own_row hown
        have WH := Lib.hid (whole_to (s := true) (V := N) (X := n) (by have := HN.out; simp; omega) q cc o wr od.out vv hr (by have := ol.out; omega))
        have HB := Lib.hid hbel
        have OL := Lib.hid ol.out
        have HV := Lib.hid hv
        clear vv hlen hr hn' hf hown hbel hbs ol od ov mj
        subst hm
        have hv := HV.out
        subst hv
        clear HV
        go_wp2_with fail
        refine (WH.out).mono ?_
        rintro e w2 ⟨p2, l2, c2, rfl, r1, r2, r3⟩
        have B2 := HB.out.trans (r3.mono HB.out.size)
        have k5 := (B2.cell (p := ⟨w.heap.size, 0, none⟩) zv).trans CV.out.1
        have k6 := (B2.cell (p := ⟨w.heap.size, 1, none⟩) zv).trans CV.out.2.1
        have k9 := Nat.lt_of_lt_of_le zv B2.size
        have FIN := Lib.hid (BigRes.stored (c := c2) (r := w.heap.size) BV.out (Nat.le_refl _) zv (r1.more (m := 5) (by have := OL.out; omega)) (fun a ha => Nat.le_trans HB.out.size (r2 a ha)) B2)
        have k7 := (B2.frozen (p := ⟨w.heap.size, 0, none⟩) zv).trans CV.out.2.2.1
        have k8 := (B2.frozen (p := ⟨w.heap.size, 1, none⟩) zv).trans CV.out.2.2.2
        clear r1 r2 r3 B2 WH HB OL CV BV HN
        generalize decide (n < 0) = sg at *
        go_wp2_with fail
        exact bodyPost_ret (v := .agg #[.bool sg, .slice p2 l2.length c2]) (by simp [results, Try.results64, go_sem, k5, k6, k9]) rfl FIN.out
      · rcases j with _ | j
        · exact absurd mj.out (by rw [Int.pow_zero]; omega)
        · have S := Lib.hid (of_step ol.out ov.out)
          have L := Lib.hid (of_less mj.out)
          have hm' : ((-m) == 0) = false := by simpa using hm
          have hm'' : ((-m) != 0) = true := by simpa using hm
          have hm3 : (m == 0) = false := by simpa using hm
          have hm4 : (m != 0) = true := by simpa using hm
          have p : 0 < m := by omega
          have t1 := neg_tmod' m0
          have t2 := neg_tdiv' m0
          have t3 : m.tmod 10000 = m % 10000 := Int.tmod_eq_emod_of_nonneg m0
          have t4 : m.tdiv 10000 = m / 10000 := Int.tdiv_eq_ediv_of_nonneg m0
          have g0 : 0 ≤ m % 10000 := by omega
          have g1 : m % 10000 < 10000 := by omega
          have g2 : 0 ≤ m / 10000 := by omega
          have g3 : m / 10000 ≤ 9223372036854775808 := by omega
          have g4 : m / 10000 < m := by omega
          have OL := Lib.hid (show (o ++ [m % 10000]).length = k + 1 by have := ol.out; simp [this])
          have OD := Lib.hid (od.out.snoc (d := m % 10000) (by omega) (by omega))
          clear hm ol od ov
          generalize m % 10000 = q at *
          generalize m / 10000 = m' at *
          by_cases q0 : q = 0
          · subst q0
            simp only [Int.neg_zero] at t1
            go_wp2_with (first
              | (at_builtin; refine wpList_append_own _ rfl _ _ 40 rfl v.heap.size 3 i0 (.int .i64 0) 1 8 Try.underlying40 hi hz0 hz1 hz2 rfl (by decide) _ _ _ rfl (hown.alloc _) ⟨wr.heap.size, 0, none⟩ 1 1 [.int .i64 0] rfl rfl (one_cell _) one_one (by unfold maxLen; omega) (by omega) (hbs _) ?_))
            intro v' w1 hown' hgrow _
            have RR := own_snoc (l := o) _ rfl hbel hown hown' hgrow
            clear hown' hgrow hown hbel hbs hm' hm'' hm3 hm4
            go_wp2
            go_roundw
            case rel => exact ⟨k + 1, j, m', _, by omega, by omega, by omega, rfl, L, OL, OD, S, RR.1, RR.2⟩
            case measure => simp [intOf]; omega
          · have q1 : 0 < q := by omega
            clear q0
            go_wp2_with (first
              | (at_builtin; refine wpList_append_own _ rfl _ _ 40 rfl v.heap.size 3 i0 (.int .i64 0) 1 8 Try.underlying40 hi hz0 hz1 hz2 rfl (by decide) _ _ _ rfl (hown.alloc _) ⟨wr.heap.size, 0, none⟩ 1 1 [.int .i64 q] rfl rfl (one_cell _) one_one (by unfold maxLen; omega) (by omega) (hbs _) ?_))
            intro v' w1 hown' hgrow _
            have RR := own_snoc (l := o) _ rfl hbel hown hown' hgrow
            clear hown' hgrow hown hbel hbs hm' hm'' hm3 hm4
            go_wp2
            go_roundw
            case rel => exact ⟨k + 1, j, m', _, by omega, by omega, by omega, rfl, L, OL, OD, S, RR.1, RR.2⟩
            case measure => simp [intOf]; omega
end Go.Proofs.Ytbcfafihkdddeaa

/- The reference's rows: gcdD; Within. -/
namespace Go.Proofs.Ytbcfafihkdddeaa
open Go.RowKit
set_option linter.unusedVariables false
set_option linter.unusedSimpArgs false

/-- The digits that a slice reads as: for a loop's measure. -/
def rdRow (w : World) : Value → List Int
  | .slice p n _ => (List.range n).map fun i => match p with
    | some a => match w.cell? ⟨a.block, i, none⟩ with
      | some u => intOf u
      | none => 0
    | none => 0
  | _ => []
theorem rdRow_eq {w : World} {p : Option Addr} {l : List Int} (r : RowR w p l) (c : Nat) : rdRow w (.slice p l.length c) = l := by
  unfold rdRow
  refine List.ext_getElem (by simp) fun i h1 h2 => ?_
  obtain ⟨g, rfl, _, e⟩ := r i h2
  simp [e, intOf]

/-- A row that may be an argument's own. -/
def OldRow (x : Int) (n : Nat) (w : World) (e : Ending) (w' : World) : Prop :=
  ∃ t p c, e = .returned (.slice p t.length c) ∧ Can t x ∧ t.length ≤ n ∧ RowR w' p t ∧ Below w.heap.size w w'

set_option maxRecDepth 100000 in
set_option maxHeartbeats 1000000 in
theorem gcdD_any (L : Nat) (pa pb : Option Addr) (ca cb : Nat) (a b : List Int) (x y : Int) (w : World) (ha : Can a x) (hb : Can b y) (ra : RowR w pa a) (rb : RowR w pb b) (la : a.length ≤ L) (lb : b.length ≤ L) (hL : L ≤ 90000) :
    Calls Try.prog 121 #[.slice pa a.length ca, .slice pb b.length cb] w (OldRow (Int.gcd x y) L w) := by
  obtain ⟨g, hg⟩ : ∃ g : Nat, g = Int.gcd x y := ⟨_, rfl⟩
  rw [← hg]
  have HG := Lib.hid hg
  have Ra := Lib.hid ra; clear ra
  have Rb := Lib.hid rb; clear rb
  have Da := Lib.hid ha; clear ha
  have Db := Lib.hid hb; clear hb hg
  have LA := Lib.hid la
  have LB := Lib.hid lb
  clear la lb
  go_enter Try.func121, Try.ntmps121
  go_wp2
  go_loopw [0, 1] (fun va vb wr => ∃ (A B : List Int) (p q : Option Addr) (c d : Nat) (u v : Int), va = .slice p A.length c ∧ vb = .slice q B.length d ∧ Hid (Can A u) ∧ Hid (Can B v) ∧ Hid (A.length ≤ L) ∧ Hid (B.length ≤ L) ∧ Hid (RowR wr p A) ∧ Hid (RowR wr q B) ∧ Hid (Int.gcd u v = g) ∧ Below w.heap.size w wr) (fun _ vb wr => (dval (rdRow wr vb)).toNat)
  case atStart => exact ⟨a, b, pa, pb, ca, cb, x, y, rfl, rfl, Da, Db, LA, LB, Ra, Rb, HG.out.symm, Below.refl _ _⟩
  case round =>
    obtain ⟨A, B, p, q, c, d, u, v, rfl, rfl, cA, cB, lA, lB, rA, rB, hgg, hbel⟩ := hrel
    have V0 := cB.out.nonneg
    have U0 := cA.out.nonneg
    have LZ := cB.out.length_zero
    by_cases hv : 0 < v
    · have l0 : 0 < B.length := by
        rcases Nat.eq_zero_or_pos B.length with t | t
        · have := LZ.1 t; omega
        · exact t
      have DV := Lib.hid (by
        have := divD_any p q c d A B v wr cA.out.digs cB.out hv rA.out rB.out (by have := lA.out; omega) (by have := lB.out; omega)
        rwa [cA.out.val] at this)
      have GS := Lib.hid ((gcd_step u v U0 hv).trans hgg.out)
      have MS := Lib.hid (rdRow_eq rB.out d)
      have HV := Lib.hid hv
      clear hgg LZ hv
      have lB' : B.length ≤ L := lB.out
      go_wp2_with fail
      refine (DV.out).mono ?_
      rintro e w1 ⟨t1, p1, c1, t2, p2, c2, rfl, e1, e2, e3, e4, e5, e6, e7⟩
      have E4 := Lib.hid e4
      have E5 := Lib.hid (Nat.le_trans e5 lB')
      have E6 := Lib.hid e6
      have RB := Lib.hid (rB.out.below e7)
      have E7 := Lib.hid (hbel.trans (e7.mono hbel.size))
      have MS2 := Lib.hid (rdRow_eq e6 c2)
      clear e1 e2 e3 e4 e5 e6 e7 DV hbel
      go_wp2
      go_roundw
      case rel => exact ⟨B, t2, q, p2, d, c2, v, _, rfl, rfl, cB, E4, lB, E5, RB, E6, GS.out, E7.out⟩
      case measure =>
        rw [MS2.out, MS.out, E4.out.val, cB.out.val]
        have h1 := Int.emod_lt_of_pos u HV.out
        have h2 := Int.emod_nonneg u (show v ≠ 0 by have := HV.out; omega)
        omega
    · have hv0 : v = 0 := by omega
      have l0 : B.length = 0 := LZ.2 hv0
      have e : ((Int.gcd u v : Nat) : Int) = u := by rw [hv0]; simp only [Int.gcd, Int.natAbs_zero, Nat.gcd_zero_right]; omega
      rw [hgg.out] at e
      have HE := Lib.hid e
      have HB := Lib.hid hbel
      clear e hv hv0 hgg hbel LZ
      generalize B.length = n at *
      subst l0
      go_wp2
      go_ret
      exact ⟨A, p, c, rfl, by rw [HE.out]; exact cA.out, lA.out, rA.out, HB.out⟩

theorem dval_drop_le {l : List Int} (h : Digs l) (k : Nat) : dval (l.drop k) ≤ dval l := by
  have e := dval_app (l.take k) (l.drop k)
  rw [List.take_append_drop] at e
  have a := dval_nonneg (h.take k)
  have b := dval_nonneg (h.drop k)
  have c := Int.mul_le_mul_of_nonneg_right (pow_pos' (l.take k).length) b
  omega

/-- A number as an int, if it is within a bound. -/
def wiV (x m : Int) : Int := if (x.natAbs : Int) ≤ m then x else 0
def wiB (x m : Int) : Bool := decide ((x.natAbs : Int) ≤ m)
end Go.Proofs.Ytbcfafihkdddeaa

/- The reference's Big: Within. -/
namespace Go.Proofs.Ytbcfafihkdddeaa
open Go.RowKit
set_option linter.unusedVariables false
set_option linter.unusedSimpArgs false

theorem cmp_gt {a b : Int} (h : b < a) : 0 < cmpZ a b ∧ cmpZ a b ≤ 1 := by unfold cmpZ; rw [if_neg (by omega), if_pos h]; omega
theorem cmp_le {a b : Int} (h : a ≤ b) : cmpZ a b ≤ 0 ∧ -1 ≤ cmpZ a b := by unfold cmpZ; split; omega; split <;> omega
theorem drop_val {l : List Int} {j : Nat} (h : j < l.length) : dval (l.drop j) = dval (l.drop (j + 1)) * 10000 + l[j] := by
  rw [List.drop_eq_getElem_cons h]; simp only [dval]; omega

theorem fld1 (u : Bool) (q : Option Addr) (n c : Nat) (W : World) : (Instr.field 89 (.agg #[.bool u, .slice q n c]) 1).run Try.prog W = .ok (.slice q n c) W := by kernel_rfl

set_option maxRecDepth 100000 in
set_option maxHeartbeats 1000000 in
theorem Within_any {N : Nat} (p : Option Addr) (c : Nat) (l : List Int) (x most : Int) (h0 : 0 ≤ most) (hm : most ≤ 4611686018427387904) (w : World) (A : BigR N w p l x) (hN : N ≤ 90000) :
    Calls Try.prog 62 #[.agg #[.bool (decide (x < 0)), .slice p l.length c], .int .i64 most] w fun e w' => e = .returned (.tuple #[.int .i64 (wiV x most), .bool (wiB x most)]) ∧ Below w.heap.size w w' := by
  have OF := Lib.hid (fun W => Of_any most (by omega) (by omega) W)
  have HA := Lib.hid A
  have LN := A.size
  have CM := Lib.hid (fun q t cc W (hq : BigR 5 W q t most) (h : Below w.heap.size w W) => by
    have := cmpD_any p q c cc l t W A.can.digs hq.can.digs A.can.norm hq.can.norm (A.row.below h) hq.row (by omega) (by have := hq.size; omega)
    rwa [A.can.val, hq.can.val] at this)
  have c0 : (w.alloc (Obj.cells #[Value.bool (decide (x < 0)), Value.slice p l.length c] 89)).cell? ⟨w.heap.size, 0, none⟩ = some (.bool (decide (x < 0))) := by simp [go_sem]
  have c1 : (w.alloc (Obj.cells #[Value.bool (decide (x < 0)), Value.slice p l.length c] 89)).cell? ⟨w.heap.size, 1, none⟩ = some (.slice p l.length c) := by simp [go_sem]
  have z : w.heap.size < (w.alloc (Obj.cells #[Value.bool (decide (x < 0)), Value.slice p l.length c] 89)).heap.size := by simp
  have b : Below w.heap.size w (w.alloc (Obj.cells #[Value.bool (decide (x < 0)), Value.slice p l.length c] 89)) := by go_grown
  clear A
  have hfd := fld1
  obtain ⟨n, hn⟩ : ∃ n, n = l.length := ⟨_, rfl⟩
  have HN := Lib.hid hn
  rw [← hn] at CM c0 c1 z b LN ⊢
  clear hn
  generalize hs : decide (x < 0) = s at *
  have HS := Lib.hid hs
  clear hs
  generalize hmn : (most.natAbs : Int) = mn at CM
  have hmn' : mn = most := by omega
  subst hmn'
  clear hmn
  obtain ⟨u, hu⟩ : ∃ u, u = decide (mn < 0) := ⟨_, rfl⟩
  unfold BigRes at OF
  rw [← hu] at OF
  clear hu
  by_cases hle : (x.natAbs : Int) ≤ mn
  · have e1 : wiV x mn = x := if_pos hle
    have e2 : wiB x mn = true := by simpa [wiB] using hle
    rw [e1, e2]
    clear e1 e2
    obtain ⟨z1, z2⟩ := cmp_le hle
    generalize cmpZ (x.natAbs : Int) mn = cz at *
    have HLE := Lib.hid hle
    clear hle
    go_enter Try.func62, Try.ntmps62
    go_upto_region 1 with fail
    generalize (w.alloc (Obj.cells #[Value.bool s, Value.slice p n c] 89)) = v at *
    have BV := Lib.hid b
    go_region_held3 (fun w' => w'.cell? ⟨w.heap.size, 1, none⟩ = some (.slice p n c))
      (first | exact c1)
      (first
        | (go_at_call 64; refine (OF.out _).mono ?_; rintro e w1 ⟨q, t, cc, rfl, r1, r2, r3⟩; have B1 := Lib.hid (show Below w.heap.size w w1 from (by first | exact BV.out.trans (r3.mono BV.out.size) | exact BV.out.drew.trans (r3.mono BV.out.drew.size))); have R1 := Lib.hid r1; replace c0 := (r3.cell (p := ⟨w.heap.size, 0, none⟩) z).trans c0; replace c1 := (r3.cell (p := ⟨w.heap.size, 1, none⟩) z).trans c1; replace z := Nat.lt_of_lt_of_le z r3.size; clear r1 r2 r3)
        | (go_at_call 111; refine (CM.out q t cc _ (by exact R1.out) (by first | exact B1.out | exact B1.out.drew)).mono ?_; rintro e w2 ⟨rfl, n2, rfl⟩))
    have B2 := Lib.hid (below_drewN B1.out n2)
    have c0' : (w1.drewN n2).cell? ⟨w.heap.size, 0, none⟩ = some (.bool s) := c0
    have c1' : (w1.drewN n2).cell? ⟨w.heap.size, 1, none⟩ = some (.slice p n c) := c1
    have z' : w.heap.size < (w1.drewN n2).heap.size := z
    clear c0 c1 z B1 R1 CM OF b BV
    generalize w1.drewN n2 = W2 at *
    have RW := Lib.hid (HA.out.row.below B2.out)
    go_wp2_with fail
    go_loop [6, 7] (fun nv iv => ∃ k : Nat, k ≤ n ∧ iv = .int .i64 ((k : Int) - 1) ∧ nv = .int .i64 (dval (l.drop k))) (fun _ iv => (intOf iv + 1).toNat)
    case atStart => exact ⟨n, Nat.le_refl _, rfl, by rw [List.drop_of_length_le (by have := HN.out; omega)]; rfl⟩
    case round =>
      obtain ⟨k, hk, rfl, rfl⟩ := hrel
      rcases k with _ | j
      · have e : dval (l.drop 0) = x.natAbs := by rw [List.drop_zero]; exact HA.out.can.val
        rw [e]
        have d0 : 0 ≤ (x.natAbs : Int) := by omega
        have d1 : (x.natAbs : Int) ≤ 4611686018427387904 := by have := HLE.out; omega
        clear e
        cases s
        · have E : (x.natAbs : Int) = x := by have := HS.out; simp at this; omega
          have HE := Lib.hid E
          clear E
          generalize (x.natAbs : Int) = y at *
          go_wp2_with fail
          go_ret2
          exact ⟨by rw [HE.out]; rfl, B2.out⟩
        · have E : -(x.natAbs : Int) = x := by have := HS.out; simp at this; omega
          have HE := Lib.hid E
          clear E
          generalize (x.natAbs : Int) = y at *
          go_wp2_with fail
          go_ret2
          exact ⟨by rw [HE.out]; rfl, B2.out⟩
      · have ja : j < l.length := by have := HN.out; omega
        obtain ⟨ga, rfl, ka, cA⟩ := RW.out j ja
        have K := drop_val ja
        have G := HA.out.can.digs _ (List.getElem_mem ja)
        have U := dval_nonneg (HA.out.can.digs.drop (j + 1))
        have M := dval_drop_le HA.out.can.digs j
        rw [HA.out.can.val] at M
        have M2 : dval (l.drop (j + 1)) * 10000 + l[j] ≤ 4611686018427387904 := by have := HLE.out; omega
        have e1 : (((j + 1 : Nat) : Int) - 1) = (j : Int) := by omega
        rw [e1]
        have j0 : (0 : Int) ≤ (j : Int) := by omega
        have jx : (j : Int) < (n : Int) := by omega
        have HK := Lib.hid K
        clear K M e1
        generalize l[j] = u at *
        generalize dval (l.drop (j + 1)) = d at *
        go_wp2_with fail
        go_round
        case rel => exact ⟨j, by omega, rfl, by rw [HK.out]⟩
        case measure => simp [intOf]
  · have e1 : wiV x mn = 0 := if_neg hle
    have e2 : wiB x mn = false := by simpa [wiB] using hle
    rw [e1, e2]
    clear e1 e2
    obtain ⟨z1, z2⟩ := cmp_gt (show mn < (x.natAbs : Int) by omega)
    generalize cmpZ (x.natAbs : Int) mn = cz at *
    clear hle
    go_enter Try.func62, Try.ntmps62
    go_upto_region 1 with fail
    generalize (w.alloc (Obj.cells #[Value.bool s, Value.slice p n c] 89)) = v at *
    have BV := Lib.hid b
    go_region_held3 (fun w' => w'.cell? ⟨w.heap.size, 1, none⟩ = some (.slice p n c))
      (first | exact c1)
      (first
        | (go_at_call 64; refine (OF.out _).mono ?_; rintro e w1 ⟨q, t, cc, rfl, r1, r2, r3⟩; have B1 := Lib.hid (show Below w.heap.size w w1 from (by first | exact BV.out.trans (r3.mono BV.out.size) | exact BV.out.drew.trans (r3.mono BV.out.drew.size))); have R1 := Lib.hid r1; replace c0 := (r3.cell (p := ⟨w.heap.size, 0, none⟩) z).trans c0; replace c1 := (r3.cell (p := ⟨w.heap.size, 1, none⟩) z).trans c1; replace z := Nat.lt_of_lt_of_le z r3.size; clear r1 r2 r3)
        | (go_at_call 111; refine (CM.out q t cc _ (by exact R1.out) (by first | exact B1.out | exact B1.out.drew)).mono ?_; rintro e w2 ⟨rfl, n2, rfl⟩))
    go_wp2_with fail
    go_ret2
    exact ⟨rfl, below_drewN B1.out _⟩
end Go.Proofs.Ytbcfafihkdddeaa

/- The reference's Lowest. -/
namespace Go.Proofs.Ytbcfafihkdddeaa
open Go.RowKit
set_option linter.unusedVariables false
set_option linter.unusedSimpArgs false

/-- Two boxed numbers and a fraction's box. -/
structure BoxF (w v : World) (s t : Bool) (P Q : Value) : Prop where
  a0 : v.cell? ⟨w.heap.size, 0, none⟩ = some (.bool s)
  a1 : v.cell? ⟨w.heap.size, 1, none⟩ = some P
  b0 : v.cell? ⟨w.heap.size + 1, 0, none⟩ = some (.bool t)
  b1 : v.cell? ⟨w.heap.size + 1, 1, none⟩ = some Q
  c0 : v.cell? ⟨w.heap.size + 1 + 1, 0, none⟩ = some (.int .i64 0)
  c1 : v.cell? ⟨w.heap.size + 1 + 1, 1, none⟩ = some (.int .i64 0)
  f0 : v.frozen? ⟨w.heap.size + 1 + 1, 0, none⟩ = false
  f1 : v.frozen? ⟨w.heap.size + 1 + 1, 1, none⟩ = false
  sz : w.heap.size + 1 + 1 < v.heap.size
  bel : Below w.heap.size w v
theorem BoxF.below {w v v' : World} {s t : Bool} {P Q : Value} (h : BoxF w v s t P Q) (hb : Below v.heap.size v v') : BoxF w v' s t P Q := by
  obtain ⟨h1, h2, h3, h4, h5, h6, h7, h8, h9, h10⟩ := h
  have z0 : w.heap.size < v.heap.size := by omega
  have z1 : w.heap.size + 1 < v.heap.size := by omega
  exact ⟨(hb.cell (p := ⟨w.heap.size, 0, none⟩) z0).trans h1, (hb.cell (p := ⟨w.heap.size, 1, none⟩) z0).trans h2, (hb.cell (p := ⟨w.heap.size + 1, 0, none⟩) z1).trans h3, (hb.cell (p := ⟨w.heap.size + 1, 1, none⟩) z1).trans h4,
    (hb.cell (p := ⟨w.heap.size + 1 + 1, 0, none⟩) h9).trans h5, (hb.cell (p := ⟨w.heap.size + 1 + 1, 1, none⟩) h9).trans h6, (hb.frozen (p := ⟨w.heap.size + 1 + 1, 0, none⟩) h9).trans h7, (hb.frozen (p := ⟨w.heap.size + 1 + 1, 1, none⟩) h9).trans h8, Nat.lt_of_lt_of_le h9 hb.size, h10.trans (hb.mono h10.size)⟩
theorem BoxF.new (w : World) (s t : Bool) (P Q : Value) : BoxF w (((w.alloc (Obj.cells #[Value.bool s, P] 89)).alloc (Obj.cells #[Value.bool t, Q] 89)).alloc (Obj.cells #[Value.int .i64 0, Value.int .i64 0] 25)) s t P Q := by
  refine ⟨?_, ?_, ?_, ?_, ?_, ?_, ?_, ?_, ?_, by go_grown⟩ <;> simp [go_sem]
theorem BoxF.drew {w v : World} {s t : Bool} {P Q : Value} (h : BoxF w v s t P Q) : BoxF w v.drew s t P Q := ⟨h.a0, h.a1, h.b0, h.b1, h.c0, h.c1, h.f0, h.f1, h.sz, h.bel.drew⟩

theorem sgn_abs (X : Int) : (bif decide (X < 0) then -(X.natAbs : Int) else (X.natAbs : Int)) = X := by
  by_cases h : X < 0 <;> simp [h] <;> omega

theorem low_end {s : Bool} {X Y P Q : Int} (hX : (bif s then -(X.natAbs : Int) else (X.natAbs : Int)) = X) (hY : 0 < Y) (hP : P = bif s then -((X.natAbs : Int) / (Int.gcd (X.natAbs : Int) Y.natAbs : Int)) else (X.natAbs : Int) / (Int.gcd (X.natAbs : Int) Y.natAbs : Int)) (hQ : Q = (Y.natAbs : Int) / (Int.gcd (X.natAbs : Int) Y.natAbs : Int)) :
    ((P.natAbs : Int) ≤ 1099511627776 → (Q.natAbs : Int) ≤ 1048576 → IsFrac X Y P Q 0) ∧ ((1099511627776 < (P.natAbs : Int) ∨ 1048576 < (Q.natAbs : Int)) → IsFrac X Y 0 0 4) := by
  have Q0 := Int.ediv_nonneg (show 0 ≤ (X.natAbs : Int) by omega) (show 0 ≤ (Int.gcd (X.natAbs : Int) Y.natAbs : Int) by omega)
  have Q1 := Int.ediv_nonneg (show 0 ≤ (Y.natAbs : Int) by omega) (show 0 ≤ (Int.gcd (X.natAbs : Int) Y.natAbs : Int) by omega)
  have LF := low_frac s X.natAbs Y.natAbs (by omega) (by omega)
  rw [hX, show (Y.natAbs : Int) = Y from by omega] at LF
  rw [show (Y.natAbs : Int) = Y from by omega] at hP hQ Q0 Q1
  have PA : (P.natAbs : Int) = (X.natAbs : Int) / (Int.gcd (X.natAbs : Int) Y : Int) := by rw [hP]; exact whole_abs s Q0
  have QA : (Q.natAbs : Int) = Y / (Int.gcd (X.natAbs : Int) Y : Int) := by rw [hQ]; omega
  unfold lowV lowD lowE at LF
  rw [← PA, ← QA] at LF
  constructor
  · intro a b
    rw [if_pos ⟨a, b⟩, if_pos ⟨a, b⟩, if_pos ⟨a, b⟩] at LF
    rw [PA, ← hP, QA, ← hQ] at LF
    exact LF
  · intro a
    have na : ¬ ((P.natAbs : Int) ≤ 1099511627776 ∧ (Q.natAbs : Int) ≤ 1048576) := by omega
    rw [if_neg na, if_neg na, if_neg na] at LF
    exact LF

set_option maxRecDepth 100000 in
set_option maxHeartbeats 4000000 in
theorem Lowest_pos {N : Nat} (p q : Option Addr) (c d : Nat) (l m : List Int) (X Y : Int) (w : World) (A : BigR N w p l X) (B : BigR N w q m Y) (hY : 0 < Y) (hN : N ≤ 80000) :
    Calls Try.prog 70 #[.agg #[.bool (decide (X < 0)), .slice p l.length c], .agg #[.bool (decide (Y < 0)), .slice q m.length d]] w (Res (IsFrac X Y) w) := by
  have K := BoxF.new w (decide (X < 0)) (decide (Y < 0)) (.slice p l.length c) (.slice q m.length d)
  have conv : ∀ V D E, IsFrac X Y V D E → IsFrac X Y V D E := fun _ _ _ h => h
  have hXs : (bif decide (X < 0) then -(X.natAbs : Int) else (X.natAbs : Int)) = X := sgn_abs _
  have ht : decide (Y < 0) = false := by simp; omega
  rw [ht] at K ⊢
  have bx := A.below K.bel
  have by' := B.below K.bel
  clear ht A B
  generalize decide (X < 0) = s at *
  go_enter Try.func70, Try.ntmps70
  go_upto_region 1 with fail
  generalize (((w.alloc (Obj.cells #[Value.bool s, Value.slice p l.length c] 89)).alloc (Obj.cells #[Value.bool false, Value.slice q m.length d] 89)).alloc (Obj.cells #[Value.int .i64 0, Value.int .i64 0] 25)) = v at *
  -- X over Y, Y above 0
  have HX := Lib.hid bx
  have HY := Lib.hid by'
  have HK := Lib.hid K
  have HC := Lib.hid conv
  have HXs := Lib.hid hXs
  have Y1 : 1 ≤ (Y.natAbs : Int) := by omega
  have Y2 := Lib.hid hY
  clear bx by' K conv hXs hY
  obtain ⟨k1, k2, k3, k4, k5, k6, k7, k8, k9, kb⟩ := HK.out
  have GC := Lib.hid (fun W (h : Below v.heap.size v W) => gcdD_any N p q c d l m X.natAbs Y.natAbs W HX.out.can HY.out.can (HX.out.row.below h) (HY.out.row.below h) HX.out.size HY.out.size (by omega))
  have LX := HX.out.size
  have LY := HY.out.size
  generalize hln : l.length = nl at *
  generalize hmn : m.length = nm at *
  have HLN := Lib.hid hln
  have HMN := Lib.hid hmn
  clear hln hmn
  go_wp2_with fail
  refine (GC.out _ (Below.refl _ _)).mono ?_
  rintro e v1 ⟨g, pg, cg, rfl, g1, g2, g3, g4⟩
  obtain ⟨G, hG⟩ : ∃ G : Int, G = (Int.gcd (X.natAbs : Int) Y.natAbs : Int) := ⟨_, rfl⟩
  rw [← hG] at g1
  have gp : 0 < G := by
    have := Int.gcd_pos_of_ne_zero_right (X.natAbs : Int) (show (Y.natAbs : Int) ≠ 0 by omega)
    omega
  have HG := Lib.hid hG
  clear hG
  have DX := Lib.hid (fun W (h : Below v1.heap.size v1 W) => by
    have := divD_any p pg c cg l g G W HX.out.can.digs g1 gp ((HX.out.row.below g4).below h) (g3.below h) (by have := HLN.out; omega) (by omega)
    rwa [HX.out.can.val, HLN.out] at this)
  have DY := Lib.hid (fun W (h : Below v1.heap.size v1 W) => by
    have := divD_any q pg d cg m g G W HY.out.can.digs g1 gp ((HY.out.row.below g4).below h) (g3.below h) (by have := HMN.out; omega) (by omega)
    rwa [HY.out.can.val, HMN.out] at this)
  have K1 := Lib.hid (HK.out.below g4)
  clear k1 k2 k3 k4 k5 k6 k7 k8 k9 kb g1 g2 g3 g4 GC
  obtain ⟨k1, k2, k3, k4, k5, k6, k7, k8, k9, kb⟩ := K1.out
  go_wp2_with fail
  refine (DX.out _ (Below.refl _ _)).mono ?_
  rintro e v2 ⟨q1, pq1, cq1, r1, pr1, cr1, rfl, a1, a2, a3, a4, a5, a6, a7⟩
  have K2 := Lib.hid (K1.out.below a7)
  have A1 := Lib.hid a1
  have A2 := Lib.hid a2
  have A3 := Lib.hid a3
  have A7 := Lib.hid a7
  clear a1 a2 a3 a4 a5 a6 a7 DX k1 k2 k3 k4 k5 k6 k7 k8 k9 kb
  obtain ⟨k1, k2, k3, k4, k5, k6, k7, k8, k9, kb⟩ := K2.out
  go_wp2_with fail
  refine (DY.out _ A7.out).mono ?_
  rintro e v3 ⟨q2, pq2, cq2, r2, pr2, cr2, rfl, b1, b2, b3, b4, b5, b6, b7⟩
  have K3 := Lib.hid (K2.out.below b7)
  have B1 := Lib.hid b1
  have B2 := Lib.hid b2
  have B3 := Lib.hid b3
  have A3' := Lib.hid (A3.out.below b7)
  clear b1 b2 b3 b4 b5 b6 b7 DY k1 k2 k3 k4 k5 k6 k7 k8 k9 kb
  obtain ⟨k1, k2, k3, k4, k5, k6, k7, k8, k9, kb⟩ := K3.out
  obtain ⟨P, hP⟩ : ∃ P, P = (bif s then -((X.natAbs : Int) / G) else (X.natAbs : Int) / G) := ⟨_, rfl⟩
  have W1 := Lib.hid (whole_to hP.symm pq1 cq1 q1 v3 A1.out.digs A1.out.val A3'.out (by have := A2.out; omega))
  have HP := Lib.hid hP
  clear hP
  go_wp2_with fail
  refine (W1.out).mono ?_
  rintro e v4 ⟨pw, lw, cw, rfl, w1, w2, w3⟩
  have WI := Lib.hid (Within_any pw cw lw P 1099511627776 (by omega) (by omega) v4 w1 (by have := A2.out; omega))
  have B3' := Lib.hid (B3.out.below w3)
  have K4 := Lib.hid (K3.out.below w3)
  clear w1 w2 w3 W1 k1 k2 k3 k4 k5 k6 k7 k8 k9 kb
  generalize decide (P < 0) = sp at *
  go_wp2_with fail
  refine (WI.out).mono ?_
  rintro e v5 ⟨rfl, w4⟩
  obtain ⟨Q, hQ⟩ : ∃ Q, Q = (Y.natAbs : Int) / G := ⟨_, rfl⟩
  have K5 := Lib.hid (K4.out.below w4)
  have W2 := Lib.hid (whole_to (s := false) (X := Q) hQ.symm pq2 cq2 q2 v5 B1.out.digs B1.out.val (B3'.out.below w4) (by have := B2.out; omega))
  have HQ := Lib.hid hQ
  clear w4 WI hQ
  go_wp2_with fail
  refine (W2.out).mono ?_
  rintro e v6 ⟨px, lx, cx, rfl, x1, x2, x3⟩
  have WJ := Lib.hid (Within_any px cx lx Q 1048576 (by omega) (by omega) v6 x1 (by have := B2.out; omega))
  have K6 := Lib.hid (K5.out.below x3)
  clear x1 x2 x3 W2
  generalize decide (Q < 0) = sq at *
  go_wp2_with fail
  refine (WJ.out).mono ?_
  rintro e v7 ⟨rfl, x4⟩
  have K7 := Lib.hid (K6.out.below x4)
  clear x4 WJ
  obtain ⟨k1, k2, k3, k4, k5, k6, k7, k8, k9, kb⟩ := K7.out
  obtain ⟨E1, E2⟩ := low_end (P := P) (Q := Q) HXs.out Y2.out (by rw [← HG.out]; exact HP.out) (by rw [← HG.out]; exact HQ.out)
  have E1' := Lib.hid E1
  have E2' := Lib.hid E2
  clear E1 E2
  by_cases hp : (P.natAbs : Int) ≤ 1099511627776
  · by_cases hq : (Q.natAbs : Int) ≤ 1048576
    · have F := Lib.hid (HC.out _ _ _ (E1'.out hp hq))
      rw [show wiV P 1099511627776 = P from if_pos hp, show wiB P 1099511627776 = true from by simpa [wiB] using hp, show wiV Q 1048576 = Q from if_pos hq, show wiB Q 1048576 = true from by simpa [wiB] using hq]
      clear hp hq
      go_wp2_with fail
      refine bodyPost_ret (v := fracV P Q 0) (by simp [results, Try.results70, go_sem, fracV, k5, k6, k9]) rfl ⟨P, Q, 0, F.out, rfl, ?_⟩
      exact by repeat' (first | exact Below.refl _ _ | refine below_drewN ?_ _ | refine Below.setCell ?_ ?_ _ | refine Below.alloc ?_ ?_ _ | (with_reducible exact kb) | (simp; done) | (simp; omega) | omega)
    · have F := Lib.hid (HC.out _ _ _ (E2'.out (.inr (by omega))))
      rw [show wiV P 1099511627776 = P from if_pos hp, show wiB P 1099511627776 = true from by simpa [wiB] using hp, show wiV Q 1048576 = 0 from if_neg hq, show wiB Q 1048576 = false from by simpa [wiB] using hq]
      clear hp hq
      go_wp2_with fail
      refine bodyPost_ret (v := fracV 0 0 4) (by simp [results, Try.results70, go_sem, fracV, k5, k6, k9]) rfl ⟨0, 0, 4, F.out, rfl, ?_⟩
      exact by repeat' (first | exact Below.refl _ _ | refine below_drewN ?_ _ | refine Below.setCell ?_ ?_ _ | refine Below.alloc ?_ ?_ _ | (with_reducible exact kb) | (simp; done) | (simp; omega) | omega)
  · have F := Lib.hid (HC.out _ _ _ (E2'.out (.inl (by omega))))
    rw [show wiV P 1099511627776 = 0 from if_neg hp, show wiB P 1099511627776 = false from by simpa [wiB] using hp]
    generalize wiV Q 1048576 = vq
    generalize wiB Q 1048576 = bq
    clear hp
    go_wp2_with fail
    refine bodyPost_ret (v := fracV 0 0 4) (by simp [results, Try.results70, go_sem, fracV, k5, k6, k9]) rfl ⟨0, 0, 4, F.out, rfl, ?_⟩
    exact by repeat' (first | exact Below.refl _ _ | refine below_drewN ?_ _ | refine Below.setCell ?_ ?_ _ | refine Below.alloc ?_ ?_ _ | (with_reducible exact kb) | (simp; done) | (simp; omega) | omega)

/-- Both numbers with their signs turned. -/
def Turned (N : Nat) (w : World) (X Y : Int) (wx : World) : Prop :=
  ∃ p l c q m d, BoxF w wx (decide (-X < 0)) (decide (-Y < 0)) (.slice p (List.length l) c) (.slice q (List.length m) d) ∧ BigR N wx p l (-X) ∧ BigR N wx q m (-Y)
theorem turned_of {N : Nat} {w v wx : World} {X Y : Int} {s t : Bool} {P Q : Value} {p q : Option Addr} {l m : List Int} {c d : Nat} (K : BoxF w v s t P Q) (hb : Below v.heap.size v wx) (A : BigR N wx p l (-X)) (B : BigR N wx q m (-Y))
    (fa : ∀ a, p = some a → v.heap.size ≤ a.block) (fb : ∀ a, q = some a → v.heap.size ≤ a.block) :
    Turned N w X Y ((((wx.setCell ⟨w.heap.size, 0, none⟩ (.bool (decide (-X < 0)))).setCell ⟨w.heap.size, 1, none⟩ (.slice p l.length c)).setCell ⟨w.heap.size + 1, 0, none⟩ (.bool (decide (-Y < 0)))).setCell ⟨w.heap.size + 1, 1, none⟩ (.slice q m.length d)) := by
  have K' := K.below hb
  have sz := K.sz
  have f0 : ∀ a, p = some a → a.block ≠ w.heap.size := fun a h => by have := fa a h; omega
  have f1 : ∀ a, p = some a → a.block ≠ w.heap.size + 1 := fun a h => by have := fa a h; omega
  have e0 : ∀ a, q = some a → a.block ≠ w.heap.size := fun a h => by have := fb a h; omega
  have e1 : ∀ a, q = some a → a.block ≠ w.heap.size + 1 := fun a h => by have := fb a h; omega
  have sz' := K'.sz
  refine ⟨p, l, c, q, m, d, ?_, ⟨A.can, A.size, ?_⟩, ⟨B.can, B.size, ?_⟩⟩
  · generalize decide (-X < 0) = s'
    generalize decide (-Y < 0) = t'
    obtain ⟨k1, k2, k3, k4, k5, k6, k7, k8, k9, kb⟩ := K'
    have z0 : w.heap.size < wx.heap.size := by omega
    have z1 : w.heap.size + 1 < wx.heap.size := by omega
    refine ⟨?_, ?_, ?_, ?_, ?_, ?_, ?_, ?_, ?_, (((kb.setCell (Nat.le_refl _) _).setCell (Nat.le_refl _) _).setCell (Nat.le_succ _) _).setCell (Nat.le_succ _) _⟩
    all_goals simp [go_sem, k1, k2, k3, k4, k5, k6, k7, k8, k9, z0, z1]
  · exact (((A.row.setCell (q := ⟨w.heap.size, 0, none⟩) f0 _).setCell (q := ⟨w.heap.size, 1, none⟩) f0 _).setCell (q := ⟨w.heap.size + 1, 0, none⟩) f1 _).setCell (q := ⟨w.heap.size + 1, 1, none⟩) f1 _
  · exact (((B.row.setCell (q := ⟨w.heap.size, 0, none⟩) e0 _).setCell (q := ⟨w.heap.size, 1, none⟩) e0 _).setCell (q := ⟨w.heap.size + 1, 0, none⟩) e1 _).setCell (q := ⟨w.heap.size + 1, 1, none⟩) e1 _
end Go.Proofs.Ytbcfafihkdddeaa

/- The reference's Lowest of a denominator below 0; Make. -/
namespace Go.Proofs.Ytbcfafihkdddeaa
open Go.RowKit
set_option linter.unusedVariables false
set_option linter.unusedSimpArgs false

/-- The two numbers' boxes may be written. -/
def Free4 (w v : World) : Prop := v.frozen? ⟨w.heap.size, 0, none⟩ = false ∧ v.frozen? ⟨w.heap.size, 1, none⟩ = false ∧ v.frozen? ⟨w.heap.size + 1, 0, none⟩ = false ∧ v.frozen? ⟨w.heap.size + 1, 1, none⟩ = false
theorem Free4.below {w v v' : World} (h : Free4 w v) (hz : w.heap.size + 1 + 1 < v.heap.size) (hb : Below v.heap.size v v') : Free4 w v' := by
  have z0 : w.heap.size < v.heap.size := by omega
  have z1 : w.heap.size + 1 < v.heap.size := by omega
  exact ⟨(hb.frozen (p := ⟨w.heap.size, 0, none⟩) z0).trans h.1, (hb.frozen (p := ⟨w.heap.size, 1, none⟩) z0).trans h.2.1, (hb.frozen (p := ⟨w.heap.size + 1, 0, none⟩) z1).trans h.2.2.1, (hb.frozen (p := ⟨w.heap.size + 1, 1, none⟩) z1).trans h.2.2.2⟩
theorem Free4.new (w : World) (s t : Bool) (P Q : Value) : Free4 w (((w.alloc (Obj.cells #[Value.bool s, P] 89)).alloc (Obj.cells #[Value.bool t, Q] 89)).alloc (Obj.cells #[Value.int .i64 0, Value.int .i64 0] 25)) := by
  refine ⟨?_, ?_, ?_, ?_⟩ <;> simp [go_sem]

set_option maxRecDepth 100000 in
set_option maxHeartbeats 4000000 in
theorem Lowest_neg {N : Nat} (p q : Option Addr) (c d : Nat) (l m : List Int) (X Y : Int) (w : World) (A : BigR N w p l X) (B : BigR N w q m Y) (hY : Y < 0) (hN : N ≤ 80000) :
    Calls Try.prog 70 #[.agg #[.bool (decide (X < 0)), .slice p l.length c], .agg #[.bool (decide (Y < 0)), .slice q m.length d]] w (Res (IsFrac X Y) w) := by
  have K := BoxF.new w (decide (X < 0)) (decide (Y < 0)) (.slice p l.length c) (.slice q m.length d)
  have ht : decide (Y < 0) = true := by simpa using hY
  have FR := Free4.new w (decide (X < 0)) (decide (Y < 0)) (.slice p l.length c) (.slice q m.length d)
  have NX := Lib.hid (fun W (h : Below w.heap.size w W) => Neg_any p c l X W (A.below h) (by omega))
  have NY := Lib.hid (fun W (h : Below w.heap.size w W) => Neg_any q d m Y W (B.below h) (by omega))
  rw [ht] at K NY FR ⊢
  clear ht A B
  generalize decide (X < 0) = s at *
  obtain ⟨sx, hsx⟩ : ∃ b, b = decide (-X < 0) := ⟨_, rfl⟩
  obtain ⟨sy, hsy⟩ : ∃ b, b = decide (-Y < 0) := ⟨_, rfl⟩
  unfold BigRes at NX NY
  rw [← hsx] at NX
  rw [← hsy] at NY
  have HSX := Lib.hid hsx
  have HSY := Lib.hid hsy
  clear hsx hsy
  go_enter Try.func70, Try.ntmps70
  go_upto_region 1 with fail
  generalize (((w.alloc (Obj.cells #[Value.bool s, Value.slice p l.length c] 89)).alloc (Obj.cells #[Value.bool true, Value.slice q m.length d] 89)).alloc (Obj.cells #[Value.int .i64 0, Value.int .i64 0] 25)) = v at *
  have HK := Lib.hid K
  have HF := Lib.hid FR
  have HZ := Lib.hid K.sz
  obtain ⟨k1, k2, k3, k4, k5, k6, k7, k8, k9, kb⟩ := K
  obtain ⟨q1, q2, q3, q4⟩ := FR
  go_upto_region 2 with fail
  go_cut [17] from 17 to 20 (fun _ wx => Turned N w X Y wx)
  case first =>
    have hcur : Below v.heap.size v v := Below.refl _ _
    go_region_law (first | (go_simp; go_at_call 112; first | (refine (NX.out _ (by first | exact kb | exact kb.drew | exact below_drewN kb _)).mono ?_; rintro e wx ⟨p1, l1, c1, rfl, x1, x2, x3⟩; replace hcur : Below v.heap.size v wx := (by first | exact hcur.trans (x3.mono hcur.size) | exact hcur.drew.trans (x3.mono hcur.size) | exact (below_drewN hcur _).trans (x3.mono hcur.size)); clear k1 k2 k3 k4 k5 k6 k7 k8 k9 kb q1 q2 q3 q4; obtain ⟨k1, k2, k3, k4, k5, k6, k7, k8, k9, kb⟩ := HK.out.below hcur; obtain ⟨q1, q2, q3, q4⟩ := HF.out.below HZ.out hcur; have X1 := Lib.hid x1; have X2 := Lib.hid x2; have X3 := Lib.hid x3; clear x1 x2 x3) | (refine (NY.out _ (by first | exact kb | exact kb.drew | exact below_drewN kb _)).mono ?_; rintro e wy ⟨p2, l2, c2, rfl, y1, y2, y3⟩; replace hcur : Below v.heap.size v wy := (by first | exact hcur.trans (y3.mono hcur.size) | exact hcur.drew.trans (y3.mono hcur.size) | exact (below_drewN hcur _).trans (y3.mono hcur.size)); clear k1 k2 k3 k4 k5 k6 k7 k8 k9 kb q1 q2 q3 q4; obtain ⟨k1, k2, k3, k4, k5, k6, k7, k8, k9, kb⟩ := HK.out.below hcur; obtain ⟨q1, q2, q3, q4⟩ := HF.out.below HZ.out hcur; have Y1 := Lib.hid y1; have Y2 := Lib.hid y2; have Y3 := Lib.hid y3; clear y1 y2 y3)))
    all_goals
      first
        | (have T := turned_of (c := c1) (d := c2) HK.out hcur (X1.out.below (by first | exact Y3.out | exact ((Below.refl _ _).drew).trans Y3.out)) Y1.out X2.out (fun a h => Nat.le_trans X3.out.size (Y2.out a h)); rw [← HSX.out, ← HSY.out] at T; have TT := Lib.hid T; clear T)
        | (have T := turned_of (c := c1) (d := c2) HK.out hcur X1.out (Y1.out.below (by first | exact X3.out | exact ((Below.refl _ _).drew).trans X3.out)) (fun a h => Nat.le_trans Y3.out.size (X2.out a h)) Y2.out; rw [← HSX.out, ← HSY.out] at T; have TT := Lib.hid T; clear T)
    all_goals clear X1 X2 X3 Y1 Y2 Y3 NX NY
    all_goals go_wp2_with fail
    all_goals go_meet
    all_goals exact TT.out
  case rest =>
    obtain ⟨p', l', c', q', m', d', K, bx, by'⟩ := hcut
    have ht : decide (-Y < 0) = false := by simp; omega
    have hY' : 0 < -Y := by omega
    have conv : ∀ V D E, IsFrac (-X) (-Y) V D E → IsFrac X Y V D E := fun _ _ _ h => frac_neg h
    have hXs : (bif decide (-X < 0) then -((-X).natAbs : Int) else ((-X).natAbs : Int)) = -X := sgn_abs _
    rw [ht] at K
    clear ht hY HK HF HZ HSX HSY k1 k2 k3 k4 k5 k6 k7 k8 k9 kb q1 q2 q3 q4 NX NY
    generalize decide (-X < 0) = s' at *
    generalize -X = XX at *
    generalize -Y = YY at *
    -- XX over YY, YY above 0
    have HX := Lib.hid bx
    have HY := Lib.hid by'
    have HK := Lib.hid K
    have HC := Lib.hid conv
    have HXs := Lib.hid hXs
    have Y1 : 1 ≤ (YY.natAbs : Int) := by omega
    have Y2 := Lib.hid hY'
    clear bx by' K conv hXs hY'
    obtain ⟨k1, k2, k3, k4, k5, k6, k7, k8, k9, kb⟩ := HK.out
    have GC := Lib.hid (fun W (h : Below wc.heap.size wc W) => gcdD_any N p' q' c' d' l' m' XX.natAbs YY.natAbs W HX.out.can HY.out.can (HX.out.row.below h) (HY.out.row.below h) HX.out.size HY.out.size (by omega))
    have LX := HX.out.size
    have LY := HY.out.size
    generalize hln : l'.length = nl at *
    generalize hmn : m'.length = nm at *
    have HLN := Lib.hid hln
    have HMN := Lib.hid hmn
    clear hln hmn
    go_wp2_with fail
    refine (GC.out _ (Below.refl _ _)).mono ?_
    rintro e v1 ⟨g, pg, cg, rfl, g1, g2, g3, g4⟩
    obtain ⟨G, hG⟩ : ∃ G : Int, G = (Int.gcd (XX.natAbs : Int) YY.natAbs : Int) := ⟨_, rfl⟩
    rw [← hG] at g1
    have gp : 0 < G := by
      have := Int.gcd_pos_of_ne_zero_right (XX.natAbs : Int) (show (YY.natAbs : Int) ≠ 0 by omega)
      omega
    have HG := Lib.hid hG
    clear hG
    have DX := Lib.hid (fun W (h : Below v1.heap.size v1 W) => by
      have := divD_any p' pg c' cg l' g G W HX.out.can.digs g1 gp ((HX.out.row.below g4).below h) (g3.below h) (by have := HLN.out; omega) (by omega)
      rwa [HX.out.can.val, HLN.out] at this)
    have DY := Lib.hid (fun W (h : Below v1.heap.size v1 W) => by
      have := divD_any q' pg d' cg m' g G W HY.out.can.digs g1 gp ((HY.out.row.below g4).below h) (g3.below h) (by have := HMN.out; omega) (by omega)
      rwa [HY.out.can.val, HMN.out] at this)
    have K1 := Lib.hid (HK.out.below g4)
    clear k1 k2 k3 k4 k5 k6 k7 k8 k9 kb g1 g2 g3 g4 GC
    obtain ⟨k1, k2, k3, k4, k5, k6, k7, k8, k9, kb⟩ := K1.out
    go_wp2_with fail
    refine (DX.out _ (Below.refl _ _)).mono ?_
    rintro e v2 ⟨q1, pq1, cq1, r1, pr1, cr1, rfl, a1, a2, a3, a4, a5, a6, a7⟩
    have K2 := Lib.hid (K1.out.below a7)
    have A1 := Lib.hid a1
    have A2 := Lib.hid a2
    have A3 := Lib.hid a3
    have A7 := Lib.hid a7
    clear a1 a2 a3 a4 a5 a6 a7 DX k1 k2 k3 k4 k5 k6 k7 k8 k9 kb
    obtain ⟨k1, k2, k3, k4, k5, k6, k7, k8, k9, kb⟩ := K2.out
    go_wp2_with fail
    refine (DY.out _ A7.out).mono ?_
    rintro e v3 ⟨q2, pq2, cq2, r2, pr2, cr2, rfl, b1, b2, b3, b4, b5, b6, b7⟩
    have K3 := Lib.hid (K2.out.below b7)
    have B1 := Lib.hid b1
    have B2 := Lib.hid b2
    have B3 := Lib.hid b3
    have A3' := Lib.hid (A3.out.below b7)
    clear b1 b2 b3 b4 b5 b6 b7 DY k1 k2 k3 k4 k5 k6 k7 k8 k9 kb
    obtain ⟨k1, k2, k3, k4, k5, k6, k7, k8, k9, kb⟩ := K3.out
    obtain ⟨P, hP⟩ : ∃ P, P = (bif s' then -((XX.natAbs : Int) / G) else (XX.natAbs : Int) / G) := ⟨_, rfl⟩
    have W1 := Lib.hid (whole_to hP.symm pq1 cq1 q1 v3 A1.out.digs A1.out.val A3'.out (by have := A2.out; omega))
    have HP := Lib.hid hP
    clear hP
    go_wp2_with fail
    refine (W1.out).mono ?_
    rintro e v4 ⟨pw, lw, cw, rfl, w1, w2, w3⟩
    have WI := Lib.hid (Within_any pw cw lw P 1099511627776 (by omega) (by omega) v4 w1 (by have := A2.out; omega))
    have B3' := Lib.hid (B3.out.below w3)
    have K4 := Lib.hid (K3.out.below w3)
    clear w1 w2 w3 W1 k1 k2 k3 k4 k5 k6 k7 k8 k9 kb
    generalize decide (P < 0) = sp at *
    go_wp2_with fail
    refine (WI.out).mono ?_
    rintro e v5 ⟨rfl, w4⟩
    obtain ⟨Q, hQ⟩ : ∃ Q, Q = (YY.natAbs : Int) / G := ⟨_, rfl⟩
    have K5 := Lib.hid (K4.out.below w4)
    have W2 := Lib.hid (whole_to (s := false) (X := Q) hQ.symm pq2 cq2 q2 v5 B1.out.digs B1.out.val (B3'.out.below w4) (by have := B2.out; omega))
    have HQ := Lib.hid hQ
    clear w4 WI hQ
    go_wp2_with fail
    refine (W2.out).mono ?_
    rintro e v6 ⟨px, lx, cx, rfl, x1, x2, x3⟩
    have WJ := Lib.hid (Within_any px cx lx Q 1048576 (by omega) (by omega) v6 x1 (by have := B2.out; omega))
    have K6 := Lib.hid (K5.out.below x3)
    clear x1 x2 x3 W2
    generalize decide (Q < 0) = sq at *
    go_wp2_with fail
    refine (WJ.out).mono ?_
    rintro e v7 ⟨rfl, x4⟩
    have K7 := Lib.hid (K6.out.below x4)
    clear x4 WJ
    obtain ⟨k1, k2, k3, k4, k5, k6, k7, k8, k9, kb⟩ := K7.out
    obtain ⟨E1, E2⟩ := low_end (P := P) (Q := Q) HXs.out Y2.out (by rw [← HG.out]; exact HP.out) (by rw [← HG.out]; exact HQ.out)
    have E1' := Lib.hid E1
    have E2' := Lib.hid E2
    clear E1 E2
    by_cases hp : (P.natAbs : Int) ≤ 1099511627776
    · by_cases hq : (Q.natAbs : Int) ≤ 1048576
      · have F := Lib.hid (HC.out _ _ _ (E1'.out hp hq))
        rw [show wiV P 1099511627776 = P from if_pos hp, show wiB P 1099511627776 = true from by simpa [wiB] using hp, show wiV Q 1048576 = Q from if_pos hq, show wiB Q 1048576 = true from by simpa [wiB] using hq]
        clear hp hq
        go_wp2_with fail
        refine bodyPost_ret (v := fracV P Q 0) (by simp [results, Try.results70, go_sem, fracV, k5, k6, k9]) rfl ⟨P, Q, 0, F.out, rfl, ?_⟩
        exact by repeat' (first | exact Below.refl _ _ | refine below_drewN ?_ _ | refine Below.setCell ?_ ?_ _ | refine Below.alloc ?_ ?_ _ | (with_reducible exact kb) | (simp; done) | (simp; omega) | omega)
      · have F := Lib.hid (HC.out _ _ _ (E2'.out (.inr (by omega))))
        rw [show wiV P 1099511627776 = P from if_pos hp, show wiB P 1099511627776 = true from by simpa [wiB] using hp, show wiV Q 1048576 = 0 from if_neg hq, show wiB Q 1048576 = false from by simpa [wiB] using hq]
        clear hp hq
        go_wp2_with fail
        refine bodyPost_ret (v := fracV 0 0 4) (by simp [results, Try.results70, go_sem, fracV, k5, k6, k9]) rfl ⟨0, 0, 4, F.out, rfl, ?_⟩
        exact by repeat' (first | exact Below.refl _ _ | refine below_drewN ?_ _ | refine Below.setCell ?_ ?_ _ | refine Below.alloc ?_ ?_ _ | (with_reducible exact kb) | (simp; done) | (simp; omega) | omega)
    · have F := Lib.hid (HC.out _ _ _ (E2'.out (.inl (by omega))))
      rw [show wiV P 1099511627776 = 0 from if_neg hp, show wiB P 1099511627776 = false from by simpa [wiB] using hp]
      generalize wiV Q 1048576 = vq
      generalize wiB Q 1048576 = bq
      clear hp
      go_wp2_with fail
      refine bodyPost_ret (v := fracV 0 0 4) (by simp [results, Try.results70, go_sem, fracV, k5, k6, k9]) rfl ⟨0, 0, 4, F.out, rfl, ?_⟩
      exact by repeat' (first | exact Below.refl _ _ | refine below_drewN ?_ _ | refine Below.setCell ?_ ?_ _ | refine Below.alloc ?_ ?_ _ | (with_reducible exact kb) | (simp; done) | (simp; omega) | omega)
end Go.Proofs.Ytbcfafihkdddeaa
