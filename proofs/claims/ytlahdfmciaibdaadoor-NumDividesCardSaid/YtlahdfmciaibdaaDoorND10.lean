/- Several texts in one: R13 R14 R15 R16 R17 B9 B10 R1 R18 R19. -/
import Derived.Test.YtlahdfmciaibdaaDoorND9
import Derived.Test.YtlahdfmciaibdaaDoorND3
import Derived.Test.YtlahdfmciaibdaaDoorND5

/- The reference's Big: Minus, Of. -/
namespace Go.Proofs.YtlahdfmciaibdaaDoor
open Go.RowKit
set_option linter.unusedVariables false
set_option linter.unusedSimpArgs false

set_option maxRecDepth 100000 in
set_option maxHeartbeats 1000000 in
theorem Minus_any {k : Nat} (pa pb : Option Addr) (ca cb : Nat) (a b : List Int) (x y : Int) (w : World) (A : BigR k w pa a x) (B : BigR k w pb b y) (hk : k ≤ 90000) :
    Calls Tryd.prog 36 #[.agg #[.bool (decide (x < 0)), .slice pa a.length ca], .agg #[.bool (decide (y < 0)), .slice pb b.length cb]] w (BigRes (k + 1) (x - y) w) := by
  have K := Box3.new w (decide (x < 0)) (decide (y < 0)) (.slice pa a.length ca) (.slice pb b.length cb)
  have G := Lib.hid (fun W (h : Below w.heap.size w W) => Neg_any pb cb b y W (B.below h) (by omega))
  have PL := Lib.hid (fun p c l W (hB : BigR k W p l (-y)) (h : Below w.heap.size w W) => by
    have := Plus_any pa p ca c a l x (-y) W (A.below h) hB hk
    rw [show x + -y = x - y from by omega] at this
    exact this)
  clear A B
  generalize decide (x < 0) = s at *
  generalize decide (y < 0) = t at *
  obtain ⟨u, hu⟩ : ∃ u, u = decide (-y < 0) := ⟨_, rfl⟩
  have G' := Lib.hid (fun W (h : Below w.heap.size w W) => show Calls Tryd.prog 71 #[.agg #[.bool t, .slice pb b.length cb]] W (fun e w' => ∃ p l c, e = .returned (.agg #[.bool u, .slice p l.length c]) ∧ BigR k w' p l (-y) ∧ (∀ a, p = some a → W.heap.size ≤ a.block) ∧ Below W.heap.size W w') by rw [hu]; exact G.out W h)
  rw [← hu] at PL
  clear G hu
  generalize x - y = X at *
  go_enter Tryd.func36, Tryd.ntmps36
  go_wp2_with fail
  generalize (((w.alloc (Obj.cells #[Value.bool s, Value.slice pa a.length ca] 55)).alloc (Obj.cells #[Value.bool t, Value.slice pb b.length cb] 55)).alloc (Obj.cells #[Value.bool false, Value.slice none 0 0] 55)) = v at *
  have HK := Lib.hid K
  obtain ⟨k1, k2, k3, k4, k5, k6, k7, k8, k9, kb⟩ := K
  go_region_held3 (fun w' => w'.cell? ⟨w.heap.size, 0, none⟩ = some (.bool s) ∧ w'.cell? ⟨w.heap.size, 1, none⟩ = some (.slice pa a.length ca) ∧ w'.cell? ⟨w.heap.size + 1, 0, none⟩ = some (.bool t) ∧ w'.cell? ⟨w.heap.size + 1, 1, none⟩ = some (.slice pb b.length cb))
    (first | exact ⟨k1, k2, k3, k4⟩ | (refine ⟨?_, ?_, ?_, ?_⟩ <;> simp [go_sem, k1, k2, k3, k4]; done))
    (first
      | (go_at_call 71; refine (G'.out _ (by first | exact kb | exact kb.drew)).mono ?_; rintro e w1 ⟨p1, l1, c1, rfl, d1, d2, d6⟩; have K1 := Lib.hid (show Box3 w w1 s t _ _ from (by first | exact HK.out.below d6 | exact HK.out.drew.below d6)); clear k1 k2 k3 k4 k5 k6 k7 k8 k9 kb; obtain ⟨k1, k2, k3, k4, k5, k6, k7, k8, k9, kb⟩ := K1.out; have D1 := Lib.hid d1; clear d1 d2 d6)
      | (go_at_call 35; refine (PL.out p1 c1 l1 _ (by exact D1.out) (by first | exact kb | exact kb.drew)).mono ?_; rintro e w2 ⟨p2, l2, c2, rfl, r1, r2, r3⟩; have K2 := Lib.hid (show Box3 w w2 s t _ _ from (by first | exact K1.out.below r3 | exact K1.out.drew.below r3)); clear k1 k2 k3 k4 k5 k6 k7 k8 k9 kb; obtain ⟨k1, k2, k3, k4, k5, k6, k7, k8, k9, kb⟩ := K2.out; have R1 := Lib.hid r1; have R2 := Lib.hid r2; have R3 := Lib.hid r3; clear r1 r2 r3))
  have FIN := Lib.hid (BigRes.stored (c := c2) (r := w.heap.size + 1 + 1) K1.out.bel (by omega) K1.out.sz R1.out R2.out R3.out)
  clear PL G' HK K1 K2 D1 R1 R2 R3
  generalize decide (X < 0) = sg at *
  go_wp2_with fail
  exact bodyPost_ret (v := .agg #[.bool sg, .slice p2 l2.length c2]) (by simp [results, Tryd.results36, go_sem, k5, k6, k9]) rfl FIN.out

theorem of_step {o : List Int} {k : Nat} {m N : Int} (hl : o.length = k) (h : dval o + 10000 ^ k * m = N) : dval (o ++ [m % 10000]) + 10000 ^ (k + 1) * (m / 10000) = N := by
  rw [dval_snoc, hl, ← h, Int.pow_succ]
  rw [carry_step (P := 10000 ^ k) (u := m) (m := m % 10000) (z := m / 10000) (by omega)]
  omega
theorem of_less {j : Nat} {m : Int} (h : m < 10000 ^ (j + 1)) : m / 10000 < 10000 ^ j := by
  rw [Int.pow_succ] at h
  omega
theorem of_start {m : Int} (h : m ≤ 9223372036854775808) : m < 10000 ^ 5 := by
  have : (10000 : Int) ^ 5 = 100000000000000000000 := by decide
  omega
theorem neg_tmod' {m : Int} (h : 0 ≤ m) : (-m).tmod 10000 = -(m % 10000) := by rw [Int.neg_tmod, Int.tmod_eq_emod_of_nonneg h]
theorem neg_tdiv' {m : Int} (h : 0 ≤ m) : (-m).tdiv 10000 = -(m / 10000) := by rw [Int.neg_tdiv, Int.tdiv_eq_ediv_of_nonneg h]

set_option maxRecDepth 100000 in
set_option maxHeartbeats 1000000 in
theorem Of_any (n : Int) (h1 : -9223372036854775808 ≤ n) (h2 : n ≤ 9223372036854775807) (w : World) :
    Calls Tryd.prog 31 #[.int .i64 n] w (BigRes 5 n w) := by
  obtain ⟨i0, hi, hz0, hz1, hz2⟩ := info_parts intInfo
  by_cases hn : 0 ≤ n
  · have n0 : ¬ n < 0 := by omega
    obtain ⟨N, hN⟩ : ∃ N, N = n := ⟨_, rfl⟩
    have HN := Lib.hid hN
    clear hN
    go_enter Tryd.func31, Tryd.ntmps31
    go_wp2_with fail
    have cv0 : (w.alloc (Obj.cells #[Value.bool false, Value.slice none 0 0] 55)).cell? ⟨w.heap.size, 0, none⟩ = some (.bool false) := by simp [go_sem]
    have cv1 : (w.alloc (Obj.cells #[Value.bool false, Value.slice none 0 0] 55)).cell? ⟨w.heap.size, 1, none⟩ = some (.slice none 0 0) := by simp [go_sem]
    have fv0 : (w.alloc (Obj.cells #[Value.bool false, Value.slice none 0 0] 55)).frozen? ⟨w.heap.size, 0, none⟩ = false := by simp [go_sem]
    have fv1 : (w.alloc (Obj.cells #[Value.bool false, Value.slice none 0 0] 55)).frozen? ⟨w.heap.size, 1, none⟩ = false := by simp [go_sem]
    have zv : w.heap.size < (w.alloc (Obj.cells #[Value.bool false, Value.slice none 0 0] 55)).heap.size := by simp
    have bv : Below w.heap.size w (w.alloc (Obj.cells #[Value.bool false, Value.slice none 0 0] 55)) := by go_grown
    generalize w.alloc (Obj.cells #[Value.bool false, Value.slice none 0 0] 55) = v at *
    have BV := Lib.hid bv
    have CV := Lib.hid (And.intro cv0 (And.intro cv1 (And.intro fv0 fv1)))
    clear bv cv0 cv1 fv0 fv1
    go_loopw [0, 3] (fun cur d wr => ∃ (k j : Nat) (m : Int) (o : List Int), k + j = 5 ∧ 0 ≤ m ∧ m ≤ 9223372036854775807 ∧ cur = .int .i64 m ∧ Hid (m < 10000 ^ j) ∧ Hid (o.length = k) ∧ Hid (Digs o) ∧ Hid (dval o + 10000 ^ k * m = N) ∧
      wr.ownsRow v.heap.size 3 1 d k (o.map (Value.int .i64)) ∧ Below v.heap.size v wr) (fun cur _ _ => (intOf cur).toNat)
    case atStart => exact ⟨0, 5, n, [], by omega, hn, h2, rfl, of_start (by omega), rfl, Digs.nil, by show _ = _; rw [HN.out]; simp [dval], World.ownsRow_nil _ _ _ _, Below.refl _ _⟩
    case round =>
      obtain ⟨k, j, m, o, kj, m0, m1, rfl, mj, ol, od, ov, hown, hbel⟩ := hrel
      have hbs : ∀ o, v.heap.size ≤ (wr.alloc o).heap.size := fun o => by have := hbel.size; simp; omega
      by_cases hm : m = 0
      · have vv : dval o = N := by have := ov.out; rw [hm, Int.mul_zero, Int.add_zero] at this; exact this
        obtain ⟨q, cc, hv, hlen, hr, hn', hf⟩ := own_row hown
        have WH := Lib.hid (whole_to (s := false) (V := N) (X := n) (by simpa using HN.out) q cc o wr od.out vv hr (by have := ol.out; omega))
        have HB := Lib.hid hbel
        have OL := Lib.hid ol.out
        have HV := Lib.hid hv
        clear vv hlen hr hn' hf hown hbel hbs ol od ov mj
        subst hm
        have hv := HV.out
        subst hv
        clear HV
        go_wp2_with fail
        refine (WH.out).mono ?_
        rintro e w2 ⟨p2, l2, c2, rfl, r1, r2, r3⟩
        have B2 := HB.out.trans (r3.mono HB.out.size)
        have k5 := (B2.cell (p := ⟨w.heap.size, 0, none⟩) zv).trans CV.out.1
        have k6 := (B2.cell (p := ⟨w.heap.size, 1, none⟩) zv).trans CV.out.2.1
        have k9 := Nat.lt_of_lt_of_le zv B2.size
        have FIN := Lib.hid (BigRes.stored (c := c2) (r := w.heap.size) BV.out (Nat.le_refl _) zv (r1.more (m := 5) (by have := OL.out; omega)) (fun a ha => Nat.le_trans HB.out.size (r2 a ha)) B2)
        have k7 := (B2.frozen (p := ⟨w.heap.size, 0, none⟩) zv).trans CV.out.2.2.1
        have k8 := (B2.frozen (p := ⟨w.heap.size, 1, none⟩) zv).trans CV.out.2.2.2
        clear r1 r2 r3 B2 WH HB OL CV BV HN
        generalize decide (n < 0) = sg at *
        go_wp2_with fail
        exact bodyPost_ret (v := .agg #[.bool sg, .slice p2 l2.length c2]) (by simp [results, Tryd.results31, go_sem, k5, k6, k9]) rfl FIN.out
      · rcases j with _ | j
        · exact absurd mj.out (by rw [Int.pow_zero]; omega)
        · have S := Lib.hid (of_step ol.out ov.out)
          have L := Lib.hid (of_less mj.out)
          have hm' : (m == 0) = false := by simpa using hm
          have hm'' : (m != 0) = true := by simpa using hm
          have p : 0 < m := by omega
          clear hm
          go_wp2_with (first
            | (at_builtin; refine wpList_append_own _ rfl _ _ 22 rfl v.heap.size 3 i0 (.int .i64 0) 1 8 Tryd.underlying22 hi hz0 hz1 hz2 rfl (by decide) _ _ _ rfl (hown.alloc _) ⟨wr.heap.size, 0, none⟩ 1 1 [.int .i64 (m % 10000)] rfl rfl (one_cell _) one_one (by unfold maxLen; omega) (by omega) (hbs _) ?_))
          intro v' w1 hown' hgrow _
          have RR := own_snoc (l := o) _ rfl hbel hown hown' hgrow
          have OL := Lib.hid (show (o ++ [m % 10000]).length = k + 1 by have := ol.out; simp [this])
          have OD := Lib.hid (od.out.snoc (d := m % 10000) (by omega) (by omega))
          clear hown' hgrow hown hbel hbs ol od ov hm' hm''
          go_wp2
          go_roundw
          case rel => exact ⟨k + 1, j, m / 10000, _, by omega, by omega, by omega, rfl, L, OL, OD, S, RR.1, RR.2⟩
          case measure => simp [intOf]; omega
  · have n0 : n < 0 := by omega
    obtain ⟨N, hN⟩ : ∃ N, N = -n := ⟨_, rfl⟩
    have HN := Lib.hid hN
    clear hN
    go_enter Tryd.func31, Tryd.ntmps31
    go_wp2_with fail
    have cv0 : (w.alloc (Obj.cells #[Value.bool false, Value.slice none 0 0] 55)).cell? ⟨w.heap.size, 0, none⟩ = some (.bool false) := by simp [go_sem]
    have cv1 : (w.alloc (Obj.cells #[Value.bool false, Value.slice none 0 0] 55)).cell? ⟨w.heap.size, 1, none⟩ = some (.slice none 0 0) := by simp [go_sem]
    have fv0 : (w.alloc (Obj.cells #[Value.bool false, Value.slice none 0 0] 55)).frozen? ⟨w.heap.size, 0, none⟩ = false := by simp [go_sem]
    have fv1 : (w.alloc (Obj.cells #[Value.bool false, Value.slice none 0 0] 55)).frozen? ⟨w.heap.size, 1, none⟩ = false := by simp [go_sem]
    have zv : w.heap.size < (w.alloc (Obj.cells #[Value.bool false, Value.slice none 0 0] 55)).heap.size := by simp
    have bv : Below w.heap.size w (w.alloc (Obj.cells #[Value.bool false, Value.slice none 0 0] 55)) := by go_grown
    generalize w.alloc (Obj.cells #[Value.bool false, Value.slice none 0 0] 55) = v at *
    have BV := Lib.hid bv
    have CV := Lib.hid (And.intro cv0 (And.intro cv1 (And.intro fv0 fv1)))
    clear bv cv0 cv1 fv0 fv1
    go_loopw [0, 3] (fun cur d wr => ∃ (k j : Nat) (m : Int) (o : List Int), k + j = 5 ∧ 0 ≤ m ∧ m ≤ 9223372036854775808 ∧ cur = .int .i64 (-m) ∧ Hid (m < 10000 ^ j) ∧ Hid (o.length = k) ∧ Hid (Digs o) ∧ Hid (dval o + 10000 ^ k * m = N) ∧
      wr.ownsRow v.heap.size 3 1 d k (o.map (Value.int .i64)) ∧ Below v.heap.size v wr) (fun cur _ _ => (-intOf cur).toNat)
    case atStart => exact ⟨0, 5, -n, [], by omega, by omega, by omega, by rw [Int.neg_neg], of_start (by omega), rfl, Digs.nil, by show _ = _; rw [HN.out]; simp [dval], World.ownsRow_nil _ _ _ _, Below.refl _ _⟩
    case round =>
      obtain ⟨k, j, m, o, kj, m0, m1, rfl, mj, ol, od, ov, hown, hbel⟩ := hrel
      have hbs : ∀ o, v.heap.size ≤ (wr.alloc o).heap.size := fun o => by have := hbel.size; simp; omega
      by_cases hm : m = 0
      · have vv : dval o = N := by have := ov.out; rw [hm, Int.mul_zero, Int.add_zero] at this; exact this
        obtain ⟨q, cc, hv, hlen, hr, hn', hf⟩ := own_row hown
        have WH := Lib.hid (whole_to (s := true) (V := N) (X := n) (by have := HN.out; simp; omega) q cc o wr od.out vv hr (by have := ol.out; omega))
        have HB := Lib.hid hbel
        have OL := Lib.hid ol.out
        have HV := Lib.hid hv
        clear vv hlen hr hn' hf hown hbel hbs ol od ov mj
        subst hm
        have hv := HV.out
        subst hv
        clear HV
        go_wp2_with fail
        refine (WH.out).mono ?_
        rintro e w2 ⟨p2, l2, c2, rfl, r1, r2, r3⟩
        have B2 := HB.out.trans (r3.mono HB.out.size)
        have k5 := (B2.cell (p := ⟨w.heap.size, 0, none⟩) zv).trans CV.out.1
        have k6 := (B2.cell (p := ⟨w.heap.size, 1, none⟩) zv).trans CV.out.2.1
        have k9 := Nat.lt_of_lt_of_le zv B2.size
        have FIN := Lib.hid (BigRes.stored (c := c2) (r := w.heap.size) BV.out (Nat.le_refl _) zv (r1.more (m := 5) (by have := OL.out; omega)) (fun a ha => Nat.le_trans HB.out.size (r2 a ha)) B2)
        have k7 := (B2.frozen (p := ⟨w.heap.size, 0, none⟩) zv).trans CV.out.2.2.1
        have k8 := (B2.frozen (p := ⟨w.heap.size, 1, none⟩) zv).trans CV.out.2.2.2
        clear r1 r2 r3 B2 WH HB OL CV BV HN
        generalize decide (n < 0) = sg at *
        go_wp2_with fail
        exact bodyPost_ret (v := .agg #[.bool sg, .slice p2 l2.length c2]) (by simp [results, Tryd.results31, go_sem, k5, k6, k9]) rfl FIN.out
      · rcases j with _ | j
        · exact absurd mj.out (by rw [Int.pow_zero]; omega)
        · have S := Lib.hid (of_step ol.out ov.out)
          have L := Lib.hid (of_less mj.out)
          have hm' : ((-m) == 0) = false := by simpa using hm
          have hm'' : ((-m) != 0) = true := by simpa using hm
          have hm3 : (m == 0) = false := by simpa using hm
          have hm4 : (m != 0) = true := by simpa using hm
          have p : 0 < m := by omega
          have t1 := neg_tmod' m0
          have t2 := neg_tdiv' m0
          have t3 : m.tmod 10000 = m % 10000 := Int.tmod_eq_emod_of_nonneg m0
          have t4 : m.tdiv 10000 = m / 10000 := Int.tdiv_eq_ediv_of_nonneg m0
          have g0 : 0 ≤ m % 10000 := by omega
          have g1 : m % 10000 < 10000 := by omega
          have g2 : 0 ≤ m / 10000 := by omega
          have g3 : m / 10000 ≤ 9223372036854775808 := by omega
          have g4 : m / 10000 < m := by omega
          have OL := Lib.hid (show (o ++ [m % 10000]).length = k + 1 by have := ol.out; simp [this])
          have OD := Lib.hid (od.out.snoc (d := m % 10000) (by omega) (by omega))
          clear hm ol od ov
          generalize m % 10000 = q at *
          generalize m / 10000 = m' at *
          by_cases q0 : q = 0
          · subst q0
            simp only [Int.neg_zero] at t1
            go_wp2_with (first
              | (at_builtin; refine wpList_append_own _ rfl _ _ 22 rfl v.heap.size 3 i0 (.int .i64 0) 1 8 Tryd.underlying22 hi hz0 hz1 hz2 rfl (by decide) _ _ _ rfl (hown.alloc _) ⟨wr.heap.size, 0, none⟩ 1 1 [.int .i64 0] rfl rfl (one_cell _) one_one (by unfold maxLen; omega) (by omega) (hbs _) ?_))
            intro v' w1 hown' hgrow _
            have RR := own_snoc (l := o) _ rfl hbel hown hown' hgrow
            clear hown' hgrow hown hbel hbs hm' hm'' hm3 hm4
            go_wp2
            go_roundw
            case rel => exact ⟨k + 1, j, m', _, by omega, by omega, by omega, rfl, L, OL, OD, S, RR.1, RR.2⟩
            case measure => simp [intOf]; omega
          · have q1 : 0 < q := by omega
            clear q0
            go_wp2_with (first
              | (at_builtin; refine wpList_append_own _ rfl _ _ 22 rfl v.heap.size 3 i0 (.int .i64 0) 1 8 Tryd.underlying22 hi hz0 hz1 hz2 rfl (by decide) _ _ _ rfl (hown.alloc _) ⟨wr.heap.size, 0, none⟩ 1 1 [.int .i64 q] rfl rfl (one_cell _) one_one (by unfold maxLen; omega) (by omega) (hbs _) ?_))
            intro v' w1 hown' hgrow _
            have RR := own_snoc (l := o) _ rfl hbel hown hown' hgrow
            clear hown' hgrow hown hbel hbs hm' hm'' hm3 hm4
            go_wp2
            go_roundw
            case rel => exact ⟨k + 1, j, m', _, by omega, by omega, by omega, rfl, L, OL, OD, S, RR.1, RR.2⟩
            case measure => simp [intOf]; omega
end Go.Proofs.YtlahdfmciaibdaaDoor

/- The reference's rows: gcdD; Within. -/
namespace Go.Proofs.YtlahdfmciaibdaaDoor
open Go.RowKit
set_option linter.unusedVariables false
set_option linter.unusedSimpArgs false

/-- The digits that a slice reads as: for a loop's measure. -/
def rdRow (w : World) : Value → List Int
  | .slice p n _ => (List.range n).map fun i => match p with
    | some a => match w.cell? ⟨a.block, i, none⟩ with
      | some u => intOf u
      | none => 0
    | none => 0
  | _ => []
theorem rdRow_eq {w : World} {p : Option Addr} {l : List Int} (r : RowR w p l) (c : Nat) : rdRow w (.slice p l.length c) = l := by
  unfold rdRow
  refine List.ext_getElem (by simp) fun i h1 h2 => ?_
  obtain ⟨g, rfl, _, e⟩ := r i h2
  simp [e, intOf]

/-- A row that may be an argument's own. -/
def OldRow (x : Int) (n : Nat) (w : World) (e : Ending) (w' : World) : Prop :=
  ∃ t p c, e = .returned (.slice p t.length c) ∧ Can t x ∧ t.length ≤ n ∧ RowR w' p t ∧ Below w.heap.size w w'

theorem dval_drop_le {l : List Int} (h : Digs l) (k : Nat) : dval (l.drop k) ≤ dval l := by
  have e := dval_app (l.take k) (l.drop k)
  rw [List.take_append_drop] at e
  have a := dval_nonneg (h.take k)
  have b := dval_nonneg (h.drop k)
  have c := Int.mul_le_mul_of_nonneg_right (pow_pos' (l.take k).length) b
  omega

/-- A number as an int, if it is within a bound. -/
def wiV (x m : Int) : Int := if (x.natAbs : Int) ≤ m then x else 0
def wiB (x m : Int) : Bool := decide ((x.natAbs : Int) ≤ m)
end Go.Proofs.YtlahdfmciaibdaaDoor

/- The reference's Big: Within. -/
namespace Go.Proofs.YtlahdfmciaibdaaDoor
open Go.RowKit
set_option linter.unusedVariables false
set_option linter.unusedSimpArgs false

theorem cmp_gt {a b : Int} (h : b < a) : 0 < cmpZ a b ∧ cmpZ a b ≤ 1 := by unfold cmpZ; rw [if_neg (by omega), if_pos h]; omega
theorem cmp_le {a b : Int} (h : a ≤ b) : cmpZ a b ≤ 0 ∧ -1 ≤ cmpZ a b := by unfold cmpZ; split; omega; split <;> omega
theorem drop_val {l : List Int} {j : Nat} (h : j < l.length) : dval (l.drop j) = dval (l.drop (j + 1)) * 10000 + l[j] := by
  rw [List.drop_eq_getElem_cons h]; simp only [dval]; omega

theorem fld1 (u : Bool) (q : Option Addr) (n c : Nat) (W : World) : (Instr.field 55 (.agg #[.bool u, .slice q n c]) 1).run Tryd.prog W = .ok (.slice q n c) W := by kernel_rfl

set_option maxRecDepth 100000 in
set_option maxHeartbeats 1000000 in
theorem Within_any {N : Nat} (p : Option Addr) (c : Nat) (l : List Int) (x most : Int) (h0 : 0 ≤ most) (hm : most ≤ 4611686018427387904) (w : World) (A : BigR N w p l x) (hN : N ≤ 90000) :
    Calls Tryd.prog 32 #[.agg #[.bool (decide (x < 0)), .slice p l.length c], .int .i64 most] w fun e w' => e = .returned (.tuple #[.int .i64 (wiV x most), .bool (wiB x most)]) ∧ Below w.heap.size w w' := by
  have OF := Lib.hid (fun W => Of_any most (by omega) (by omega) W)
  have HA := Lib.hid A
  have LN := A.size
  have CM := Lib.hid (fun q t cc W (hq : BigR 5 W q t most) (h : Below w.heap.size w W) => by
    have := cmpD_any p q c cc l t W A.can.digs hq.can.digs A.can.norm hq.can.norm (A.row.below h) hq.row (by omega) (by have := hq.size; omega)
    rwa [A.can.val, hq.can.val] at this)
  have c0 : (w.alloc (Obj.cells #[Value.bool (decide (x < 0)), Value.slice p l.length c] 55)).cell? ⟨w.heap.size, 0, none⟩ = some (.bool (decide (x < 0))) := by simp [go_sem]
  have c1 : (w.alloc (Obj.cells #[Value.bool (decide (x < 0)), Value.slice p l.length c] 55)).cell? ⟨w.heap.size, 1, none⟩ = some (.slice p l.length c) := by simp [go_sem]
  have z : w.heap.size < (w.alloc (Obj.cells #[Value.bool (decide (x < 0)), Value.slice p l.length c] 55)).heap.size := by simp
  have b : Below w.heap.size w (w.alloc (Obj.cells #[Value.bool (decide (x < 0)), Value.slice p l.length c] 55)) := by go_grown
  clear A
  have hfd := fld1
  obtain ⟨n, hn⟩ : ∃ n, n = l.length := ⟨_, rfl⟩
  have HN := Lib.hid hn
  rw [← hn] at CM c0 c1 z b LN ⊢
  clear hn
  generalize hs : decide (x < 0) = s at *
  have HS := Lib.hid hs
  clear hs
  generalize hmn : (most.natAbs : Int) = mn at CM
  have hmn' : mn = most := by omega
  subst hmn'
  clear hmn
  obtain ⟨u, hu⟩ : ∃ u, u = decide (mn < 0) := ⟨_, rfl⟩
  unfold BigRes at OF
  rw [← hu] at OF
  clear hu
  by_cases hle : (x.natAbs : Int) ≤ mn
  · have e1 : wiV x mn = x := if_pos hle
    have e2 : wiB x mn = true := by simpa [wiB] using hle
    rw [e1, e2]
    clear e1 e2
    obtain ⟨z1, z2⟩ := cmp_le hle
    generalize cmpZ (x.natAbs : Int) mn = cz at *
    have HLE := Lib.hid hle
    clear hle
    go_enter Tryd.func32, Tryd.ntmps32
    go_upto_region 1 with fail
    generalize (w.alloc (Obj.cells #[Value.bool s, Value.slice p n c] 55)) = v at *
    have BV := Lib.hid b
    go_region_held3 (fun w' => w'.cell? ⟨w.heap.size, 1, none⟩ = some (.slice p n c))
      (first | exact c1)
      (first
        | (go_at_call 31; refine (OF.out _).mono ?_; rintro e w1 ⟨q, t, cc, rfl, r1, r2, r3⟩; have B1 := Lib.hid (show Below w.heap.size w w1 from (by first | exact BV.out.trans (r3.mono BV.out.size) | exact BV.out.drew.trans (r3.mono BV.out.drew.size))); have R1 := Lib.hid r1; replace c0 := (r3.cell (p := ⟨w.heap.size, 0, none⟩) z).trans c0; replace c1 := (r3.cell (p := ⟨w.heap.size, 1, none⟩) z).trans c1; replace z := Nat.lt_of_lt_of_le z r3.size; clear r1 r2 r3)
        | (go_at_call 69; refine (CM.out q t cc _ (by exact R1.out) (by first | exact B1.out | exact B1.out.drew)).mono ?_; rintro e w2 ⟨rfl, n2, rfl⟩))
    have B2 := Lib.hid (below_drewN B1.out n2)
    have c0' : (w1.drewN n2).cell? ⟨w.heap.size, 0, none⟩ = some (.bool s) := c0
    have c1' : (w1.drewN n2).cell? ⟨w.heap.size, 1, none⟩ = some (.slice p n c) := c1
    have z' : w.heap.size < (w1.drewN n2).heap.size := z
    clear c0 c1 z B1 R1 CM OF b BV
    generalize w1.drewN n2 = W2 at *
    have RW := Lib.hid (HA.out.row.below B2.out)
    go_wp2_with fail
    go_loop [6, 7] (fun nv iv => ∃ k : Nat, k ≤ n ∧ iv = .int .i64 ((k : Int) - 1) ∧ nv = .int .i64 (dval (l.drop k))) (fun _ iv => (intOf iv + 1).toNat)
    case atStart => exact ⟨n, Nat.le_refl _, rfl, by rw [List.drop_of_length_le (by have := HN.out; omega)]; rfl⟩
    case round =>
      obtain ⟨k, hk, rfl, rfl⟩ := hrel
      rcases k with _ | j
      · have e : dval (l.drop 0) = x.natAbs := by rw [List.drop_zero]; exact HA.out.can.val
        rw [e]
        have d0 : 0 ≤ (x.natAbs : Int) := by omega
        have d1 : (x.natAbs : Int) ≤ 4611686018427387904 := by have := HLE.out; omega
        clear e
        cases s
        · have E : (x.natAbs : Int) = x := by have := HS.out; simp at this; omega
          have HE := Lib.hid E
          clear E
          generalize (x.natAbs : Int) = y at *
          go_wp2_with fail
          go_ret2
          exact ⟨by rw [HE.out]; rfl, B2.out⟩
        · have E : -(x.natAbs : Int) = x := by have := HS.out; simp at this; omega
          have HE := Lib.hid E
          clear E
          generalize (x.natAbs : Int) = y at *
          go_wp2_with fail
          go_ret2
          exact ⟨by rw [HE.out]; rfl, B2.out⟩
      · have ja : j < l.length := by have := HN.out; omega
        obtain ⟨ga, rfl, ka, cA⟩ := RW.out j ja
        have K := drop_val ja
        have G := HA.out.can.digs _ (List.getElem_mem ja)
        have U := dval_nonneg (HA.out.can.digs.drop (j + 1))
        have M := dval_drop_le HA.out.can.digs j
        rw [HA.out.can.val] at M
        have M2 : dval (l.drop (j + 1)) * 10000 + l[j] ≤ 4611686018427387904 := by have := HLE.out; omega
        have e1 : (((j + 1 : Nat) : Int) - 1) = (j : Int) := by omega
        rw [e1]
        have j0 : (0 : Int) ≤ (j : Int) := by omega
        have jx : (j : Int) < (n : Int) := by omega
        have HK := Lib.hid K
        clear K M e1
        generalize l[j] = u at *
        generalize dval (l.drop (j + 1)) = d at *
        go_wp2_with fail
        go_round
        case rel => exact ⟨j, by omega, rfl, by rw [HK.out]⟩
        case measure => simp [intOf]
  · have e1 : wiV x mn = 0 := if_neg hle
    have e2 : wiB x mn = false := by simpa [wiB] using hle
    rw [e1, e2]
    clear e1 e2
    obtain ⟨z1, z2⟩ := cmp_gt (show mn < (x.natAbs : Int) by omega)
    generalize cmpZ (x.natAbs : Int) mn = cz at *
    clear hle
    go_enter Tryd.func32, Tryd.ntmps32
    go_upto_region 1 with fail
    generalize (w.alloc (Obj.cells #[Value.bool s, Value.slice p n c] 55)) = v at *
    have BV := Lib.hid b
    go_region_held3 (fun w' => w'.cell? ⟨w.heap.size, 1, none⟩ = some (.slice p n c))
      (first | exact c1)
      (first
        | (go_at_call 31; refine (OF.out _).mono ?_; rintro e w1 ⟨q, t, cc, rfl, r1, r2, r3⟩; have B1 := Lib.hid (show Below w.heap.size w w1 from (by first | exact BV.out.trans (r3.mono BV.out.size) | exact BV.out.drew.trans (r3.mono BV.out.drew.size))); have R1 := Lib.hid r1; replace c0 := (r3.cell (p := ⟨w.heap.size, 0, none⟩) z).trans c0; replace c1 := (r3.cell (p := ⟨w.heap.size, 1, none⟩) z).trans c1; replace z := Nat.lt_of_lt_of_le z r3.size; clear r1 r2 r3)
        | (go_at_call 69; refine (CM.out q t cc _ (by exact R1.out) (by first | exact B1.out | exact B1.out.drew)).mono ?_; rintro e w2 ⟨rfl, n2, rfl⟩))
    go_wp2_with fail
    go_ret2
    exact ⟨rfl, below_drewN B1.out _⟩
end Go.Proofs.YtlahdfmciaibdaaDoor

/- The reference's Lowest. -/
namespace Go.Proofs.YtlahdfmciaibdaaDoor
open Go.RowKit
set_option linter.unusedVariables false
set_option linter.unusedSimpArgs false

/-- Two boxed numbers and a fraction's box. -/
structure BoxF (w v : World) (s t : Bool) (P Q : Value) : Prop where
  a0 : v.cell? ⟨w.heap.size, 0, none⟩ = some (.bool s)
  a1 : v.cell? ⟨w.heap.size, 1, none⟩ = some P
  b0 : v.cell? ⟨w.heap.size + 1, 0, none⟩ = some (.bool t)
  b1 : v.cell? ⟨w.heap.size + 1, 1, none⟩ = some Q
  c0 : v.cell? ⟨w.heap.size + 1 + 1, 0, none⟩ = some (.int .i64 0)
  c1 : v.cell? ⟨w.heap.size + 1 + 1, 1, none⟩ = some (.int .i64 0)
  f0 : v.frozen? ⟨w.heap.size + 1 + 1, 0, none⟩ = false
  f1 : v.frozen? ⟨w.heap.size + 1 + 1, 1, none⟩ = false
  sz : w.heap.size + 1 + 1 < v.heap.size
  bel : Below w.heap.size w v
theorem BoxF.below {w v v' : World} {s t : Bool} {P Q : Value} (h : BoxF w v s t P Q) (hb : Below v.heap.size v v') : BoxF w v' s t P Q := by
  obtain ⟨h1, h2, h3, h4, h5, h6, h7, h8, h9, h10⟩ := h
  have z0 : w.heap.size < v.heap.size := by omega
  have z1 : w.heap.size + 1 < v.heap.size := by omega
  exact ⟨(hb.cell (p := ⟨w.heap.size, 0, none⟩) z0).trans h1, (hb.cell (p := ⟨w.heap.size, 1, none⟩) z0).trans h2, (hb.cell (p := ⟨w.heap.size + 1, 0, none⟩) z1).trans h3, (hb.cell (p := ⟨w.heap.size + 1, 1, none⟩) z1).trans h4,
    (hb.cell (p := ⟨w.heap.size + 1 + 1, 0, none⟩) h9).trans h5, (hb.cell (p := ⟨w.heap.size + 1 + 1, 1, none⟩) h9).trans h6, (hb.frozen (p := ⟨w.heap.size + 1 + 1, 0, none⟩) h9).trans h7, (hb.frozen (p := ⟨w.heap.size + 1 + 1, 1, none⟩) h9).trans h8, Nat.lt_of_lt_of_le h9 hb.size, h10.trans (hb.mono h10.size)⟩
theorem BoxF.new (w : World) (s t : Bool) (P Q : Value) : BoxF w (((w.alloc (Obj.cells #[Value.bool s, P] 55)).alloc (Obj.cells #[Value.bool t, Q] 55)).alloc (Obj.cells #[Value.int .i64 0, Value.int .i64 0] 33)) s t P Q := by
  refine ⟨?_, ?_, ?_, ?_, ?_, ?_, ?_, ?_, ?_, by go_grown⟩ <;> simp [go_sem]
theorem BoxF.drew {w v : World} {s t : Bool} {P Q : Value} (h : BoxF w v s t P Q) : BoxF w v.drew s t P Q := ⟨h.a0, h.a1, h.b0, h.b1, h.c0, h.c1, h.f0, h.f1, h.sz, h.bel.drew⟩

theorem sgn_abs (X : Int) : (bif decide (X < 0) then -(X.natAbs : Int) else (X.natAbs : Int)) = X := by
  by_cases h : X < 0 <;> simp [h] <;> omega

theorem low_end {s : Bool} {X Y P Q : Int} (hX : (bif s then -(X.natAbs : Int) else (X.natAbs : Int)) = X) (hY : 0 < Y) (hP : P = bif s then -((X.natAbs : Int) / (Int.gcd (X.natAbs : Int) Y.natAbs : Int)) else (X.natAbs : Int) / (Int.gcd (X.natAbs : Int) Y.natAbs : Int)) (hQ : Q = (Y.natAbs : Int) / (Int.gcd (X.natAbs : Int) Y.natAbs : Int)) :
    ((P.natAbs : Int) ≤ 1099511627776 → (Q.natAbs : Int) ≤ 1048576 → IsFrac X Y P Q 0) ∧ ((1099511627776 < (P.natAbs : Int) ∨ 1048576 < (Q.natAbs : Int)) → IsFrac X Y 0 0 4) := by
  have Q0 := Int.ediv_nonneg (show 0 ≤ (X.natAbs : Int) by omega) (show 0 ≤ (Int.gcd (X.natAbs : Int) Y.natAbs : Int) by omega)
  have Q1 := Int.ediv_nonneg (show 0 ≤ (Y.natAbs : Int) by omega) (show 0 ≤ (Int.gcd (X.natAbs : Int) Y.natAbs : Int) by omega)
  have LF := low_frac s X.natAbs Y.natAbs (by omega) (by omega)
  rw [hX, show (Y.natAbs : Int) = Y from by omega] at LF
  rw [show (Y.natAbs : Int) = Y from by omega] at hP hQ Q0 Q1
  have PA : (P.natAbs : Int) = (X.natAbs : Int) / (Int.gcd (X.natAbs : Int) Y : Int) := by rw [hP]; exact whole_abs s Q0
  have QA : (Q.natAbs : Int) = Y / (Int.gcd (X.natAbs : Int) Y : Int) := by rw [hQ]; omega
  unfold lowV lowD lowE at LF
  rw [← PA, ← QA] at LF
  constructor
  · intro a b
    rw [if_pos ⟨a, b⟩, if_pos ⟨a, b⟩, if_pos ⟨a, b⟩] at LF
    rw [PA, ← hP, QA, ← hQ] at LF
    exact LF
  · intro a
    have na : ¬ ((P.natAbs : Int) ≤ 1099511627776 ∧ (Q.natAbs : Int) ≤ 1048576) := by omega
    rw [if_neg na, if_neg na, if_neg na] at LF
    exact LF

/-- Both numbers with their signs turned. -/
def Turned (N : Nat) (w : World) (X Y : Int) (wx : World) : Prop :=
  ∃ p l c q m d, BoxF w wx (decide (-X < 0)) (decide (-Y < 0)) (.slice p (List.length l) c) (.slice q (List.length m) d) ∧ BigR N wx p l (-X) ∧ BigR N wx q m (-Y)
theorem turned_of {N : Nat} {w v wx : World} {X Y : Int} {s t : Bool} {P Q : Value} {p q : Option Addr} {l m : List Int} {c d : Nat} (K : BoxF w v s t P Q) (hb : Below v.heap.size v wx) (A : BigR N wx p l (-X)) (B : BigR N wx q m (-Y))
    (fa : ∀ a, p = some a → v.heap.size ≤ a.block) (fb : ∀ a, q = some a → v.heap.size ≤ a.block) :
    Turned N w X Y ((((wx.setCell ⟨w.heap.size, 0, none⟩ (.bool (decide (-X < 0)))).setCell ⟨w.heap.size, 1, none⟩ (.slice p l.length c)).setCell ⟨w.heap.size + 1, 0, none⟩ (.bool (decide (-Y < 0)))).setCell ⟨w.heap.size + 1, 1, none⟩ (.slice q m.length d)) := by
  have K' := K.below hb
  have sz := K.sz
  have f0 : ∀ a, p = some a → a.block ≠ w.heap.size := fun a h => by have := fa a h; omega
  have f1 : ∀ a, p = some a → a.block ≠ w.heap.size + 1 := fun a h => by have := fa a h; omega
  have e0 : ∀ a, q = some a → a.block ≠ w.heap.size := fun a h => by have := fb a h; omega
  have e1 : ∀ a, q = some a → a.block ≠ w.heap.size + 1 := fun a h => by have := fb a h; omega
  have sz' := K'.sz
  refine ⟨p, l, c, q, m, d, ?_, ⟨A.can, A.size, ?_⟩, ⟨B.can, B.size, ?_⟩⟩
  · generalize decide (-X < 0) = s'
    generalize decide (-Y < 0) = t'
    obtain ⟨k1, k2, k3, k4, k5, k6, k7, k8, k9, kb⟩ := K'
    have z0 : w.heap.size < wx.heap.size := by omega
    have z1 : w.heap.size + 1 < wx.heap.size := by omega
    refine ⟨?_, ?_, ?_, ?_, ?_, ?_, ?_, ?_, ?_, (((kb.setCell (Nat.le_refl _) _).setCell (Nat.le_refl _) _).setCell (Nat.le_succ _) _).setCell (Nat.le_succ _) _⟩
    all_goals simp [go_sem, k1, k2, k3, k4, k5, k6, k7, k8, k9, z0, z1]
  · exact (((A.row.setCell (q := ⟨w.heap.size, 0, none⟩) f0 _).setCell (q := ⟨w.heap.size, 1, none⟩) f0 _).setCell (q := ⟨w.heap.size + 1, 0, none⟩) f1 _).setCell (q := ⟨w.heap.size + 1, 1, none⟩) f1 _
  · exact (((B.row.setCell (q := ⟨w.heap.size, 0, none⟩) e0 _).setCell (q := ⟨w.heap.size, 1, none⟩) e0 _).setCell (q := ⟨w.heap.size + 1, 0, none⟩) e1 _).setCell (q := ⟨w.heap.size + 1, 1, none⟩) e1 _
end Go.Proofs.YtlahdfmciaibdaaDoor

/- The reference's Lowest of a denominator below 0; Make. -/
namespace Go.Proofs.YtlahdfmciaibdaaDoor
open Go.RowKit
set_option linter.unusedVariables false
set_option linter.unusedSimpArgs false

/-- The two numbers' boxes may be written. -/
def Free4 (w v : World) : Prop := v.frozen? ⟨w.heap.size, 0, none⟩ = false ∧ v.frozen? ⟨w.heap.size, 1, none⟩ = false ∧ v.frozen? ⟨w.heap.size + 1, 0, none⟩ = false ∧ v.frozen? ⟨w.heap.size + 1, 1, none⟩ = false
theorem Free4.below {w v v' : World} (h : Free4 w v) (hz : w.heap.size + 1 + 1 < v.heap.size) (hb : Below v.heap.size v v') : Free4 w v' := by
  have z0 : w.heap.size < v.heap.size := by omega
  have z1 : w.heap.size + 1 < v.heap.size := by omega
  exact ⟨(hb.frozen (p := ⟨w.heap.size, 0, none⟩) z0).trans h.1, (hb.frozen (p := ⟨w.heap.size, 1, none⟩) z0).trans h.2.1, (hb.frozen (p := ⟨w.heap.size + 1, 0, none⟩) z1).trans h.2.2.1, (hb.frozen (p := ⟨w.heap.size + 1, 1, none⟩) z1).trans h.2.2.2⟩
theorem Free4.new (w : World) (s t : Bool) (P Q : Value) : Free4 w (((w.alloc (Obj.cells #[Value.bool s, P] 55)).alloc (Obj.cells #[Value.bool t, Q] 55)).alloc (Obj.cells #[Value.int .i64 0, Value.int .i64 0] 33)) := by
  refine ⟨?_, ?_, ?_, ?_⟩ <;> simp [go_sem]

end Go.Proofs.YtlahdfmciaibdaaDoor

/- Rounding of any product of two 64-bit numbers. -/
namespace Go.Proofs.YtlahdfmciaibdaaDoor
open Go.RowKit
set_option linter.unusedVariables false
set_option linter.unusedSimpArgs false

end Go.Proofs.YtlahdfmciaibdaaDoor

/- Scale and MulDiv of package num: what each call comes to. -/
namespace Go.Proofs.YtlahdfmciaibdaaDoor
open Go.RowKit
set_option linter.unusedVariables false
set_option linter.unusedSimpArgs false

end Go.Proofs.YtlahdfmciaibdaaDoor

/- The reference's small functions: Mode, amount, Valid. -/
namespace Go.Proofs.YtlahdfmciaibdaaDoor
open Go.RowKit
set_option linter.unusedVariables false
set_option linter.unusedSimpArgs false

end Go.Proofs.YtlahdfmciaibdaaDoor

/- The reference's Make, Opposite. -/
namespace Go.Proofs.YtlahdfmciaibdaaDoor
open Go.RowKit
set_option linter.unusedVariables false
set_option linter.unusedSimpArgs false

theorem ext0 (a b : Value) (W : World) : (Instr.extract (.tuple #[a, b]) 0).run Tryd.prog W = .ok a W := rfl
theorem BigR.drew {n : Nat} {w : World} {p : Option Addr} {l : List Int} {x : Int} (r : BigR n w p l x) : BigR n w.drew p l x := ⟨r.can, r.size, r.row⟩
theorem BigR.drewN {n : Nat} {w : World} {p : Option Addr} {l : List Int} {x : Int} (r : BigR n w p l x) (k : Nat) : BigR n (w.drewN k) p l x := ⟨r.can, r.size, r.row⟩

end Go.Proofs.YtlahdfmciaibdaaDoor

/- The reference's Big once more, its signs behind letters. -/
namespace Go.Proofs.YtlahdfmciaibdaaDoor
open Go.RowKit
set_option linter.unusedVariables false
set_option linter.unusedSimpArgs false

/-- A call's result is the whole number x, whose sign is s. -/
def BigS (n : Nat) (x : Int) (s : Bool) (w : World) (e : Ending) (w' : World) : Prop :=
  ∃ p l c, e = .returned (.agg #[.bool s, .slice p (List.length l) c]) ∧ BigR n w' p l x ∧ (∀ a, p = some a → w.heap.size ≤ a.block) ∧ Below w.heap.size w w'
theorem BigRes.s {n : Nat} {x : Int} {s : Bool} (hs : s = decide (x < 0)) {w w' : World} {e : Ending} (h : BigRes n x w e w') : BigS n x s w e w' := by subst hs; exact h

theorem of_s (x : Int) (s : Bool) (hs : s = decide (x < 0)) (h1 : -9223372036854775808 ≤ x) (h2 : x ≤ 9223372036854775807) (w : World) :
    Calls Tryd.prog 31 #[.int .i64 x] w (BigS 5 x s w) := (Of_any x h1 h2 w).mono fun _ _ h => h.s hs
theorem times_s {n m : Nat} (x y : Int) (s t u : Bool) (hs : s = decide (x < 0)) (ht : t = decide (y < 0)) (hu : u = decide (x * y < 0)) (pa pb : Option Addr) (ca cb : Nat) (a b : List Int) (w : World) (A : BigR n w pa a x) (B : BigR m w pb b y) (hn : n ≤ 90000) (hm : m ≤ 90000) :
    Calls Tryd.prog 30 #[.agg #[.bool s, .slice pa a.length ca], .agg #[.bool t, .slice pb b.length cb]] w (BigS (n + m) (x * y) u w) := by
  subst hs ht
  exact (Times_any pa pb ca cb a b x y w A B hn hm).mono fun _ _ h => h.s hu
theorem plus_s {k : Nat} (x y : Int) (s t u : Bool) (hs : s = decide (x < 0)) (ht : t = decide (y < 0)) (hu : u = decide (x + y < 0)) (pa pb : Option Addr) (ca cb : Nat) (a b : List Int) (w : World) (A : BigR k w pa a x) (B : BigR k w pb b y) (hk : k ≤ 90000) :
    Calls Tryd.prog 35 #[.agg #[.bool s, .slice pa a.length ca], .agg #[.bool t, .slice pb b.length cb]] w (BigS (k + 1) (x + y) u w) := by
  subst hs ht
  exact (Plus_any pa pb ca cb a b x y w A B hk).mono fun _ _ h => h.s hu
theorem minus_s {k : Nat} (x y : Int) (s t u : Bool) (hs : s = decide (x < 0)) (ht : t = decide (y < 0)) (hu : u = decide (x - y < 0)) (pa pb : Option Addr) (ca cb : Nat) (a b : List Int) (w : World) (A : BigR k w pa a x) (B : BigR k w pb b y) (hk : k ≤ 90000) :
    Calls Tryd.prog 36 #[.agg #[.bool s, .slice pa a.length ca], .agg #[.bool t, .slice pb b.length cb]] w (BigS (k + 1) (x - y) u w) := by
  subst hs ht
  exact (Minus_any pa pb ca cb a b x y w A B hk).mono fun _ _ h => h.s hu
theorem compare_s {n m : Nat} (x y : Int) (s t : Bool) (hs : s = decide (x < 0)) (ht : t = decide (y < 0)) (pa pb : Option Addr) (ca cb : Nat) (a b : List Int) (w : World) (A : BigR n w pa a x) (B : BigR m w pb b y) (hn : n ≤ 90000) (hm : m ≤ 90000) :
    Calls Tryd.prog 73 #[.agg #[.bool s, .slice pa a.length ca], .agg #[.bool t, .slice pb b.length cb]] w fun e w' => e = .returned (.int .i64 (cmpZ x y)) ∧ Below w.heap.size w w' := by
  subst hs ht
  exact Compare_any pa pb ca cb a b x y w A B (by omega) (by omega)
/-- Two boxed fractions. -/
structure Fr2 (w v : World) (an ad bn bd : Int) : Prop where
  a0 : v.cell? ⟨w.heap.size, 0, none⟩ = some (.int .i64 an)
  a1 : v.cell? ⟨w.heap.size, 1, none⟩ = some (.int .i64 ad)
  b0 : v.cell? ⟨w.heap.size + 1, 0, none⟩ = some (.int .i64 bn)
  b1 : v.cell? ⟨w.heap.size + 1, 1, none⟩ = some (.int .i64 bd)
  sz : w.heap.size + 1 < v.heap.size
  bel : Below w.heap.size w v
theorem Fr2.below {w v v' : World} {an ad bn bd : Int} (h : Fr2 w v an ad bn bd) (hb : Below v.heap.size v v') : Fr2 w v' an ad bn bd := by
  obtain ⟨h1, h2, h3, h4, h5, h6⟩ := h
  have z0 : w.heap.size < v.heap.size := by omega
  exact ⟨(hb.cell (p := ⟨w.heap.size, 0, none⟩) z0).trans h1, (hb.cell (p := ⟨w.heap.size, 1, none⟩) z0).trans h2, (hb.cell (p := ⟨w.heap.size + 1, 0, none⟩) h5).trans h3, (hb.cell (p := ⟨w.heap.size + 1, 1, none⟩) h5).trans h4, Nat.lt_of_lt_of_le h5 hb.size, h6.trans (hb.mono h6.size)⟩
theorem Fr2.new (w : World) (an ad bn bd : Int) : Fr2 w ((w.alloc (Obj.cells #[Value.int .i64 an, Value.int .i64 ad] 33)).alloc (Obj.cells #[Value.int .i64 bn, Value.int .i64 bd] 33)) an ad bn bd := by
  refine ⟨?_, ?_, ?_, ?_, ?_, by go_grown⟩ <;> simp [go_sem]
end Go.Proofs.YtlahdfmciaibdaaDoor
