/- Several texts in one: R13 B1 R14 R15 B2 B3 M1 B4 R16 R17 M3 M4. -/
import Derived.Test.YtlfffobfcledcaaCG1
import Derived.Test.YtlfffobfcledcaaShelf
import Derived.Deep.RegionWith
import Derived.Deep.RegionHeld3
import Derived.Laws.Bits64b
import Derived.Laws.BitsLemmas
import Derived.Lib.BitFns
import Derived.Lib.ItoaNum

/- The reference's Big: Minus, Of. -/
namespace Go.Proofs.Ytlfffobfcledcaa
open Go.RowKit
set_option linter.unusedVariables false
set_option linter.unusedSimpArgs false

set_option maxRecDepth 100000 in
set_option maxHeartbeats 1000000 in
theorem Minus_any {k : Nat} (pa pb : Option Addr) (ca cb : Nat) (a b : List Int) (x y : Int) (w : World) (A : BigR k w pa a x) (B : BigR k w pb b y) (hk : k ≤ 90000) :
    Calls Try.prog 51 #[.agg #[.bool (decide (x < 0)), .slice pa a.length ca], .agg #[.bool (decide (y < 0)), .slice pb b.length cb]] w (BigRes (k + 1) (x - y) w) := by
  have K := Box3.new w (decide (x < 0)) (decide (y < 0)) (.slice pa a.length ca) (.slice pb b.length cb)
  have G := Lib.hid (fun W (h : Below w.heap.size w W) => Neg_any pb cb b y W (B.below h) (by omega))
  have PL := Lib.hid (fun p c l W (hB : BigR k W p l (-y)) (h : Below w.heap.size w W) => by
    have := Plus_any pa p ca c a l x (-y) W (A.below h) hB hk
    rw [show x + -y = x - y from by omega] at this
    exact this)
  clear A B
  generalize decide (x < 0) = s at *
  generalize decide (y < 0) = t at *
  obtain ⟨u, hu⟩ : ∃ u, u = decide (-y < 0) := ⟨_, rfl⟩
  have G' := Lib.hid (fun W (h : Below w.heap.size w W) => show Calls Try.prog 67 #[.agg #[.bool t, .slice pb b.length cb]] W (fun e w' => ∃ p l c, e = .returned (.agg #[.bool u, .slice p l.length c]) ∧ BigR k w' p l (-y) ∧ (∀ a, p = some a → W.heap.size ≤ a.block) ∧ Below W.heap.size W w') by rw [hu]; exact G.out W h)
  rw [← hu] at PL
  clear G hu
  generalize x - y = X at *
  go_enter Try.func51, Try.ntmps51
  go_wp2_with fail
  generalize (((w.alloc (Obj.cells #[Value.bool s, Value.slice pa a.length ca] 76)).alloc (Obj.cells #[Value.bool t, Value.slice pb b.length cb] 76)).alloc (Obj.cells #[Value.bool false, Value.slice none 0 0] 76)) = v at *
  have HK := Lib.hid K
  obtain ⟨k1, k2, k3, k4, k5, k6, k7, k8, k9, kb⟩ := K
  go_region_held3 (fun w' => w'.cell? ⟨w.heap.size, 0, none⟩ = some (.bool s) ∧ w'.cell? ⟨w.heap.size, 1, none⟩ = some (.slice pa a.length ca) ∧ w'.cell? ⟨w.heap.size + 1, 0, none⟩ = some (.bool t) ∧ w'.cell? ⟨w.heap.size + 1, 1, none⟩ = some (.slice pb b.length cb))
    (first | exact ⟨k1, k2, k3, k4⟩ | (refine ⟨?_, ?_, ?_, ?_⟩ <;> simp [go_sem, k1, k2, k3, k4]; done))
    (first
      | (go_at_call 67; refine (G'.out _ (by first | exact kb | exact kb.drew)).mono ?_; rintro e w1 ⟨p1, l1, c1, rfl, d1, d2, d6⟩; have K1 := Lib.hid (show Box3 w w1 s t _ _ from (by first | exact HK.out.below d6 | exact HK.out.drew.below d6)); clear k1 k2 k3 k4 k5 k6 k7 k8 k9 kb; obtain ⟨k1, k2, k3, k4, k5, k6, k7, k8, k9, kb⟩ := K1.out; have D1 := Lib.hid d1; clear d1 d2 d6)
      | (go_at_call 78; refine (PL.out p1 c1 l1 _ (by exact D1.out) (by first | exact kb | exact kb.drew)).mono ?_; rintro e w2 ⟨p2, l2, c2, rfl, r1, r2, r3⟩; have K2 := Lib.hid (show Box3 w w2 s t _ _ from (by first | exact K1.out.below r3 | exact K1.out.drew.below r3)); clear k1 k2 k3 k4 k5 k6 k7 k8 k9 kb; obtain ⟨k1, k2, k3, k4, k5, k6, k7, k8, k9, kb⟩ := K2.out; have R1 := Lib.hid r1; have R2 := Lib.hid r2; have R3 := Lib.hid r3; clear r1 r2 r3))
  have FIN := Lib.hid (BigRes.stored (c := c2) (r := w.heap.size + 1 + 1) K1.out.bel (by omega) K1.out.sz R1.out R2.out R3.out)
  clear PL G' HK K1 K2 D1 R1 R2 R3
  generalize decide (X < 0) = sg at *
  go_wp2_with fail
  exact bodyPost_ret (v := .agg #[.bool sg, .slice p2 l2.length c2]) (by simp [results, Try.results51, go_sem, k5, k6, k9]) rfl FIN.out

theorem of_step {o : List Int} {k : Nat} {m N : Int} (hl : o.length = k) (h : dval o + 10000 ^ k * m = N) : dval (o ++ [m % 10000]) + 10000 ^ (k + 1) * (m / 10000) = N := by
  rw [dval_snoc, hl, ← h, Int.pow_succ]
  rw [carry_step (P := 10000 ^ k) (u := m) (m := m % 10000) (z := m / 10000) (by omega)]
  omega
theorem of_less {j : Nat} {m : Int} (h : m < 10000 ^ (j + 1)) : m / 10000 < 10000 ^ j := by
  rw [Int.pow_succ] at h
  omega
theorem of_start {m : Int} (h : m ≤ 9223372036854775808) : m < 10000 ^ 5 := by
  have : (10000 : Int) ^ 5 = 100000000000000000000 := by decide
  omega
theorem neg_tmod' {m : Int} (h : 0 ≤ m) : (-m).tmod 10000 = -(m % 10000) := by rw [Int.neg_tmod, Int.tmod_eq_emod_of_nonneg h]
theorem neg_tdiv' {m : Int} (h : 0 ≤ m) : (-m).tdiv 10000 = -(m / 10000) := by rw [Int.neg_tdiv, Int.tdiv_eq_ediv_of_nonneg h]

set_option maxRecDepth 100000 in
set_option maxHeartbeats 1000000 in
theorem Of_any (n : Int) (h1 : -9223372036854775808 ≤ n) (h2 : n ≤ 9223372036854775807) (w : World) :
    Calls Try.prog 41 #[.int .i64 n] w (BigRes 5 n w) := by
  obtain ⟨i0, hi, hz0, hz1, hz2⟩ := info_parts intInfo
  by_cases hn : 0 ≤ n
  · have n0 : ¬ n < 0 := by omega
    obtain ⟨N, hN⟩ : ∃ N, N = n := ⟨_, rfl⟩
    have HN := Lib.hid hN
    clear hN
    go_enter Try.func41, Try.ntmps41
    go_wp2_with fail
    have cv0 : (w.alloc (Obj.cells #[Value.bool false, Value.slice none 0 0] 76)).cell? ⟨w.heap.size, 0, none⟩ = some (.bool false) := by simp [go_sem]
    have cv1 : (w.alloc (Obj.cells #[Value.bool false, Value.slice none 0 0] 76)).cell? ⟨w.heap.size, 1, none⟩ = some (.slice none 0 0) := by simp [go_sem]
    have fv0 : (w.alloc (Obj.cells #[Value.bool false, Value.slice none 0 0] 76)).frozen? ⟨w.heap.size, 0, none⟩ = false := by simp [go_sem]
    have fv1 : (w.alloc (Obj.cells #[Value.bool false, Value.slice none 0 0] 76)).frozen? ⟨w.heap.size, 1, none⟩ = false := by simp [go_sem]
    have zv : w.heap.size < (w.alloc (Obj.cells #[Value.bool false, Value.slice none 0 0] 76)).heap.size := by simp
    have bv : Below w.heap.size w (w.alloc (Obj.cells #[Value.bool false, Value.slice none 0 0] 76)) := by go_grown
    generalize w.alloc (Obj.cells #[Value.bool false, Value.slice none 0 0] 76) = v at *
    have BV := Lib.hid bv
    have CV := Lib.hid (And.intro cv0 (And.intro cv1 (And.intro fv0 fv1)))
    clear bv cv0 cv1 fv0 fv1
    go_loopw [0, 3] (fun cur d wr => ∃ (k j : Nat) (m : Int) (o : List Int), k + j = 5 ∧ 0 ≤ m ∧ m ≤ 9223372036854775807 ∧ cur = .int .i64 m ∧ Hid (m < 10000 ^ j) ∧ Hid (o.length = k) ∧ Hid (Digs o) ∧ Hid (dval o + 10000 ^ k * m = N) ∧
      wr.ownsRow v.heap.size 3 1 d k (o.map (Value.int .i64)) ∧ Below v.heap.size v wr) (fun cur _ _ => (intOf cur).toNat)
    case atStart => exact ⟨0, 5, n, [], by omega, hn, h2, rfl, of_start (by omega), rfl, Digs.nil, by show _ = _; rw [HN.out]; simp [dval], World.ownsRow_nil _ _ _ _, Below.refl _ _⟩
    case round =>
      obtain ⟨k, j, m, o, kj, m0, m1, rfl, mj, ol, od, ov, hown, hbel⟩ := hrel
      have hbs : ∀ o, v.heap.size ≤ (wr.alloc o).heap.size := fun o => by have := hbel.size; simp; omega
      by_cases hm : m = 0
      · have vv : dval o = N := by have := ov.out; rw [hm, Int.mul_zero, Int.add_zero] at this; exact this
        obtain ⟨q, cc, hv, hlen, hr, hn', hf⟩ := own_row hown
        have WH := Lib.hid (whole_to (s := false) (V := N) (X := n) (by simpa using HN.out) q cc o wr od.out vv hr (by have := ol.out; omega))
        have HB := Lib.hid hbel
        have OL := Lib.hid ol.out
        have HV := Lib.hid hv
        clear vv hlen hr hn' hf hown hbel hbs ol od ov mj
        subst hm
        have hv := HV.out
        subst hv
        clear HV
        go_wp2_with fail
        refine (WH.out).mono ?_
        rintro e w2 ⟨p2, l2, c2, rfl, r1, r2, r3⟩
        have B2 := HB.out.trans (r3.mono HB.out.size)
        have k5 := (B2.cell (p := ⟨w.heap.size, 0, none⟩) zv).trans CV.out.1
        have k6 := (B2.cell (p := ⟨w.heap.size, 1, none⟩) zv).trans CV.out.2.1
        have k9 := Nat.lt_of_lt_of_le zv B2.size
        have FIN := Lib.hid (BigRes.stored (c := c2) (r := w.heap.size) BV.out (Nat.le_refl _) zv (r1.more (m := 5) (by have := OL.out; omega)) (fun a ha => Nat.le_trans HB.out.size (r2 a ha)) B2)
        have k7 := (B2.frozen (p := ⟨w.heap.size, 0, none⟩) zv).trans CV.out.2.2.1
        have k8 := (B2.frozen (p := ⟨w.heap.size, 1, none⟩) zv).trans CV.out.2.2.2
        clear r1 r2 r3 B2 WH HB OL CV BV HN
        generalize decide (n < 0) = sg at *
        go_wp2_with fail
        exact bodyPost_ret (v := .agg #[.bool sg, .slice p2 l2.length c2]) (by simp [results, Try.results41, go_sem, k5, k6, k9]) rfl FIN.out
      · rcases j with _ | j
        · exact absurd mj.out (by rw [Int.pow_zero]; omega)
        · have S := Lib.hid (of_step ol.out ov.out)
          have L := Lib.hid (of_less mj.out)
          have hm' : (m == 0) = false := by simpa using hm
          have hm'' : (m != 0) = true := by simpa using hm
          have p : 0 < m := by omega
          clear hm
          go_wp2_with (first
            | (at_builtin; refine wpList_append_own _ rfl _ _ 26 rfl v.heap.size 3 i0 (.int .i64 0) 1 8 Try.underlying26 hi hz0 hz1 hz2 rfl (by decide) _ _ _ rfl (hown.alloc _) ⟨wr.heap.size, 0, none⟩ 1 1 [.int .i64 (m % 10000)] rfl rfl (one_cell _) one_one (by unfold maxLen; omega) (by omega) (hbs _) ?_))
          intro v' w1 hown' hgrow _
          have RR := own_snoc (l := o) _ rfl hbel hown hown' hgrow
          have OL := Lib.hid (show (o ++ [m % 10000]).length = k + 1 by have := ol.out; simp [this])
          have OD := Lib.hid (od.out.snoc (d := m % 10000) (by omega) (by omega))
          clear hown' hgrow hown hbel hbs ol od ov hm' hm''
          go_wp2
          go_roundw
          case rel => exact ⟨k + 1, j, m / 10000, _, by omega, by omega, by omega, rfl, L, OL, OD, S, RR.1, RR.2⟩
          case measure => simp [intOf]; omega
  · have n0 : n < 0 := by omega
    obtain ⟨N, hN⟩ : ∃ N, N = -n := ⟨_, rfl⟩
    have HN := Lib.hid hN
    clear hN
    go_enter Try.func41, Try.ntmps41
    go_wp2_with fail
    have cv0 : (w.alloc (Obj.cells #[Value.bool false, Value.slice none 0 0] 76)).cell? ⟨w.heap.size, 0, none⟩ = some (.bool false) := by simp [go_sem]
    have cv1 : (w.alloc (Obj.cells #[Value.bool false, Value.slice none 0 0] 76)).cell? ⟨w.heap.size, 1, none⟩ = some (.slice none 0 0) := by simp [go_sem]
    have fv0 : (w.alloc (Obj.cells #[Value.bool false, Value.slice none 0 0] 76)).frozen? ⟨w.heap.size, 0, none⟩ = false := by simp [go_sem]
    have fv1 : (w.alloc (Obj.cells #[Value.bool false, Value.slice none 0 0] 76)).frozen? ⟨w.heap.size, 1, none⟩ = false := by simp [go_sem]
    have zv : w.heap.size < (w.alloc (Obj.cells #[Value.bool false, Value.slice none 0 0] 76)).heap.size := by simp
    have bv : Below w.heap.size w (w.alloc (Obj.cells #[Value.bool false, Value.slice none 0 0] 76)) := by go_grown
    generalize w.alloc (Obj.cells #[Value.bool false, Value.slice none 0 0] 76) = v at *
    have BV := Lib.hid bv
    have CV := Lib.hid (And.intro cv0 (And.intro cv1 (And.intro fv0 fv1)))
    clear bv cv0 cv1 fv0 fv1
    go_loopw [0, 3] (fun cur d wr => ∃ (k j : Nat) (m : Int) (o : List Int), k + j = 5 ∧ 0 ≤ m ∧ m ≤ 9223372036854775808 ∧ cur = .int .i64 (-m) ∧ Hid (m < 10000 ^ j) ∧ Hid (o.length = k) ∧ Hid (Digs o) ∧ Hid (dval o + 10000 ^ k * m = N) ∧
      wr.ownsRow v.heap.size 3 1 d k (o.map (Value.int .i64)) ∧ Below v.heap.size v wr) (fun cur _ _ => (-intOf cur).toNat)
    case atStart => exact ⟨0, 5, -n, [], by omega, by omega, by omega, by rw [Int.neg_neg], of_start (by omega), rfl, Digs.nil, by show _ = _; rw [HN.out]; simp [dval], World.ownsRow_nil _ _ _ _, Below.refl _ _⟩
    case round =>
      obtain ⟨k, j, m, o, kj, m0, m1, rfl, mj, ol, od, ov, hown, hbel⟩ := hrel
      have hbs : ∀ o, v.heap.size ≤ (wr.alloc o).heap.size := fun o => by have := hbel.size; simp; omega
      by_cases hm : m = 0
      · have vv : dval o = N := by have := ov.out; rw [hm, Int.mul_zero, Int.add_zero] at this; exact this
        obtain ⟨q, cc, hv, hlen, hr, hn', hf⟩ := own_row hown
        have WH := Lib.hid (whole_to (s := true) (V := N) (X := n) (by have := HN.out; simp; omega) q cc o wr od.out vv hr (by have := ol.out; omega))
        have HB := Lib.hid hbel
        have OL := Lib.hid ol.out
        have HV := Lib.hid hv
        clear vv hlen hr hn' hf hown hbel hbs ol od ov mj
        subst hm
        have hv := HV.out
        subst hv
        clear HV
        go_wp2_with fail
        refine (WH.out).mono ?_
        rintro e w2 ⟨p2, l2, c2, rfl, r1, r2, r3⟩
        have B2 := HB.out.trans (r3.mono HB.out.size)
        have k5 := (B2.cell (p := ⟨w.heap.size, 0, none⟩) zv).trans CV.out.1
        have k6 := (B2.cell (p := ⟨w.heap.size, 1, none⟩) zv).trans CV.out.2.1
        have k9 := Nat.lt_of_lt_of_le zv B2.size
        have FIN := Lib.hid (BigRes.stored (c := c2) (r := w.heap.size) BV.out (Nat.le_refl _) zv (r1.more (m := 5) (by have := OL.out; omega)) (fun a ha => Nat.le_trans HB.out.size (r2 a ha)) B2)
        have k7 := (B2.frozen (p := ⟨w.heap.size, 0, none⟩) zv).trans CV.out.2.2.1
        have k8 := (B2.frozen (p := ⟨w.heap.size, 1, none⟩) zv).trans CV.out.2.2.2
        clear r1 r2 r3 B2 WH HB OL CV BV HN
        generalize decide (n < 0) = sg at *
        go_wp2_with fail
        exact bodyPost_ret (v := .agg #[.bool sg, .slice p2 l2.length c2]) (by simp [results, Try.results41, go_sem, k5, k6, k9]) rfl FIN.out
      · rcases j with _ | j
        · exact absurd mj.out (by rw [Int.pow_zero]; omega)
        · have S := Lib.hid (of_step ol.out ov.out)
          have L := Lib.hid (of_less mj.out)
          have hm' : ((-m) == 0) = false := by simpa using hm
          have hm'' : ((-m) != 0) = true := by simpa using hm
          have hm3 : (m == 0) = false := by simpa using hm
          have hm4 : (m != 0) = true := by simpa using hm
          have p : 0 < m := by omega
          have t1 := neg_tmod' m0
          have t2 := neg_tdiv' m0
          have t3 : m.tmod 10000 = m % 10000 := Int.tmod_eq_emod_of_nonneg m0
          have t4 : m.tdiv 10000 = m / 10000 := Int.tdiv_eq_ediv_of_nonneg m0
          have g0 : 0 ≤ m % 10000 := by omega
          have g1 : m % 10000 < 10000 := by omega
          have g2 : 0 ≤ m / 10000 := by omega
          have g3 : m / 10000 ≤ 9223372036854775808 := by omega
          have g4 : m / 10000 < m := by omega
          have OL := Lib.hid (show (o ++ [m % 10000]).length = k + 1 by have := ol.out; simp [this])
          have OD := Lib.hid (od.out.snoc (d := m % 10000) (by omega) (by omega))
          clear hm ol od ov
          generalize m % 10000 = q at *
          generalize m / 10000 = m' at *
          by_cases q0 : q = 0
          · subst q0
            simp only [Int.neg_zero] at t1
            go_wp2_with (first
              | (at_builtin; refine wpList_append_own _ rfl _ _ 26 rfl v.heap.size 3 i0 (.int .i64 0) 1 8 Try.underlying26 hi hz0 hz1 hz2 rfl (by decide) _ _ _ rfl (hown.alloc _) ⟨wr.heap.size, 0, none⟩ 1 1 [.int .i64 0] rfl rfl (one_cell _) one_one (by unfold maxLen; omega) (by omega) (hbs _) ?_))
            intro v' w1 hown' hgrow _
            have RR := own_snoc (l := o) _ rfl hbel hown hown' hgrow
            clear hown' hgrow hown hbel hbs hm' hm'' hm3 hm4
            go_wp2
            go_roundw
            case rel => exact ⟨k + 1, j, m', _, by omega, by omega, by omega, rfl, L, OL, OD, S, RR.1, RR.2⟩
            case measure => simp [intOf]; omega
          · have q1 : 0 < q := by omega
            clear q0
            go_wp2_with (first
              | (at_builtin; refine wpList_append_own _ rfl _ _ 26 rfl v.heap.size 3 i0 (.int .i64 0) 1 8 Try.underlying26 hi hz0 hz1 hz2 rfl (by decide) _ _ _ rfl (hown.alloc _) ⟨wr.heap.size, 0, none⟩ 1 1 [.int .i64 q] rfl rfl (one_cell _) one_one (by unfold maxLen; omega) (by omega) (hbs _) ?_))
            intro v' w1 hown' hgrow _
            have RR := own_snoc (l := o) _ rfl hbel hown hown' hgrow
            clear hown' hgrow hown hbel hbs hm' hm'' hm3 hm4
            go_wp2
            go_roundw
            case rel => exact ⟨k + 1, j, m', _, by omega, by omega, by omega, rfl, L, OL, OD, S, RR.1, RR.2⟩
            case measure => simp [intOf]; omega
end Go.Proofs.Ytlfffobfcledcaa

/- The small functions of package num: gcd, size, within, signed, isMode, Valid: what each call comes to. -/
namespace Go.Proofs.Ytlfffobfcledcaa
open Go.RowKit
set_option linter.unusedVariables false
set_option linter.unusedSimpArgs false

theorem gcd_step (x y : Int) (hx : 0 ≤ x) (hy : 0 < y) : Int.gcd y (x % y) = Int.gcd x y := by
  obtain ⟨x, rfl⟩ := Int.eq_ofNat_of_zero_le hx
  obtain ⟨y, rfl⟩ := Int.eq_ofNat_of_zero_le (Int.le_of_lt hy)
  have e : ((x : Int) % (y : Int)) = ((x % y : Nat) : Int) := by omega
  rw [e]
  simp only [Int.gcd, Int.natAbs_natCast]
  rw [Nat.gcd_comm y, ← Nat.gcd_rec y x, Nat.gcd_comm]

/-- gcd: the loop of Euclid. -/
theorem gcd_any (a b : Int) (ha : 0 ≤ a) (hb : 0 ≤ b) (ha' : a ≤ 18446744073709551615) (hb' : b ≤ 18446744073709551615) (w : World) :
    Calls Try.prog 80 #[.int .u64 a, .int .u64 b] w fun e w' => e = .returned (.int .u64 (Int.gcd a b)) ∧ ∃ n, w' = w.drewN n := by
  go_enter Try.func80, Try.ntmps80
  go_wp2
  go_loopw [0, 1] (fun v0 v1 wr => ∃ x y : Int, 0 ≤ x ∧ 0 ≤ y ∧ x ≤ 18446744073709551615 ∧ y ≤ 18446744073709551615 ∧ v0 = .int .u64 x ∧ v1 = .int .u64 y ∧ Hid (Int.gcd x y = Int.gcd a b) ∧ ∃ n, wr = w.drewN n) (fun _ v1 _ => (intOf v1).toNat)
  case atStart => exact ⟨a, b, ha, hb, ha', hb', rfl, rfl, rfl, 0, rfl⟩
  case round =>
    obtain ⟨x, y, hx, hy, hx', hy', rfl, rfl, hg, n, rfl⟩ := hrel
    by_cases h : 0 < y
    · have h1 : 0 ≤ x % y := Int.emod_nonneg _ (by omega)
      have h2 : x % y < y := Int.emod_lt_of_pos _ h
      go_wp2
      go_quiet (fail)
      go_wp2
      go_roundw
      case rel => exact ⟨y, x % y, by omega, by omega, by omega, by omega, rfl, rfl, (gcd_step x y hx h).trans hg.out, _, World.drewN_drewN _ _ _⟩
      case measure => simp [intOf]; omega
    · have hy0 : y = 0 := by omega
      have H : Hid (y = 0) := hy0
      clear hy0
      go_wp2
      go_ret
      have e := hg.out
      rw [H.out] at e
      have e2 : ((Int.gcd a b : Nat) : Int) = x := by rw [← e]; simp only [Int.gcd, Int.natAbs_zero, Nat.gcd_zero_right]; omega
      exact ⟨ret_i e2.symm, n, rfl⟩

/-- size: the absolute value, as a uint64. -/
theorem size_any (n : Int) (h1 : -9223372036854775808 ≤ n) (h2 : n ≤ 9223372036854775807) (w : World) :
    Calls Try.prog 66 #[.int .i64 n] w fun e w' => e = .returned (.int .u64 (n.natAbs : Int)) ∧ w = w' := by
  by_cases h : n < 0
  · have e1 : IntKind.u64.wrap n = n + 18446744073709551616 := PlainAid.u64_neg h (by omega)
    go_enter Try.func66, Try.ntmps66
    go_wp2
    go_ret
    exact ⟨ret_i (by rw [IntKind.wrap_u64]; omega), rfl⟩
  · go_enter Try.func66, Try.ntmps66
    go_wp2
    go_ret
    exact ⟨ret_i (by omega), rfl⟩

/-- within, as a Bool. -/
def wthB (n m : Int) : Bool := decide (-m ≤ n) && decide (n ≤ m)
theorem wthB_true {n m : Int} : wthB n m = true ↔ -m ≤ n ∧ n ≤ m := by simp [wthB]
theorem within_any (n m : Int) (h1 : 0 ≤ m) (h2 : m ≤ 9223372036854775807) (w : World) :
    Calls Try.prog 71 #[.int .i64 n, .int .i64 m] w fun e w' => e = .returned (.bool (wthB n m)) ∧ w = w' := by
  go_enter Try.func71, Try.ntmps71
  go_wp2
  all_goals go_ret
  all_goals exact ⟨ret_b (by rw [Bool.eq_iff_iff, wthB_true]; simp; try omega), rfl⟩

/-- signed: the number with its sign. -/
theorem signed_any (b : Bool) (n : Int) (h1 : 0 ≤ n) (h2 : n ≤ 9223372036854775807) (w : World) :
    Calls Try.prog 95 #[.bool b, .int .u64 n] w fun e w' => e = .returned (.int .i64 (bif b then -n else n)) ∧ w = w' := by
  cases b
  all_goals go_enter Try.func95, Try.ntmps95
  all_goals go_wp2
  all_goals go_ret
  all_goals exact ⟨ret_i rfl, rfl⟩

/-- isMode, as a Bool. -/
def modB (m : Int) : Bool := decide (0 ≤ m) && decide (m ≤ 4)
theorem modB_true {m : Int} : modB m = true ↔ 0 ≤ m ∧ m ≤ 4 := by simp [modB]
theorem isMode_any (m : Int) (w : World) :
    Calls Try.prog 72 #[.int .i64 m] w fun e w' => e = .returned (.bool (modB m)) ∧ w = w' := by
  go_enter Try.func72, Try.ntmps72
  go_wp2
  all_goals go_ret
  all_goals exact ⟨ret_b (by rw [Bool.eq_iff_iff, modB_true]; simp; try omega), rfl⟩

/-- Valid, as a Bool. -/
def vldB (n d : Int) : Bool := decide (1 ≤ d) && decide (d ≤ 1048576) && decide (-1099511627776 ≤ n) && decide (n ≤ 1099511627776) && decide (Int.gcd n d = 1)
theorem vldB_true {n d : Int} : vldB n d = true ↔ 1 ≤ d ∧ d ≤ 1048576 ∧ -1099511627776 ≤ n ∧ n ≤ 1099511627776 ∧ Int.gcd n d = 1 := by simp [vldB, and_assoc]

theorem Valid_any (n d : Int) (hn1 : -9223372036854775808 ≤ n) (hn2 : n ≤ 9223372036854775807) (w : World) :
    Calls Try.prog 53 #[.agg #[.int .i64 n, .int .i64 d]] w fun e w' => e = .returned (.bool (vldB n d)) ∧ Below w.heap.size w w' := by
  by_cases h1 : d < 1
  · go_enter Try.func53, Try.ntmps53
    go_wp2
    go_ret
    exact ⟨ret_b (by symm; rw [Bool.eq_false_iff]; rw [Ne, vldB_true]; omega), by go_grown⟩
  by_cases h2 : 1048576 < d
  · go_enter Try.func53, Try.ntmps53
    go_wp2
    go_ret
    exact ⟨ret_b (by symm; rw [Bool.eq_false_iff]; rw [Ne, vldB_true]; omega), by go_grown⟩
  by_cases h3 : wthB n 1099511627776 = true
  · go_enter Try.func53, Try.ntmps53
    go_wp2_with (first
      | (go_at_call 71; refine (within_any _ _ (by omega) (by omega) _).mono ?_; rintro e w' ⟨rfl, rfl⟩))
    have hn := wthB_true.1 h3
    clear h3
    go_quiet (first
      | (go_at_call 66; exact Calls.quiet_of_same (flip (size_any _ (by omega) (by omega) _)))
      | (go_at_call 80; exact Calls.quiet_of (gcd_any _ _ (by omega) (by omega) (by omega) (by omega) _)))
    go_wp2
    go_ret
    refine ⟨ret_b ?_, by refine below_drewN ?_ _; go_grown⟩
    rw [Bool.eq_iff_iff, vldB_true]
    simp [Int.gcd]
    omega
  · have h3' : wthB n 1099511627776 = false := by simpa using h3
    have H3 := Lib.hid h3
    clear h3
    go_enter Try.func53, Try.ntmps53
    go_wp2_with (first
      | (go_at_call 71; refine (within_any _ _ (by omega) (by omega) _).mono ?_; rintro e w' ⟨rfl, rfl⟩))
    go_ret
    exact ⟨ret_b (by symm; rw [Bool.eq_false_iff]; rw [Ne, vldB_true]; have := H3.out; rw [wthB_true] at this; omega), by go_grown⟩
end Go.Proofs.Ytlfffobfcledcaa

/- The reference's rows: gcdD; Within. -/
namespace Go.Proofs.Ytlfffobfcledcaa
open Go.RowKit
set_option linter.unusedVariables false
set_option linter.unusedSimpArgs false

/-- The digits that a slice reads as: for a loop's measure. -/
def rdRow (w : World) : Value → List Int
  | .slice p n _ => (List.range n).map fun i => match p with
    | some a => match w.cell? ⟨a.block, i, none⟩ with
      | some u => intOf u
      | none => 0
    | none => 0
  | _ => []
theorem rdRow_eq {w : World} {p : Option Addr} {l : List Int} (r : RowR w p l) (c : Nat) : rdRow w (.slice p l.length c) = l := by
  unfold rdRow
  refine List.ext_getElem (by simp) fun i h1 h2 => ?_
  obtain ⟨g, rfl, _, e⟩ := r i h2
  simp [e, intOf]

/-- A row that may be an argument's own. -/
def OldRow (x : Int) (n : Nat) (w : World) (e : Ending) (w' : World) : Prop :=
  ∃ t p c, e = .returned (.slice p t.length c) ∧ Can t x ∧ t.length ≤ n ∧ RowR w' p t ∧ Below w.heap.size w w'

set_option maxRecDepth 100000 in
set_option maxHeartbeats 1000000 in
theorem gcdD_any (L : Nat) (pa pb : Option Addr) (ca cb : Nat) (a b : List Int) (x y : Int) (w : World) (ha : Can a x) (hb : Can b y) (ra : RowR w pa a) (rb : RowR w pb b) (la : a.length ≤ L) (lb : b.length ≤ L) (hL : L ≤ 90000) :
    Calls Try.prog 68 #[.slice pa a.length ca, .slice pb b.length cb] w (OldRow (Int.gcd x y) L w) := by
  obtain ⟨g, hg⟩ : ∃ g : Nat, g = Int.gcd x y := ⟨_, rfl⟩
  rw [← hg]
  have HG := Lib.hid hg
  have Ra := Lib.hid ra; clear ra
  have Rb := Lib.hid rb; clear rb
  have Da := Lib.hid ha; clear ha
  have Db := Lib.hid hb; clear hb hg
  have LA := Lib.hid la
  have LB := Lib.hid lb
  clear la lb
  go_enter Try.func68, Try.ntmps68
  go_wp2
  go_loopw [0, 1] (fun va vb wr => ∃ (A B : List Int) (p q : Option Addr) (c d : Nat) (u v : Int), va = .slice p A.length c ∧ vb = .slice q B.length d ∧ Hid (Can A u) ∧ Hid (Can B v) ∧ Hid (A.length ≤ L) ∧ Hid (B.length ≤ L) ∧ Hid (RowR wr p A) ∧ Hid (RowR wr q B) ∧ Hid (Int.gcd u v = g) ∧ Below w.heap.size w wr) (fun _ vb wr => (dval (rdRow wr vb)).toNat)
  case atStart => exact ⟨a, b, pa, pb, ca, cb, x, y, rfl, rfl, Da, Db, LA, LB, Ra, Rb, HG.out.symm, Below.refl _ _⟩
  case round =>
    obtain ⟨A, B, p, q, c, d, u, v, rfl, rfl, cA, cB, lA, lB, rA, rB, hgg, hbel⟩ := hrel
    have V0 := cB.out.nonneg
    have U0 := cA.out.nonneg
    have LZ := cB.out.length_zero
    by_cases hv : 0 < v
    · have l0 : 0 < B.length := by
        rcases Nat.eq_zero_or_pos B.length with t | t
        · have := LZ.1 t; omega
        · exact t
      have DV := Lib.hid (by
        have := divD_any p q c d A B v wr cA.out.digs cB.out hv rA.out rB.out (by have := lA.out; omega) (by have := lB.out; omega)
        rwa [cA.out.val] at this)
      have GS := Lib.hid ((gcd_step u v U0 hv).trans hgg.out)
      have MS := Lib.hid (rdRow_eq rB.out d)
      have HV := Lib.hid hv
      clear hgg LZ hv
      have lB' : B.length ≤ L := lB.out
      go_wp2_with fail
      refine (DV.out).mono ?_
      rintro e w1 ⟨t1, p1, c1, t2, p2, c2, rfl, e1, e2, e3, e4, e5, e6, e7⟩
      have E4 := Lib.hid e4
      have E5 := Lib.hid (Nat.le_trans e5 lB')
      have E6 := Lib.hid e6
      have RB := Lib.hid (rB.out.below e7)
      have E7 := Lib.hid (hbel.trans (e7.mono hbel.size))
      have MS2 := Lib.hid (rdRow_eq e6 c2)
      clear e1 e2 e3 e4 e5 e6 e7 DV hbel
      go_wp2
      go_roundw
      case rel => exact ⟨B, t2, q, p2, d, c2, v, _, rfl, rfl, cB, E4, lB, E5, RB, E6, GS.out, E7.out⟩
      case measure =>
        rw [MS2.out, MS.out, E4.out.val, cB.out.val]
        have h1 := Int.emod_lt_of_pos u HV.out
        have h2 := Int.emod_nonneg u (show v ≠ 0 by have := HV.out; omega)
        omega
    · have hv0 : v = 0 := by omega
      have l0 : B.length = 0 := LZ.2 hv0
      have e : ((Int.gcd u v : Nat) : Int) = u := by rw [hv0]; simp only [Int.gcd, Int.natAbs_zero, Nat.gcd_zero_right]; omega
      rw [hgg.out] at e
      have HE := Lib.hid e
      have HB := Lib.hid hbel
      clear e hv hv0 hgg hbel LZ
      generalize B.length = n at *
      subst l0
      go_wp2
      go_ret
      exact ⟨A, p, c, rfl, by rw [HE.out]; exact cA.out, lA.out, rA.out, HB.out⟩

theorem dval_drop_le {l : List Int} (h : Digs l) (k : Nat) : dval (l.drop k) ≤ dval l := by
  have e := dval_app (l.take k) (l.drop k)
  rw [List.take_append_drop] at e
  have a := dval_nonneg (h.take k)
  have b := dval_nonneg (h.drop k)
  have c := Int.mul_le_mul_of_nonneg_right (pow_pos' (l.take k).length) b
  omega

/-- A number as an int, if it is within a bound. -/
def wiV (x m : Int) : Int := if (x.natAbs : Int) ≤ m then x else 0
def wiB (x m : Int) : Bool := decide ((x.natAbs : Int) ≤ m)
end Go.Proofs.Ytlfffobfcledcaa

/- The reference's Big: Within. -/
namespace Go.Proofs.Ytlfffobfcledcaa
open Go.RowKit
set_option linter.unusedVariables false
set_option linter.unusedSimpArgs false

theorem cmp_gt {a b : Int} (h : b < a) : 0 < cmpZ a b ∧ cmpZ a b ≤ 1 := by unfold cmpZ; rw [if_neg (by omega), if_pos h]; omega
theorem cmp_le {a b : Int} (h : a ≤ b) : cmpZ a b ≤ 0 ∧ -1 ≤ cmpZ a b := by unfold cmpZ; split; omega; split <;> omega
theorem drop_val {l : List Int} {j : Nat} (h : j < l.length) : dval (l.drop j) = dval (l.drop (j + 1)) * 10000 + l[j] := by
  rw [List.drop_eq_getElem_cons h]; simp only [dval]; omega

theorem fld1 (u : Bool) (q : Option Addr) (n c : Nat) (W : World) : (Instr.field 76 (.agg #[.bool u, .slice q n c]) 1).run Try.prog W = .ok (.slice q n c) W := by kernel_rfl

set_option maxRecDepth 100000 in
set_option maxHeartbeats 1000000 in
theorem Within_any {N : Nat} (p : Option Addr) (c : Nat) (l : List Int) (x most : Int) (h0 : 0 ≤ most) (hm : most ≤ 4611686018427387904) (w : World) (A : BigR N w p l x) (hN : N ≤ 90000) :
    Calls Try.prog 45 #[.agg #[.bool (decide (x < 0)), .slice p l.length c], .int .i64 most] w fun e w' => e = .returned (.tuple #[.int .i64 (wiV x most), .bool (wiB x most)]) ∧ Below w.heap.size w w' := by
  have OF := Lib.hid (fun W => Of_any most (by omega) (by omega) W)
  have HA := Lib.hid A
  have LN := A.size
  have CM := Lib.hid (fun q t cc W (hq : BigR 5 W q t most) (h : Below w.heap.size w W) => by
    have := cmpD_any p q c cc l t W A.can.digs hq.can.digs A.can.norm hq.can.norm (A.row.below h) hq.row (by omega) (by have := hq.size; omega)
    rwa [A.can.val, hq.can.val] at this)
  have c0 : (w.alloc (Obj.cells #[Value.bool (decide (x < 0)), Value.slice p l.length c] 76)).cell? ⟨w.heap.size, 0, none⟩ = some (.bool (decide (x < 0))) := by simp [go_sem]
  have c1 : (w.alloc (Obj.cells #[Value.bool (decide (x < 0)), Value.slice p l.length c] 76)).cell? ⟨w.heap.size, 1, none⟩ = some (.slice p l.length c) := by simp [go_sem]
  have z : w.heap.size < (w.alloc (Obj.cells #[Value.bool (decide (x < 0)), Value.slice p l.length c] 76)).heap.size := by simp
  have b : Below w.heap.size w (w.alloc (Obj.cells #[Value.bool (decide (x < 0)), Value.slice p l.length c] 76)) := by go_grown
  clear A
  have hfd := fld1
  obtain ⟨n, hn⟩ : ∃ n, n = l.length := ⟨_, rfl⟩
  have HN := Lib.hid hn
  rw [← hn] at CM c0 c1 z b LN ⊢
  clear hn
  generalize hs : decide (x < 0) = s at *
  have HS := Lib.hid hs
  clear hs
  generalize hmn : (most.natAbs : Int) = mn at CM
  have hmn' : mn = most := by omega
  subst hmn'
  clear hmn
  obtain ⟨u, hu⟩ : ∃ u, u = decide (mn < 0) := ⟨_, rfl⟩
  unfold BigRes at OF
  rw [← hu] at OF
  clear hu
  by_cases hle : (x.natAbs : Int) ≤ mn
  · have e1 : wiV x mn = x := if_pos hle
    have e2 : wiB x mn = true := by simpa [wiB] using hle
    rw [e1, e2]
    clear e1 e2
    obtain ⟨z1, z2⟩ := cmp_le hle
    generalize cmpZ (x.natAbs : Int) mn = cz at *
    have HLE := Lib.hid hle
    clear hle
    go_enter Try.func45, Try.ntmps45
    go_upto_region 1 with fail
    generalize (w.alloc (Obj.cells #[Value.bool s, Value.slice p n c] 76)) = v at *
    have BV := Lib.hid b
    go_region_held3 (fun w' => w'.cell? ⟨w.heap.size, 1, none⟩ = some (.slice p n c))
      (first | exact c1)
      (first
        | (go_at_call 41; refine (OF.out _).mono ?_; rintro e w1 ⟨q, t, cc, rfl, r1, r2, r3⟩; have B1 := Lib.hid (show Below w.heap.size w w1 from (by first | exact BV.out.trans (r3.mono BV.out.size) | exact BV.out.drew.trans (r3.mono BV.out.drew.size))); have R1 := Lib.hid r1; replace c0 := (r3.cell (p := ⟨w.heap.size, 0, none⟩) z).trans c0; replace c1 := (r3.cell (p := ⟨w.heap.size, 1, none⟩) z).trans c1; replace z := Nat.lt_of_lt_of_le z r3.size; clear r1 r2 r3)
        | (go_at_call 74; refine (CM.out q t cc _ (by exact R1.out) (by first | exact B1.out | exact B1.out.drew)).mono ?_; rintro e w2 ⟨rfl, n2, rfl⟩))
    have B2 := Lib.hid (below_drewN B1.out n2)
    have c0' : (w1.drewN n2).cell? ⟨w.heap.size, 0, none⟩ = some (.bool s) := c0
    have c1' : (w1.drewN n2).cell? ⟨w.heap.size, 1, none⟩ = some (.slice p n c) := c1
    have z' : w.heap.size < (w1.drewN n2).heap.size := z
    clear c0 c1 z B1 R1 CM OF b BV
    generalize w1.drewN n2 = W2 at *
    have RW := Lib.hid (HA.out.row.below B2.out)
    go_wp2_with fail
    go_loop [6, 7] (fun nv iv => ∃ k : Nat, k ≤ n ∧ iv = .int .i64 ((k : Int) - 1) ∧ nv = .int .i64 (dval (l.drop k))) (fun _ iv => (intOf iv + 1).toNat)
    case atStart => exact ⟨n, Nat.le_refl _, rfl, by rw [List.drop_of_length_le (by have := HN.out; omega)]; rfl⟩
    case round =>
      obtain ⟨k, hk, rfl, rfl⟩ := hrel
      rcases k with _ | j
      · have e : dval (l.drop 0) = x.natAbs := by rw [List.drop_zero]; exact HA.out.can.val
        rw [e]
        have d0 : 0 ≤ (x.natAbs : Int) := by omega
        have d1 : (x.natAbs : Int) ≤ 4611686018427387904 := by have := HLE.out; omega
        clear e
        cases s
        · have E : (x.natAbs : Int) = x := by have := HS.out; simp at this; omega
          have HE := Lib.hid E
          clear E
          generalize (x.natAbs : Int) = y at *
          go_wp2_with fail
          go_ret2
          exact ⟨by rw [HE.out]; rfl, B2.out⟩
        · have E : -(x.natAbs : Int) = x := by have := HS.out; simp at this; omega
          have HE := Lib.hid E
          clear E
          generalize (x.natAbs : Int) = y at *
          go_wp2_with fail
          go_ret2
          exact ⟨by rw [HE.out]; rfl, B2.out⟩
      · have ja : j < l.length := by have := HN.out; omega
        obtain ⟨ga, rfl, ka, cA⟩ := RW.out j ja
        have K := drop_val ja
        have G := HA.out.can.digs _ (List.getElem_mem ja)
        have U := dval_nonneg (HA.out.can.digs.drop (j + 1))
        have M := dval_drop_le HA.out.can.digs j
        rw [HA.out.can.val] at M
        have M2 : dval (l.drop (j + 1)) * 10000 + l[j] ≤ 4611686018427387904 := by have := HLE.out; omega
        have e1 : (((j + 1 : Nat) : Int) - 1) = (j : Int) := by omega
        rw [e1]
        have j0 : (0 : Int) ≤ (j : Int) := by omega
        have jx : (j : Int) < (n : Int) := by omega
        have HK := Lib.hid K
        clear K M e1
        generalize l[j] = u at *
        generalize dval (l.drop (j + 1)) = d at *
        go_wp2_with fail
        go_round
        case rel => exact ⟨j, by omega, rfl, by rw [HK.out]⟩
        case measure => simp [intOf]
  · have e1 : wiV x mn = 0 := if_neg hle
    have e2 : wiB x mn = false := by simpa [wiB] using hle
    rw [e1, e2]
    clear e1 e2
    obtain ⟨z1, z2⟩ := cmp_gt (show mn < (x.natAbs : Int) by omega)
    generalize cmpZ (x.natAbs : Int) mn = cz at *
    clear hle
    go_enter Try.func45, Try.ntmps45
    go_upto_region 1 with fail
    generalize (w.alloc (Obj.cells #[Value.bool s, Value.slice p n c] 76)) = v at *
    have BV := Lib.hid b
    go_region_held3 (fun w' => w'.cell? ⟨w.heap.size, 1, none⟩ = some (.slice p n c))
      (first | exact c1)
      (first
        | (go_at_call 41; refine (OF.out _).mono ?_; rintro e w1 ⟨q, t, cc, rfl, r1, r2, r3⟩; have B1 := Lib.hid (show Below w.heap.size w w1 from (by first | exact BV.out.trans (r3.mono BV.out.size) | exact BV.out.drew.trans (r3.mono BV.out.drew.size))); have R1 := Lib.hid r1; replace c0 := (r3.cell (p := ⟨w.heap.size, 0, none⟩) z).trans c0; replace c1 := (r3.cell (p := ⟨w.heap.size, 1, none⟩) z).trans c1; replace z := Nat.lt_of_lt_of_le z r3.size; clear r1 r2 r3)
        | (go_at_call 74; refine (CM.out q t cc _ (by exact R1.out) (by first | exact B1.out | exact B1.out.drew)).mono ?_; rintro e w2 ⟨rfl, n2, rfl⟩))
    go_wp2_with fail
    go_ret2
    exact ⟨rfl, below_drewN B1.out _⟩
end Go.Proofs.Ytlfffobfcledcaa

/- Products and quotients of 128 bits, rounding: what each call comes to. -/
namespace Go.Proofs.Ytlfffobfcledcaa
open Go.RowKit
set_option linter.unusedVariables false
set_option linter.unusedSimpArgs false

theorem ret_ii {k l : IntKind} {a b c d : Int} (h : a = b) (h' : c = d) : Ending.returned (.tuple #[.int k a, .int l c]) = .returned (.tuple #[.int k b, .int l d]) := by rw [h, h']

/-- Mul64: the contract off the shelf, over Int. -/
theorem mul64_any (x y : Int) (hx : 0 ≤ x) (hy : 0 ≤ y) (hx' : x ≤ 18446744073709551615) (hy' : y ≤ 18446744073709551615) (w : World) :
    Calls Try.prog 98 #[.int .u64 x, .int .u64 y] w fun e w' => e = .returned (.tuple #[.int .u64 (x * y / 18446744073709551616), .int .u64 (x * y % 18446744073709551616)]) ∧ w = w' := by
  obtain ⟨x, rfl⟩ := Int.eq_ofNat_of_zero_le hx
  obtain ⟨y, rfl⟩ := Int.eq_ofNat_of_zero_le hy
  refine (Try.bits_Mul64 x y (by omega) (by omega) w).mono fun e w' ⟨h, e'⟩ => ⟨?_, e'.symm⟩
  rw [h]
  simp only [Int.natCast_mul, Int.natCast_ediv, Int.natCast_emod]
  rfl

theorem div64_lo (lo y : Int) (h0 : 0 ≤ lo) (h1 : lo ≤ 18446744073709551615) (hy : 1 ≤ y) (hy' : y ≤ 18446744073709551615) (w : World) :
    Calls Try.prog 99 #[.int .u64 0, .int .u64 lo, .int .u64 y] w fun e w' => e = .returned (.tuple #[.int .u64 (lo / y), .int .u64 (lo % y)]) ∧ ∃ n, w' = w.drewN n := by
  have e0 : (y == 0) = false := by simp; omega
  go_enter Try.func99, Try.ntmps99
  go_wp2_with fail
  go_quiet (fail)
  go_wp2
  go_ret2
  exact ⟨rfl, _, rfl⟩

theorem div64_any (hi lo y : Int) (hh : hi = 0) (h' : hi < y) (h0 : 0 ≤ lo) (h1 : lo ≤ 18446744073709551615) (hy' : y ≤ 18446744073709551615) (w : World) :
    Calls Try.prog 99 #[.int .u64 hi, .int .u64 lo, .int .u64 y] w fun e w' => e = .returned (.tuple #[.int .u64 ((hi * 18446744073709551616 + lo) / y), .int .u64 ((hi * 18446744073709551616 + lo) % y)]) ∧ ∃ n, w' = w.drewN n := by
  subst hh
  refine (div64_lo lo y h0 h1 (by omega) hy' w).mono fun e w' ⟨a, b⟩ => ⟨?_, b⟩
  rw [a]; simp

/-- isUp, as a Bool. -/
def upB (neg : Bool) (q r c m : Int) : Bool :=
  if m = 0 then neg && decide (0 < r) else if m = 1 then !neg && decide (0 < r) else if m = 2 then false
  else if m = 3 then decide (c < 2 * r) || (decide (2 * r = c) && !neg) else decide (c < 2 * r) || (decide (2 * r = c) && decide (q % 2 = 1))

theorem cmpu_lt (a b : Int) (h : a < b) (w : World) :
    Calls Try.prog 119 #[.int .u64 a, .int .u64 b] w fun e w' => e = .returned (.int .i64 (-1)) ∧ w = w' := by
  go_enter Try.func119, Try.ntmps119
  go_wp2
  go_ret
  exact ⟨rfl, rfl⟩
theorem cmpu_gt (a b : Int) (h : b < a) (w : World) :
    Calls Try.prog 119 #[.int .u64 a, .int .u64 b] w fun e w' => e = .returned (.int .i64 1) ∧ w = w' := by
  go_enter Try.func119, Try.ntmps119
  go_wp2
  go_ret
  exact ⟨rfl, rfl⟩
theorem cmpu_eq (a b : Int) (h : a ≤ b) (h' : b ≤ a) (w : World) :
    Calls Try.prog 119 #[.int .u64 a, .int .u64 b] w fun e w' => e = .returned (.int .i64 0) ∧ w = w' := by
  go_enter Try.func119, Try.ntmps119
  go_wp2
  go_ret
  exact ⟨rfl, rfl⟩

theorem isUp_any (neg : Bool) (q r c m : Int) (h0 : 0 ≤ q) (hq : q ≤ 18446744073709551615) (hr : 0 ≤ r) (hc : r < c) (hc' : c ≤ 18446744073709551615) (w : World) :
    Calls Try.prog 100 #[.bool neg, .int .u64 q, .int .u64 r, .int .u64 c, .int .i64 m] w fun e w' => e = .returned (.bool (upB neg q r c m)) ∧ w = w' := by
  rcases (by omega : m = 0 ∨ m = 1 ∨ m = 2 ∨ m = 3 ∨ (m < 0 ∨ 3 < m)) with m0 | m0 | m0 | m0 | m0
  · subst m0
    rcases (by omega : r < c - r ∨ c - r < r ∨ (r ≤ c - r ∧ c - r ≤ r)) with t | t | ⟨t, t'⟩ <;> cases neg
    all_goals go_enter Try.func100, Try.ntmps100
    all_goals go_wp2_with (go_at_call 119; first | (refine (cmpu_lt _ _ (by omega) _).mono ?_; rintro e w' ⟨rfl, rfl⟩) | (refine (cmpu_gt _ _ (by omega) _).mono ?_; rintro e w' ⟨rfl, rfl⟩) | (refine (cmpu_eq _ _ (by omega) (by omega) _).mono ?_; rintro e w' ⟨rfl, rfl⟩))
    all_goals go_ret
    all_goals exact ⟨ret_b (by simp [upB]), rfl⟩
  · subst m0
    rcases (by omega : r < c - r ∨ c - r < r ∨ (r ≤ c - r ∧ c - r ≤ r)) with t | t | ⟨t, t'⟩ <;> cases neg
    all_goals go_enter Try.func100, Try.ntmps100
    all_goals go_wp2_with (go_at_call 119; first | (refine (cmpu_lt _ _ (by omega) _).mono ?_; rintro e w' ⟨rfl, rfl⟩) | (refine (cmpu_gt _ _ (by omega) _).mono ?_; rintro e w' ⟨rfl, rfl⟩) | (refine (cmpu_eq _ _ (by omega) (by omega) _).mono ?_; rintro e w' ⟨rfl, rfl⟩))
    all_goals go_ret
    all_goals exact ⟨ret_b (by simp [upB]), rfl⟩
  · subst m0
    rcases (by omega : r < c - r ∨ c - r < r ∨ (r ≤ c - r ∧ c - r ≤ r)) with t | t | ⟨t, t'⟩
    all_goals go_enter Try.func100, Try.ntmps100
    all_goals go_wp2_with (go_at_call 119; first | (refine (cmpu_lt _ _ (by omega) _).mono ?_; rintro e w' ⟨rfl, rfl⟩) | (refine (cmpu_gt _ _ (by omega) _).mono ?_; rintro e w' ⟨rfl, rfl⟩) | (refine (cmpu_eq _ _ (by omega) (by omega) _).mono ?_; rintro e w' ⟨rfl, rfl⟩))
    all_goals go_ret
    all_goals exact ⟨ret_b (by simp [upB]), rfl⟩
  · subst m0
    rcases (by omega : r < c - r ∨ c - r < r ∨ (r ≤ c - r ∧ c - r ≤ r)) with t | t | ⟨t, t'⟩ <;> cases neg
    all_goals go_enter Try.func100, Try.ntmps100
    all_goals go_wp2_with (go_at_call 119; first | (refine (cmpu_lt _ _ (by omega) _).mono ?_; rintro e w' ⟨rfl, rfl⟩) | (refine (cmpu_gt _ _ (by omega) _).mono ?_; rintro e w' ⟨rfl, rfl⟩) | (refine (cmpu_eq _ _ (by omega) (by omega) _).mono ?_; rintro e w' ⟨rfl, rfl⟩))
    all_goals go_ret
    all_goals exact ⟨ret_b (by simp [upB]; try omega), rfl⟩
  · rcases (by omega : r < c - r ∨ c - r < r ∨ (r ≤ c - r ∧ c - r ≤ r)) with t | t | ⟨t, t'⟩ <;> rcases m0 with m0 | m0
    all_goals have k0 : ¬ m = 0 := by omega
    all_goals have k1 : ¬ m = 1 := by omega
    all_goals have k2 : ¬ m = 2 := by omega
    all_goals have k3 : ¬ m = 3 := by omega
    all_goals have K0 := Lib.hid k0; clear k0
    all_goals have K1 := Lib.hid k1; clear k1
    all_goals have K2 := Lib.hid k2; clear k2
    all_goals have K3 := Lib.hid k3; clear k3
    all_goals go_enter Try.func100, Try.ntmps100
    all_goals go_wp2_with (go_at_call 119; first | (refine (cmpu_lt _ _ (by omega) _).mono ?_; rintro e w' ⟨rfl, rfl⟩) | (refine (cmpu_gt _ _ (by omega) _).mono ?_; rintro e w' ⟨rfl, rfl⟩) | (refine (cmpu_eq _ _ (by omega) (by omega) _).mono ?_; rintro e w' ⟨rfl, rfl⟩))
    all_goals go_ret
    all_goals exact ⟨ret_b (by first | (simp [upB, K0.out, K1.out, K2.out, K3.out]; done) | (rw [Bool.eq_iff_iff]; simp [upB, K0.out, K1.out, K2.out, K3.out]; omega)), rfl⟩

/-- What rounding comes to: the whole number, without its sign. -/
def rndQ (neg : Bool) (p c m : Int) : Int := p / c + (bif upB neg (p / c) (p % c) c m then 1 else 0)
def rndV (neg : Bool) (p c m : Int) : Int := if rndQ neg p c m ≤ 1125899906842624 then (bif neg then -rndQ neg p c m else rndQ neg p c m) else 0
def rndE (neg : Bool) (p c m : Int) : Int := if rndQ neg p c m ≤ 1125899906842624 then 0 else 4

theorem rnd_big {neg : Bool} {p c m : Int} (h : 1125899906842624 < rndQ neg p c m) : rndV neg p c m = 0 ∧ rndE neg p c m = 4 := by
  unfold rndV rndE; rw [if_neg (by omega), if_neg (by omega)]; exact ⟨rfl, rfl⟩
theorem rnd_ok {neg : Bool} {p c m : Int} (h : rndQ neg p c m ≤ 1125899906842624) : rndV neg p c m = (bif neg then -rndQ neg p c m else rndQ neg p c m) ∧ rndE neg p c m = 0 := by
  unfold rndV rndE; rw [if_pos h, if_pos h]; exact ⟨rfl, rfl⟩
theorem rnd_up {neg : Bool} {p c m : Int} (h : upB neg (p / c) (p % c) c m = true) : rndQ neg p c m = p / c + 1 := by unfold rndQ; rw [h]; rfl
theorem rnd_down {neg : Bool} {p c m : Int} (h : upB neg (p / c) (p % c) c m = false) : rndQ neg p c m = p / c := by unfold rndQ; rw [h]; exact Int.add_zero _
theorem rnd_ge (neg : Bool) (p c m : Int) : p / c ≤ rndQ neg p c m := by
  cases h : upB neg (p / c) (p % c) c m
  · rw [rnd_down h]; omega
  · rw [rnd_up h]; omega

theorem rounded_any (neg : Bool) (a b c m : Int) (ha : 0 ≤ a) (hb : 0 ≤ b) (ha' : a ≤ 9223372036854775808) (hb' : b ≤ 9223372036854775808) (hw : a * b ≤ 18446744073709551615) (hc : 1 ≤ c) (hc' : c ≤ 18446744073709551615) (w : World) :
    Calls Try.prog 73 #[.bool neg, .int .u64 a, .int .u64 b, .int .u64 c, .int .i64 m] w fun e w' => e = .returned (.tuple #[.int .i64 (rndV neg (a * b) c m), .int .i64 (rndE neg (a * b) c m)]) ∧ ∃ n, w' = w.drewN n := by
  have hp : 0 ≤ a * b := Int.mul_nonneg ha hb
  by_cases hh : c ≤ a * b / 18446744073709551616
  · have hq : 18446744073709551616 ≤ a * b / c := by
      rw [Int.le_ediv_iff_mul_le (by omega)]; omega
    have hn : 1125899906842624 < rndQ neg (a * b) c m := by have := rnd_ge neg (a * b) c m; omega
    have HN := Lib.hid hn; clear hn hq
    go_enter Try.func73, Try.ntmps73
    go_wp2_with (go_at_call 98; refine (mul64_any _ _ (by omega) (by omega) (by omega) (by omega) _).mono ?_; rintro e w' ⟨rfl, rfl⟩)
    go_ret2
    exact ⟨ret_ii (rnd_big HN.out).1.symm (rnd_big HN.out).2.symm, 0, rfl⟩
  · have e1 : (a * b / 18446744073709551616) * 18446744073709551616 + a * b % 18446744073709551616 = a * b := by omega
    have E1 := Lib.hid e1; clear e1
    have h0 : 0 ≤ a * b / 18446744073709551616 := by omega
    have hq0 : 0 ≤ a * b / c := Int.ediv_nonneg hp (by omega)
    have hr0 : 0 ≤ a * b % c := Int.emod_nonneg _ (by omega)
    have hr1 : a * b % c < c := Int.emod_lt_of_pos _ (by omega)
    have hq1 : a * b / c < 18446744073709551616 := by rw [Int.ediv_lt_iff_lt_mul (by omega)]; omega
    by_cases hm : a * b / c ≤ 1125899906842624
    · cases hu : upB neg (a * b / c) (a * b % c) c m
      · have HU := Lib.hid hu; clear hu
        go_enter Try.func73, Try.ntmps73
        go_wp2_with fail
        refine (mul64_any _ _ (by omega) (by omega) (by omega) (by omega) _).mono ?_
        rintro e w' ⟨rfl, rfl⟩
        go_wp2_with fail
        refine (div64_any _ _ _ (by omega) (by omega) (by omega) (by omega) (by omega) _).mono ?_
        rintro e w' ⟨rfl, nn, rfl⟩
        rw [E1.out]
        go_wp2_with fail
        refine (isUp_any _ _ _ _ _ (by omega) (by omega) (by omega) (by omega) (by omega) _).mono ?_
        rintro e w' ⟨rfl, rfl⟩
        rw [HU.out]
        go_wp2_with fail
        refine (signed_any _ _ (by omega) (by omega) _).mono ?_
        rintro e w' ⟨rfl, rfl⟩
        go_wp2_with fail
        go_ret2
        have k := rnd_down HU.out
        have k2 := rnd_ok (neg := neg) (p := a * b) (c := c) (m := m) (by rw [k]; exact hm)
        rw [k] at k2
        exact ⟨ret_ii k2.1.symm k2.2.symm, _, rfl⟩
      · have HU := Lib.hid hu; clear hu
        by_cases hm2 : a * b / c = 1125899906842624
        · have hm4 : 1125899906842624 ≤ a * b / c := by omega
          clear hm2
          go_enter Try.func73, Try.ntmps73
          go_wp2_with fail
          refine (mul64_any _ _ (by omega) (by omega) (by omega) (by omega) _).mono ?_
          rintro e w' ⟨rfl, rfl⟩
          go_wp2_with fail
          refine (div64_any _ _ _ (by omega) (by omega) (by omega) (by omega) (by omega) _).mono ?_
          rintro e w' ⟨rfl, nn, rfl⟩
          rw [E1.out]
          go_wp2_with fail
          refine (isUp_any _ _ _ _ _ (by omega) (by omega) (by omega) (by omega) (by omega) _).mono ?_
          rintro e w' ⟨rfl, rfl⟩
          rw [HU.out]
          go_wp2_with fail
          go_ret2
          have k := rnd_up HU.out
          have k2 := rnd_big (neg := neg) (p := a * b) (c := c) (m := m) (by rw [k]; omega)
          exact ⟨ret_ii k2.1.symm k2.2.symm, _, rfl⟩
        · have hm3 : a * b / c < 1125899906842624 := by omega
          clear hm2
          go_enter Try.func73, Try.ntmps73
          go_wp2_with fail
          refine (mul64_any _ _ (by omega) (by omega) (by omega) (by omega) _).mono ?_
          rintro e w' ⟨rfl, rfl⟩
          go_wp2_with fail
          refine (div64_any _ _ _ (by omega) (by omega) (by omega) (by omega) (by omega) _).mono ?_
          rintro e w' ⟨rfl, nn, rfl⟩
          rw [E1.out]
          go_wp2_with fail
          refine (isUp_any _ _ _ _ _ (by omega) (by omega) (by omega) (by omega) (by omega) _).mono ?_
          rintro e w' ⟨rfl, rfl⟩
          rw [HU.out]
          go_wp2_with fail
          refine (signed_any _ _ (by omega) (by omega) _).mono ?_
          rintro e w' ⟨rfl, rfl⟩
          go_wp2_with fail
          go_ret2
          have k := rnd_up HU.out
          have k2 := rnd_ok (neg := neg) (p := a * b) (c := c) (m := m) (by rw [k]; omega)
          rw [k] at k2
          exact ⟨ret_ii k2.1.symm k2.2.symm, _, rfl⟩
    · have hm4 : 1125899906842624 < a * b / c := by omega
      clear hm
      go_enter Try.func73, Try.ntmps73
      go_wp2_with fail
      refine (mul64_any _ _ (by omega) (by omega) (by omega) (by omega) _).mono ?_
      rintro e w' ⟨rfl, rfl⟩
      go_wp2_with fail
      refine (div64_any _ _ _ (by omega) (by omega) (by omega) (by omega) (by omega) _).mono ?_
      rintro e w' ⟨rfl, nn, rfl⟩
      rw [E1.out]
      go_wp2_with fail
      go_ret2
      have k2 := rnd_big (neg := neg) (p := a * b) (c := c) (m := m) (by have := rnd_ge neg (a * b) c m; omega)
      exact ⟨ret_ii k2.1.symm k2.2.symm, _, rfl⟩
end Go.Proofs.Ytlfffobfcledcaa

/- Round, Neg, lowest, Make and the four operations of package num: what each call comes to. -/
namespace Go.Proofs.Ytlfffobfcledcaa
open Go.RowKit
set_option linter.unusedVariables false
set_option linter.unusedSimpArgs false

/-- lowest: what it comes to. -/
def lowV (neg : Bool) (n d : Int) : Int := if n / Int.gcd n d ≤ 1099511627776 ∧ d / Int.gcd n d ≤ 1048576 then (bif neg then -(n / Int.gcd n d) else n / Int.gcd n d) else 0
def lowD (n d : Int) : Int := if n / Int.gcd n d ≤ 1099511627776 ∧ d / Int.gcd n d ≤ 1048576 then d / Int.gcd n d else 0
def lowE (n d : Int) : Int := if n / Int.gcd n d ≤ 1099511627776 ∧ d / Int.gcd n d ≤ 1048576 then 0 else 4

theorem lowest_any (neg : Bool) (n d : Int) (h1 : 0 ≤ n) (h2 : n ≤ 18446744073709551615) (h3 : 1 ≤ d) (h4 : d ≤ 18446744073709551615) (w : World) :
    Calls Try.prog 65 #[.bool neg, .int .u64 n, .int .u64 d] w fun e w' => e = .returned (.tuple #[.agg #[.int .i64 (lowV neg n d), .int .i64 (lowD n d)], .int .i64 (lowE n d)]) ∧ Below w.heap.size w w' := by
  have g0 : (1 : Int) ≤ (Int.gcd n d : Int) := by
    have : 0 < Int.gcd n d := Int.gcd_pos_of_ne_zero_right _ (by omega)
    omega
  have g1 : (Int.gcd n d : Int) ≤ d := Int.le_of_dvd (by omega) (Int.gcd_dvd_right _ _)
  have q0 : 0 ≤ n / Int.gcd n d := Int.ediv_nonneg h1 (by omega)
  have q1 : 1 ≤ d / Int.gcd n d := by rw [Int.le_ediv_iff_mul_le (by omega)]; omega
  have q2 : n / Int.gcd n d ≤ n := Int.ediv_le_self _ h1
  have q3 : d / Int.gcd n d ≤ d := Int.ediv_le_self _ (by omega)
  by_cases h5 : n / Int.gcd n d ≤ 1099511627776
  · by_cases h6 : d / Int.gcd n d ≤ 1048576
    · have e1 : lowV neg n d = (bif neg then -(n / Int.gcd n d) else n / Int.gcd n d) := if_pos ⟨h5, h6⟩
      have e2 : lowD n d = d / Int.gcd n d := if_pos ⟨h5, h6⟩
      have e3 : lowE n d = 0 := if_pos ⟨h5, h6⟩
      rw [e1, e2, e3]
      clear e1 e2 e3
      go_enter Try.func65, Try.ntmps65
      go_wp2_with fail
      refine (gcd_any _ _ (by omega) (by omega) (by omega) (by omega) _).mono ?_
      rintro e w1 ⟨rfl, n1, rfl⟩
      go_wp2_with fail
      go_quiet (fail)
      go_wp2_with fail
      refine (signed_any _ _ (by omega) (by omega) _).mono ?_
      rintro e w1 ⟨rfl, rfl⟩
      go_wp2_with fail
      refine bodyPost_ret (v := .tuple #[.agg #[.int .i64 (bif neg then -(n / Int.gcd n d) else n / Int.gcd n d), .int .i64 (d / Int.gcd n d)], .int .i64 0]) (by simp [results, Try.results65, go_sem]) rfl ⟨rfl, by repeat' (first | exact Below.refl _ _ | (with_reducible assumption) | refine below_drewN ?_ _ | refine Below.setCell ?_ ?_ _ | refine Below.alloc ?_ ?_ _ | (simp; done) | (simp; omega) | omega)⟩
    · have e1 : lowV neg n d = 0 := if_neg (by omega)
      have e2 : lowD n d = 0 := if_neg (by omega)
      have e3 : lowE n d = 4 := if_neg (by omega)
      rw [e1, e2, e3]
      clear e1 e2 e3
      go_enter Try.func65, Try.ntmps65
      go_wp2_with fail
      refine (gcd_any _ _ (by omega) (by omega) (by omega) (by omega) _).mono ?_
      rintro e w1 ⟨rfl, n1, rfl⟩
      go_wp2_with fail
      go_quiet (fail)
      go_wp2_with fail
      refine bodyPost_ret (v := .tuple #[.agg #[.int .i64 0, .int .i64 0], .int .i64 4]) (by simp [results, Try.results65, go_sem]) rfl ⟨rfl, by repeat' (first | exact Below.refl _ _ | (with_reducible assumption) | refine below_drewN ?_ _ | refine Below.setCell ?_ ?_ _ | refine Below.alloc ?_ ?_ _ | (simp; done) | (simp; omega) | omega)⟩
  · have e1 : lowV neg n d = 0 := if_neg (by omega)
    have e2 : lowD n d = 0 := if_neg (by omega)
    have e3 : lowE n d = 4 := if_neg (by omega)
    rw [e1, e2, e3]
    clear e1 e2 e3
    go_enter Try.func65, Try.ntmps65
    go_wp2_with fail
    refine (gcd_any _ _ (by omega) (by omega) (by omega) (by omega) _).mono ?_
    rintro e w1 ⟨rfl, n1, rfl⟩
    go_wp2_with fail
    go_quiet (fail)
    go_wp2_with fail
    refine bodyPost_ret (v := .tuple #[.agg #[.int .i64 0, .int .i64 0], .int .i64 4]) (by simp [results, Try.results65, go_sem]) rfl ⟨rfl, by repeat' (first | exact Below.refl _ _ | (with_reducible assumption) | refine below_drewN ?_ _ | refine Below.setCell ?_ ?_ _ | refine Below.alloc ?_ ?_ _ | (simp; done) | (simp; omega) | omega)⟩
end Go.Proofs.Ytlfffobfcledcaa

/- Plain facts on fractions in lowest terms: no Go in sight. -/
namespace Go.Proofs.Ytlfffobfcledcaa
open Go.RowKit
set_option linter.unusedVariables false
set_option linter.unusedSimpArgs false

/-- V/D is n/d in lowest terms within the limits (E = 0), or there is none (E = 4). -/
def IsFrac (n d V D E : Int) : Prop :=
  (E = 0 ∧ vldB V D = true ∧ V * d = n * D) ∨ (E = 4 ∧ V = 0 ∧ D = 0 ∧ ∀ x y, vldB x y = true → x * d ≠ n * y)

theorem dvd_cop {k m n : Int} (h : Int.gcd k n = 1) (hd : k ∣ m * n) : k ∣ m :=
  Int.natAbs_dvd_natAbs.1 (Nat.Coprime.dvd_of_dvd_mul_right (k := k.natAbs) (n := n.natAbs) h (by rw [← Int.natAbs_mul]; exact Int.natAbs_dvd_natAbs.2 hd))

theorem cop_unique {x y a b : Int} (hy : 0 < y) (hb : 0 < b) (h1 : Int.gcd x y = 1) (h2 : Int.gcd a b = 1) (h : x * b = a * y) : x = a ∧ y = b := by
  have d1 : y ∣ b := dvd_cop (n := x) (by rw [Int.gcd_comm]; exact h1) ⟨a, by rw [Int.mul_comm, h, Int.mul_comm]⟩
  have d2 : b ∣ y := dvd_cop (n := a) (by rw [Int.gcd_comm]; exact h2) ⟨x, by rw [Int.mul_comm, ← h, Int.mul_comm]⟩
  have e : y = b := Int.dvd_antisymm (by omega) (by omega) d1 d2
  subst e
  exact ⟨Int.eq_of_mul_eq_mul_right (by omega) h, rfl⟩

theorem frac_unique {n d V D E V' D' E' : Int} (hd : d ≠ 0) (h : IsFrac n d V D E) (h' : IsFrac n d V' D' E') : V = V' ∧ D = D' ∧ E = E' := by
  rcases h with ⟨h1, h2, h3⟩ | ⟨h1, h2, h3, h4⟩ <;> rcases h' with ⟨k1, k2, k3⟩ | ⟨k1, k2, k3, k4⟩
  · obtain ⟨a1, a2, a3, a4, a5⟩ := vldB_true.1 h2
    obtain ⟨b1, b2, b3, b4, b5⟩ := vldB_true.1 k2
    have e : V * D' = V' * D := by
      refine Int.eq_of_mul_eq_mul_right hd ?_
      calc V * D' * d = (V * d) * D' := by ac_rfl
        _ = n * D * D' := by rw [h3]
        _ = (n * D') * D := by ac_rfl
        _ = V' * d * D := by rw [k3]
        _ = V' * D * d := by ac_rfl
    obtain ⟨u, v⟩ := cop_unique (by omega) (by omega) a5 b5 e
    exact ⟨u, v, by omega⟩
  · exact absurd h3 (k4 _ _ h2)
  · exact absurd k3 (h4 _ _ k2)
  · exact ⟨by omega, by omega, by omega⟩

/-- The parts of a pair in lowest terms. -/
theorem low_parts (n d : Int) (hd : 1 ≤ d) : Int.gcd (n / Int.gcd n d) (d / Int.gcd n d) = 1 ∧ 1 ≤ d / Int.gcd n d ∧ (n / Int.gcd n d) * d = n * (d / Int.gcd n d) := by
  have g0 : 0 < Int.gcd n d := Int.gcd_pos_of_ne_zero_right _ (by omega)
  have e1 : (Int.gcd n d : Int) * (n / Int.gcd n d) = n := Int.mul_ediv_cancel' (Int.gcd_dvd_left _ _)
  have e2 : (Int.gcd n d : Int) * (d / Int.gcd n d) = d := Int.mul_ediv_cancel' (Int.gcd_dvd_right _ _)
  refine ⟨Int.gcd_ediv_gcd_ediv_gcd g0, ?_, ?_⟩
  · rw [Int.le_ediv_iff_mul_le (by omega)]
    have := Int.le_of_dvd (by omega) (Int.gcd_dvd_right n d); omega
  · calc (n / Int.gcd n d) * d = (n / Int.gcd n d) * ((Int.gcd n d : Int) * (d / Int.gcd n d)) := by rw [e2]
      _ = ((Int.gcd n d : Int) * (n / Int.gcd n d)) * (d / Int.gcd n d) := by ac_rfl
      _ = n * (d / Int.gcd n d) := by rw [e1]

/-- What 'lowest' computes is the fraction in lowest terms. -/
theorem low_frac (neg : Bool) (n d : Int) (hn : 0 ≤ n) (hd : 1 ≤ d) : IsFrac (bif neg then -n else n) d (lowV neg n d) (lowD n d) (lowE n d) := by
  obtain ⟨c1, c2, c3⟩ := low_parts n d hd
  have q0 : 0 ≤ n / Int.gcd n d := Int.ediv_nonneg hn (by omega)
  unfold lowV lowD lowE
  generalize n / Int.gcd n d = a at *
  generalize d / Int.gcd n d = b at *
  by_cases h : a ≤ 1099511627776 ∧ b ≤ 1048576
  · rw [if_pos h, if_pos h, if_pos h]
    left
    cases neg
    · exact ⟨rfl, vldB_true.2 ⟨by omega, by omega, by simp; omega, by simp; omega, c1⟩, c3⟩
    · refine ⟨rfl, vldB_true.2 ⟨by omega, by omega, by simp; omega, by simp; omega, by simpa using c1⟩, ?_⟩
      simp only [cond_true, Int.neg_mul]; rw [c3]
  · rw [if_neg h, if_neg h, if_neg h]
    right
    refine ⟨rfl, rfl, rfl, fun x y hv e => ?_⟩
    obtain ⟨b1, b2, b3, b4, b5⟩ := vldB_true.1 hv
    cases neg
    · simp only [cond_false] at e
      have e' : x * b = a * y := by
        refine Int.eq_of_mul_eq_mul_right (a := d) (by omega) ?_
        calc x * b * d = (x * d) * b := by ac_rfl
          _ = n * b * y := by rw [e]; ac_rfl
          _ = a * y * d := by rw [← c3]; ac_rfl
      obtain ⟨u, v⟩ := cop_unique (by omega) (by omega) b5 c1 e'
      omega
    · simp only [cond_true] at e
      have e' : x * b = -a * y := by
        refine Int.eq_of_mul_eq_mul_right (a := d) (by omega) ?_
        calc x * b * d = (x * d) * b := by ac_rfl
          _ = -(n * b) * y := by rw [e, Int.neg_mul, Int.neg_mul, Int.neg_mul]; congr 1; ac_rfl
          _ = -a * y * d := by rw [← c3, Int.neg_mul, Int.neg_mul, Int.neg_mul]; congr 1; ac_rfl
      obtain ⟨u, v⟩ := cop_unique (by omega) (by omega) b5 (by simpa using c1) e'
      omega

theorem frac_neg {n d V D E : Int} (h : IsFrac (-n) (-d) V D E) : IsFrac n d V D E := by
  rcases h with ⟨h1, h2, h3⟩ | ⟨h1, h2, h3, h4⟩
  · refine Or.inl ⟨h1, h2, ?_⟩
    rw [Int.mul_neg, Int.neg_mul] at h3; omega
  · refine Or.inr ⟨h1, h2, h3, fun x y hv e => h4 x y hv ?_⟩
    rw [Int.mul_neg, Int.neg_mul, e]

theorem frac_size {n d V D E : Int} (hd : d ≠ 0) (h : IsFrac (bif (decide (n < 0) != decide (d < 0)) then -(n.natAbs : Int) else n.natAbs) d.natAbs V D E) : IsFrac n d V D E := by
  by_cases h1 : n < 0 <;> by_cases h2 : d < 0
  · refine frac_neg ?_
    simp only [h1, h2, decide_true, bne_self_eq_false, cond_false] at h
    rwa [show ((n.natAbs : Int)) = -n from by omega, show ((d.natAbs : Int)) = -d from by omega] at h
  · simp only [h1, h2, decide_true, decide_false, Bool.bne_false, cond_true] at h
    rwa [show -((n.natAbs : Int)) = n from by omega, show ((d.natAbs : Int)) = d from by omega] at h
  · refine frac_neg ?_
    simp only [h1, h2, decide_true, decide_false, Bool.false_bne, cond_true] at h
    rwa [show ((n.natAbs : Int)) = n from by omega, show ((d.natAbs : Int)) = -d from by omega] at h
  · simp only [h1, h2, decide_false, bne_self_eq_false, cond_false] at h
    rwa [show ((n.natAbs : Int)) = n from by omega, show ((d.natAbs : Int)) = d from by omega] at h
end Go.Proofs.Ytlfffobfcledcaa

/- Make, Add, Sub, Mul, Div and Cmp of package num, by what their results are. -/
namespace Go.Proofs.Ytlfffobfcledcaa
open Go.RowKit
set_option linter.unusedVariables false
set_option linter.unusedSimpArgs false

/-- A struct result's value. -/
def fracV (V D E : Int) : Value := .tuple #[.agg #[.int .i64 V, .int .i64 D], .int .i64 E]

/-- What a call of a fraction's function leaves: a result of which R holds; old memory untouched. -/
def Res (R : Int → Int → Int → Prop) (w : World) (e : Ending) (w' : World) : Prop := ∃ V D E, R V D E ∧ e = .returned (fracV V D E) ∧ Below w.heap.size w w'

theorem lowest_rel (neg : Bool) (n d : Int) (h1 : 0 ≤ n) (h2 : n ≤ 18446744073709551615) (h3 : 1 ≤ d) (h4 : d ≤ 18446744073709551615) (w : World) :
    Calls Try.prog 65 #[.bool neg, .int .u64 n, .int .u64 d] w (Res (IsFrac (bif neg then -n else n) d) w) :=
  (lowest_any neg n d h1 h2 h3 h4 w).mono fun _ _ ⟨a, b⟩ => ⟨_, _, _, low_frac neg n d h1 h3, a, b⟩

theorem Make_zero (n : Int) (w : World) :
    Calls Try.prog 38 #[.int .i64 n, .int .i64 0] w (Res (fun V D E => V = 0 ∧ D = 0 ∧ E = 5) w) := by
  go_enter Try.func38, Try.ntmps38
  go_wp2_with fail
  exact bodyPost_ret (v := fracV 0 0 5) (by simp [results, Try.results38, go_sem, fracV]) rfl ⟨0, 0, 5, ⟨rfl, rfl, rfl⟩, rfl, (Below.refl _ _).alloc (Nat.le_refl _) _⟩

theorem Make_any (n d : Int) (n1 : -9223372036854775808 ≤ n) (n2 : n ≤ 9223372036854775807) (d1 : -9223372036854775808 ≤ d) (d2 : d ≤ 9223372036854775807) (hd : d ≠ 0) (w : World) :
    Calls Try.prog 38 #[.int .i64 n, .int .i64 d] w (Res (IsFrac n d) w) := by
  have hd' : (d == 0) = false := by simpa using hd
  have HD := Lib.hid hd; clear hd
  have z : (1 : Int) ≤ d.natAbs := by have := HD.out; omega
  go_enter Try.func38, Try.ntmps38
  go_wp2_with fail
  refine (size_any _ n1 n2 _).mono ?_
  rintro e w' ⟨rfl, rfl⟩
  go_wp2_with fail
  refine (size_any _ d1 d2 _).mono ?_
  rintro e w' ⟨rfl, rfl⟩
  go_wp2_with fail
  refine (lowest_rel _ _ _ (by omega) (by omega) z (by omega) _).mono ?_
  rintro e w1 ⟨V, D, E, hF, rfl, hb⟩
  unfold fracV
  have HF := Lib.hid (frac_size HD.out hF); clear hF
  obtain ⟨hc, hf⟩ := bcell hb
  have hz : w.heap.size < w1.heap.size := by have := hb.size; simp at this; omega
  go_wp2_with fail
  refine bodyPost_ret (v := fracV V D E) (by simp [results, Try.results38, go_sem, fracV, hc, hz]) rfl ⟨V, D, E, HF.out, rfl, ?_⟩
  exact ((((Below.refl _ _).alloc (Nat.le_refl _) _).trans (hb.mono (by simp))).setCell (by simp) _).setCell (by simp) _
end Go.Proofs.Ytlfffobfcledcaa

/- The reference's Lowest. -/
namespace Go.Proofs.Ytlfffobfcledcaa
open Go.RowKit
set_option linter.unusedVariables false
set_option linter.unusedSimpArgs false

/-- Two boxed numbers and a fraction's box. -/
structure BoxF (w v : World) (s t : Bool) (P Q : Value) : Prop where
  a0 : v.cell? ⟨w.heap.size, 0, none⟩ = some (.bool s)
  a1 : v.cell? ⟨w.heap.size, 1, none⟩ = some P
  b0 : v.cell? ⟨w.heap.size + 1, 0, none⟩ = some (.bool t)
  b1 : v.cell? ⟨w.heap.size + 1, 1, none⟩ = some Q
  c0 : v.cell? ⟨w.heap.size + 1 + 1, 0, none⟩ = some (.int .i64 0)
  c1 : v.cell? ⟨w.heap.size + 1 + 1, 1, none⟩ = some (.int .i64 0)
  f0 : v.frozen? ⟨w.heap.size + 1 + 1, 0, none⟩ = false
  f1 : v.frozen? ⟨w.heap.size + 1 + 1, 1, none⟩ = false
  sz : w.heap.size + 1 + 1 < v.heap.size
  bel : Below w.heap.size w v
theorem BoxF.below {w v v' : World} {s t : Bool} {P Q : Value} (h : BoxF w v s t P Q) (hb : Below v.heap.size v v') : BoxF w v' s t P Q := by
  obtain ⟨h1, h2, h3, h4, h5, h6, h7, h8, h9, h10⟩ := h
  have z0 : w.heap.size < v.heap.size := by omega
  have z1 : w.heap.size + 1 < v.heap.size := by omega
  exact ⟨(hb.cell (p := ⟨w.heap.size, 0, none⟩) z0).trans h1, (hb.cell (p := ⟨w.heap.size, 1, none⟩) z0).trans h2, (hb.cell (p := ⟨w.heap.size + 1, 0, none⟩) z1).trans h3, (hb.cell (p := ⟨w.heap.size + 1, 1, none⟩) z1).trans h4,
    (hb.cell (p := ⟨w.heap.size + 1 + 1, 0, none⟩) h9).trans h5, (hb.cell (p := ⟨w.heap.size + 1 + 1, 1, none⟩) h9).trans h6, (hb.frozen (p := ⟨w.heap.size + 1 + 1, 0, none⟩) h9).trans h7, (hb.frozen (p := ⟨w.heap.size + 1 + 1, 1, none⟩) h9).trans h8, Nat.lt_of_lt_of_le h9 hb.size, h10.trans (hb.mono h10.size)⟩
theorem BoxF.new (w : World) (s t : Bool) (P Q : Value) : BoxF w (((w.alloc (Obj.cells #[Value.bool s, P] 76)).alloc (Obj.cells #[Value.bool t, Q] 76)).alloc (Obj.cells #[Value.int .i64 0, Value.int .i64 0] 40)) s t P Q := by
  refine ⟨?_, ?_, ?_, ?_, ?_, ?_, ?_, ?_, ?_, by go_grown⟩ <;> simp [go_sem]
theorem BoxF.drew {w v : World} {s t : Bool} {P Q : Value} (h : BoxF w v s t P Q) : BoxF w v.drew s t P Q := ⟨h.a0, h.a1, h.b0, h.b1, h.c0, h.c1, h.f0, h.f1, h.sz, h.bel.drew⟩

theorem sgn_abs (X : Int) : (bif decide (X < 0) then -(X.natAbs : Int) else (X.natAbs : Int)) = X := by
  by_cases h : X < 0 <;> simp [h] <;> omega

theorem low_end {s : Bool} {X Y P Q : Int} (hX : (bif s then -(X.natAbs : Int) else (X.natAbs : Int)) = X) (hY : 0 < Y) (hP : P = bif s then -((X.natAbs : Int) / (Int.gcd (X.natAbs : Int) Y.natAbs : Int)) else (X.natAbs : Int) / (Int.gcd (X.natAbs : Int) Y.natAbs : Int)) (hQ : Q = (Y.natAbs : Int) / (Int.gcd (X.natAbs : Int) Y.natAbs : Int)) :
    ((P.natAbs : Int) ≤ 1099511627776 → (Q.natAbs : Int) ≤ 1048576 → IsFrac X Y P Q 0) ∧ ((1099511627776 < (P.natAbs : Int) ∨ 1048576 < (Q.natAbs : Int)) → IsFrac X Y 0 0 4) := by
  have Q0 := Int.ediv_nonneg (show 0 ≤ (X.natAbs : Int) by omega) (show 0 ≤ (Int.gcd (X.natAbs : Int) Y.natAbs : Int) by omega)
  have Q1 := Int.ediv_nonneg (show 0 ≤ (Y.natAbs : Int) by omega) (show 0 ≤ (Int.gcd (X.natAbs : Int) Y.natAbs : Int) by omega)
  have LF := low_frac s X.natAbs Y.natAbs (by omega) (by omega)
  rw [hX, show (Y.natAbs : Int) = Y from by omega] at LF
  rw [show (Y.natAbs : Int) = Y from by omega] at hP hQ Q0 Q1
  have PA : (P.natAbs : Int) = (X.natAbs : Int) / (Int.gcd (X.natAbs : Int) Y : Int) := by rw [hP]; exact whole_abs s Q0
  have QA : (Q.natAbs : Int) = Y / (Int.gcd (X.natAbs : Int) Y : Int) := by rw [hQ]; omega
  unfold lowV lowD lowE at LF
  rw [← PA, ← QA] at LF
  constructor
  · intro a b
    rw [if_pos ⟨a, b⟩, if_pos ⟨a, b⟩, if_pos ⟨a, b⟩] at LF
    rw [PA, ← hP, QA, ← hQ] at LF
    exact LF
  · intro a
    have na : ¬ ((P.natAbs : Int) ≤ 1099511627776 ∧ (Q.natAbs : Int) ≤ 1048576) := by omega
    rw [if_neg na, if_neg na, if_neg na] at LF
    exact LF

set_option maxRecDepth 100000 in
set_option maxHeartbeats 4000000 in
theorem Lowest_pos {N : Nat} (p q : Option Addr) (c d : Nat) (l m : List Int) (X Y : Int) (w : World) (A : BigR N w p l X) (B : BigR N w q m Y) (hY : 0 < Y) (hN : N ≤ 80000) :
    Calls Try.prog 40 #[.agg #[.bool (decide (X < 0)), .slice p l.length c], .agg #[.bool (decide (Y < 0)), .slice q m.length d]] w (Res (IsFrac X Y) w) := by
  have K := BoxF.new w (decide (X < 0)) (decide (Y < 0)) (.slice p l.length c) (.slice q m.length d)
  have conv : ∀ V D E, IsFrac X Y V D E → IsFrac X Y V D E := fun _ _ _ h => h
  have hXs : (bif decide (X < 0) then -(X.natAbs : Int) else (X.natAbs : Int)) = X := sgn_abs _
  have ht : decide (Y < 0) = false := by simp; omega
  rw [ht] at K ⊢
  have bx := A.below K.bel
  have by' := B.below K.bel
  clear ht A B
  generalize decide (X < 0) = s at *
  go_enter Try.func40, Try.ntmps40
  go_upto_region 1 with fail
  generalize (((w.alloc (Obj.cells #[Value.bool s, Value.slice p l.length c] 76)).alloc (Obj.cells #[Value.bool false, Value.slice q m.length d] 76)).alloc (Obj.cells #[Value.int .i64 0, Value.int .i64 0] 40)) = v at *
  -- X over Y, Y above 0
  have HX := Lib.hid bx
  have HY := Lib.hid by'
  have HK := Lib.hid K
  have HC := Lib.hid conv
  have HXs := Lib.hid hXs
  have Y1 : 1 ≤ (Y.natAbs : Int) := by omega
  have Y2 := Lib.hid hY
  clear bx by' K conv hXs hY
  obtain ⟨k1, k2, k3, k4, k5, k6, k7, k8, k9, kb⟩ := HK.out
  have GC := Lib.hid (fun W (h : Below v.heap.size v W) => gcdD_any N p q c d l m X.natAbs Y.natAbs W HX.out.can HY.out.can (HX.out.row.below h) (HY.out.row.below h) HX.out.size HY.out.size (by omega))
  have LX := HX.out.size
  have LY := HY.out.size
  generalize hln : l.length = nl at *
  generalize hmn : m.length = nm at *
  have HLN := Lib.hid hln
  have HMN := Lib.hid hmn
  clear hln hmn
  go_wp2_with fail
  refine (GC.out _ (Below.refl _ _)).mono ?_
  rintro e v1 ⟨g, pg, cg, rfl, g1, g2, g3, g4⟩
  obtain ⟨G, hG⟩ : ∃ G : Int, G = (Int.gcd (X.natAbs : Int) Y.natAbs : Int) := ⟨_, rfl⟩
  rw [← hG] at g1
  have gp : 0 < G := by
    have := Int.gcd_pos_of_ne_zero_right (X.natAbs : Int) (show (Y.natAbs : Int) ≠ 0 by omega)
    omega
  have HG := Lib.hid hG
  clear hG
  have DX := Lib.hid (fun W (h : Below v1.heap.size v1 W) => by
    have := divD_any p pg c cg l g G W HX.out.can.digs g1 gp ((HX.out.row.below g4).below h) (g3.below h) (by have := HLN.out; omega) (by omega)
    rwa [HX.out.can.val, HLN.out] at this)
  have DY := Lib.hid (fun W (h : Below v1.heap.size v1 W) => by
    have := divD_any q pg d cg m g G W HY.out.can.digs g1 gp ((HY.out.row.below g4).below h) (g3.below h) (by have := HMN.out; omega) (by omega)
    rwa [HY.out.can.val, HMN.out] at this)
  have K1 := Lib.hid (HK.out.below g4)
  clear k1 k2 k3 k4 k5 k6 k7 k8 k9 kb g1 g2 g3 g4 GC
  obtain ⟨k1, k2, k3, k4, k5, k6, k7, k8, k9, kb⟩ := K1.out
  go_wp2_with fail
  refine (DX.out _ (Below.refl _ _)).mono ?_
  rintro e v2 ⟨q1, pq1, cq1, r1, pr1, cr1, rfl, a1, a2, a3, a4, a5, a6, a7⟩
  have K2 := Lib.hid (K1.out.below a7)
  have A1 := Lib.hid a1
  have A2 := Lib.hid a2
  have A3 := Lib.hid a3
  have A7 := Lib.hid a7
  clear a1 a2 a3 a4 a5 a6 a7 DX k1 k2 k3 k4 k5 k6 k7 k8 k9 kb
  obtain ⟨k1, k2, k3, k4, k5, k6, k7, k8, k9, kb⟩ := K2.out
  go_wp2_with fail
  refine (DY.out _ A7.out).mono ?_
  rintro e v3 ⟨q2, pq2, cq2, r2, pr2, cr2, rfl, b1, b2, b3, b4, b5, b6, b7⟩
  have K3 := Lib.hid (K2.out.below b7)
  have B1 := Lib.hid b1
  have B2 := Lib.hid b2
  have B3 := Lib.hid b3
  have A3' := Lib.hid (A3.out.below b7)
  clear b1 b2 b3 b4 b5 b6 b7 DY k1 k2 k3 k4 k5 k6 k7 k8 k9 kb
  obtain ⟨k1, k2, k3, k4, k5, k6, k7, k8, k9, kb⟩ := K3.out
  obtain ⟨P, hP⟩ : ∃ P, P = (bif s then -((X.natAbs : Int) / G) else (X.natAbs : Int) / G) := ⟨_, rfl⟩
  have W1 := Lib.hid (whole_to hP.symm pq1 cq1 q1 v3 A1.out.digs A1.out.val A3'.out (by have := A2.out; omega))
  have HP := Lib.hid hP
  clear hP
  go_wp2_with fail
  refine (W1.out).mono ?_
  rintro e v4 ⟨pw, lw, cw, rfl, w1, w2, w3⟩
  have WI := Lib.hid (Within_any pw cw lw P 1099511627776 (by omega) (by omega) v4 w1 (by have := A2.out; omega))
  have B3' := Lib.hid (B3.out.below w3)
  have K4 := Lib.hid (K3.out.below w3)
  clear w1 w2 w3 W1 k1 k2 k3 k4 k5 k6 k7 k8 k9 kb
  generalize decide (P < 0) = sp at *
  go_wp2_with fail
  refine (WI.out).mono ?_
  rintro e v5 ⟨rfl, w4⟩
  obtain ⟨Q, hQ⟩ : ∃ Q, Q = (Y.natAbs : Int) / G := ⟨_, rfl⟩
  have K5 := Lib.hid (K4.out.below w4)
  have W2 := Lib.hid (whole_to (s := false) (X := Q) hQ.symm pq2 cq2 q2 v5 B1.out.digs B1.out.val (B3'.out.below w4) (by have := B2.out; omega))
  have HQ := Lib.hid hQ
  clear w4 WI hQ
  go_wp2_with fail
  refine (W2.out).mono ?_
  rintro e v6 ⟨px, lx, cx, rfl, x1, x2, x3⟩
  have WJ := Lib.hid (Within_any px cx lx Q 1048576 (by omega) (by omega) v6 x1 (by have := B2.out; omega))
  have K6 := Lib.hid (K5.out.below x3)
  clear x1 x2 x3 W2
  generalize decide (Q < 0) = sq at *
  go_wp2_with fail
  refine (WJ.out).mono ?_
  rintro e v7 ⟨rfl, x4⟩
  have K7 := Lib.hid (K6.out.below x4)
  clear x4 WJ
  obtain ⟨k1, k2, k3, k4, k5, k6, k7, k8, k9, kb⟩ := K7.out
  obtain ⟨E1, E2⟩ := low_end (P := P) (Q := Q) HXs.out Y2.out (by rw [← HG.out]; exact HP.out) (by rw [← HG.out]; exact HQ.out)
  have E1' := Lib.hid E1
  have E2' := Lib.hid E2
  clear E1 E2
  by_cases hp : (P.natAbs : Int) ≤ 1099511627776
  · by_cases hq : (Q.natAbs : Int) ≤ 1048576
    · have F := Lib.hid (HC.out _ _ _ (E1'.out hp hq))
      rw [show wiV P 1099511627776 = P from if_pos hp, show wiB P 1099511627776 = true from by simpa [wiB] using hp, show wiV Q 1048576 = Q from if_pos hq, show wiB Q 1048576 = true from by simpa [wiB] using hq]
      clear hp hq
      go_wp2_with fail
      refine bodyPost_ret (v := fracV P Q 0) (by simp [results, Try.results40, go_sem, fracV, k5, k6, k9]) rfl ⟨P, Q, 0, F.out, rfl, ?_⟩
      exact by repeat' (first | exact Below.refl _ _ | refine below_drewN ?_ _ | refine Below.setCell ?_ ?_ _ | refine Below.alloc ?_ ?_ _ | (with_reducible exact kb) | (simp; done) | (simp; omega) | omega)
    · have F := Lib.hid (HC.out _ _ _ (E2'.out (.inr (by omega))))
      rw [show wiV P 1099511627776 = P from if_pos hp, show wiB P 1099511627776 = true from by simpa [wiB] using hp, show wiV Q 1048576 = 0 from if_neg hq, show wiB Q 1048576 = false from by simpa [wiB] using hq]
      clear hp hq
      go_wp2_with fail
      refine bodyPost_ret (v := fracV 0 0 4) (by simp [results, Try.results40, go_sem, fracV, k5, k6, k9]) rfl ⟨0, 0, 4, F.out, rfl, ?_⟩
      exact by repeat' (first | exact Below.refl _ _ | refine below_drewN ?_ _ | refine Below.setCell ?_ ?_ _ | refine Below.alloc ?_ ?_ _ | (with_reducible exact kb) | (simp; done) | (simp; omega) | omega)
  · have F := Lib.hid (HC.out _ _ _ (E2'.out (.inl (by omega))))
    rw [show wiV P 1099511627776 = 0 from if_neg hp, show wiB P 1099511627776 = false from by simpa [wiB] using hp]
    generalize wiV Q 1048576 = vq
    generalize wiB Q 1048576 = bq
    clear hp
    go_wp2_with fail
    refine bodyPost_ret (v := fracV 0 0 4) (by simp [results, Try.results40, go_sem, fracV, k5, k6, k9]) rfl ⟨0, 0, 4, F.out, rfl, ?_⟩
    exact by repeat' (first | exact Below.refl _ _ | refine below_drewN ?_ _ | refine Below.setCell ?_ ?_ _ | refine Below.alloc ?_ ?_ _ | (with_reducible exact kb) | (simp; done) | (simp; omega) | omega)

/-- Both numbers with their signs turned. -/
def Turned (N : Nat) (w : World) (X Y : Int) (wx : World) : Prop :=
  ∃ p l c q m d, BoxF w wx (decide (-X < 0)) (decide (-Y < 0)) (.slice p (List.length l) c) (.slice q (List.length m) d) ∧ BigR N wx p l (-X) ∧ BigR N wx q m (-Y)
theorem turned_of {N : Nat} {w v wx : World} {X Y : Int} {s t : Bool} {P Q : Value} {p q : Option Addr} {l m : List Int} {c d : Nat} (K : BoxF w v s t P Q) (hb : Below v.heap.size v wx) (A : BigR N wx p l (-X)) (B : BigR N wx q m (-Y))
    (fa : ∀ a, p = some a → v.heap.size ≤ a.block) (fb : ∀ a, q = some a → v.heap.size ≤ a.block) :
    Turned N w X Y ((((wx.setCell ⟨w.heap.size, 0, none⟩ (.bool (decide (-X < 0)))).setCell ⟨w.heap.size, 1, none⟩ (.slice p l.length c)).setCell ⟨w.heap.size + 1, 0, none⟩ (.bool (decide (-Y < 0)))).setCell ⟨w.heap.size + 1, 1, none⟩ (.slice q m.length d)) := by
  have K' := K.below hb
  have sz := K.sz
  have f0 : ∀ a, p = some a → a.block ≠ w.heap.size := fun a h => by have := fa a h; omega
  have f1 : ∀ a, p = some a → a.block ≠ w.heap.size + 1 := fun a h => by have := fa a h; omega
  have e0 : ∀ a, q = some a → a.block ≠ w.heap.size := fun a h => by have := fb a h; omega
  have e1 : ∀ a, q = some a → a.block ≠ w.heap.size + 1 := fun a h => by have := fb a h; omega
  have sz' := K'.sz
  refine ⟨p, l, c, q, m, d, ?_, ⟨A.can, A.size, ?_⟩, ⟨B.can, B.size, ?_⟩⟩
  · generalize decide (-X < 0) = s'
    generalize decide (-Y < 0) = t'
    obtain ⟨k1, k2, k3, k4, k5, k6, k7, k8, k9, kb⟩ := K'
    have z0 : w.heap.size < wx.heap.size := by omega
    have z1 : w.heap.size + 1 < wx.heap.size := by omega
    refine ⟨?_, ?_, ?_, ?_, ?_, ?_, ?_, ?_, ?_, (((kb.setCell (Nat.le_refl _) _).setCell (Nat.le_refl _) _).setCell (Nat.le_succ _) _).setCell (Nat.le_succ _) _⟩
    all_goals simp [go_sem, k1, k2, k3, k4, k5, k6, k7, k8, k9, z0, z1]
  · exact (((A.row.setCell (q := ⟨w.heap.size, 0, none⟩) f0 _).setCell (q := ⟨w.heap.size, 1, none⟩) f0 _).setCell (q := ⟨w.heap.size + 1, 0, none⟩) f1 _).setCell (q := ⟨w.heap.size + 1, 1, none⟩) f1 _
  · exact (((B.row.setCell (q := ⟨w.heap.size, 0, none⟩) e0 _).setCell (q := ⟨w.heap.size, 1, none⟩) e0 _).setCell (q := ⟨w.heap.size + 1, 0, none⟩) e1 _).setCell (q := ⟨w.heap.size + 1, 1, none⟩) e1 _
end Go.Proofs.Ytlfffobfcledcaa

/- The reference's Lowest of a denominator below 0; Make. -/
namespace Go.Proofs.Ytlfffobfcledcaa
open Go.RowKit
set_option linter.unusedVariables false
set_option linter.unusedSimpArgs false

/-- The two numbers' boxes may be written. -/
def Free4 (w v : World) : Prop := v.frozen? ⟨w.heap.size, 0, none⟩ = false ∧ v.frozen? ⟨w.heap.size, 1, none⟩ = false ∧ v.frozen? ⟨w.heap.size + 1, 0, none⟩ = false ∧ v.frozen? ⟨w.heap.size + 1, 1, none⟩ = false
theorem Free4.below {w v v' : World} (h : Free4 w v) (hz : w.heap.size + 1 + 1 < v.heap.size) (hb : Below v.heap.size v v') : Free4 w v' := by
  have z0 : w.heap.size < v.heap.size := by omega
  have z1 : w.heap.size + 1 < v.heap.size := by omega
  exact ⟨(hb.frozen (p := ⟨w.heap.size, 0, none⟩) z0).trans h.1, (hb.frozen (p := ⟨w.heap.size, 1, none⟩) z0).trans h.2.1, (hb.frozen (p := ⟨w.heap.size + 1, 0, none⟩) z1).trans h.2.2.1, (hb.frozen (p := ⟨w.heap.size + 1, 1, none⟩) z1).trans h.2.2.2⟩
theorem Free4.new (w : World) (s t : Bool) (P Q : Value) : Free4 w (((w.alloc (Obj.cells #[Value.bool s, P] 76)).alloc (Obj.cells #[Value.bool t, Q] 76)).alloc (Obj.cells #[Value.int .i64 0, Value.int .i64 0] 40)) := by
  refine ⟨?_, ?_, ?_, ?_⟩ <;> simp [go_sem]

set_option maxRecDepth 100000 in
set_option maxHeartbeats 4000000 in
theorem Lowest_neg {N : Nat} (p q : Option Addr) (c d : Nat) (l m : List Int) (X Y : Int) (w : World) (A : BigR N w p l X) (B : BigR N w q m Y) (hY : Y < 0) (hN : N ≤ 80000) :
    Calls Try.prog 40 #[.agg #[.bool (decide (X < 0)), .slice p l.length c], .agg #[.bool (decide (Y < 0)), .slice q m.length d]] w (Res (IsFrac X Y) w) := by
  have K := BoxF.new w (decide (X < 0)) (decide (Y < 0)) (.slice p l.length c) (.slice q m.length d)
  have ht : decide (Y < 0) = true := by simpa using hY
  have FR := Free4.new w (decide (X < 0)) (decide (Y < 0)) (.slice p l.length c) (.slice q m.length d)
  have NX := Lib.hid (fun W (h : Below w.heap.size w W) => Neg_any p c l X W (A.below h) (by omega))
  have NY := Lib.hid (fun W (h : Below w.heap.size w W) => Neg_any q d m Y W (B.below h) (by omega))
  rw [ht] at K NY FR ⊢
  clear ht A B
  generalize decide (X < 0) = s at *
  obtain ⟨sx, hsx⟩ : ∃ b, b = decide (-X < 0) := ⟨_, rfl⟩
  obtain ⟨sy, hsy⟩ : ∃ b, b = decide (-Y < 0) := ⟨_, rfl⟩
  unfold BigRes at NX NY
  rw [← hsx] at NX
  rw [← hsy] at NY
  have HSX := Lib.hid hsx
  have HSY := Lib.hid hsy
  clear hsx hsy
  go_enter Try.func40, Try.ntmps40
  go_upto_region 1 with fail
  generalize (((w.alloc (Obj.cells #[Value.bool s, Value.slice p l.length c] 76)).alloc (Obj.cells #[Value.bool true, Value.slice q m.length d] 76)).alloc (Obj.cells #[Value.int .i64 0, Value.int .i64 0] 40)) = v at *
  have HK := Lib.hid K
  have HF := Lib.hid FR
  have HZ := Lib.hid K.sz
  obtain ⟨k1, k2, k3, k4, k5, k6, k7, k8, k9, kb⟩ := K
  obtain ⟨q1, q2, q3, q4⟩ := FR
  go_upto_region 2 with fail
  go_cut [17] from 17 to 20 (fun _ wx => Turned N w X Y wx)
  case first =>
    have hcur : Below v.heap.size v v := Below.refl _ _
    go_region_law (first | (go_simp; go_at_call 67; first | (refine (NX.out _ (by first | exact kb | exact kb.drew | exact below_drewN kb _)).mono ?_; rintro e wx ⟨p1, l1, c1, rfl, x1, x2, x3⟩; replace hcur : Below v.heap.size v wx := (by first | exact hcur.trans (x3.mono hcur.size) | exact hcur.drew.trans (x3.mono hcur.size) | exact (below_drewN hcur _).trans (x3.mono hcur.size)); clear k1 k2 k3 k4 k5 k6 k7 k8 k9 kb q1 q2 q3 q4; obtain ⟨k1, k2, k3, k4, k5, k6, k7, k8, k9, kb⟩ := HK.out.below hcur; obtain ⟨q1, q2, q3, q4⟩ := HF.out.below HZ.out hcur; have X1 := Lib.hid x1; have X2 := Lib.hid x2; have X3 := Lib.hid x3; clear x1 x2 x3) | (refine (NY.out _ (by first | exact kb | exact kb.drew | exact below_drewN kb _)).mono ?_; rintro e wy ⟨p2, l2, c2, rfl, y1, y2, y3⟩; replace hcur : Below v.heap.size v wy := (by first | exact hcur.trans (y3.mono hcur.size) | exact hcur.drew.trans (y3.mono hcur.size) | exact (below_drewN hcur _).trans (y3.mono hcur.size)); clear k1 k2 k3 k4 k5 k6 k7 k8 k9 kb q1 q2 q3 q4; obtain ⟨k1, k2, k3, k4, k5, k6, k7, k8, k9, kb⟩ := HK.out.below hcur; obtain ⟨q1, q2, q3, q4⟩ := HF.out.below HZ.out hcur; have Y1 := Lib.hid y1; have Y2 := Lib.hid y2; have Y3 := Lib.hid y3; clear y1 y2 y3)))
    all_goals
      first
        | (have T := turned_of (c := c1) (d := c2) HK.out hcur (X1.out.below (by first | exact Y3.out | exact ((Below.refl _ _).drew).trans Y3.out)) Y1.out X2.out (fun a h => Nat.le_trans X3.out.size (Y2.out a h)); rw [← HSX.out, ← HSY.out] at T; have TT := Lib.hid T; clear T)
        | (have T := turned_of (c := c1) (d := c2) HK.out hcur X1.out (Y1.out.below (by first | exact X3.out | exact ((Below.refl _ _).drew).trans X3.out)) (fun a h => Nat.le_trans Y3.out.size (X2.out a h)) Y2.out; rw [← HSX.out, ← HSY.out] at T; have TT := Lib.hid T; clear T)
    all_goals clear X1 X2 X3 Y1 Y2 Y3 NX NY
    all_goals go_wp2_with fail
    all_goals go_meet
    all_goals exact TT.out
  case rest =>
    obtain ⟨p', l', c', q', m', d', K, bx, by'⟩ := hcut
    have ht : decide (-Y < 0) = false := by simp; omega
    have hY' : 0 < -Y := by omega
    have conv : ∀ V D E, IsFrac (-X) (-Y) V D E → IsFrac X Y V D E := fun _ _ _ h => frac_neg h
    have hXs : (bif decide (-X < 0) then -((-X).natAbs : Int) else ((-X).natAbs : Int)) = -X := sgn_abs _
    rw [ht] at K
    clear ht hY HK HF HZ HSX HSY k1 k2 k3 k4 k5 k6 k7 k8 k9 kb q1 q2 q3 q4 NX NY
    generalize decide (-X < 0) = s' at *
    generalize -X = XX at *
    generalize -Y = YY at *
    -- XX over YY, YY above 0
    have HX := Lib.hid bx
    have HY := Lib.hid by'
    have HK := Lib.hid K
    have HC := Lib.hid conv
    have HXs := Lib.hid hXs
    have Y1 : 1 ≤ (YY.natAbs : Int) := by omega
    have Y2 := Lib.hid hY'
    clear bx by' K conv hXs hY'
    obtain ⟨k1, k2, k3, k4, k5, k6, k7, k8, k9, kb⟩ := HK.out
    have GC := Lib.hid (fun W (h : Below wc.heap.size wc W) => gcdD_any N p' q' c' d' l' m' XX.natAbs YY.natAbs W HX.out.can HY.out.can (HX.out.row.below h) (HY.out.row.below h) HX.out.size HY.out.size (by omega))
    have LX := HX.out.size
    have LY := HY.out.size
    generalize hln : l'.length = nl at *
    generalize hmn : m'.length = nm at *
    have HLN := Lib.hid hln
    have HMN := Lib.hid hmn
    clear hln hmn
    go_wp2_with fail
    refine (GC.out _ (Below.refl _ _)).mono ?_
    rintro e v1 ⟨g, pg, cg, rfl, g1, g2, g3, g4⟩
    obtain ⟨G, hG⟩ : ∃ G : Int, G = (Int.gcd (XX.natAbs : Int) YY.natAbs : Int) := ⟨_, rfl⟩
    rw [← hG] at g1
    have gp : 0 < G := by
      have := Int.gcd_pos_of_ne_zero_right (XX.natAbs : Int) (show (YY.natAbs : Int) ≠ 0 by omega)
      omega
    have HG := Lib.hid hG
    clear hG
    have DX := Lib.hid (fun W (h : Below v1.heap.size v1 W) => by
      have := divD_any p' pg c' cg l' g G W HX.out.can.digs g1 gp ((HX.out.row.below g4).below h) (g3.below h) (by have := HLN.out; omega) (by omega)
      rwa [HX.out.can.val, HLN.out] at this)
    have DY := Lib.hid (fun W (h : Below v1.heap.size v1 W) => by
      have := divD_any q' pg d' cg m' g G W HY.out.can.digs g1 gp ((HY.out.row.below g4).below h) (g3.below h) (by have := HMN.out; omega) (by omega)
      rwa [HY.out.can.val, HMN.out] at this)
    have K1 := Lib.hid (HK.out.below g4)
    clear k1 k2 k3 k4 k5 k6 k7 k8 k9 kb g1 g2 g3 g4 GC
    obtain ⟨k1, k2, k3, k4, k5, k6, k7, k8, k9, kb⟩ := K1.out
    go_wp2_with fail
    refine (DX.out _ (Below.refl _ _)).mono ?_
    rintro e v2 ⟨q1, pq1, cq1, r1, pr1, cr1, rfl, a1, a2, a3, a4, a5, a6, a7⟩
    have K2 := Lib.hid (K1.out.below a7)
    have A1 := Lib.hid a1
    have A2 := Lib.hid a2
    have A3 := Lib.hid a3
    have A7 := Lib.hid a7
    clear a1 a2 a3 a4 a5 a6 a7 DX k1 k2 k3 k4 k5 k6 k7 k8 k9 kb
    obtain ⟨k1, k2, k3, k4, k5, k6, k7, k8, k9, kb⟩ := K2.out
    go_wp2_with fail
    refine (DY.out _ A7.out).mono ?_
    rintro e v3 ⟨q2, pq2, cq2, r2, pr2, cr2, rfl, b1, b2, b3, b4, b5, b6, b7⟩
    have K3 := Lib.hid (K2.out.below b7)
    have B1 := Lib.hid b1
    have B2 := Lib.hid b2
    have B3 := Lib.hid b3
    have A3' := Lib.hid (A3.out.below b7)
    clear b1 b2 b3 b4 b5 b6 b7 DY k1 k2 k3 k4 k5 k6 k7 k8 k9 kb
    obtain ⟨k1, k2, k3, k4, k5, k6, k7, k8, k9, kb⟩ := K3.out
    obtain ⟨P, hP⟩ : ∃ P, P = (bif s' then -((XX.natAbs : Int) / G) else (XX.natAbs : Int) / G) := ⟨_, rfl⟩
    have W1 := Lib.hid (whole_to hP.symm pq1 cq1 q1 v3 A1.out.digs A1.out.val A3'.out (by have := A2.out; omega))
    have HP := Lib.hid hP
    clear hP
    go_wp2_with fail
    refine (W1.out).mono ?_
    rintro e v4 ⟨pw, lw, cw, rfl, w1, w2, w3⟩
    have WI := Lib.hid (Within_any pw cw lw P 1099511627776 (by omega) (by omega) v4 w1 (by have := A2.out; omega))
    have B3' := Lib.hid (B3.out.below w3)
    have K4 := Lib.hid (K3.out.below w3)
    clear w1 w2 w3 W1 k1 k2 k3 k4 k5 k6 k7 k8 k9 kb
    generalize decide (P < 0) = sp at *
    go_wp2_with fail
    refine (WI.out).mono ?_
    rintro e v5 ⟨rfl, w4⟩
    obtain ⟨Q, hQ⟩ : ∃ Q, Q = (YY.natAbs : Int) / G := ⟨_, rfl⟩
    have K5 := Lib.hid (K4.out.below w4)
    have W2 := Lib.hid (whole_to (s := false) (X := Q) hQ.symm pq2 cq2 q2 v5 B1.out.digs B1.out.val (B3'.out.below w4) (by have := B2.out; omega))
    have HQ := Lib.hid hQ
    clear w4 WI hQ
    go_wp2_with fail
    refine (W2.out).mono ?_
    rintro e v6 ⟨px, lx, cx, rfl, x1, x2, x3⟩
    have WJ := Lib.hid (Within_any px cx lx Q 1048576 (by omega) (by omega) v6 x1 (by have := B2.out; omega))
    have K6 := Lib.hid (K5.out.below x3)
    clear x1 x2 x3 W2
    generalize decide (Q < 0) = sq at *
    go_wp2_with fail
    refine (WJ.out).mono ?_
    rintro e v7 ⟨rfl, x4⟩
    have K7 := Lib.hid (K6.out.below x4)
    clear x4 WJ
    obtain ⟨k1, k2, k3, k4, k5, k6, k7, k8, k9, kb⟩ := K7.out
    obtain ⟨E1, E2⟩ := low_end (P := P) (Q := Q) HXs.out Y2.out (by rw [← HG.out]; exact HP.out) (by rw [← HG.out]; exact HQ.out)
    have E1' := Lib.hid E1
    have E2' := Lib.hid E2
    clear E1 E2
    by_cases hp : (P.natAbs : Int) ≤ 1099511627776
    · by_cases hq : (Q.natAbs : Int) ≤ 1048576
      · have F := Lib.hid (HC.out _ _ _ (E1'.out hp hq))
        rw [show wiV P 1099511627776 = P from if_pos hp, show wiB P 1099511627776 = true from by simpa [wiB] using hp, show wiV Q 1048576 = Q from if_pos hq, show wiB Q 1048576 = true from by simpa [wiB] using hq]
        clear hp hq
        go_wp2_with fail
        refine bodyPost_ret (v := fracV P Q 0) (by simp [results, Try.results40, go_sem, fracV, k5, k6, k9]) rfl ⟨P, Q, 0, F.out, rfl, ?_⟩
        exact by repeat' (first | exact Below.refl _ _ | refine below_drewN ?_ _ | refine Below.setCell ?_ ?_ _ | refine Below.alloc ?_ ?_ _ | (with_reducible exact kb) | (simp; done) | (simp; omega) | omega)
      · have F := Lib.hid (HC.out _ _ _ (E2'.out (.inr (by omega))))
        rw [show wiV P 1099511627776 = P from if_pos hp, show wiB P 1099511627776 = true from by simpa [wiB] using hp, show wiV Q 1048576 = 0 from if_neg hq, show wiB Q 1048576 = false from by simpa [wiB] using hq]
        clear hp hq
        go_wp2_with fail
        refine bodyPost_ret (v := fracV 0 0 4) (by simp [results, Try.results40, go_sem, fracV, k5, k6, k9]) rfl ⟨0, 0, 4, F.out, rfl, ?_⟩
        exact by repeat' (first | exact Below.refl _ _ | refine below_drewN ?_ _ | refine Below.setCell ?_ ?_ _ | refine Below.alloc ?_ ?_ _ | (with_reducible exact kb) | (simp; done) | (simp; omega) | omega)
    · have F := Lib.hid (HC.out _ _ _ (E2'.out (.inl (by omega))))
      rw [show wiV P 1099511627776 = 0 from if_neg hp, show wiB P 1099511627776 = false from by simpa [wiB] using hp]
      generalize wiV Q 1048576 = vq
      generalize wiB Q 1048576 = bq
      clear hp
      go_wp2_with fail
      refine bodyPost_ret (v := fracV 0 0 4) (by simp [results, Try.results40, go_sem, fracV, k5, k6, k9]) rfl ⟨0, 0, 4, F.out, rfl, ?_⟩
      exact by repeat' (first | exact Below.refl _ _ | refine below_drewN ?_ _ | refine Below.setCell ?_ ?_ _ | refine Below.alloc ?_ ?_ _ | (with_reducible exact kb) | (simp; done) | (simp; omega) | omega)
end Go.Proofs.Ytlfffobfcledcaa

/- Knuth's division of two digits to the base 2^32: plain facts. -/
namespace Go.Proofs.Ytlfffobfcledcaa
open Go.RowKit
set_option linter.unusedVariables false
set_option linter.unusedSimpArgs false

/-- A divisor of two digits, its high one at least half the base; a numerator of three digits below the divisor times the base. -/
structure Dig (Y y1 y0 u c : Int) : Prop where
  hY : Y = y1 * 4294967296 + y0
  a1 : 2147483648 ≤ y1
  a2 : y1 < 4294967296
  b1 : 0 ≤ y0
  b2 : y0 < 4294967296
  u1 : 0 ≤ u
  u2 : u < Y
  c1 : 0 ≤ c
  c2 : c < 4294967296

theorem Dig.quo_nonneg {Y y1 y0 u c : Int} (h : Dig Y y1 y0 u c) : 0 ≤ (u * 4294967296 + c) / Y := Int.ediv_nonneg (by have := h.u1; have := h.c1; omega) (by have := h.u1; have := h.u2; omega)
theorem Dig.quo_lt {Y y1 y0 u c : Int} (h : Dig Y y1 y0 u c) : (u * 4294967296 + c) / Y < 4294967296 := by
  obtain ⟨hY, a1, a2, b1, b2, u1, u2, c1, c2⟩ := h
  rw [Int.ediv_lt_iff_lt_mul (by omega)]
  omega
/-- What is left when q times the divisor is taken away. -/
theorem Dig.left {Y y1 y0 u c : Int} (h : Dig Y y1 y0 u c) {q r : Int} (e : q * y1 + r = u) : u * 4294967296 + c - q * Y = r * 4294967296 + c - q * y0 := by
  have e1 : q * Y = q * y1 * 4294967296 + q * y0 := by rw [h.hY, Int.mul_add, Int.mul_assoc]
  omega
/-- The first guess is not too small, and too large by at most what the loop mends. -/
theorem Dig.guess {Y y1 y0 u c : Int} (h : Dig Y y1 y0 u c) : (u * 4294967296 + c) / Y ≤ u / y1 ∧ u / y1 ≤ 4294967297 ∧ (u / y1) * y1 + u % y1 = u ∧ 0 ≤ u % y1 ∧ u % y1 < 4294967296 ∧ 0 ≤ u / y1 := by
  have hq := h.quo_nonneg
  obtain ⟨hY, a1, a2, b1, b2, u1, u2, c1, c2⟩ := h
  refine ⟨?_, ?_, by rw [Int.mul_comm]; exact Int.mul_ediv_add_emod _ _, Int.emod_nonneg _ (by omega), by have := Int.emod_lt_of_pos u (show 0 < y1 by omega); omega, Int.ediv_nonneg u1 (by omega)⟩
  · rw [Int.le_ediv_iff_mul_le (by omega)]
    have k : (u * 4294967296 + c) / Y * Y ≤ u * 4294967296 + c := Int.ediv_mul_le _ (by omega)
    generalize (u * 4294967296 + c) / Y = q at *
    have e1 : q * Y = q * y1 * 4294967296 + q * y0 := by rw [hY, Int.mul_add, Int.mul_assoc]
    have e2 : 0 ≤ q * y0 := Int.mul_nonneg hq b1
    omega
  · have : u / y1 < 4294967298 := by rw [Int.ediv_lt_iff_lt_mul (by omega)]; omega
    omega
/-- The loop's test says that q is too large. -/
theorem Dig.over {Y y1 y0 u c : Int} (h : Dig Y y1 y0 u c) {q r : Int} (e : q * y1 + r = u) (t : 4294967296 ≤ q ∨ 4294967296 * r + c < q * y0) : (u * 4294967296 + c) / Y < q := by
  rcases t with t | t
  · have := h.quo_lt; omega
  · have l := h.left e
    rw [Int.ediv_lt_iff_lt_mul (by have := h.u1; have := h.u2; omega)]
    omega
/-- The two ways out: q is the quotient. -/
theorem Dig.done {Y y1 y0 u c : Int} (h : Dig Y y1 y0 u c) {q r : Int} (e : q * y1 + r = u) (hq : (u * 4294967296 + c) / Y ≤ q) (t : q * y0 ≤ 4294967296 * r + c ∨ (4294967296 ≤ r ∧ q ≤ 4294967296 ∧ 0 ≤ q)) : q = (u * 4294967296 + c) / Y := by
  have l := h.left e
  obtain ⟨hY, a1, a2, b1, b2, u1, u2, c1, c2⟩ := h
  have : q ≤ (u * 4294967296 + c) / Y := by
    rw [Int.le_ediv_iff_mul_le (by omega)]
    rcases t with t | ⟨t1, t2, t3⟩
    · omega
    · have k : q * y0 ≤ 4294967296 * 4294967295 := by
        have k1 : q * y0 ≤ 4294967296 * y0 := Int.mul_le_mul_of_nonneg_right t2 b1
        omega
      omega
  omega
theorem Dig.step {y1 u q r : Int} (e : q * y1 + r = u) : (q - 1) * y1 + (r + y1) = u := by
  have : (q - 1) * y1 = q * y1 - y1 := by rw [Int.sub_mul, Int.one_mul]
  omega
end Go.Proofs.Ytlfffobfcledcaa

/- What math/bits.Div64 makes of its numbers before the two digits. -/
namespace Go.Proofs.Ytlfffobfcledcaa
open Go.RowKit
set_option linter.unusedVariables false
set_option linter.unusedSimpArgs false

structure Nrm (hi lo y s P u c : Int) : Prop where
  s0 : 0 ≤ s
  s1 : s ≤ 63
  hP : (2 : Int) ^ s.toNat = P
  P1 : 1 ≤ P
  eY : IntKind.u64.wrap (y * 2 ^ s.toNat) = y * P
  Y1 : 9223372036854775808 ≤ y * P
  Y2 : y * P < 18446744073709551616
  eu : bits .or .u64 (IntKind.u64.wrap (hi * 2 ^ s.toNat)) (lo / 2 ^ (64 - s).toNat) = u
  ec : IntKind.u64.wrap (lo * 2 ^ s.toNat) = c
  u0 : 0 ≤ u
  u1 : u < y * P
  c0 : 0 ≤ c
  c1 : c < 18446744073709551616
  e : u * 18446744073709551616 + c = (hi * 18446744073709551616 + lo) * P

theorem nrm_nat (hi lo y : Nat) (hh : 1 ≤ hi) (h' : hi < y) (h1 : lo < 18446744073709551616) (hy : y < 18446744073709551616) :
    ∃ P u c : Nat, Nrm hi lo y (64 - (Lib.bitLen y : Int)) P u c := by
  have hb := Lib.bitLenAux_bounds 64 y (by omega) (by omega)
  have hb' : Lib.bitLen y ≤ 64 := Lib.bitLen_le y 64 (by omega) (by omega)
  have hb1 : 1 ≤ Lib.bitLen y ∧ 2 ^ (Lib.bitLen y - 1) ≤ y ∧ y < 2 ^ Lib.bitLen y := hb
  generalize Lib.bitLen y = l at hb1 hb'
  obtain ⟨l1, l2, l3⟩ := hb1
  have a1 : (64 - (l : Int)).toNat = 64 - l := by omega
  have a2 : (64 - (64 - (l : Int))).toNat = l := by omega
  have p1 : 2 ^ (64 - l) * 2 ^ l = 18446744073709551616 := by rw [← Nat.pow_add, show 64 - l + l = 64 by omega]
  have p2 : 2 ^ (64 - l) * 2 ^ (l - 1) = 9223372036854775808 := by rw [← Nat.pow_add, show 64 - l + (l - 1) = 63 by omega]
  have p0 : 1 ≤ 2 ^ (64 - l) := Nat.one_le_two_pow
  have p3 : 1 ≤ 2 ^ l := Nat.one_le_two_pow
  have pb : ∀ b, b < 2 ^ (64 - l) → 2 ^ (64 - l) * hi + b = 2 ^ (64 - l) * hi ||| b := fun b h => Nat.two_pow_add_eq_or_of_lt h hi
  have a3 : (2 : Int) ^ (64 - l) = ((2 ^ (64 - l) : Nat) : Int) := by push_cast; rfl
  have a4 : (2 : Int) ^ l = ((2 ^ l : Nat) : Int) := by push_cast; rfl
  generalize 2 ^ (l - 1) = H at *
  generalize 2 ^ (64 - l) = P at *
  generalize 2 ^ l = R at *
  have k1 : y * P < 18446744073709551616 := by rw [← p1, Nat.mul_comm]; exact (Nat.mul_lt_mul_left (by omega)).2 l3
  have k2 : 9223372036854775808 ≤ y * P := by rw [← p2, Nat.mul_comm]; exact Nat.mul_le_mul_right P l2
  have k3 : hi * P + P ≤ y * P := by rw [← Nat.succ_mul]; exact Nat.mul_le_mul_right P h'
  have k4 : lo / R < P := by rw [Nat.div_lt_iff_lt_mul (by omega), p1]; omega
  have k5 : lo / R * R + lo % R = lo := by rw [Nat.mul_comm]; exact Nat.div_add_mod lo R
  have k6 : lo % R < R := Nat.mod_lt _ (by omega)
  have k7 : lo % R * P < 18446744073709551616 := by rw [← p1, Nat.mul_comm]; exact (Nat.mul_lt_mul_left (by omega)).2 k6
  have k8 : lo * P = lo / R * 18446744073709551616 + lo % R * P := by
    have : (lo / R * R + lo % R) * P = lo / R * (P * R) + lo % R * P := by rw [Nat.add_mul, Nat.mul_assoc, Nat.mul_comm R P]
    rw [k5, p1] at this; exact this
  have k9 := pb _ k4
  have c1 := Int.natCast_mul y P
  have c2 := Int.natCast_mul (lo % R) P
  have c3 := Int.natCast_mul hi P
  have c4 := Int.natCast_mul lo P
  refine ⟨P, (hi * P + lo / R : Nat), (lo % R * P : Nat), by omega, by omega, by rw [a1, a3], by omega, ?_, by omega, by omega, ?_, ?_, by omega, ?_, by omega, by omega, ?_⟩
  · rw [a1, a3, IntKind.wrap_u64]
    omega
  · rw [a1, a2, a3, a4]
    have t : IntKind.u64.wrap ((hi : Int) * (P : Int)) = ((P * hi : Nat) : Int) := by
      rw [IntKind.wrap_u64]
      rw [Nat.mul_comm P hi]
      omega
    rw [t, show ((lo : Int) / (R : Int)) = ((lo / R : Nat) : Int) by push_cast; rfl, bits_or_u64_nat _ _ (by rw [Nat.mul_comm]; omega) (by omega), ← k9, Nat.mul_comm]
  · rw [a1, a3, IntKind.wrap_u64]
    omega
  · omega
  · have : (hi * P + lo / R) * 18446744073709551616 + lo % R * P = (hi * 18446744073709551616 + lo) * P := by
      rw [Nat.add_mul, Nat.add_mul, k8, Nat.mul_assoc, Nat.mul_comm P, ← Nat.mul_assoc]; omega
    have c5 := Int.natCast_mul (hi * 18446744073709551616 + lo) P
    have c6 : ((hi * 18446744073709551616 + lo : Nat) : Int) = (hi : Int) * 18446744073709551616 + (lo : Int) := by omega
    rw [c6] at c5
    omega

theorem nrm_any (hi lo y : Int) (hh : 1 ≤ hi) (h' : hi < y) (h0 : 0 ≤ lo) (h1 : lo ≤ 18446744073709551615) (hy : y ≤ 18446744073709551615) :
    ∃ P u c : Int, Nrm hi lo y (64 - (Lib.bitLen y.toNat : Int)) P u c := by
  obtain ⟨hi, rfl⟩ := Int.eq_ofNat_of_zero_le (show 0 ≤ hi by omega)
  obtain ⟨lo, rfl⟩ := Int.eq_ofNat_of_zero_le h0
  obtain ⟨y, rfl⟩ := Int.eq_ofNat_of_zero_le (show 0 ≤ y by omega)
  obtain ⟨P, u, c, h⟩ := nrm_nat hi lo y (by omega) (by omega) (by omega) (by omega)
  exact ⟨P, u, c, h⟩

theorem and_low (x : Int) (h0 : 0 ≤ x) (h1 : x < 18446744073709551616) : bits .and .u64 x 4294967295 = x % 4294967296 := by
  have h := bits_mask .u64 64 (by decide) (fun n a b => by rw [IntKind.wrap_u64]; omega) 32 (by decide) x h0 (by omega)
  simpa using h
/-- The two digits together. -/
theorem digits (N y P u c c1 c0 r1 q1 q0 r0 : Int) (hy : 1 ≤ y) (hP : 1 ≤ P) (e : u * 18446744073709551616 + c = N * P) (hc : c = c1 * 4294967296 + c0)
    (e1 : u * 4294967296 + c1 - q1 * (y * P) = r1) (e0 : r1 * 4294967296 + c0 - q0 * (y * P) = r0) (h0 : 0 ≤ r0) (h1 : r0 < y * P) :
    q1 * 4294967296 + q0 = N / y ∧ r0 / P = N % y := by
  have k : N * P = (q1 * 4294967296 + q0) * (y * P) + r0 := by
    rw [← e, Int.add_mul, Int.mul_assoc, Int.mul_comm 4294967296, ← Int.mul_assoc]; omega
  have k' : N * P = P * ((q1 * 4294967296 + q0) * y) + r0 := by rw [k, ← Int.mul_assoc, Int.mul_comm P]
  have d : r0 = (N - (q1 * 4294967296 + q0) * y) * P := by rw [Int.sub_mul, Int.mul_comm ((q1 * 4294967296 + q0) * y) P]; omega
  generalize hm : N - (q1 * 4294967296 + q0) * y = m at d
  have m0 : 0 ≤ m := by
    have : 0 ≤ m * P := by omega
    exact Int.nonneg_of_mul_nonneg_left this (by omega)
  have m1 : m < y := by
    have : m * P < y * P := by omega
    exact Int.lt_of_mul_lt_mul_right this (by omega)
  have q : N = m + y * (q1 * 4294967296 + q0) := by rw [Int.mul_comm y]; omega
  constructor
  · rw [q, Int.add_mul_ediv_left _ _ (by omega), Int.ediv_eq_zero_of_lt m0 m1]; omega
  · rw [d, Int.mul_ediv_cancel _ (by omega), q, Int.add_mul_emod_self_left, Int.emod_eq_of_lt m0 m1]
end Go.Proofs.Ytlfffobfcledcaa
