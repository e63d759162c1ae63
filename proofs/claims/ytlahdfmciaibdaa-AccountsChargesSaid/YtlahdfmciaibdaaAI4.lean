/- Several texts in one: R12 R13 R14. -/
import Derived.Test.YtlahdfmciaibdaaAI3
import Derived.Test.YtlahdfmciaibdaaB1

/- The reference's Big: Plus, Minus. -/
namespace Go.Proofs.Ytlahdfmciaibdaa
open Go.RowKit
set_option linter.unusedVariables false
set_option linter.unusedSimpArgs false

theorem whole_to {s : Bool} {V X : Int} (E : (bif s then -V else V) = X) (p : Option Addr) (c : Nat) (l : List Int) (W : World) (h1 : Digs l) (h1' : dval l = V) (h2 : RowR W p l) (h3 : l.length ≤ 1000000) :
    Calls Try.prog 86 #[.bool s, .slice p l.length c] W (BigRes l.length X W) := by
  have := whole_any s p c l W h1 h2 h3
  rw [h1', E] at this
  exact this

set_option maxHeartbeats 1000000 in
theorem Plus_any {k : Nat} (pa pb : Option Addr) (ca cb : Nat) (a b : List Int) (x y : Int) (w : World) (A : BigR k w pa a x) (B : BigR k w pb b y) (hk : k ≤ 90000) :
    Calls Try.prog 50 #[.agg #[.bool (decide (x < 0)), .slice pa a.length ca], .agg #[.bool (decide (y < 0)), .slice pb b.length cb]] w (BigRes (k + 1) (x + y) w) := by
  have SA := A.size
  have SB := B.size
  have K := Box3.new w (decide (x < 0)) (decide (y < 0)) (.slice pa a.length ca) (.slice pb b.length cb)
  by_cases st : decide (x < 0) = decide (y < 0)
  · have E : (bif decide (x < 0) then -(dval a + dval b) else dval a + dval b) = x + y := by
      rw [A.can.val, B.can.val]
      by_cases h : x < 0 <;> simp [h] at st ⊢ <;> omega
    have G := Lib.hid (fun W (h : Below w.heap.size w W) => addD_any pa pb ca cb a b W k A.can.digs B.can.digs (A.row.below h) (B.row.below h) (by omega) (by omega) (by omega))
    have WH := Lib.hid (whole_to E)
    rw [← st] at K ⊢
    clear E A B st
    generalize decide (x < 0) = s at *
    generalize x + y = X at *
    have ss : (s == s) = true := by simp
    go_enter Try.func50, Try.ntmps50
    go_wp2_with fail
    generalize (((w.alloc (Obj.cells #[Value.bool s, Value.slice pa a.length ca] 81)).alloc (Obj.cells #[Value.bool s, Value.slice pb b.length cb] 81)).alloc (Obj.cells #[Value.bool false, Value.slice none 0 0] 81)) = v at *
    have HK := Lib.hid K
    obtain ⟨k1, k2, k3, k4, k5, k6, k7, k8, k9, kb⟩ := K
    go_region_held3 (fun w' => w'.cell? ⟨w.heap.size, 0, none⟩ = some (.bool s) ∧ w'.cell? ⟨w.heap.size, 1, none⟩ = some (.slice pa a.length ca) ∧ w'.cell? ⟨w.heap.size + 1, 0, none⟩ = some (.bool s) ∧ w'.cell? ⟨w.heap.size + 1, 1, none⟩ = some (.slice pb b.length cb))
      (first | exact ⟨k1, k2, k3, k4⟩ | (refine ⟨?_, ?_, ?_, ?_⟩ <;> simp [go_sem, k1, k2, k3, k4]; done))
      (first
        | (go_at_call 87; refine (G.out _ (by first | exact kb | exact kb.drew)).mono ?_; rintro e w1 ⟨l1, p1, c1, rfl, d1, dv, d2, d3, d6⟩; have K1 := Lib.hid (show Box3 w w1 s s _ _ from (by first | exact HK.out.below d6 | exact HK.out.drew.below d6)); clear k1 k2 k3 k4 k5 k6 k7 k8 k9 kb; obtain ⟨k1, k2, k3, k4, k5, k6, k7, k8, k9, kb⟩ := K1.out; have D1 := Lib.hid d1; have DV := Lib.hid dv; have D2 := Lib.hid d2; have D3 := Lib.hid d3; clear d1 dv d2 d3 d6)
        | (go_at_call 86; refine (WH.out p1 c1 l1 _ D1.out DV.out (by exact D3.out) (by have := D2.out; omega)).mono ?_; rintro e w2 ⟨p2, l2, c2, rfl, r1, r2, r3⟩; have K2 := Lib.hid (show Box3 w w2 s s _ _ from (by first | exact K1.out.below r3 | exact K1.out.drew.below r3)); clear k1 k2 k3 k4 k5 k6 k7 k8 k9 kb; obtain ⟨k1, k2, k3, k4, k5, k6, k7, k8, k9, kb⟩ := K2.out; have R1 := Lib.hid r1; have R2 := Lib.hid r2; have R3 := Lib.hid r3; clear r1 r2 r3))
    have FIN := Lib.hid (BigRes.stored (c := c2) (r := w.heap.size + 1 + 1) K1.out.bel (by omega) K1.out.sz (R1.out.more (m := k + 1) (by have := D2.out; omega)) R2.out R3.out)
    clear WH G HK K1 K2 D1 D2 D3 DV R1 R2 R3
    generalize decide (X < 0) = sg at *
    go_wp2_with fail
    exact bodyPost_ret (v := .agg #[.bool sg, .slice p2 l2.length c2]) (by simp [results, Try.results50, go_sem, k5, k6, k9]) rfl FIN.out
  · have CM := Lib.hid (fun W (h : Below w.heap.size w W) => cmpD_any pa pb ca cb a b W A.can.digs B.can.digs A.can.norm B.can.norm (A.row.below h) (B.row.below h) (by omega) (by omega))
    by_cases hle : dval b ≤ dval a
    · have E : (bif decide (x < 0) then -(dval a - dval b) else dval a - dval b) = x + y := by
        rw [A.can.val, B.can.val]
        rw [A.can.val, B.can.val] at hle
        by_cases h : x < 0 <;> by_cases h' : y < 0 <;> simp [h, h'] at st ⊢ <;> omega
      have LL := can_len B.can A.can (by rw [← A.can.val, ← B.can.val]; exact hle)
      have G := Lib.hid (fun W (h : Below w.heap.size w W) => subD_any pa pb ca cb a b W A.can.digs B.can.digs (A.row.below h) (B.row.below h) (by omega) LL hle)
      have WH := Lib.hid (whole_to E)
      have Z1 : 0 ≤ cmpZ (dval a) (dval b) := by unfold cmpZ; split; omega; split <;> omega
      have Z2 := (cmpZ_le (dval a) (dval b)).2
      have st' : (decide (x < 0) == decide (y < 0)) = false := by simpa using st
      clear E A B st hle LL
      generalize decide (x < 0) = s at *
      generalize decide (y < 0) = t at *
      generalize x + y = X at *
      generalize cmpZ (dval a) (dval b) = z at *
      go_enter Try.func50, Try.ntmps50
      go_wp2_with fail
      refine (CM.out _ (by go_grown)).mono ?_
      rintro e w3 ⟨rfl, n3, rfl⟩
      replace K := K.below (below_drewN (Below.refl _ _) n3)
      clear CM
      generalize (((w.alloc (Obj.cells #[Value.bool s, Value.slice pa a.length ca] 81)).alloc (Obj.cells #[Value.bool t, Value.slice pb b.length cb] 81)).alloc (Obj.cells #[Value.bool false, Value.slice none 0 0] 81)).drewN n3 = v at *
      go_wp2_with fail
      have HK := Lib.hid K
      obtain ⟨k1, k2, k3, k4, k5, k6, k7, k8, k9, kb⟩ := K
      go_region_held3 (fun w' => w'.cell? ⟨w.heap.size, 0, none⟩ = some (.bool s) ∧ w'.cell? ⟨w.heap.size, 1, none⟩ = some (.slice pa a.length ca) ∧ w'.cell? ⟨w.heap.size + 1, 0, none⟩ = some (.bool t) ∧ w'.cell? ⟨w.heap.size + 1, 1, none⟩ = some (.slice pb b.length cb))
        (first | exact ⟨k1, k2, k3, k4⟩ | (refine ⟨?_, ?_, ?_, ?_⟩ <;> simp [go_sem, k1, k2, k3, k4]; done))
        (first
          | (go_at_call 89; refine (G.out _ (by first | exact kb | exact kb.drew)).mono ?_; rintro e w1 ⟨l1, p1, c1, rfl, dc, d2, d3, d4, d5, d6⟩; have K1 := Lib.hid (show Box3 w w1 s t _ _ from (by first | exact HK.out.below d6 | exact HK.out.drew.below d6)); clear k1 k2 k3 k4 k5 k6 k7 k8 k9 kb; obtain ⟨k1, k2, k3, k4, k5, k6, k7, k8, k9, kb⟩ := K1.out; have D1 := Lib.hid dc.digs; have DV := Lib.hid dc.val; have D2 := Lib.hid d2; have D3 := Lib.hid d3; clear dc d2 d3 d4 d5 d6)
          | (go_at_call 86; refine (WH.out p1 c1 l1 _ D1.out DV.out (by exact D3.out) (by have := D2.out; omega)).mono ?_; rintro e w2 ⟨p2, l2, c2, rfl, r1, r2, r3⟩; have K2 := Lib.hid (show Box3 w w2 s t _ _ from (by first | exact K1.out.below r3 | exact K1.out.drew.below r3)); clear k1 k2 k3 k4 k5 k6 k7 k8 k9 kb; obtain ⟨k1, k2, k3, k4, k5, k6, k7, k8, k9, kb⟩ := K2.out; have R1 := Lib.hid r1; have R2 := Lib.hid r2; have R3 := Lib.hid r3; clear r1 r2 r3))
      have FIN := Lib.hid (BigRes.stored (c := c2) (r := w.heap.size + 1 + 1) K1.out.bel (by omega) K1.out.sz (R1.out.more (m := k + 1) (by have := D2.out; omega)) R2.out R3.out)
      clear WH G HK K1 K2 D1 D2 D3 DV R1 R2 R3
      generalize decide (X < 0) = sg at *
      go_wp2_with fail
      exact bodyPost_ret (v := .agg #[.bool sg, .slice p2 l2.length c2]) (by simp [results, Try.results50, go_sem, k5, k6, k9]) rfl FIN.out
    · have E : (bif decide (y < 0) then -(dval b - dval a) else dval b - dval a) = x + y := by
        rw [A.can.val, B.can.val]
        rw [A.can.val, B.can.val] at hle
        by_cases h : x < 0 <;> by_cases h' : y < 0 <;> simp [h, h'] at st ⊢ <;> omega
      have LL := can_len A.can B.can (by rw [← A.can.val, ← B.can.val]; omega)
      have G := Lib.hid (fun W (h : Below w.heap.size w W) => subD_any pb pa cb ca b a W B.can.digs A.can.digs (B.row.below h) (A.row.below h) (by omega) LL (by omega))
      have WH := Lib.hid (whole_to E)
      have Z1 : cmpZ (dval a) (dval b) < 0 := by unfold cmpZ; rw [if_pos (by omega)]; omega
      have Z2 := (cmpZ_le (dval a) (dval b)).1
      have st' : (decide (x < 0) == decide (y < 0)) = false := by simpa using st
      clear E A B st hle LL
      generalize decide (x < 0) = s at *
      generalize decide (y < 0) = t at *
      generalize x + y = X at *
      generalize cmpZ (dval a) (dval b) = z at *
      go_enter Try.func50, Try.ntmps50
      go_wp2_with fail
      refine (CM.out _ (by go_grown)).mono ?_
      rintro e w3 ⟨rfl, n3, rfl⟩
      replace K := K.below (below_drewN (Below.refl _ _) n3)
      clear CM
      generalize (((w.alloc (Obj.cells #[Value.bool s, Value.slice pa a.length ca] 81)).alloc (Obj.cells #[Value.bool t, Value.slice pb b.length cb] 81)).alloc (Obj.cells #[Value.bool false, Value.slice none 0 0] 81)).drewN n3 = v at *
      go_wp2_with fail
      have HK := Lib.hid K
      obtain ⟨k1, k2, k3, k4, k5, k6, k7, k8, k9, kb⟩ := K
      go_region_held3 (fun w' => w'.cell? ⟨w.heap.size, 0, none⟩ = some (.bool s) ∧ w'.cell? ⟨w.heap.size, 1, none⟩ = some (.slice pa a.length ca) ∧ w'.cell? ⟨w.heap.size + 1, 0, none⟩ = some (.bool t) ∧ w'.cell? ⟨w.heap.size + 1, 1, none⟩ = some (.slice pb b.length cb))
        (first | exact ⟨k1, k2, k3, k4⟩ | (refine ⟨?_, ?_, ?_, ?_⟩ <;> simp [go_sem, k1, k2, k3, k4]; done))
        (first
          | (go_at_call 89; refine (G.out _ (by first | exact kb | exact kb.drew)).mono ?_; rintro e w1 ⟨l1, p1, c1, rfl, dc, d2, d3, d4, d5, d6⟩; have K1 := Lib.hid (show Box3 w w1 s t _ _ from (by first | exact HK.out.below d6 | exact HK.out.drew.below d6)); clear k1 k2 k3 k4 k5 k6 k7 k8 k9 kb; obtain ⟨k1, k2, k3, k4, k5, k6, k7, k8, k9, kb⟩ := K1.out; have D1 := Lib.hid dc.digs; have DV := Lib.hid dc.val; have D2 := Lib.hid d2; have D3 := Lib.hid d3; clear dc d2 d3 d4 d5 d6)
          | (go_at_call 86; refine (WH.out p1 c1 l1 _ D1.out DV.out (by exact D3.out) (by have := D2.out; omega)).mono ?_; rintro e w2 ⟨p2, l2, c2, rfl, r1, r2, r3⟩; have K2 := Lib.hid (show Box3 w w2 s t _ _ from (by first | exact K1.out.below r3 | exact K1.out.drew.below r3)); clear k1 k2 k3 k4 k5 k6 k7 k8 k9 kb; obtain ⟨k1, k2, k3, k4, k5, k6, k7, k8, k9, kb⟩ := K2.out; have R1 := Lib.hid r1; have R2 := Lib.hid r2; have R3 := Lib.hid r3; clear r1 r2 r3))
      have FIN := Lib.hid (BigRes.stored (c := c2) (r := w.heap.size + 1 + 1) K1.out.bel (by omega) K1.out.sz (R1.out.more (m := k + 1) (by have := D2.out; omega)) R2.out R3.out)
      clear WH G HK K1 K2 D1 D2 D3 DV R1 R2 R3
      generalize decide (X < 0) = sg at *
      go_wp2_with fail
      exact bodyPost_ret (v := .agg #[.bool sg, .slice p2 l2.length c2]) (by simp [results, Try.results50, go_sem, k5, k6, k9]) rfl FIN.out
end Go.Proofs.Ytlahdfmciaibdaa

/- The reference's Big: Minus, Of. -/
namespace Go.Proofs.Ytlahdfmciaibdaa
open Go.RowKit
set_option linter.unusedVariables false
set_option linter.unusedSimpArgs false

theorem of_step {o : List Int} {k : Nat} {m N : Int} (hl : o.length = k) (h : dval o + 10000 ^ k * m = N) : dval (o ++ [m % 10000]) + 10000 ^ (k + 1) * (m / 10000) = N := by
  rw [dval_snoc, hl, ← h, Int.pow_succ]
  rw [carry_step (P := 10000 ^ k) (u := m) (m := m % 10000) (z := m / 10000) (by omega)]
  omega
theorem of_less {j : Nat} {m : Int} (h : m < 10000 ^ (j + 1)) : m / 10000 < 10000 ^ j := by
  rw [Int.pow_succ] at h
  omega
theorem of_start {m : Int} (h : m ≤ 9223372036854775808) : m < 10000 ^ 5 := by
  have : (10000 : Int) ^ 5 = 100000000000000000000 := by decide
  omega
theorem neg_tmod' {m : Int} (h : 0 ≤ m) : (-m).tmod 10000 = -(m % 10000) := by rw [Int.neg_tmod, Int.tmod_eq_emod_of_nonneg h]
theorem neg_tdiv' {m : Int} (h : 0 ≤ m) : (-m).tdiv 10000 = -(m / 10000) := by rw [Int.neg_tdiv, Int.tdiv_eq_ediv_of_nonneg h]

set_option maxRecDepth 100000 in
set_option maxHeartbeats 1000000 in
theorem Of_any (n : Int) (h1 : -9223372036854775808 ≤ n) (h2 : n ≤ 9223372036854775807) (w : World) :
    Calls Try.prog 52 #[.int .i64 n] w (BigRes 5 n w) := by
  obtain ⟨i0, hi, hz0, hz1, hz2⟩ := info_parts intInfo
  by_cases hn : 0 ≤ n
  · have n0 : ¬ n < 0 := by omega
    obtain ⟨N, hN⟩ : ∃ N, N = n := ⟨_, rfl⟩
    have HN := Lib.hid hN
    clear hN
    go_enter Try.func52, Try.ntmps52
    go_wp2_with fail
    have cv0 : (w.alloc (Obj.cells #[Value.bool false, Value.slice none 0 0] 81)).cell? ⟨w.heap.size, 0, none⟩ = some (.bool false) := by simp [go_sem]
    have cv1 : (w.alloc (Obj.cells #[Value.bool false, Value.slice none 0 0] 81)).cell? ⟨w.heap.size, 1, none⟩ = some (.slice none 0 0) := by simp [go_sem]
    have fv0 : (w.alloc (Obj.cells #[Value.bool false, Value.slice none 0 0] 81)).frozen? ⟨w.heap.size, 0, none⟩ = false := by simp [go_sem]
    have fv1 : (w.alloc (Obj.cells #[Value.bool false, Value.slice none 0 0] 81)).frozen? ⟨w.heap.size, 1, none⟩ = false := by simp [go_sem]
    have zv : w.heap.size < (w.alloc (Obj.cells #[Value.bool false, Value.slice none 0 0] 81)).heap.size := by simp
    have bv : Below w.heap.size w (w.alloc (Obj.cells #[Value.bool false, Value.slice none 0 0] 81)) := by go_grown
    generalize w.alloc (Obj.cells #[Value.bool false, Value.slice none 0 0] 81) = v at *
    have BV := Lib.hid bv
    have CV := Lib.hid (And.intro cv0 (And.intro cv1 (And.intro fv0 fv1)))
    clear bv cv0 cv1 fv0 fv1
    go_loopw [0, 3] (fun cur d wr => ∃ (k j : Nat) (m : Int) (o : List Int), k + j = 5 ∧ 0 ≤ m ∧ m ≤ 9223372036854775807 ∧ cur = .int .i64 m ∧ Hid (m < 10000 ^ j) ∧ Hid (o.length = k) ∧ Hid (Digs o) ∧ Hid (dval o + 10000 ^ k * m = N) ∧
      wr.ownsRow v.heap.size 3 1 d k (o.map (Value.int .i64)) ∧ Below v.heap.size v wr) (fun cur _ _ => (intOf cur).toNat)
    case atStart => exact ⟨0, 5, n, [], by omega, hn, h2, rfl, of_start (by omega), rfl, Digs.nil, by show _ = _; rw [HN.out]; simp [dval], World.ownsRow_nil _ _ _ _, Below.refl _ _⟩
    case round =>
      obtain ⟨k, j, m, o, kj, m0, m1, rfl, mj, ol, od, ov, hown, hbel⟩ := hrel
      have hbs : ∀ o, v.heap.size ≤ (wr.alloc o).heap.size := fun o => by have := hbel.size; simp; omega
      by_cases hm : m = 0
      · have vv : dval o = N := by have := ov.out; rw [hm, Int.mul_zero, Int.add_zero] at this; exact this
        obtain ⟨q, cc, hv, hlen, hr, hn', hf⟩ := own_row hown
        have WH := Lib.hid (whole_to (s := false) (V := N) (X := n) (by simpa using HN.out) q cc o wr od.out vv hr (by have := ol.out; omega))
        have HB := Lib.hid hbel
        have OL := Lib.hid ol.out
        have HV := Lib.hid hv
        clear vv hlen hr hn' hf hown hbel hbs ol od ov mj
        subst hm
        have hv := HV.out
        subst hv
        clear HV
        go_wp2_with fail
        refine (WH.out).mono ?_
        rintro e w2 ⟨p2, l2, c2, rfl, r1, r2, r3⟩
        have B2 := HB.out.trans (r3.mono HB.out.size)
        have k5 := (B2.cell (p := ⟨w.heap.size, 0, none⟩) zv).trans CV.out.1
        have k6 := (B2.cell (p := ⟨w.heap.size, 1, none⟩) zv).trans CV.out.2.1
        have k9 := Nat.lt_of_lt_of_le zv B2.size
        have FIN := Lib.hid (BigRes.stored (c := c2) (r := w.heap.size) BV.out (Nat.le_refl _) zv (r1.more (m := 5) (by have := OL.out; omega)) (fun a ha => Nat.le_trans HB.out.size (r2 a ha)) B2)
        have k7 := (B2.frozen (p := ⟨w.heap.size, 0, none⟩) zv).trans CV.out.2.2.1
        have k8 := (B2.frozen (p := ⟨w.heap.size, 1, none⟩) zv).trans CV.out.2.2.2
        clear r1 r2 r3 B2 WH HB OL CV BV HN
        generalize decide (n < 0) = sg at *
        go_wp2_with fail
        exact bodyPost_ret (v := .agg #[.bool sg, .slice p2 l2.length c2]) (by simp [results, Try.results52, go_sem, k5, k6, k9]) rfl FIN.out
      · rcases j with _ | j
        · exact absurd mj.out (by rw [Int.pow_zero]; omega)
        · have S := Lib.hid (of_step ol.out ov.out)
          have L := Lib.hid (of_less mj.out)
          have hm' : (m == 0) = false := by simpa using hm
          have hm'' : (m != 0) = true := by simpa using hm
          have p : 0 < m := by omega
          clear hm
          go_wp2_with (first
            | (at_builtin; refine wpList_append_own _ rfl _ _ 31 rfl v.heap.size 3 i0 (.int .i64 0) 1 8 Try.underlying31 hi hz0 hz1 hz2 rfl (by decide) _ _ _ rfl (hown.alloc _) ⟨wr.heap.size, 0, none⟩ 1 1 [.int .i64 (m % 10000)] rfl rfl (one_cell _) one_one (by unfold maxLen; omega) (by omega) (hbs _) ?_))
          intro v' w1 hown' hgrow _
          have RR := own_snoc (l := o) _ rfl hbel hown hown' hgrow
          have OL := Lib.hid (show (o ++ [m % 10000]).length = k + 1 by have := ol.out; simp [this])
          have OD := Lib.hid (od.out.snoc (d := m % 10000) (by omega) (by omega))
          clear hown' hgrow hown hbel hbs ol od ov hm' hm''
          go_wp2
          go_roundw
          case rel => exact ⟨k + 1, j, m / 10000, _, by omega, by omega, by omega, rfl, L, OL, OD, S, RR.1, RR.2⟩
          case measure => simp [intOf]; omega
  · have n0 : n < 0 := by omega
    obtain ⟨N, hN⟩ : ∃ N, N = -n := ⟨_, rfl⟩
    have HN := Lib.hid hN
    clear hN
    go_enter Try.func52, Try.ntmps52
    go_wp2_with fail
    have cv0 : (w.alloc (Obj.cells #[Value.bool false, Value.slice none 0 0] 81)).cell? ⟨w.heap.size, 0, none⟩ = some (.bool false) := by simp [go_sem]
    have cv1 : (w.alloc (Obj.cells #[Value.bool false, Value.slice none 0 0] 81)).cell? ⟨w.heap.size, 1, none⟩ = some (.slice none 0 0) := by simp [go_sem]
    have fv0 : (w.alloc (Obj.cells #[Value.bool false, Value.slice none 0 0] 81)).frozen? ⟨w.heap.size, 0, none⟩ = false := by simp [go_sem]
    have fv1 : (w.alloc (Obj.cells #[Value.bool false, Value.slice none 0 0] 81)).frozen? ⟨w.heap.size, 1, none⟩ = false := by simp [go_sem]
    have zv : w.heap.size < (w.alloc (Obj.cells #[Value.bool false, Value.slice none 0 0] 81)).heap.size := by simp
    have bv : Below w.heap.size w (w.alloc (Obj.cells #[Value.bool false, Value.slice none 0 0] 81)) := by go_grown
    generalize w.alloc (Obj.cells #[Value.bool false, Value.slice none 0 0] 81) = v at *
    have BV := Lib.hid bv
    have CV := Lib.hid (And.intro cv0 (And.intro cv1 (And.intro fv0 fv1)))
    clear bv cv0 cv1 fv0 fv1
    go_loopw [0, 3] (fun cur d wr => ∃ (k j : Nat) (m : Int) (o : List Int), k + j = 5 ∧ 0 ≤ m ∧ m ≤ 9223372036854775808 ∧ cur = .int .i64 (-m) ∧ Hid (m < 10000 ^ j) ∧ Hid (o.length = k) ∧ Hid (Digs o) ∧ Hid (dval o + 10000 ^ k * m = N) ∧
      wr.ownsRow v.heap.size 3 1 d k (o.map (Value.int .i64)) ∧ Below v.heap.size v wr) (fun cur _ _ => (-intOf cur).toNat)
    case atStart => exact ⟨0, 5, -n, [], by omega, by omega, by omega, by rw [Int.neg_neg], of_start (by omega), rfl, Digs.nil, by show _ = _; rw [HN.out]; simp [dval], World.ownsRow_nil _ _ _ _, Below.refl _ _⟩
    case round =>
      obtain ⟨k, j, m, o, kj, m0, m1, rfl, mj, ol, od, ov, hown, hbel⟩ := hrel
      have hbs : ∀ o, v.heap.size ≤ (wr.alloc o).heap.size := fun o => by have := hbel.size; simp; omega
      by_cases hm : m = 0
      · have vv : dval o = N := by have := ov.out; rw [hm, Int.mul_zero, Int.add_zero] at this; exact this
        obtain ⟨q, cc, hv, hlen, hr, hn', hf⟩ := own_row hown
        have WH := Lib.hid (whole_to (s := true) (V := N) (X := n) (by have := HN.out; simp; omega) q cc o wr od.out vv hr (by have := ol.out; omega))
        have HB := Lib.hid hbel
        have OL := Lib.hid ol.out
        have HV := Lib.hid hv
        clear vv hlen hr hn' hf hown hbel hbs ol od ov mj
        subst hm
        have hv := HV.out
        subst hv
        clear HV
        go_wp2_with fail
        refine (WH.out).mono ?_
        rintro e w2 ⟨p2, l2, c2, rfl, r1, r2, r3⟩
        have B2 := HB.out.trans (r3.mono HB.out.size)
        have k5 := (B2.cell (p := ⟨w.heap.size, 0, none⟩) zv).trans CV.out.1
        have k6 := (B2.cell (p := ⟨w.heap.size, 1, none⟩) zv).trans CV.out.2.1
        have k9 := Nat.lt_of_lt_of_le zv B2.size
        have FIN := Lib.hid (BigRes.stored (c := c2) (r := w.heap.size) BV.out (Nat.le_refl _) zv (r1.more (m := 5) (by have := OL.out; omega)) (fun a ha => Nat.le_trans HB.out.size (r2 a ha)) B2)
        have k7 := (B2.frozen (p := ⟨w.heap.size, 0, none⟩) zv).trans CV.out.2.2.1
        have k8 := (B2.frozen (p := ⟨w.heap.size, 1, none⟩) zv).trans CV.out.2.2.2
        clear r1 r2 r3 B2 WH HB OL CV BV HN
        generalize decide (n < 0) = sg at *
        go_wp2_with fail
        exact bodyPost_ret (v := .agg #[.bool sg, .slice p2 l2.length c2]) (by simp [results, Try.results52, go_sem, k5, k6, k9]) rfl FIN.out
      · rcases j with _ | j
        · exact absurd mj.out (by rw [Int.pow_zero]; omega)
        · have S := Lib.hid (of_step ol.out ov.out)
          have L := Lib.hid (of_less mj.out)
          have hm' : ((-m) == 0) = false := by simpa using hm
          have hm'' : ((-m) != 0) = true := by simpa using hm
          have hm3 : (m == 0) = false := by simpa using hm
          have hm4 : (m != 0) = true := by simpa using hm
          have p : 0 < m := by omega
          have t1 := neg_tmod' m0
          have t2 := neg_tdiv' m0
          have t3 : m.tmod 10000 = m % 10000 := Int.tmod_eq_emod_of_nonneg m0
          have t4 : m.tdiv 10000 = m / 10000 := Int.tdiv_eq_ediv_of_nonneg m0
          have g0 : 0 ≤ m % 10000 := by omega
          have g1 : m % 10000 < 10000 := by omega
          have g2 : 0 ≤ m / 10000 := by omega
          have g3 : m / 10000 ≤ 9223372036854775808 := by omega
          have g4 : m / 10000 < m := by omega
          have OL := Lib.hid (show (o ++ [m % 10000]).length = k + 1 by have := ol.out; simp [this])
          have OD := Lib.hid (od.out.snoc (d := m % 10000) (by omega) (by omega))
          clear hm ol od ov
          generalize m % 10000 = q at *
          generalize m / 10000 = m' at *
          by_cases q0 : q = 0
          · subst q0
            simp only [Int.neg_zero] at t1
            go_wp2_with (first
              | (at_builtin; refine wpList_append_own _ rfl _ _ 31 rfl v.heap.size 3 i0 (.int .i64 0) 1 8 Try.underlying31 hi hz0 hz1 hz2 rfl (by decide) _ _ _ rfl (hown.alloc _) ⟨wr.heap.size, 0, none⟩ 1 1 [.int .i64 0] rfl rfl (one_cell _) one_one (by unfold maxLen; omega) (by omega) (hbs _) ?_))
            intro v' w1 hown' hgrow _
            have RR := own_snoc (l := o) _ rfl hbel hown hown' hgrow
            clear hown' hgrow hown hbel hbs hm' hm'' hm3 hm4
            go_wp2
            go_roundw
            case rel => exact ⟨k + 1, j, m', _, by omega, by omega, by omega, rfl, L, OL, OD, S, RR.1, RR.2⟩
            case measure => simp [intOf]; omega
          · have q1 : 0 < q := by omega
            clear q0
            go_wp2_with (first
              | (at_builtin; refine wpList_append_own _ rfl _ _ 31 rfl v.heap.size 3 i0 (.int .i64 0) 1 8 Try.underlying31 hi hz0 hz1 hz2 rfl (by decide) _ _ _ rfl (hown.alloc _) ⟨wr.heap.size, 0, none⟩ 1 1 [.int .i64 q] rfl rfl (one_cell _) one_one (by unfold maxLen; omega) (by omega) (hbs _) ?_))
            intro v' w1 hown' hgrow _
            have RR := own_snoc (l := o) _ rfl hbel hown hown' hgrow
            clear hown' hgrow hown hbel hbs hm' hm'' hm3 hm4
            go_wp2
            go_roundw
            case rel => exact ⟨k + 1, j, m', _, by omega, by omega, by omega, rfl, L, OL, OD, S, RR.1, RR.2⟩
            case measure => simp [intOf]; omega
end Go.Proofs.Ytlahdfmciaibdaa

/- The reference's rows: gcdD; Within. -/
namespace Go.Proofs.Ytlahdfmciaibdaa
open Go.RowKit
set_option linter.unusedVariables false
set_option linter.unusedSimpArgs false

/-- The digits that a slice reads as: for a loop's measure. -/
def rdRow (w : World) : Value → List Int
  | .slice p n _ => (List.range n).map fun i => match p with
    | some a => match w.cell? ⟨a.block, i, none⟩ with
      | some u => intOf u
      | none => 0
    | none => 0
  | _ => []
theorem rdRow_eq {w : World} {p : Option Addr} {l : List Int} (r : RowR w p l) (c : Nat) : rdRow w (.slice p l.length c) = l := by
  unfold rdRow
  refine List.ext_getElem (by simp) fun i h1 h2 => ?_
  obtain ⟨g, rfl, _, e⟩ := r i h2
  simp [e, intOf]

/-- A row that may be an argument's own. -/
def OldRow (x : Int) (n : Nat) (w : World) (e : Ending) (w' : World) : Prop :=
  ∃ t p c, e = .returned (.slice p t.length c) ∧ Can t x ∧ t.length ≤ n ∧ RowR w' p t ∧ Below w.heap.size w w'

theorem dval_drop_le {l : List Int} (h : Digs l) (k : Nat) : dval (l.drop k) ≤ dval l := by
  have e := dval_app (l.take k) (l.drop k)
  rw [List.take_append_drop] at e
  have a := dval_nonneg (h.take k)
  have b := dval_nonneg (h.drop k)
  have c := Int.mul_le_mul_of_nonneg_right (pow_pos' (l.take k).length) b
  omega

/-- A number as an int, if it is within a bound. -/
def wiV (x m : Int) : Int := if (x.natAbs : Int) ≤ m then x else 0
def wiB (x m : Int) : Bool := decide ((x.natAbs : Int) ≤ m)
end Go.Proofs.Ytlahdfmciaibdaa
