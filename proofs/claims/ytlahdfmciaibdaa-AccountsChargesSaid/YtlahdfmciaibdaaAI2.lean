/- Several texts in one: R5 R6 R7 R8. -/
import Derived.Test.YtlahdfmciaibdaaAI1
import Derived.IntWalk

/- The reference's rows: whole, Of, addD, subD. -/
namespace Go.Proofs.Ytlahdfmciaibdaa
open Go.RowKit
set_option linter.unusedVariables false
set_option linter.unusedSimpArgs false

theorem RowR.setCell {w : World} {p : Option Addr} {l : List Int} (r : RowR w p l) {q : Addr} (h : ∀ a, p = some a → a.block ≠ q.block) (v : Value) : RowR (w.setCell q v) p l := fun i hi => by
  obtain ⟨g, e, k, c⟩ := r i hi
  refine ⟨g, e, by simpa [World.setCell] using k, ?_⟩
  rw [World.cell?_setCell_other _ _ _ _ (fun e2 => h _ e (by subst e2; rfl))]
  exact c

/-- The reference's whole number x. -/
structure BigR (n : Nat) (w : World) (p : Option Addr) (l : List Int) (x : Int) : Prop where
  can : Can l x.natAbs
  size : l.length ≤ n
  row : RowR w p l
theorem BigR.below {n : Nat} {w w' : World} {p : Option Addr} {l : List Int} {x : Int} (r : BigR n w p l x) (hb : Below w.heap.size w w') : BigR n w' p l x := ⟨r.can, r.size, r.row.below hb⟩
theorem BigR.more {n m : Nat} {w : World} {p : Option Addr} {l : List Int} {x : Int} (r : BigR n w p l x) (h : n ≤ m) : BigR m w p l x := ⟨r.can, by have := r.size; omega, r.row⟩
/-- A call's result is the whole number x. -/
def BigRes (n : Nat) (x : Int) (w : World) (e : Ending) (w' : World) : Prop :=
  ∃ p l c, e = .returned (.agg #[.bool (decide (x < 0)), .slice p l.length c]) ∧ BigR n w' p l x ∧ (∀ a, p = some a → w.heap.size ≤ a.block) ∧ Below w.heap.size w w'

theorem whole_sign {t : List Int} {v : Int} (s : Bool) (h : Can t v) : decide ((bif s then -v else v) < 0) = (s && decide (0 < t.length)) := by
  have k := h.nonneg
  have z := h.length_zero
  cases s
  · simp; omega
  · simp only [cond_true, Bool.true_and]
    rw [Bool.eq_iff_iff]
    simp only [decide_eq_true_eq]
    omega
theorem whole_abs {v : Int} (s : Bool) (h : 0 ≤ v) : ((bif s then -v else v).natAbs : Int) = v := by cases s <;> simp <;> omega

set_option maxHeartbeats 400000 in
theorem whole_any (s : Bool) (p : Option Addr) (c : Nat) (l : List Int) (w : World) (hd : Digs l) (r : RowR w p l) (ln : l.length ≤ 1000000) :
    Calls Try.prog 86 #[.bool s, .slice p l.length c] w (BigRes l.length (bif s then -dval l else dval l) w) := by
  have nn := dval_nonneg hd
  have AB := Lib.hid (whole_abs s nn)
  have R := Lib.hid r; clear r
  have D := Lib.hid hd; clear hd
  go_enter Try.func86, Try.ntmps86
  go_wp2_with fail
  refine (trim_any p c l _ D.out (R.out.below (by go_grown)) ln).mono ?_
  rintro e w1 ⟨t, q, cc, rfl, hcan, hlen, hr, hn, hf, hb1⟩
  obtain ⟨hc, hfz⟩ := bcell hb1
  have hz : w.heap.size < w1.heap.size := by have := hb1.size; simp at this; omega
  have WS := Lib.hid (whole_sign s hcan)
  have fin : ∀ b : Bool, b = (s && decide (0 < t.length)) → BigRes l.length (bif s then -dval l else dval l) w (.returned (.agg #[.bool b, .slice q t.length cc])) ((w1.setCell ⟨w.heap.size, 0, none⟩ (.bool b)).setCell ⟨w.heap.size, 1, none⟩ (.slice q t.length cc)) := by
    intro b hb
    have hq : ∀ a, q = some a → a.block ≠ w.heap.size := fun a ha => by have := hf a ha; simp at this; omega
    refine ⟨q, t, cc, by rw [hb, ← WS.out], ⟨by rw [AB.out]; exact hcan, hlen, (hr.setCell (q := ⟨w.heap.size, 0, none⟩) hq _).setCell (q := ⟨w.heap.size, 1, none⟩) hq _⟩, fun a ha => by have := hf a ha; simp at this; omega, ?_⟩
    exact (((((Below.refl _ _).alloc (Nat.le_refl _) _).trans (hb1.mono (by simp))).setCell (by simp) _).setCell (by simp) _)
  clear WS AB hcan hr hn hf hb1 hlen
  generalize t.length = n at *
  have key : (s = false) ∨ (s = true ∧ n = 0) ∨ (s = true ∧ 0 < n) := by cases s <;> simp <;> omega
  rcases key with rfl | ⟨rfl, rfl⟩ | ⟨rfl, h0⟩
  · have F := Lib.hid (fin false (by simp)); clear fin
    go_wp2_with fail
    exact bodyPost_ret (v := .agg #[.bool false, .slice q n cc]) (by simp [results, Try.results86, go_sem, hc, hz]) rfl F.out
  · have F := Lib.hid (fin false (by simp)); clear fin
    go_wp2_with fail
    exact bodyPost_ret (v := .agg #[.bool false, .slice q 0 cc]) (by simp [results, Try.results86, go_sem, hc, hz]) rfl F.out
  · have F := Lib.hid (fin true (by simp; omega)); clear fin
    go_wp2_with fail
    exact bodyPost_ret (v := .agg #[.bool true, .slice q n cc]) (by simp [results, Try.results86, go_sem, hc, hz]) rfl F.out
end Go.Proofs.Ytlahdfmciaibdaa

/- The reference's rows: addD, subD. -/
namespace Go.Proofs.Ytlahdfmciaibdaa
open Go.RowKit
set_option linter.unusedVariables false
set_option linter.unusedSimpArgs false

/-- A sum's digits: no word on a highest 0. -/
def SumRes (x : Int) (n : Nat) (w : World) (e : Ending) (w' : World) : Prop :=
  ∃ t p c, e = .returned (.slice p t.length c) ∧ Digs t ∧ dval t = x ∧ t.length ≤ n ∧ RowR w' p t ∧ Below w.heap.size w w'

theorem Digs.snoc {l : List Int} {d : Int} (h : Digs l) (h0 : 0 ≤ d) (h1 : d < 10000) : Digs (l ++ [d]) := Digs.app.2 ⟨h, by intro x m; simp at m; omega⟩

theorem one_cell {w : World} (x : Int) : ∀ j u, ([Value.int .i64 x])[j]? = some u → (w.alloc (Obj.cells #[Value.int .i64 x] 3)).cell? ((⟨w.heap.size, 0, none⟩ : Addr).add j) = some u := by
  intro j u hj
  match j, hj with
  | 0, hj => simp at hj; subst hj; simp [Addr.add, go_sem]
theorem one_one {x : Int} : ∀ u ∈ [Value.int .i64 x], u.oneCell' = true := by intro u hu; simp at hu; subst hu; rfl

set_option maxHeartbeats 1000000 in
theorem addD_any (pa pb : Option Addr) (ca cb : Nat) (a b : List Int) (w : World) (M : Nat) (ha : Digs a) (hb : Digs b) (ra : RowR w pa a) (rb : RowR w pb b) (la : a.length ≤ M) (lb : b.length ≤ M) (hM : M ≤ 1000000) :
    Calls Try.prog 87 #[.slice pa a.length ca, .slice pb b.length cb] w (SumRes (dval a + dval b) (M + 1) w) := by
  obtain ⟨i0, hi, hz0, hz1, hz2⟩ := info_parts intInfo
  obtain ⟨N, hN⟩ : ∃ N, N = max a.length b.length := ⟨_, rfl⟩
  have hN1 : a.length ≤ N := by omega
  have hN2 : b.length ≤ N := by omega
  have hN3 : N ≤ M := by omega
  have hN4 : N ≤ a.length ∨ N ≤ b.length := by omega
  clear hN la lb
  have Ra := Lib.hid ra; clear ra
  have Rb := Lib.hid rb; clear rb
  have Da := Lib.hid ha; clear ha
  have Db := Lib.hid hb; clear hb
  generalize hx : a.length = x at *
  generalize hy : b.length = y at *
  have Hx := Lib.hid hx; clear hx
  have Hy := Lib.hid hy; clear hy
  go_enter Try.func87, Try.ntmps87
  go_wp2
  go_loopw [5, 6, 7] (fun v cv i wr => ∃ (k : Nat) (o : List Int) (c : Int), (k ≤ N ∨ (k ≤ N + 1 ∧ c ≤ 0)) ∧ 0 ≤ c ∧ c ≤ 1 ∧ cv = .int .i64 c ∧ i = .int .i64 k ∧ Hid (o.length = k) ∧ Hid (Digs o) ∧
      Hid (dval o + 10000 ^ k * (c + dval (a.drop k) + dval (b.drop k)) = dval a + dval b) ∧ wr.ownsRow w.heap.size 3 1 v k (o.map (Value.int .i64)) ∧ Below w.heap.size w wr) (fun _ _ i _ => N + 1 - (intOf i).toNat)
  case atStart => exact ⟨0, [], 0, .inl (Nat.zero_le _), by omega, by omega, rfl, rfl, rfl, Digs.nil, by show _ = _; simp [dval], World.ownsRow_nil _ _ _ _, Below.refl _ _⟩
  case round =>
    obtain ⟨k, o, c, hk, c0, c1, rfl, rfl, hol, hod, hval, hown, hbel⟩ := hrel
    have G1 := gd_le Da.out k
    have G2 := gd_le Db.out k
    have S := Lib.hid (add_step hol.out hval.out)
    have step : ∀ s v' w1, 0 ≤ s → s = c + gd a k + gd b k → w1.ownsRow w.heap.size 3 1 v' (k + 1) (o.map (Value.int .i64) ++ [.int .i64 (s % 10000)]) → (wr.alloc (Obj.cells #[Value.int .i64 (s % 10000)] 3)).grownBy w1 (u5).ownBlock →
        Hid ((o ++ [s % 10000]).length = k + 1) ∧ Hid (Digs (o ++ [s % 10000])) ∧ Hid (dval (o ++ [s % 10000]) + 10000 ^ (k + 1) * (s / 10000 + dval (a.drop (k + 1)) + dval (b.drop (k + 1))) = dval a + dval b) ∧ w1.ownsRow w.heap.size 3 1 v' (k + 1) ((o ++ [s % 10000]).map (Value.int .i64)) ∧ Below w.heap.size w w1 := by
      intro s v' w1 hs e h1 h2
      subst e
      have RR := own_snoc (l := o) _ rfl hbel hown h1 h2
      exact ⟨by show _ = _; have := hol.out; simp [this], hod.out.snoc (by omega) (by omega), S.out, RR.1, RR.2⟩
    have hbs : ∀ o, w.heap.size ≤ (wr.alloc o).heap.size := fun o => by have := hbel.size; simp; omega
    clear S
    by_cases t1 : k < x
    · have l1 : k < a.length := by have := Hx.out; omega
      obtain ⟨ga, rfl, ka, cA⟩ := Ra.out k l1
      have cA2 : wr.cell? ⟨ga, k, none⟩ = some (.int .i64 (gd a k)) := by rw [hbel.cell (by exact ka), cA, gd_in l1]
      clear cA ka
      by_cases t2 : k < y
      · have l2 : k < b.length := by have := Hy.out; omega
        obtain ⟨gb, rfl, kb, cB⟩ := Rb.out k l2
        have cB2 : wr.cell? ⟨gb, k, none⟩ = some (.int .i64 (gd b k)) := by rw [hbel.cell (by exact kb), cB, gd_in l2]
        clear cB kb
        have st := Lib.hid (fun v' w1 h => step (c + gd a k + gd b k) v' w1 h rfl)
        clear step
        generalize gd a k = u at *
        generalize gd b k = v at *
        go_wp2_with (first
          | (at_builtin; refine wpList_append_own _ rfl _ _ 31 rfl w.heap.size 3 i0 (.int .i64 0) 1 8 Try.underlying31 hi hz0 hz1 hz2 rfl (by decide) _ _ _ rfl (hown.alloc _) ⟨wr.heap.size, 0, none⟩ 1 1 [.int .i64 ((c + u + v) % 10000)] rfl rfl (one_cell _) one_one (by unfold maxLen; omega) (by omega) (hbs _) ?_))
        intro v' w1 hown' hgrow _
        have RR := st.out v' w1 (by omega) hown' hgrow
        clear hown' hgrow hown hbel st hbs hol hod hval
        go_wp2
        go_roundw
        case rel => exact ⟨k + 1, _, (c + u + v) / 10000, .inl (by omega), by omega, by omega, rfl, by go_num, RR.1, RR.2.1, RR.2.2.1, RR.2.2.2.1, RR.2.2.2.2⟩
        case measure => simp [intOf]; omega
      · have e2 : gd b k = 0 := gd_out (by have := Hy.out; omega)
        have st := Lib.hid (fun v' w1 h => step (c + gd a k) v' w1 h (by rw [e2, Int.add_zero]))
        clear step e2
        generalize gd a k = u at *
        go_wp2_with (first
          | (at_builtin; refine wpList_append_own _ rfl _ _ 31 rfl w.heap.size 3 i0 (.int .i64 0) 1 8 Try.underlying31 hi hz0 hz1 hz2 rfl (by decide) _ _ _ rfl (hown.alloc _) ⟨wr.heap.size, 0, none⟩ 1 1 [.int .i64 ((c + u) % 10000)] rfl rfl (one_cell _) one_one (by unfold maxLen; omega) (by omega) (hbs _) ?_))
        intro v' w1 hown' hgrow _
        have RR := st.out v' w1 (by omega) hown' hgrow
        clear hown' hgrow hown hbel st hbs hol hod hval
        go_wp2
        go_roundw
        case rel => exact ⟨k + 1, _, (c + u) / 10000, .inl (by omega), by omega, by omega, rfl, by go_num, RR.1, RR.2.1, RR.2.2.1, RR.2.2.2.1, RR.2.2.2.2⟩
        case measure => simp [intOf]; omega
    · have e1 : gd a k = 0 := gd_out (by have := Hx.out; omega)
      by_cases t2 : k < y
      · have l2 : k < b.length := by have := Hy.out; omega
        obtain ⟨gb, rfl, kb, cB⟩ := Rb.out k l2
        have cB2 : wr.cell? ⟨gb, k, none⟩ = some (.int .i64 (gd b k)) := by rw [hbel.cell (by exact kb), cB, gd_in l2]
        clear cB kb
        have st := Lib.hid (fun v' w1 h => step (c + gd b k) v' w1 h (by rw [e1, Int.add_zero]))
        clear step e1
        generalize gd b k = v at *
        go_wp2_with (first
          | (at_builtin; refine wpList_append_own _ rfl _ _ 31 rfl w.heap.size 3 i0 (.int .i64 0) 1 8 Try.underlying31 hi hz0 hz1 hz2 rfl (by decide) _ _ _ rfl (hown.alloc _) ⟨wr.heap.size, 0, none⟩ 1 1 [.int .i64 ((c + v) % 10000)] rfl rfl (one_cell _) one_one (by unfold maxLen; omega) (by omega) (hbs _) ?_))
        intro v' w1 hown' hgrow _
        have RR := st.out v' w1 (by omega) hown' hgrow
        clear hown' hgrow hown hbel st hbs hol hod hval
        go_wp2
        go_roundw
        case rel => exact ⟨k + 1, _, (c + v) / 10000, .inl (by omega), by omega, by omega, rfl, by go_num, RR.1, RR.2.1, RR.2.2.1, RR.2.2.2.1, RR.2.2.2.2⟩
        case measure => simp [intOf]; omega
      · have e2 : gd b k = 0 := gd_out (by have := Hy.out; omega)
        by_cases t3 : 0 < c
        · have st := Lib.hid (fun v' w1 h => step c v' w1 h (by rw [e1, e2, Int.add_zero, Int.add_zero]))
          clear step e1 e2
          go_wp2_with (first
            | (at_builtin; refine wpList_append_own _ rfl _ _ 31 rfl w.heap.size 3 i0 (.int .i64 0) 1 8 Try.underlying31 hi hz0 hz1 hz2 rfl (by decide) _ _ _ rfl (hown.alloc _) ⟨wr.heap.size, 0, none⟩ 1 1 [.int .i64 (c % 10000)] rfl rfl (one_cell _) one_one (by unfold maxLen; omega) (by omega) (hbs _) ?_))
          intro v' w1 hown' hgrow _
          have RR := st.out v' w1 (by omega) hown' hgrow
          clear hown' hgrow hown hbel st hbs hol hod hval
          go_wp2
          go_roundw
          case rel => exact ⟨k + 1, _, c / 10000, .inr ⟨by omega, by omega⟩, by omega, by omega, rfl, by go_num, RR.1, RR.2.1, RR.2.2.1, RR.2.2.2.1, RR.2.2.2.2⟩
          case measure => simp [intOf]; omega
        · have vv : dval o = dval a + dval b := by
            have h := hval.out
            rw [List.drop_of_length_le (by have := Hx.out; omega), List.drop_of_length_le (by have := Hy.out; omega), show c = 0 from by omega] at h
            simpa [dval] using h
          obtain ⟨q, cc, hv, hlen, hr, hn, hf⟩ := own_row hown
          have VV := Lib.hid vv
          have HL := Lib.hid hlen
          clear vv hlen e1 e2 step
          subst hv
          go_wp2
          go_ret
          exact ⟨_, q, cc, rfl, hod.out, VV.out, by have := HL.out; omega, hr, hbel⟩
end Go.Proofs.Ytlahdfmciaibdaa

/- The reference's rows: subD, Of. -/
namespace Go.Proofs.Ytlahdfmciaibdaa
open Go.RowKit
set_option linter.unusedVariables false
set_option linter.unusedSimpArgs false

theorem RowRes.from {x : Int} {n m : Nat} {w w1 w2 : World} {e : Ending} (h : RowRes x m w1 e w2) (hb : Below w.heap.size w w1) (hm : m ≤ n) : RowRes x n w e w2 := by
  obtain ⟨t, p, c, rfl, h1, h2, h3, h4, h5, h6⟩ := h
  exact ⟨t, p, c, rfl, h1, by omega, h3, h4, fun a ha => Nat.le_trans hb.size (h5 a ha), hb.trans (h6.mono hb.size)⟩

set_option maxHeartbeats 1000000 in
theorem subD_any (pa pb : Option Addr) (ca cb : Nat) (a b : List Int) (w : World) (ha : Digs a) (hb : Digs b) (ra : RowR w pa a) (rb : RowR w pb b) (la : a.length ≤ 1000000) (lb : b.length ≤ a.length) (hv : dval b ≤ dval a) :
    Calls Try.prog 89 #[.slice pa a.length ca, .slice pb b.length cb] w (RowRes (dval a - dval b) a.length w) := by
  obtain ⟨i0, hi, hz0, hz1, hz2⟩ := info_parts intInfo
  have HV := Lib.hid hv; clear hv
  have Ra := Lib.hid ra; clear ra
  have Rb := Lib.hid rb; clear rb
  have Da := Lib.hid ha; clear ha
  have Db := Lib.hid hb; clear hb
  generalize hx : a.length = x at *
  generalize hy : b.length = y at *
  have Hx := Lib.hid hx; clear hx
  have Hy := Lib.hid hy; clear hy
  go_enter Try.func89, Try.ntmps89
  go_wp2
  go_loopw [5, 6, 7] (fun v cv i wr => ∃ (k : Nat) (o : List Int) (c : Int), k ≤ x ∧ 0 ≤ c ∧ c ≤ 1 ∧ cv = .int .i64 c ∧ i = .int .i64 k ∧ Hid (o.length = k) ∧ Hid (Digs o) ∧
      Hid (dval o + 10000 ^ k * (dval (a.drop k) - dval (b.drop k) - c) = dval a - dval b) ∧ wr.ownsRow w.heap.size 3 1 v k (o.map (Value.int .i64)) ∧ Below w.heap.size w wr) (fun _ _ i _ => x - (intOf i).toNat)
  case atStart => exact ⟨0, [], 0, Nat.zero_le _, by omega, by omega, rfl, rfl, rfl, Digs.nil, by show _ = _; simp [dval], World.ownsRow_nil _ _ _ _, Below.refl _ _⟩
  case round =>
    obtain ⟨k, o, c, hk, c0, c1, rfl, rfl, hol, hod, hval, hown, hbel⟩ := hrel
    have G1 := gd_le Da.out k
    have G2 := gd_le Db.out k
    have step : ∀ s c' v' w1, 0 ≤ s → s < 10000 → s - 10000 * c' = gd a k - gd b k - c → w1.ownsRow w.heap.size 3 1 v' (k + 1) (o.map (Value.int .i64) ++ [.int .i64 s]) → (wr.alloc (Obj.cells #[Value.int .i64 s] 3)).grownBy w1 (u5).ownBlock →
        Hid ((o ++ [s]).length = k + 1) ∧ Hid (Digs (o ++ [s])) ∧ Hid (dval (o ++ [s]) + 10000 ^ (k + 1) * (dval (a.drop (k + 1)) - dval (b.drop (k + 1)) - c') = dval a - dval b) ∧ w1.ownsRow w.heap.size 3 1 v' (k + 1) ((o ++ [s]).map (Value.int .i64)) ∧ Below w.heap.size w w1 := by
      intro s c' v' w1 hs hs' e h1 h2
      have RR := own_snoc (l := o) _ rfl hbel hown h1 h2
      exact ⟨by show _ = _; have := hol.out; simp [this], hod.out.snoc (by omega) (by omega), sub_step hol.out e hval.out, RR.1, RR.2⟩
    have hbs : ∀ o, w.heap.size ≤ (wr.alloc o).heap.size := fun o => by have := hbel.size; simp; omega
    by_cases t1 : k < x
    · have l1 : k < a.length := by have := Hx.out; omega
      obtain ⟨ga, rfl, ka, cA⟩ := Ra.out k l1
      have cA2 : wr.cell? ⟨ga, k, none⟩ = some (.int .i64 (gd a k)) := by rw [hbel.cell (by exact ka), cA, gd_in l1]
      clear cA ka
      by_cases t2 : k < y
      · have l2 : k < b.length := by have := Hy.out; omega
        obtain ⟨gb, rfl, kb, cB⟩ := Rb.out k l2
        have cB2 : wr.cell? ⟨gb, k, none⟩ = some (.int .i64 (gd b k)) := by rw [hbel.cell (by exact kb), cB, gd_in l2]
        clear cB kb
        generalize gd a k = u at *
        generalize gd b k = v at *
        by_cases t3 : u - c - v < 0
        · have st := Lib.hid (fun v' w1 h h' => step (u - c - v + 10000) 1 v' w1 h h' (by omega))
          clear step
          go_wp2_with (first
            | (at_builtin; refine wpList_append_own _ rfl _ _ 31 rfl w.heap.size 3 i0 (.int .i64 0) 1 8 Try.underlying31 hi hz0 hz1 hz2 rfl (by decide) _ _ _ rfl (hown.alloc _) ⟨wr.heap.size, 0, none⟩ 1 1 [.int .i64 (u - c - v + 10000)] rfl rfl (one_cell _) one_one (by unfold maxLen; omega) (by omega) (hbs _) ?_))
          intro v' w1 hown' hgrow _
          have RR := st.out v' w1 (by omega) (by omega) hown' hgrow
          clear hown' hgrow hown hbel st hbs hol hod hval
          go_wp2
          go_roundw
          case rel => exact ⟨k + 1, _, 1, by omega, by omega, by omega, rfl, by go_num, RR.1, RR.2.1, RR.2.2.1, RR.2.2.2.1, RR.2.2.2.2⟩
          case measure => simp [intOf]; omega
        · have st := Lib.hid (fun v' w1 h h' => step (u - c - v) 0 v' w1 h h' (by omega))
          clear step
          go_wp2_with (first
            | (at_builtin; refine wpList_append_own _ rfl _ _ 31 rfl w.heap.size 3 i0 (.int .i64 0) 1 8 Try.underlying31 hi hz0 hz1 hz2 rfl (by decide) _ _ _ rfl (hown.alloc _) ⟨wr.heap.size, 0, none⟩ 1 1 [.int .i64 (u - c - v)] rfl rfl (one_cell _) one_one (by unfold maxLen; omega) (by omega) (hbs _) ?_))
          intro v' w1 hown' hgrow _
          have RR := st.out v' w1 (by omega) (by omega) hown' hgrow
          clear hown' hgrow hown hbel st hbs hol hod hval
          go_wp2
          go_roundw
          case rel => exact ⟨k + 1, _, 0, by omega, by omega, by omega, rfl, by go_num, RR.1, RR.2.1, RR.2.2.1, RR.2.2.2.1, RR.2.2.2.2⟩
          case measure => simp [intOf]; omega
      · have e2 : gd b k = 0 := gd_out (by have := Hy.out; omega)
        generalize gd a k = u at *
        by_cases t3 : u - c < 0
        · have st := Lib.hid (fun v' w1 h h' => step (u - c + 10000) 1 v' w1 h h' (by omega))
          clear step e2
          go_wp2_with (first
            | (at_builtin; refine wpList_append_own _ rfl _ _ 31 rfl w.heap.size 3 i0 (.int .i64 0) 1 8 Try.underlying31 hi hz0 hz1 hz2 rfl (by decide) _ _ _ rfl (hown.alloc _) ⟨wr.heap.size, 0, none⟩ 1 1 [.int .i64 (u - c + 10000)] rfl rfl (one_cell _) one_one (by unfold maxLen; omega) (by omega) (hbs _) ?_))
          intro v' w1 hown' hgrow _
          have RR := st.out v' w1 (by omega) (by omega) hown' hgrow
          clear hown' hgrow hown hbel st hbs hol hod hval
          go_wp2
          go_roundw
          case rel => exact ⟨k + 1, _, 1, by omega, by omega, by omega, rfl, by go_num, RR.1, RR.2.1, RR.2.2.1, RR.2.2.2.1, RR.2.2.2.2⟩
          case measure => simp [intOf]; omega
        · have st := Lib.hid (fun v' w1 h h' => step (u - c) 0 v' w1 h h' (by omega))
          clear step e2
          go_wp2_with (first
            | (at_builtin; refine wpList_append_own _ rfl _ _ 31 rfl w.heap.size 3 i0 (.int .i64 0) 1 8 Try.underlying31 hi hz0 hz1 hz2 rfl (by decide) _ _ _ rfl (hown.alloc _) ⟨wr.heap.size, 0, none⟩ 1 1 [.int .i64 (u - c)] rfl rfl (one_cell _) one_one (by unfold maxLen; omega) (by omega) (hbs _) ?_))
          intro v' w1 hown' hgrow _
          have RR := st.out v' w1 (by omega) (by omega) hown' hgrow
          clear hown' hgrow hown hbel st hbs hol hod hval
          go_wp2
          go_roundw
          case rel => exact ⟨k + 1, _, 0, by omega, by omega, by omega, rfl, by go_num, RR.1, RR.2.1, RR.2.2.1, RR.2.2.2.1, RR.2.2.2.2⟩
          case measure => simp [intOf]; omega
    · have ek : k = x := by omega
      have vv : dval o = dval a - dval b := by
        have h := hval.out
        rw [List.drop_of_length_le (by have := Hx.out; omega), List.drop_of_length_le (by have := Hy.out; omega)] at h
        refine sub_end hod.out hol.out h (by omega) (by have := HV.out; omega)
      obtain ⟨q, cc, hv, hlen, hr, hn, hf⟩ := own_row hown
      have VV := Lib.hid vv
      have HL := Lib.hid hlen
      have HR := Lib.hid hr
      have EK := Lib.hid ek
      clear vv hlen ek step hr hn hf hown hval hol hbs
      subst hv
      go_wp2_with fail
      refine (trim_any q cc o _ hod.out (HR.out.below (Below.refl _ _)) (by have := HL.out; omega)).mono ?_
      intro e w2 hres
      have H2 := hres.from hbel (n := x) (by have := HL.out; have := EK.out; omega)
      rw [VV.out] at H2
      clear hres
      obtain ⟨t, p', c', rfl, rest⟩ := H2
      have RST := Lib.hid rest
      clear rest hbel hod
      go_wp2_with fail
      go_ret
      exact ⟨t, p', c', rfl, RST.out⟩
end Go.Proofs.Ytlahdfmciaibdaa

/- The reference's rows: mulD. -/
namespace Go.Proofs.Ytlahdfmciaibdaa
open Go.RowKit
set_option linter.unusedVariables false
set_option linter.unusedSimpArgs false

/-- The row that a product is made in. -/
def Made (w wr : World) (N : Nat) (O : List Int) : Prop := O.length = N ∧ Digs O ∧ wr.ownsRow w.heap.size 3 1 (.slice (some ⟨w.heap.size, 0, none⟩) N N) N (O.map (Value.int .i64)) ∧ Below w.heap.size w wr
theorem Made.set {w wr : World} {N : Nat} {O : List Int} (h : Made w wr N O) (j : Nat) {x : Int} (h0 : 0 ≤ x) (h1 : x < 10000) : Made w (wr.setCell ⟨w.heap.size, j, none⟩ (.int .i64 x)) N (O.set j x) := by
  obtain ⟨a, b, c, d⟩ := h
  refine ⟨by simpa using a, b.set j ⟨h0, h1⟩, ?_, d.setCell (Nat.le_refl _) _⟩
  have := (c.stored j (.int .i64 x)).1
  rwa [← List.map_set] at this
theorem Made.drewN {w wr : World} {N : Nat} {O : List Int} (h : Made w wr N O) (n : Nat) : Made w (wr.drewN n) N O := ⟨h.1, h.2.1, h.2.2.1, below_drewN h.2.2.2 n⟩
theorem Made.cell {w wr : World} {N : Nat} {O : List Int} (h : Made w wr N O) (j : Nat) (hj : j < O.length) : wr.cell? ⟨w.heap.size, j, none⟩ = some (.int .i64 O[j]) := by
  rw [h.2.2.1.cellAt j (by have := h.1; omega)]
  simp [hj]
theorem Made.frozen {w wr : World} {N : Nat} {O : List Int} (h : Made w wr N O) (j : Nat) : wr.frozen? ⟨w.heap.size, j, none⟩ = false := h.2.2.1.frozenAt j
theorem Made.lt {w wr : World} {N : Nat} {O : List Int} (h : Made w wr N O) : w.heap.size < wr.heap.size := (h.2.2.1.lt _ rfl).2
theorem made_zeros (n : Nat) : (madeCells (Value.int .i64 0).cells (n * 1)).toList = (List.replicate n (0 : Int)).map (Value.int .i64) := by
  rw [Nat.mul_one, show (Value.int .i64 0).cells = #[.int .i64 0] from rfl, toList_madeCells_one, List.map_replicate]
theorem dval_replicate (n : Nat) : dval (List.replicate n 0) = 0 := dval_zeros (fun x m => List.eq_of_mem_replicate m)

theorem mul_last' {a b O : List Int} {i y k : Nat} {c X T : Int} (hy : b.length = y) (hk : k = y) (hi : i + y < O.length) (h0 : O[i + y] = 0)
    (h : dval O + 10000 ^ (i + k) * (c + gd a i * dval (b.drop k)) = T + 10000 ^ i * (gd a i * dval b))
    (hT : T + 10000 ^ i * (dval (a.drop i) * dval b) = X) :
    dval (O.set (i + y) c) + 10000 ^ (i + 1) * (dval (a.drop (i + 1)) * dval b) = X := by
  subst hk hy
  exact mul_last hi h0 h hT

set_option maxRecDepth 100000 in
set_option maxHeartbeats 1600000 in
theorem mulD_any (pa pb : Option Addr) (ca cb : Nat) (a b : List Int) (w : World) (ha : Digs a) (hb : Digs b) (ra : RowR w pa a) (rb : RowR w pb b) (la : a.length ≤ 100000) (lb : b.length ≤ 100000) :
    Calls Try.prog 90 #[.slice pa a.length ca, .slice pb b.length cb] w (RowRes (dval a * dval b) (a.length + b.length) w) := by
  obtain ⟨i0, hi, hz0, hz1, hz2⟩ := info_parts intInfo
  have Ra := Lib.hid ra; clear ra
  have Rb := Lib.hid rb; clear rb
  have Da := Lib.hid ha; clear ha
  have Db := Lib.hid hb; clear hb
  generalize hx : a.length = x at *
  generalize hy : b.length = y at *
  have Hx := Lib.hid hx; clear hx
  have Hy := Lib.hid hy; clear hy
  go_enter Try.func90, Try.ntmps90
  go_wp2_with (first
    | (at_make; refine wpList_make_full _ rfl _ _ 31 rfl w.heap.size 3 i0 (.int .i64 0) 1 Try.underlying31 hi hz0 hz1 .i64 .i64 _ _ (x + y) rfl rfl (by omega) (by omega) (by rw [hz2]; omega) (by unfold maxLen; omega) (Nat.le_refl _) ?_; intro w0 hown0 hgrow0))
  rw [made_zeros] at hown0
  have M0 := Lib.hid (show Made w w0 (x + y) (List.replicate (x + y) 0) from ⟨by simp, fun z m => by rw [List.eq_of_mem_replicate m]; omega, hown0, (Below.refl _ _).grown hgrow0 (Nat.le_refl _) (fun k e => by cases e)⟩)
  clear hown0 hgrow0
  go_wp2
  go_loopw [6] (fun iv wr => ∃ (i : Nat) (O : List Int), i ≤ x ∧ iv = .int .i64 i ∧ Hid (Made w wr (x + y) O) ∧ Hid (∀ j (h : j < O.length), i + y ≤ j → O[j] = 0) ∧
      Hid (dval O + 10000 ^ i * (dval (a.drop i) * dval b) = dval a * dval b)) (fun iv _ => x - (intOf iv).toNat)
  case atStart => exact ⟨0, _, Nat.zero_le _, rfl, M0, by intro j h _; simp, by show _ = _; rw [dval_replicate]; simp⟩
  case round =>
    obtain ⟨i, O, hik, rfl, MO, hz, hval⟩ := hrel
    by_cases t1 : i < x
    · have l1 : i < a.length := by have := Hx.out; omega
      obtain ⟨ga, rfl, ka, cA⟩ := Ra.out i l1
      have G1 := gd_le Da.out i
      have CA := Lib.hid (show w.cell? ⟨ga, i, none⟩ = some (.int .i64 (gd a i)) by rw [cA, gd_in l1])
      have KA := Lib.hid ka
      clear cA ka
      obtain ⟨wo, hwo⟩ : ∃ wo : World, wo = wr := ⟨_, rfl⟩
      subst hwo
      go_wp2
      go_loopw [7, 8] (fun cv kv wr => ∃ (k : Nat) (Q : List Int) (c : Int), k ≤ y ∧ 0 ≤ c ∧ c < 10000 ∧ cv = .int .i64 c ∧ kv = .int .i64 k ∧ Hid (Made w wr (x + y) Q) ∧ Hid (∀ j (h : j < Q.length), i + y ≤ j → Q[j] = 0) ∧
        Hid (dval Q + 10000 ^ (i + k) * (c + gd a i * dval (b.drop k)) = dval O + 10000 ^ i * (gd a i * dval b))) (fun _ kv _ => y - (intOf kv).toNat)
      case atStart => exact ⟨0, O, 0, Nat.zero_le _, by omega, by omega, rfl, rfl, MO, hz, by show _ = _; simp⟩
      case round =>
        obtain ⟨k, Q, c, hk, c0, c1, rfl, rfl, MQ, hz2, hval2⟩ := hrel
        by_cases t2 : k < y
        · have l2 : k < b.length := by have := Hy.out; omega
          obtain ⟨gb, rfl, kb, cB⟩ := Rb.out k l2
          have G2 := gd_le Db.out k
          have cB2 : wr.cell? ⟨gb, k, none⟩ = some (.int .i64 (gd b k)) := by rw [MQ.out.2.2.2.cell (by exact kb), cB, gd_in l2]
          have cA2 : wr.cell? ⟨ga, i, none⟩ = some (.int .i64 (gd a i)) := by rw [MQ.out.2.2.2.cell (by exact KA.out)]; exact CA.out
          have lQ : i + k < Q.length := by have := MQ.out.1; omega
          have cQ : wr.cell? ⟨w.heap.size, i + k, none⟩ = some (.int .i64 Q[i + k]) := MQ.out.cell _ lQ
          have fQ : wr.frozen? ⟨w.heap.size, i + k, none⟩ = false := MQ.out.frozen _
          have gQ := MQ.out.lt
          have G3 := MQ.out.2.1 _ (List.getElem_mem lQ)
          have S := Lib.hid (mul_step lQ hval2.out)
          obtain ⟨B1, B2, B3, B4⟩ := mul_carry G3 G1 G2 ⟨c0, c1⟩
          have hz3 := Lib.hid (show ∀ z, ∀ j (h : j < (Q.set (i + k) z).length), i + y ≤ j → (Q.set (i + k) z)[j] = 0 by
            intro z j h hj
            rw [List.getElem_set_ne (by omega)]
            exact hz2.out j (by simpa using h) hj)
          have ST := Lib.hid (fun (nq : Nat) (z : Int) x0 x1 => (MQ.out.drewN nq).set (i + k) (x := z) x0 x1)
          clear cB kb hz2 hval2
          generalize gd b k = v at *
          generalize Q[i + k] = q at *
          generalize gd a i = u at *
          have e1 : IntKind.i64.wrap ((i : Int) + k) = i + k := IntWalk.i64_in _ (by omega)
          have e2 : IntKind.i64.wrap (u * v) = u * v := IntWalk.i64_in _ (by omega)
          have e3 : IntKind.i64.wrap (q + u * v) = q + u * v := IntWalk.i64_in _ (by omega)
          have e4 : IntKind.i64.wrap (q + u * v + c) = q + u * v + c := IntWalk.i64_in _ (by omega)
          have e5 : ((i : Int) + k).toNat = i + k := by omega
          have i1 : (0 : Int) ≤ i + k := by omega
          have i2 : (i : Int) + k < ((x + y : Nat) : Int) := by omega
          have i3 : (i : Int) < (x : Int) := by omega
          have i4 : (k : Int) < (y : Int) := by omega
          go_wp2
          go_quiet (fail)
          clear e1 e2 e3 e4 e5 cA2 cB2
          go_wp2
          go_roundw
          case rel => exact ⟨k + 1, _, (q + u * v + c) / 10000, by omega, by omega, by omega, rfl, by go_num, ST.out nq _ (by omega) (by omega), hz3.out _, S.out⟩
          case measure => simp [intOf]; omega
        · have ek : k = y := by omega
          have lQ : i + y < Q.length := by have := MQ.out.1; omega
          have cQ : wr.cell? ⟨w.heap.size, i + y, none⟩ = some (.int .i64 Q[i + y]) := MQ.out.cell _ lQ
          have fQ : wr.frozen? ⟨w.heap.size, i + y, none⟩ = false := MQ.out.frozen _
          have gQ := MQ.out.lt
          have S := Lib.hid (mul_last' Hy.out ek lQ (hz2.out _ lQ (Nat.le_refl _)) hval2.out hval.out)
          have hz3 := Lib.hid (show ∀ z, ∀ j (h : j < (Q.set (i + y) z).length), i + 1 + y ≤ j → (Q.set (i + y) z)[j] = 0 by
            intro z j h hj
            rw [List.getElem_set_ne (by omega)]
            exact hz2.out j (by simpa using h) (by omega))
          have ST := Lib.hid (MQ.out.set (i + y) c0 c1)
          have EK := Lib.hid ek
          clear ek hval2 hval hz2
          generalize Q[i + y] = q at *
          have i1 : (0 : Int) ≤ i + y := by omega
          have i2 : (i : Int) + y < ((x + y : Nat) : Int) := by omega
          have i3 : (y : Int) ≤ (k : Int) := by omega
          go_wp2
          go_roundw
          case rel => exact ⟨i + 1, _, by omega, by go_num, ST, hz3.out _, S.out⟩
          case measure => simp [intOf]; omega
    · have vv : dval O = dval a * dval b := by
        have h := hval.out
        rw [List.drop_of_length_le (by have := Hx.out; omega)] at h
        simpa [dval] using h
      have T := trim_any (some ⟨w.heap.size, 0, none⟩) (x + y) O wr MO.out.2.1 (fun j h => ⟨w.heap.size, rfl, MO.out.lt, MO.out.cell j h⟩) (by have := MO.out.1; omega)
      rw [MO.out.1, vv] at T
      have TT := Lib.hid T
      clear T vv hval hz
      go_wp2_with fail
      refine (TT.out).mono ?_
      intro e w2 hres
      have H2 := hres.from MO.out.2.2.2 (Nat.le_refl _)
      clear hres TT
      obtain ⟨t, p', c', rfl, rest⟩ := H2
      have RST := Lib.hid rest
      clear rest
      go_wp2_with fail
      go_ret
      exact ⟨t, p', c', rfl, RST.out⟩
end Go.Proofs.Ytlahdfmciaibdaa
