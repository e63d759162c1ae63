/- The reference's rows: addD, subD. -/
import Derived.Test.YthfnaegfjacjbabR5
namespace Go.Proofs.Ythfnaegfjacjbab
open Go.RowKit
set_option linter.unusedVariables false
set_option linter.unusedSimpArgs false

/-- A sum's digits: no word on a highest 0. -/
def SumRes (x : Int) (n : Nat) (w : World) (e : Ending) (w' : World) : Prop :=
  ∃ t p c, e = .returned (.slice p t.length c) ∧ Digs t ∧ dval t = x ∧ t.length ≤ n ∧ RowR w' p t ∧ Below w.heap.size w w'

theorem Digs.snoc {l : List Int} {d : Int} (h : Digs l) (h0 : 0 ≤ d) (h1 : d < 10000) : Digs (l ++ [d]) := Digs.app.2 ⟨h, by intro x m; simp at m; omega⟩

theorem one_cell {w : World} (x : Int) : ∀ j u, ([Value.int .i64 x])[j]? = some u → (w.alloc (Obj.cells #[Value.int .i64 x] 3)).cell? ((⟨w.heap.size, 0, none⟩ : Addr).add j) = some u := by
  intro j u hj
  match j, hj with
  | 0, hj => simp at hj; subst hj; simp [Addr.add, go_sem]
theorem one_one {x : Int} : ∀ u ∈ [Value.int .i64 x], u.oneCell' = true := by intro u hu; simp at hu; subst hu; rfl

set_option maxHeartbeats 1000000 in
theorem addD_any (pa pb : Option Addr) (ca cb : Nat) (a b : List Int) (w : World) (M : Nat) (ha : Digs a) (hb : Digs b) (ra : RowR w pa a) (rb : RowR w pb b) (la : a.length ≤ M) (lb : b.length ≤ M) (hM : M ≤ 1000000) :
    Calls Try.prog 87 #[.slice pa a.length ca, .slice pb b.length cb] w (SumRes (dval a + dval b) (M + 1) w) := by
  obtain ⟨i0, hi, hz0, hz1, hz2⟩ := info_parts intInfo
  obtain ⟨N, hN⟩ : ∃ N, N = max a.length b.length := ⟨_, rfl⟩
  have hN1 : a.length ≤ N := by omega
  have hN2 : b.length ≤ N := by omega
  have hN3 : N ≤ M := by omega
  have hN4 : N ≤ a.length ∨ N ≤ b.length := by omega
  clear hN la lb
  have Ra := Lib.hid ra; clear ra
  have Rb := Lib.hid rb; clear rb
  have Da := Lib.hid ha; clear ha
  have Db := Lib.hid hb; clear hb
  generalize hx : a.length = x at *
  generalize hy : b.length = y at *
  have Hx := Lib.hid hx; clear hx
  have Hy := Lib.hid hy; clear hy
  go_enter Try.func87, Try.ntmps87
  go_wp2
  go_loopw [5, 6, 7] (fun v cv i wr => ∃ (k : Nat) (o : List Int) (c : Int), (k ≤ N ∨ (k ≤ N + 1 ∧ c ≤ 0)) ∧ 0 ≤ c ∧ c ≤ 1 ∧ cv = .int .i64 c ∧ i = .int .i64 k ∧ Hid (o.length = k) ∧ Hid (Digs o) ∧
      Hid (dval o + 10000 ^ k * (c + dval (a.drop k) + dval (b.drop k)) = dval a + dval b) ∧ wr.ownsRow w.heap.size 3 1 v k (o.map (Value.int .i64)) ∧ Below w.heap.size w wr) (fun _ _ i _ => N + 1 - (intOf i).toNat)
  case atStart => exact ⟨0, [], 0, .inl (Nat.zero_le _), by omega, by omega, rfl, rfl, rfl, Digs.nil, by show _ = _; simp [dval], World.ownsRow_nil _ _ _ _, Below.refl _ _⟩
  case round =>
    obtain ⟨k, o, c, hk, c0, c1, rfl, rfl, hol, hod, hval, hown, hbel⟩ := hrel
    have G1 := gd_le Da.out k
    have G2 := gd_le Db.out k
    have S := Lib.hid (add_step hol.out hval.out)
    have step : ∀ s v' w1, 0 ≤ s → s = c + gd a k + gd b k → w1.ownsRow w.heap.size 3 1 v' (k + 1) (o.map (Value.int .i64) ++ [.int .i64 (s % 10000)]) → (wr.alloc (Obj.cells #[Value.int .i64 (s % 10000)] 3)).grownBy w1 (u5).ownBlock →
        Hid ((o ++ [s % 10000]).length = k + 1) ∧ Hid (Digs (o ++ [s % 10000])) ∧ Hid (dval (o ++ [s % 10000]) + 10000 ^ (k + 1) * (s / 10000 + dval (a.drop (k + 1)) + dval (b.drop (k + 1))) = dval a + dval b) ∧ w1.ownsRow w.heap.size 3 1 v' (k + 1) ((o ++ [s % 10000]).map (Value.int .i64)) ∧ Below w.heap.size w w1 := by
      intro s v' w1 hs e h1 h2
      subst e
      have RR := own_snoc (l := o) _ rfl hbel hown h1 h2
      exact ⟨by show _ = _; have := hol.out; simp [this], hod.out.snoc (by omega) (by omega), S.out, RR.1, RR.2⟩
    have hbs : ∀ o, w.heap.size ≤ (wr.alloc o).heap.size := fun o => by have := hbel.size; simp; omega
    clear S
    by_cases t1 : k < x
    · have l1 : k < a.length := by have := Hx.out; omega
      obtain ⟨ga, rfl, ka, cA⟩ := Ra.out k l1
      have cA2 : wr.cell? ⟨ga, k, none⟩ = some (.int .i64 (gd a k)) := by rw [hbel.cell (by exact ka), cA, gd_in l1]
      clear cA ka
      by_cases t2 : k < y
      · have l2 : k < b.length := by have := Hy.out; omega
        obtain ⟨gb, rfl, kb, cB⟩ := Rb.out k l2
        have cB2 : wr.cell? ⟨gb, k, none⟩ = some (.int .i64 (gd b k)) := by rw [hbel.cell (by exact kb), cB, gd_in l2]
        clear cB kb
        have st := Lib.hid (fun v' w1 h => step (c + gd a k + gd b k) v' w1 h rfl)
        clear step
        generalize gd a k = u at *
        generalize gd b k = v at *
        go_wp2_with (first
          | (at_builtin; refine wpList_append_own _ rfl _ _ 31 rfl w.heap.size 3 i0 (.int .i64 0) 1 8 Try.underlying31 hi hz0 hz1 hz2 rfl (by decide) _ _ _ rfl (hown.alloc _) ⟨wr.heap.size, 0, none⟩ 1 1 [.int .i64 ((c + u + v) % 10000)] rfl rfl (one_cell _) one_one (by unfold maxLen; omega) (by omega) (hbs _) ?_))
        intro v' w1 hown' hgrow _
        have RR := st.out v' w1 (by omega) hown' hgrow
        clear hown' hgrow hown hbel st hbs hol hod hval
        go_wp2
        go_roundw
        case rel => exact ⟨k + 1, _, (c + u + v) / 10000, .inl (by omega), by omega, by omega, rfl, by go_num, RR.1, RR.2.1, RR.2.2.1, RR.2.2.2.1, RR.2.2.2.2⟩
        case measure => simp [intOf]; omega
      · have e2 : gd b k = 0 := gd_out (by have := Hy.out; omega)
        have st := Lib.hid (fun v' w1 h => step (c + gd a k) v' w1 h (by rw [e2, Int.add_zero]))
        clear step e2
        generalize gd a k = u at *
        go_wp2_with (first
          | (at_builtin; refine wpList_append_own _ rfl _ _ 31 rfl w.heap.size 3 i0 (.int .i64 0) 1 8 Try.underlying31 hi hz0 hz1 hz2 rfl (by decide) _ _ _ rfl (hown.alloc _) ⟨wr.heap.size, 0, none⟩ 1 1 [.int .i64 ((c + u) % 10000)] rfl rfl (one_cell _) one_one (by unfold maxLen; omega) (by omega) (hbs _) ?_))
        intro v' w1 hown' hgrow _
        have RR := st.out v' w1 (by omega) hown' hgrow
        clear hown' hgrow hown hbel st hbs hol hod hval
        go_wp2
        go_roundw
        case rel => exact ⟨k + 1, _, (c + u) / 10000, .inl (by omega), by omega, by omega, rfl, by go_num, RR.1, RR.2.1, RR.2.2.1, RR.2.2.2.1, RR.2.2.2.2⟩
        case measure => simp [intOf]; omega
    · have e1 : gd a k = 0 := gd_out (by have := Hx.out; omega)
      by_cases t2 : k < y
      · have l2 : k < b.length := by have := Hy.out; omega
        obtain ⟨gb, rfl, kb, cB⟩ := Rb.out k l2
        have cB2 : wr.cell? ⟨gb, k, none⟩ = some (.int .i64 (gd b k)) := by rw [hbel.cell (by exact kb), cB, gd_in l2]
        clear cB kb
        have st := Lib.hid (fun v' w1 h => step (c + gd b k) v' w1 h (by rw [e1, Int.add_zero]))
        clear step e1
        generalize gd b k = v at *
        go_wp2_with (first
          | (at_builtin; refine wpList_append_own _ rfl _ _ 31 rfl w.heap.size 3 i0 (.int .i64 0) 1 8 Try.underlying31 hi hz0 hz1 hz2 rfl (by decide) _ _ _ rfl (hown.alloc _) ⟨wr.heap.size, 0, none⟩ 1 1 [.int .i64 ((c + v) % 10000)] rfl rfl (one_cell _) one_one (by unfold maxLen; omega) (by omega) (hbs _) ?_))
        intro v' w1 hown' hgrow _
        have RR := st.out v' w1 (by omega) hown' hgrow
        clear hown' hgrow hown hbel st hbs hol hod hval
        go_wp2
        go_roundw
        case rel => exact ⟨k + 1, _, (c + v) / 10000, .inl (by omega), by omega, by omega, rfl, by go_num, RR.1, RR.2.1, RR.2.2.1, RR.2.2.2.1, RR.2.2.2.2⟩
        case measure => simp [intOf]; omega
      · have e2 : gd b k = 0 := gd_out (by have := Hy.out; omega)
        by_cases t3 : 0 < c
        · have st := Lib.hid (fun v' w1 h => step c v' w1 h (by rw [e1, e2, Int.add_zero, Int.add_zero]))
          clear step e1 e2
          go_wp2_with (first
            | (at_builtin; refine wpList_append_own _ rfl _ _ 31 rfl w.heap.size 3 i0 (.int .i64 0) 1 8 Try.underlying31 hi hz0 hz1 hz2 rfl (by decide) _ _ _ rfl (hown.alloc _) ⟨wr.heap.size, 0, none⟩ 1 1 [.int .i64 (c % 10000)] rfl rfl (one_cell _) one_one (by unfold maxLen; omega) (by omega) (hbs _) ?_))
          intro v' w1 hown' hgrow _
          have RR := st.out v' w1 (by omega) hown' hgrow
          clear hown' hgrow hown hbel st hbs hol hod hval
          go_wp2
          go_roundw
          case rel => exact ⟨k + 1, _, c / 10000, .inr ⟨by omega, by omega⟩, by omega, by omega, rfl, by go_num, RR.1, RR.2.1, RR.2.2.1, RR.2.2.2.1, RR.2.2.2.2⟩
          case measure => simp [intOf]; omega
        · have vv : dval o = dval a + dval b := by
            have h := hval.out
            rw [List.drop_of_length_le (by have := Hx.out; omega), List.drop_of_length_le (by have := Hy.out; omega), show c = 0 from by omega] at h
            simpa [dval] using h
          obtain ⟨q, cc, hv, hlen, hr, hn, hf⟩ := own_row hown
          have VV := Lib.hid vv
          have HL := Lib.hid hlen
          clear vv hlen e1 e2 step
          subst hv
          go_wp2
          go_ret
          exact ⟨_, q, cc, rfl, hod.out, VV.out, by have := HL.out; omega, hr, hbel⟩
end Go.Proofs.Ythfnaegfjacjbab
