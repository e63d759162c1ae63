/- The reference's rows: subD, Of. -/
import Derived.Test.YtacliakmhkebbaaDoorR6
namespace Go.Proofs.YtacliakmhkebbaaDoor
open Go.RowKit
set_option linter.unusedVariables false
set_option linter.unusedSimpArgs false

theorem RowRes.from {x : Int} {n m : Nat} {w w1 w2 : World} {e : Ending} (h : RowRes x m w1 e w2) (hb : Below w.heap.size w w1) (hm : m ≤ n) : RowRes x n w e w2 := by
  obtain ⟨t, p, c, rfl, h1, h2, h3, h4, h5, h6⟩ := h
  exact ⟨t, p, c, rfl, h1, by omega, h3, h4, fun a ha => Nat.le_trans hb.size (h5 a ha), hb.trans (h6.mono hb.size)⟩

set_option maxHeartbeats 1000000 in
theorem subD_any (pa pb : Option Addr) (ca cb : Nat) (a b : List Int) (w : World) (ha : Digs a) (hb : Digs b) (ra : RowR w pa a) (rb : RowR w pb b) (la : a.length ≤ 1000000) (lb : b.length ≤ a.length) (hv : dval b ≤ dval a) :
    Calls Tryd.prog 48 #[.slice pa a.length ca, .slice pb b.length cb] w (RowRes (dval a - dval b) a.length w) := by
  obtain ⟨i0, hi, hz0, hz1, hz2⟩ := info_parts intInfo
  have HV := Lib.hid hv; clear hv
  have Ra := Lib.hid ra; clear ra
  have Rb := Lib.hid rb; clear rb
  have Da := Lib.hid ha; clear ha
  have Db := Lib.hid hb; clear hb
  generalize hx : a.length = x at *
  generalize hy : b.length = y at *
  have Hx := Lib.hid hx; clear hx
  have Hy := Lib.hid hy; clear hy
  go_enter Tryd.func48, Tryd.ntmps48
  go_wp2
  go_loopw [5, 6, 7] (fun v cv i wr => ∃ (k : Nat) (o : List Int) (c : Int), k ≤ x ∧ 0 ≤ c ∧ c ≤ 1 ∧ cv = .int .i64 c ∧ i = .int .i64 k ∧ Hid (o.length = k) ∧ Hid (Digs o) ∧
      Hid (dval o + 10000 ^ k * (dval (a.drop k) - dval (b.drop k) - c) = dval a - dval b) ∧ wr.ownsRow w.heap.size 3 1 v k (o.map (Value.int .i64)) ∧ Below w.heap.size w wr) (fun _ _ i _ => x - (intOf i).toNat)
  case atStart => exact ⟨0, [], 0, Nat.zero_le _, by omega, by omega, rfl, rfl, rfl, Digs.nil, by show _ = _; simp [dval], World.ownsRow_nil _ _ _ _, Below.refl _ _⟩
  case round =>
    obtain ⟨k, o, c, hk, c0, c1, rfl, rfl, hol, hod, hval, hown, hbel⟩ := hrel
    have G1 := gd_le Da.out k
    have G2 := gd_le Db.out k
    have step : ∀ s c' v' w1, 0 ≤ s → s < 10000 → s - 10000 * c' = gd a k - gd b k - c → w1.ownsRow w.heap.size 3 1 v' (k + 1) (o.map (Value.int .i64) ++ [.int .i64 s]) → (wr.alloc (Obj.cells #[Value.int .i64 s] 3)).grownBy w1 (u5).ownBlock →
        Hid ((o ++ [s]).length = k + 1) ∧ Hid (Digs (o ++ [s])) ∧ Hid (dval (o ++ [s]) + 10000 ^ (k + 1) * (dval (a.drop (k + 1)) - dval (b.drop (k + 1)) - c') = dval a - dval b) ∧ w1.ownsRow w.heap.size 3 1 v' (k + 1) ((o ++ [s]).map (Value.int .i64)) ∧ Below w.heap.size w w1 := by
      intro s c' v' w1 hs hs' e h1 h2
      have RR := own_snoc (l := o) _ rfl hbel hown h1 h2
      exact ⟨by show _ = _; have := hol.out; simp [this], hod.out.snoc (by omega) (by omega), sub_step hol.out e hval.out, RR.1, RR.2⟩
    have hbs : ∀ o, w.heap.size ≤ (wr.alloc o).heap.size := fun o => by have := hbel.size; simp; omega
    by_cases t1 : k < x
    · have l1 : k < a.length := by have := Hx.out; omega
      obtain ⟨ga, rfl, ka, cA⟩ := Ra.out k l1
      have cA2 : wr.cell? ⟨ga, k, none⟩ = some (.int .i64 (gd a k)) := by rw [hbel.cell (by exact ka), cA, gd_in l1]
      clear cA ka
      by_cases t2 : k < y
      · have l2 : k < b.length := by have := Hy.out; omega
        obtain ⟨gb, rfl, kb, cB⟩ := Rb.out k l2
        have cB2 : wr.cell? ⟨gb, k, none⟩ = some (.int .i64 (gd b k)) := by rw [hbel.cell (by exact kb), cB, gd_in l2]
        clear cB kb
        generalize gd a k = u at *
        generalize gd b k = v at *
        by_cases t3 : u - c - v < 0
        · have st := Lib.hid (fun v' w1 h h' => step (u - c - v + 10000) 1 v' w1 h h' (by omega))
          clear step
          go_wp2_with (first
            | (at_builtin; refine wpList_append_own _ rfl _ _ 22 rfl w.heap.size 3 i0 (.int .i64 0) 1 8 Tryd.underlying22 hi hz0 hz1 hz2 rfl (by decide) _ _ _ rfl (hown.alloc _) ⟨wr.heap.size, 0, none⟩ 1 1 [.int .i64 (u - c - v + 10000)] rfl rfl (one_cell _) one_one (by unfold maxLen; omega) (by omega) (hbs _) ?_))
          intro v' w1 hown' hgrow _
          have RR := st.out v' w1 (by omega) (by omega) hown' hgrow
          clear hown' hgrow hown hbel st hbs hol hod hval
          go_wp2
          go_roundw
          case rel => exact ⟨k + 1, _, 1, by omega, by omega, by omega, rfl, by go_num, RR.1, RR.2.1, RR.2.2.1, RR.2.2.2.1, RR.2.2.2.2⟩
          case measure => simp [intOf]; omega
        · have st := Lib.hid (fun v' w1 h h' => step (u - c - v) 0 v' w1 h h' (by omega))
          clear step
          go_wp2_with (first
            | (at_builtin; refine wpList_append_own _ rfl _ _ 22 rfl w.heap.size 3 i0 (.int .i64 0) 1 8 Tryd.underlying22 hi hz0 hz1 hz2 rfl (by decide) _ _ _ rfl (hown.alloc _) ⟨wr.heap.size, 0, none⟩ 1 1 [.int .i64 (u - c - v)] rfl rfl (one_cell _) one_one (by unfold maxLen; omega) (by omega) (hbs _) ?_))
          intro v' w1 hown' hgrow _
          have RR := st.out v' w1 (by omega) (by omega) hown' hgrow
          clear hown' hgrow hown hbel st hbs hol hod hval
          go_wp2
          go_roundw
          case rel => exact ⟨k + 1, _, 0, by omega, by omega, by omega, rfl, by go_num, RR.1, RR.2.1, RR.2.2.1, RR.2.2.2.1, RR.2.2.2.2⟩
          case measure => simp [intOf]; omega
      · have e2 : gd b k = 0 := gd_out (by have := Hy.out; omega)
        generalize gd a k = u at *
        by_cases t3 : u - c < 0
        · have st := Lib.hid (fun v' w1 h h' => step (u - c + 10000) 1 v' w1 h h' (by omega))
          clear step e2
          go_wp2_with (first
            | (at_builtin; refine wpList_append_own _ rfl _ _ 22 rfl w.heap.size 3 i0 (.int .i64 0) 1 8 Tryd.underlying22 hi hz0 hz1 hz2 rfl (by decide) _ _ _ rfl (hown.alloc _) ⟨wr.heap.size, 0, none⟩ 1 1 [.int .i64 (u - c + 10000)] rfl rfl (one_cell _) one_one (by unfold maxLen; omega) (by omega) (hbs _) ?_))
          intro v' w1 hown' hgrow _
          have RR := st.out v' w1 (by omega) (by omega) hown' hgrow
          clear hown' hgrow hown hbel st hbs hol hod hval
          go_wp2
          go_roundw
          case rel => exact ⟨k + 1, _, 1, by omega, by omega, by omega, rfl, by go_num, RR.1, RR.2.1, RR.2.2.1, RR.2.2.2.1, RR.2.2.2.2⟩
          case measure => simp [intOf]; omega
        · have st := Lib.hid (fun v' w1 h h' => step (u - c) 0 v' w1 h h' (by omega))
          clear step e2
          go_wp2_with (first
            | (at_builtin; refine wpList_append_own _ rfl _ _ 22 rfl w.heap.size 3 i0 (.int .i64 0) 1 8 Tryd.underlying22 hi hz0 hz1 hz2 rfl (by decide) _ _ _ rfl (hown.alloc _) ⟨wr.heap.size, 0, none⟩ 1 1 [.int .i64 (u - c)] rfl rfl (one_cell _) one_one (by unfold maxLen; omega) (by omega) (hbs _) ?_))
          intro v' w1 hown' hgrow _
          have RR := st.out v' w1 (by omega) (by omega) hown' hgrow
          clear hown' hgrow hown hbel st hbs hol hod hval
          go_wp2
          go_roundw
          case rel => exact ⟨k + 1, _, 0, by omega, by omega, by omega, rfl, by go_num, RR.1, RR.2.1, RR.2.2.1, RR.2.2.2.1, RR.2.2.2.2⟩
          case measure => simp [intOf]; omega
    · have ek : k = x := by omega
      have vv : dval o = dval a - dval b := by
        have h := hval.out
        rw [List.drop_of_length_le (by have := Hx.out; omega), List.drop_of_length_le (by have := Hy.out; omega)] at h
        refine sub_end hod.out hol.out h (by omega) (by have := HV.out; omega)
      obtain ⟨q, cc, hv, hlen, hr, hn, hf⟩ := own_row hown
      have VV := Lib.hid vv
      have HL := Lib.hid hlen
      have HR := Lib.hid hr
      have EK := Lib.hid ek
      clear vv hlen ek step hr hn hf hown hval hol hbs
      subst hv
      go_wp2_with fail
      refine (trim_any q cc o _ hod.out (HR.out.below (Below.refl _ _)) (by have := HL.out; omega)).mono ?_
      intro e w2 hres
      have H2 := hres.from hbel (n := x) (by have := HL.out; have := EK.out; omega)
      rw [VV.out] at H2
      clear hres
      obtain ⟨t, p', c', rfl, rest⟩ := H2
      have RST := Lib.hid rest
      clear rest hbel hod
      go_wp2_with fail
      go_ret
      exact ⟨t, p', c', rfl, RST.out⟩
end Go.Proofs.YtacliakmhkebbaaDoor
