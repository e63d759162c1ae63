/- Path, on both sides. -/
import Derived.Test.YtblaakjldpcjlaaDoorX1
import Derived.Test.YtblaakjldpcjlaaDoorR6
import Derived.Test.YtblaakjldpcjlaaDoorC1
import Derived.Test.YtblaakjldpcjlaaDoorR1
namespace Go.Proofs.YtblaakjldpcjlaaDoor
open Go.RowKit
set_option linter.unusedVariables false
set_option linter.unusedSimpArgs false

/-- The continued fraction. -/
def cf (n d : Int) : List Int := if h : 0 < d then (n / d) :: cf d (n % d) else []
termination_by d.toNat
decreasing_by
  have := Int.emod_lt_of_pos n h
  have := Int.emod_nonneg n (show d ≠ 0 by omega)
  omega
theorem cf_pos {n d : Int} (h : 0 < d) : cf n d = (n / d) :: cf d (n % d) := by rw [cf, dif_pos h]
theorem cf_end {n d : Int} (h : ¬ 0 < d) : cf n d = [] := by rw [cf, dif_neg h]
def fracOk (n d : Int) : Prop := vldB n d = true
/-- What Path returns. -/
def PathP (n d : Int) (w : World) (e : Ending) (w' : World) : Prop :=
  (vldB n d = false ∧ e = .returned (.tuple #[.slice none 0 0, .int .i64 2]) ∧ Below w.heap.size w w') ∨
  (vldB n d = true ∧ ∃ p c, e = .returned (.tuple #[.slice p (cf n d).length c, .int .i64 0]) ∧ RowR w' p (cf n d) ∧ (cf n d).length ≤ 1000000000 ∧ Below w.heap.size w w')
theorem RowR.rowA {w : World} {p : Option Addr} {l : List Int} (h : RowR w p l) : RowA w p l := fun i hi => by
  obtain ⟨g, e, k, c⟩ := h i hi
  exact ⟨⟨g, 0, none⟩, e, k, by rw [add_zero_addr, gd_in hi]; exact c⟩

theorem ediv_inz {n d B : Int} (h1 : -B ≤ n) (h2 : n ≤ B) (hd : 1 ≤ d) : -B ≤ n / d ∧ n / d ≤ B := by
  have e1 : n / d * d ≤ n := Int.ediv_mul_le n (by omega)
  have e2 : n < (n / d + 1) * d := Int.lt_ediv_add_one_mul_self n (by omega)
  rcases Int.lt_or_le (n / d) 0 with t | t
  · have : (n / d + 1) * d ≤ (n / d + 1) * 1 := Int.mul_le_mul_of_nonpos_left (by omega) hd
    omega
  · have : n / d * 1 ≤ n / d * d := Int.mul_le_mul_of_nonneg_left hd t
    omega
theorem floor_parts {x d : Int} (hd : 1 ≤ d) : (x.tmod d < 0 ∧ x.tdiv d - 1 = x / d ∧ x.tmod d + d = x % d) ∨ (¬ x.tmod d < 0 ∧ x.tdiv d = x / d ∧ x.tmod d = x % d) := by
  have m0 : 0 ≤ x % d := Int.emod_nonneg _ (by omega)
  have m1 : x % d < d := Int.emod_lt_of_pos _ (by omega)
  by_cases h : 0 ≤ x
  · exact .inr ⟨by rw [Int.tmod_eq_emod_of_nonneg h]; omega, Int.tdiv_eq_ediv_of_nonneg h, Int.tmod_eq_emod_of_nonneg h⟩
  · by_cases hdv : d ∣ x
    · have z : x.tmod d = 0 := Int.tmod_eq_zero_of_dvd hdv
      exact .inr ⟨by rw [z]; omega, by rw [Int.tdiv_eq_ediv, if_pos (Or.inr hdv)]; simp, by rw [z, Int.emod_eq_zero_of_dvd hdv]⟩
    · have z : x.tmod d = x % d - d := by rw [Int.tmod_eq_emod, if_neg (by rintro (a | a); omega; exact hdv a)]; omega
      refine .inl ⟨by omega, ?_, by omega⟩
      rw [Int.tdiv_eq_ediv, if_neg (by rintro (a | a); omega; exact hdv a), Int.sign_eq_one_of_pos (by omega)]; omega
set_option maxRecDepth 100000 in
set_option maxHeartbeats 2000000 in
theorem Path_ok (n d : Int) (hv : vldB n d = true) (w : World) :
    Calls Tryd.prog 28 #[.agg #[.int .i64 n, .int .i64 d]] w (PathP n d w) := by
  obtain ⟨i0, hi, hz0, hz1, hz2⟩ := info_parts intInfo
  obtain ⟨d1, d2, n1, n2, _⟩ := vldB_true.1 hv
  have HV := Lib.hid hv
  have GD : Hid (fracOk n d) := hv
  clear hv
  go_enter Tryd.func28, Tryd.ntmps28
  go_wp2_with fail
  refine (Valid_any n d (by omega) (by omega) _).mono ?_
  rintro e w1 ⟨rfl, hb⟩
  rw [HV.out]
  have c0 : w1.cell? ⟨w.heap.size, 0, none⟩ = some (.int .i64 n) := (hb.cell (p := ⟨w.heap.size, 0, none⟩) (by simp)).trans (by simp [go_sem])
  have c1 : w1.cell? ⟨w.heap.size, 1, none⟩ = some (.int .i64 d) := (hb.cell (p := ⟨w.heap.size, 1, none⟩) (by simp)).trans (by simp [go_sem])
  have bz : w.heap.size < w1.heap.size := by have := hb.size; simp at this; omega
  have KB : Below w.heap.size w w1 := ((Below.refl _ w).alloc (Nat.le_refl _) _).trans (hb.mono (by simp))
  clear hb
  go_wp2_with fail
  go_quiet (fail)
  have KB2 : Below w.heap.size w (w1.drewN nq) := below_drewN KB _
  clear KB c0 c1 bz
  go_wp2_with fail
  go_loopw [4, 5, 6] (fun v nv dv wr => ∃ (k : Nat) (o : List Int) (m e : Int), nv = .int .i64 m ∧ dv = .int .i64 e ∧ k + e ≤ d ∧ 0 ≤ e ∧ e ≤ 1099511627776 ∧ -1099511627776 ≤ m ∧ m ≤ 1099511627776 ∧ Hid (o.length = k) ∧ Hid (o ++ cf m e = cf n d) ∧ wr.ownsRow w.heap.size 3 1 v k (o.map (Value.int .i64)) ∧ Below w.heap.size w wr) (fun _ _ dv _ => (intOf dv).toNat)
  case atStart => exact ⟨0, [], n, d, rfl, rfl, by omega, by omega, by omega, by omega, by omega, rfl, by show _ = _; rfl, World.ownsRow_nil _ _ _ _, KB2⟩
  case round =>
    obtain ⟨k, o, m, e, rfl, rfl, hke, e0, e1, m1, m2, hol, hcf, hown, hbel⟩ := hrel
    by_cases t1 : 0 < e
    · have CF := cf_pos (n := m) t1
      obtain ⟨l1, l2⟩ := ediv_inz m1 m2 (show 1 ≤ e by omega)
      have r0 : 0 ≤ m % e := Int.emod_nonneg _ (by omega)
      have r1 : m % e < e := Int.emod_lt_of_pos _ (by omega)
      have er : m - m / e * e = m % e := by have := Int.emod_add_mul_ediv m e; have := Int.mul_comm e (m / e); omega
      have FL := fun W => floor_any m e (by omega) (by omega) (by omega) (by omega) W
      obtain ⟨q, hq⟩ : ∃ q, q = m / e := ⟨_, rfl⟩
      obtain ⟨r, hr⟩ : ∃ r, r = m % e := ⟨_, rfl⟩
      rw [← hq, ← hr] at CF
      rw [← hq] at FL
      replace FL := Lib.hid FL
      rw [← hr] at r0 r1 er
      rw [← hq] at l1 l2 er
      clear hq hr
      have step : ∀ v' w1, w1.ownsRow w.heap.size 3 1 v' (k + 1) (o.map (Value.int .i64) ++ [.int .i64 q]) → (wr.alloc (Obj.cells #[Value.int .i64 q] 3)).grownBy w1 (u4).ownBlock →
          Hid ((o ++ [q]).length = k + 1) ∧ Hid ((o ++ [q]) ++ cf e r = cf n d) ∧ w1.ownsRow w.heap.size 3 1 v' (k + 1) ((o ++ [q]).map (Value.int .i64)) ∧ Below w.heap.size w w1 := by
        intro v' w1 h1 h2
        have RR := own_snoc (l := o) _ rfl hbel hown h1 h2
        exact ⟨by show _ = _; have := hol.out; simp [this], by show _ = _; rw [List.append_assoc]; have := hcf.out; rw [CF] at this; simpa using this, RR.1, RR.2⟩
      have hbs : ∀ o, w.heap.size ≤ (wr.alloc o).heap.size := fun o => by have := hbel.size; simp; omega
      have st := Lib.hid step
      clear step CF
      have qe : -1099512676352 ≤ q * e ∧ q * e ≤ 1099512676352 := by omega
      obtain ⟨qe1, qe2⟩ := qe
      go_wp2_with fail
      refine (FL.out _).mono ?_
      rintro ee wz ⟨rfl, rfl⟩
      clear FL
      go_wp2_with (first
        | (at_builtin; refine wpList_append_own _ rfl _ _ 28 rfl w.heap.size 3 i0 (.int .i64 0) 1 8 Tryd.underlying28 hi hz0 hz1 hz2 rfl (by decide) _ _ _ rfl (hown.alloc _) ⟨wr.heap.size, 0, none⟩ 1 1 [.int .i64 q] rfl rfl (one_cell _) one_one (by unfold maxLen; omega) (by omega) (hbs _) ?_))
      intro v' w1 hown' hgrow _
      have RR := st.out v' w1 hown' hgrow
      clear hown' hgrow hown hbel st hbs hol hcf
      go_wp2_with fail
      go_roundw
      case rel => exact ⟨k + 1, _, e, r, rfl, rfl, by omega, by omega, by omega, by omega, by omega, RR.1, RR.2.1, RR.2.2.1, RR.2.2.2⟩
      case measure => simp [intOf]; omega
    · have FE : Hid (cf n d = o) := by
        have := hcf.out
        rw [cf_end t1, List.append_nil] at this
        exact this.symm
      obtain ⟨pp, cc, rfl, hn, hrow, -, -⟩ := own_row hown
      have LK := Lib.hid (show o.length ≤ 1000000000 by have := hol.out; omega)
      have GV : Hid (vldB n d = true) := GD.out
      have HR := Lib.hid hrow
      have HB := Lib.hid hbel
      clear hown hcf hbel hrow
      go_wp2_with fail
      go_ret2
      exact .inr ⟨GV.out, pp, cc, by rw [FE.out, hol.out]; rfl, by rw [FE.out]; exact HR.out, by rw [FE.out]; exact LK.out, HB.out⟩

set_option maxRecDepth 100000 in
theorem Path_any (n d : Int) (h1 : -9223372036854775808 ≤ n) (h2 : n ≤ 9223372036854775807) (w : World) :
    Calls Tryd.prog 28 #[.agg #[.int .i64 n, .int .i64 d]] w (PathP n d w) := by
  cases hv : vldB n d
  · have HV := Lib.hid hv
    unfold PathP
    clear hv
    go_enter Tryd.func28, Tryd.ntmps28
    go_wp2_with fail
    refine (Valid_any n d h1 h2 _).mono ?_
    rintro e w1 ⟨rfl, hb⟩
    rw [HV.out]
    have KB : Hid (Below w.heap.size w w1) := ((Below.refl _ w).alloc (Nat.le_refl _) _).trans (hb.mono (by simp))
    clear hb
    go_wp2_with fail
    go_ret2
    exact .inl ⟨HV.out, rfl, KB.out⟩
  · exact Path_ok n d hv w

set_option maxRecDepth 100000 in
set_option maxHeartbeats 2000000 in
theorem rPath_ok (n d : Int) (hv : vldB n d = true) (w : World) :
    Calls Tryd.prog 29 #[.agg #[.int .i64 n, .int .i64 d]] w (PathP n d w) := by
  obtain ⟨i0, hi, hz0, hz1, hz2⟩ := info_parts intInfo
  obtain ⟨d1, d2, n1, n2, _⟩ := vldB_true.1 hv
  have HV := Lib.hid hv
  have GD : Hid (fracOk n d) := hv
  clear hv
  go_enter Tryd.func29, Tryd.ntmps29
  go_wp2_with fail
  refine (rValid_any n d (by omega) (by omega) _).mono ?_
  rintro e w1 ⟨rfl, hb⟩
  rw [HV.out]
  have c0 : w1.cell? ⟨w.heap.size, 0, none⟩ = some (.int .i64 n) := (hb.cell (p := ⟨w.heap.size, 0, none⟩) (by simp)).trans (by simp [go_sem])
  have c1 : w1.cell? ⟨w.heap.size, 1, none⟩ = some (.int .i64 d) := (hb.cell (p := ⟨w.heap.size, 1, none⟩) (by simp)).trans (by simp [go_sem])
  have bz : w.heap.size < w1.heap.size := by have := hb.size; simp at this; omega
  have KB : Below w.heap.size w w1 := ((Below.refl _ w).alloc (Nat.le_refl _) _).trans (hb.mono (by simp))
  clear hb
  go_wp2_with fail
  go_quiet (fail)
  have KB2 : Below w.heap.size w (w1.drewN nq) := below_drewN KB _
  clear KB c0 c1 bz
  go_wp2_with fail
  go_loopw [4, 5, 6] (fun v nv dv wr => ∃ (k : Nat) (o : List Int) (m e : Int), nv = .int .i64 m ∧ dv = .int .i64 e ∧ k + e ≤ d ∧ 0 ≤ e ∧ e ≤ 1099511627776 ∧ -1099511627776 ≤ m ∧ m ≤ 1099511627776 ∧ Hid (o.length = k) ∧ Hid (o ++ cf m e = cf n d) ∧ wr.ownsRow w.heap.size 3 1 v k (o.map (Value.int .i64)) ∧ Below w.heap.size w wr) (fun _ _ dv _ => (intOf dv).toNat)
  case atStart => exact ⟨0, [], n, d, rfl, rfl, by omega, by omega, by omega, by omega, by omega, rfl, by show _ = _; rfl, World.ownsRow_nil _ _ _ _, KB2⟩
  case round =>
    obtain ⟨k, o, m, e, rfl, rfl, hke, e0, e1, m1, m2, hol, hcf, hown, hbel⟩ := hrel
    by_cases t1 : 0 < e
    · have CF := cf_pos (n := m) t1
      obtain ⟨l1, l2⟩ := ediv_inz m1 m2 (show 1 ≤ e by omega)
      have r0 : 0 ≤ m % e := Int.emod_nonneg _ (by omega)
      have r1 : m % e < e := Int.emod_lt_of_pos _ (by omega)
      have er : m - m / e * e = m % e := by have := Int.emod_add_mul_ediv m e; have := Int.mul_comm e (m / e); omega
      have FC := floor_parts (x := m) (show 1 ≤ e by omega)
      obtain ⟨q, hq⟩ : ∃ q, q = m / e := ⟨_, rfl⟩
      obtain ⟨r, hr⟩ : ∃ r, r = m % e := ⟨_, rfl⟩
      rw [← hq, ← hr] at CF FC
      rw [← hr] at r0 r1 er
      rw [← hq] at l1 l2 er
      clear hq hr
      have step : ∀ nn v' w1, w1.ownsRow w.heap.size 3 1 v' (k + 1) (o.map (Value.int .i64) ++ [.int .i64 q]) → ((wr.drewN nn).alloc (Obj.cells #[Value.int .i64 q] 3)).grownBy w1 (u4).ownBlock →
          Hid ((o ++ [q]).length = k + 1) ∧ Hid ((o ++ [q]) ++ cf e r = cf n d) ∧ w1.ownsRow w.heap.size 3 1 v' (k + 1) ((o ++ [q]).map (Value.int .i64)) ∧ Below w.heap.size w w1 := by
        intro nn v' w1 h1 h2
        have RR := own_snoc (l := o) _ rfl (below_drewN hbel nn) hown h1 h2
        exact ⟨by show _ = _; have := hol.out; simp [this], by show _ = _; rw [List.append_assoc]; have := hcf.out; rw [CF] at this; simpa using this, RR.1, RR.2⟩
      have hbs : ∀ o, w.heap.size ≤ (wr.alloc o).heap.size := fun o => by have := hbel.size; simp; omega
      have st := Lib.hid step
      clear step CF
      have hz : ¬ e = 0 := by omega
      have hzb : (e == 0) = false := by simp; omega
      rcases FC with ⟨c1, c2, c3⟩ | ⟨c1, c2, c3⟩
      · have b1 : -1099511627776 ≤ m.tdiv e := by omega
        have b2 : m.tdiv e ≤ 1099511627777 := by omega
        have b3 : -1099511627776 ≤ m.tmod e := by omega
        go_wp2_with fail
        go_quiet (fail)
        go_wp2_with (first
          | (at_builtin; refine wpList_append_own _ rfl _ _ 28 rfl w.heap.size 3 i0 (.int .i64 0) 1 8 Tryd.underlying28 hi hz0 hz1 hz2 rfl (by decide) _ _ _ rfl (hown.alloc _) ⟨wr.heap.size, 0, none⟩ 1 1 [.int .i64 q] rfl rfl (one_cell _) one_one (by unfold maxLen; omega) (by omega) (hbs _) ?_))
        intro v' w1 hown' hgrow _
        have RR := st.out _ v' w1 hown' hgrow
        clear hown' hgrow hown hbel st hbs hol hcf
        go_wp2_with fail
        go_roundw
        case rel => exact ⟨k + 1, _, e, r, rfl, rfl, by omega, by omega, by omega, by omega, by omega, RR.1, RR.2.1, RR.2.2.1, RR.2.2.2⟩
        case measure => simp [intOf]; omega
      · have b1 : -1099511627776 ≤ m.tdiv e := by omega
        have b2 : m.tdiv e ≤ 1099511627777 := by omega
        have b3 : m.tmod e ≤ 1099511627776 := by omega
        go_wp2_with fail
        go_quiet (fail)
        go_wp2_with (first
          | (at_builtin; refine wpList_append_own _ rfl _ _ 28 rfl w.heap.size 3 i0 (.int .i64 0) 1 8 Tryd.underlying28 hi hz0 hz1 hz2 rfl (by decide) _ _ _ rfl (hown.alloc _) ⟨wr.heap.size, 0, none⟩ 1 1 [.int .i64 q] rfl rfl (one_cell _) one_one (by unfold maxLen; omega) (by omega) (hbs _) ?_))
        intro v' w1 hown' hgrow _
        have RR := st.out _ v' w1 hown' hgrow
        clear hown' hgrow hown hbel st hbs hol hcf
        go_wp2_with fail
        go_roundw
        case rel => exact ⟨k + 1, _, e, r, rfl, rfl, by omega, by omega, by omega, by omega, by omega, RR.1, RR.2.1, RR.2.2.1, RR.2.2.2⟩
        case measure => simp [intOf]; omega
    · have FE : Hid (cf n d = o) := by
        have := hcf.out
        rw [cf_end t1, List.append_nil] at this
        exact this.symm
      obtain ⟨pp, cc, rfl, hn, hrow, -, -⟩ := own_row hown
      have LK := Lib.hid (show o.length ≤ 1000000000 by have := hol.out; omega)
      have GV : Hid (vldB n d = true) := GD.out
      have HR := Lib.hid hrow
      have HB := Lib.hid hbel
      clear hown hcf hbel hrow
      go_wp2_with fail
      go_ret2
      exact .inr ⟨GV.out, pp, cc, by rw [FE.out, hol.out]; rfl, by rw [FE.out]; exact HR.out, by rw [FE.out]; exact LK.out, HB.out⟩

set_option maxRecDepth 100000 in
theorem rPath_any (n d : Int) (h1 : -9223372036854775808 ≤ n) (h2 : n ≤ 9223372036854775807) (w : World) :
    Calls Tryd.prog 29 #[.agg #[.int .i64 n, .int .i64 d]] w (PathP n d w) := by
  cases hv : vldB n d
  · have HV := Lib.hid hv
    unfold PathP
    clear hv
    go_enter Tryd.func29, Tryd.ntmps29
    go_wp2_with fail
    refine (rValid_any n d h1 h2 _).mono ?_
    rintro e w1 ⟨rfl, hb⟩
    rw [HV.out]
    have KB : Hid (Below w.heap.size w w1) := ((Below.refl _ w).alloc (Nat.le_refl _) _).trans (hb.mono (by simp))
    clear hb
    go_wp2_with fail
    go_ret2
    exact .inl ⟨HV.out, rfl, KB.out⟩
  · exact rPath_ok n d hv w

end Go.Proofs.YtblaakjldpcjlaaDoor
