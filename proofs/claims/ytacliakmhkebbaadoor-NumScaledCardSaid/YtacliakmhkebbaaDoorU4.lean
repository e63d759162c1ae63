/- Divide in general. -/
import Derived.Test.YtacliakmhkebbaaDoorU3
namespace Go.Proofs.YtacliakmhkebbaaDoor
open Go.RowKit
set_option linter.unusedVariables false
set_option linter.unusedSimpArgs false

/-- What Divide returns. -/
def DivR (T : Int) (l : List Int) (w : World) (e : Ending) (w' : World) : Prop :=
  (∃ E, E ≠ 0 ∧ e = .returned (.tuple #[.slice none 0 0, .int .i64 E]) ∧ SumR T l 0 E ∧ Below w.heap.size w w') ∨
  (∃ b P, e = .returned (.tuple #[.slice (some ⟨b, 0, none⟩) l.length l.length, .int .i64 0]) ∧ MadeI w w' b l.length P ∧ Takes T l ∧ (l.sum = 0 → T = 0) ∧ Dn l P ∧ P.sum = T)

set_option maxRecDepth 100000 in
set_option maxHeartbeats 4000000 in
theorem Divide_any (T : Int) (q : Option Addr) (c : Nat) (l : List Int) (w : World) (r : RowA w q l) (ln : l.length ≤ 1000000) :
    Calls Tryd.prog 12 #[.int .i64 T, .slice q l.length c] w (DivR T l w) := by
  obtain ⟨i0, hi, hz0, hz1, hz2⟩ := info_parts intInfo
  have R := Lib.hid r
  have SO := Lib.hid (fun W h => sumOf_any T q c l W h ln)
  have HA := Lib.hid (fun W S h t s p => head_any T S q c l W h t s p)
  have NX := Lib.hid (fun b cp P W rp gz r hP hl ex => next_any b cp P q c l W rp gz r ln hP hl ex)
  have DZ := Lib.hid (Dn.zeros l)
  obtain ⟨x, hx⟩ : ∃ x, x = l.length := ⟨_, rfl⟩
  unfold DivR
  unfold HeadR at HA
  rw [← hx] at ln SO HA NX DZ ⊢
  have HX := Lib.hid hx
  clear hx r
  go_enter Tryd.func12, Tryd.ntmps12
  go_wp2_with fail
  refine (SO.out _ R.out).mono ?_
  rintro e w1 ⟨⟨S, E, rfl, SR⟩, rfl⟩
  clear SO
  have CS : (E ≠ 0 ∧ S = 0 ∧ Hid (SumR T l 0 E)) ∨ (E = 0 ∧ Hid (Takes T l) ∧ (l.sum = 0 → T = 0) ∧ S = l.sum) := by
    rcases id SR with ⟨a, b, c⟩ | ⟨a, a', b, c⟩ | ⟨a, a', a'', b, c⟩ | ⟨a, b, c, d⟩
    · subst b; exact .inl ⟨by omega, rfl, SR⟩
    · subst b; exact .inl ⟨by omega, rfl, SR⟩
    · subst b; exact .inl ⟨by omega, rfl, SR⟩
    · exact .inr ⟨d, a, b, c⟩
  clear SR
  rcases CS with ⟨E0, rfl, SR⟩ | ⟨rfl, TK, TZ, hS⟩
  · have E0' : (E == 0) = false := by simpa using E0
    have E1 := Lib.hid E0
    clear E0 HA NX DZ
    go_wp2_with fail
    go_ret2
    exact .inl ⟨_, E1.out, rfl, SR.out, by go_grown⟩
  · obtain ⟨ln2, ⟨T0, T1⟩, hl⟩ := TK.out
    have HL := Lib.hid hl
    have S0 : 0 ≤ S := by
      have := sum_le_of (a := List.replicate l.length 0) (b := l) (by simp) (fun i hi => by rw [gd_zeros]; exact (hl i (by simpa using hi)).1)
      rw [sum_zeros] at this; omega
    clear hl
    rw [← HX.out] at ln2
    replace TZ := Lib.hid TZ
    have HS := Lib.hid hS
    by_cases hz : S = 0
    · have T00 : T = 0 := TZ.out (by omega)
      clear hS NX HA
      subst hz T00
      go_wp2_with (first
        | (at_make; refine wpList_make_full _ rfl _ _ 22 rfl w.heap.size 3 i0 (.int .i64 0) 1 Tryd.underlying22 hi hz0 hz1 .i64 .i64 _ _ x rfl rfl (by omega) (by omega) (by rw [hz2]; omega) (by unfold maxLen; omega) (Nat.le_refl _) ?_; intro w0 hown0 hgrow0))
      rw [made_zeros] at hown0
      have M0 := Lib.hid (show MadeI w w0 w.heap.size x (List.replicate x 0) from ⟨by simp, Nat.le_refl _, hown0, (Below.refl _ _).grown hgrow0 (Nat.le_refl _) (fun k e => by cases e)⟩)
      clear hown0 hgrow0
      go_wp2_with fail
      go_ret2
      first | exact .inr ⟨w.heap.size, List.replicate x 0, rfl, M0.out, TK.out, TZ.out, DZ.out, sum_zeros _⟩ | exact .inr ⟨w.heap.size, rfl, List.replicate x 0, M0.out, TK.out, TZ.out, DZ.out, sum_zeros _⟩ | exact .inr ⟨w.heap.size, rfl, List.replicate x 0, M0.out, TK.out, DZ.out, sum_zeros _⟩
    · have zb : (S == 0) = false := by simpa using hz
      have SP : 0 < S := by omega
      have EX : Hid (∃ i, i < x ∧ 0 < gd l i) := by
        obtain ⟨i, h1, h2⟩ := sum_lt_of (a := List.replicate l.length 0) (b := l) (by simp) (by rw [sum_zeros]; omega)
        rw [gd_zeros] at h2
        exact ⟨i, by have := HX.out; simp at h1; omega, h2⟩
      clear hS hz DZ
      go_wp2_with fail
      refine (HA.out _ S R.out TK.out HS.out.symm SP).mono ?_
      rintro e w2 ⟨b, P0, rfl, M0, D0, S1⟩
      replace M0 := Lib.hid M0
      replace D0 := Lib.hid D0
      have cells := Lib.hid (fun i (h : i < x) => M0.out.cell i (by have := M0.out.1; omega))
      clear HA
      have Pn : ∀ i, 0 ≤ gd P0 i := D0.out.pos
      have Ps := Lib.hid (fun k (h : k < x) => sum_take_succ (l := P0) (k := k) (by have := M0.out.1; omega))
      have PT := Lib.hid (show (P0.take x).sum = P0.sum by rw [← M0.out.1, List.take_length])
      have Pb := Lib.hid (fun k => (show 0 ≤ (P0.take k).sum ∧ (P0.take k).sum ≤ P0.sum from by
        constructor
        · have := sum_le_of (a := List.replicate (P0.take k).length 0) (b := P0.take k) (by simp) (fun i hi => by
            rw [gd_zeros]
            simp only [List.length_replicate, List.length_take] at hi
            have := Pn i
            unfold gd at this ⊢
            rw [List.getElem?_take, if_pos (by omega)]; exact this)
          rw [sum_zeros] at this; exact this
        · have e : P0.sum = (P0.take k).sum + (P0.drop k).sum := by rw [← List.sum_append, List.take_append_drop]
          have := sum_le_of (a := List.replicate (P0.drop k).length 0) (b := P0.drop k) (by simp) (fun i hi => by
            rw [gd_zeros]
            have := Pn (k + i)
            unfold gd at this ⊢
            rw [List.getElem?_drop]; exact this)
          rw [sum_zeros] at this; omega))
      generalize hP0 : P0.sum = s0 at *
      have HP0 := Lib.hid hP0
      clear hP0 Pn
      go_wp2_with fail
      go_loop [9, 34] (fun fv kv => ∃ (k : Nat) (f : Int), k ≤ x ∧ fv = .int .i64 f ∧ kv = .int .i64 k ∧ T - s0 ≤ f ∧ f ≤ T ∧ Hid (f = T - (P0.take k).sum)) (fun _ kv => x - (intOf kv).toNat)
      case atStart => exact ⟨0, T, Nat.zero_le _, rfl, rfl, by have := (Pb.out 0); simp at this; omega, by omega, by show _ = _; simp⟩
      case round =>
        obtain ⟨k, f, hk, rfl, rfl, f0, f1, HF⟩ := hrel
        by_cases t2 : k < x
        · have cP := cells.out k t2
          have NS := Ps.out k t2
          have b1 := Pb.out k
          have b2 := Pb.out (k + 1)
          have HFo := HF.out
          have v0 : 0 ≤ gd P0 k := D0.out.pos k
          have NY : Hid (f - gd P0 k = T - (P0.take (k + 1)).sum) := by show _ = _; omega
          have g0 : T - s0 ≤ f - gd P0 k := by omega
          have g1 : gd P0 k ≤ T := by omega
          have i3 : (k : Int) < (x : Int) := by omega
          have i4 : (0 : Int) ≤ (k : Int) := by omega
          have gb := M0.out.lt
          clear NS b1 b2 HFo HF
          generalize gd P0 k = v at *
          go_wp2_with fail
          go_round
          case rel => exact ⟨k + 1, f - v, by omega, rfl, by go_num, by omega, by omega, NY⟩
          case measure => simp [intOf]; omega
        · have hf : f = T - s0 := by
            have a := HF.out
            rw [show k = x from by omega, PT.out] at a
            exact a
          clear HF f0 f1 Pb Ps PT cells
          have F0 : 0 ≤ f := by omega
          have HF := Lib.hid hf
          have FT : f ≤ T := by have := D0.out; have z := gd_nonneg_le_sum (l := P0) D0.out.pos; have := Lib.hid hf; have : 0 ≤ s0 := by
                                  have y := sum_le_of (a := List.replicate P0.length 0) (b := P0) (by simp) (fun i _ => by rw [gd_zeros]; exact D0.out.pos i)
                                  rw [sum_zeros, HP0.out] at y; exact y
                                omega
          clear hf
          go_wp2_with fail
          go_loopw [43] (fun mv wr => ∃ (m : Nat) (P : List Int), (m : Int) ≤ f ∧ mv = .int .i64 m ∧ Hid (MadeI w wr b x P) ∧ Hid (Dn l P) ∧ Hid (P.sum = s0 + m)) (fun mv _ => (f - intOf mv).toNat)
          case atStart => exact ⟨0, P0, by omega, rfl, M0, D0, by show _ = _; rw [HP0.out]; simp⟩
          case round =>
            clear M0 D0
            obtain ⟨m, P, hm, rfl, MP, DP, SP2⟩ := hrel
            by_cases t3 : (m : Int) < f
            · have hP : ∀ i, 0 ≤ gd P i ∧ gd P i ≤ 1152921504606846976 := fun i => ⟨DP.out.pos i, by
                have a := gd_nonneg_le_sum DP.out.pos i
                have := SP2.out
                have := HF.out
                omega⟩
              have NC := Lib.hid (NX.out b x P wr (fun i h => MP.out.cell i (by have := MP.out.1; omega)) MP.out.lt (R.out.below MP.out.2.2.2) hP (fun i h => HL.out i (by have := HX.out; omega)) EX.out)
              go_wp2_with fail
              refine NC.out.mono ?_
              rintro e w3 ⟨⟨i, rfl, NI⟩, n, rfl⟩
              have il : i < x := by have := NI.lt; have := HX.out; omega
              have lP : i < P.length := by have := MP.out.1; omega
              have cP := MP.out.cell i lP
              have fP := MP.out.frozen i
              have gP := MP.out.lt
              obtain ⟨v0, v1⟩ := hP i
              have MS := Lib.hid ((MP.out.drewN n).set i (gd P i + 1))
              have DM := Lib.hid (DP.out.next NI)
              have SM : Hid ((P.set i (gd P i + 1)).sum = s0 + ((m + 1 : Nat) : Int)) := by show _ = _; rw [sum_set lP, SP2.out]; push_cast; omega
              have i3 : (i : Int) < (x : Int) := by omega
              have i4 : (0 : Int) ≤ (i : Int) := by omega
              clear NC hP NI SP2
              generalize gd P i = v at *
              go_wp2_with fail
              go_roundw
              case rel => exact ⟨m + 1, _, by omega, by go_num, MS, DM, SM⟩
              case measure => simp [intOf]; omega
            · have ST : Hid (P.sum = T) := by
                show _ = _
                have := SP2.out
                have := HF.out
                omega
              clear SP2
              go_wp2_with fail
              go_ret2
              first | exact .inr ⟨b, P, rfl, MP.out, TK.out, TZ.out, DP.out, ST.out⟩ | exact .inr ⟨b, rfl, P, MP.out, TK.out, TZ.out, DP.out, ST.out⟩
end Go.Proofs.YtacliakmhkebbaaDoor
