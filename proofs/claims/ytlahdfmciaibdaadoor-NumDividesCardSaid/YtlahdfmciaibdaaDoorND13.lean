/- Several texts in one: AD5 M7. -/
import Derived.Test.YtlahdfmciaibdaaDoorND12
import Derived.Test.YtlahdfmciaibdaaDoorM6
import Derived.Test.YtlahdfmciaibdaaDoorND3

/- The reference's Apportion in general. -/
namespace Go.Proofs.YtlahdfmciaibdaaDoor
open Go.RowKit Go.Proofs.YtlahdfmciaibdaaDoor.Prs Go.Proofs.YtlahdfmciaibdaaDoor.Stb
set_option linter.unusedVariables false
set_option linter.unusedSimpArgs false

theorem within_p {N : Nat} (x most : Int) (hx : 0 ≤ x) (p : Option Addr) (c : Nat) (l : List Int) (h0 : 0 ≤ most) (hm : most ≤ 4611686018427387904) (w : World) (A : BigR N w p l x) (hN : N ≤ 90000) :
    Calls Tryd.prog 32 #[.agg #[.bool false, .slice p l.length c], .int .i64 most] w fun e w' => e = .returned (.tuple #[.int .i64 (wiV x most), .bool (wiB x most)]) ∧ Below w.heap.size w w' := by
  have := Within_any p c l x most h0 hm w A hN
  rwa [show decide (x < 0) = false from decide_eq_false (by omega)] at this

/-- Of the first i, b has the greatest remainder, the first of equal ones. -/
def BestAtR (fL : Nat → Int) (i : Nat) (bv : Value) : Prop := (bv = .int .i64 (-1) ∧ Hid (∀ j, j < i → fL j < 0)) ∨ ∃ b : Nat, b < i ∧ bv = .int .i64 b ∧ Hid (0 ≤ fL b ∧ ∀ j, j < i → 0 ≤ fL j → j ≠ b → fL j < fL b ∨ (fL j = fL b ∧ b < j))
theorem best_is {r fL : Nat → Int} {od : Nat → Nat} {k m b : Nat} (o : Ord k od) (s : Sor r k od) (r0 : ∀ i, 0 ≤ r i) (hm : m < k) (hL : ∀ j, j < k → fL (od j) = if j < m then -1 else r (od j)) (hb : b < k) (h0 : 0 ≤ fL b)
    (h : ∀ j, j < k → 0 ≤ fL j → j ≠ b → fL j < fL b ∨ (fL j = fL b ∧ b < j)) : b = od m := by
  apply Classical.byContradiction
  intro ne
  obtain ⟨j, hj, rfl⟩ := o.onto b hb
  have e1 := hL j hj
  have jm : ¬ j < m := fun c => by rw [if_pos c] at e1; omega
  rw [if_neg jm] at e1
  have e2 := hL m hm
  rw [if_neg (Nat.lt_irrefl m)] at e2
  have mj : m < j := by
    rcases Nat.lt_or_eq_of_le (Nat.le_of_not_lt jm) with c | c
    · exact c
    · subst c; exact absurd rfl ne
  have a := h (od m) (o.lt m hm) (by rw [e2]; exact r0 _) (fun e => ne e.symm)
  have c := s m j mj hj
  unfold RemB at c
  simp only [Int.toNat_natCast] at c
  rw [e1, e2] at a
  omega

set_option maxRecDepth 100000 in
set_option maxHeartbeats 8000000 in
theorem rApportion_any (T : Int) (q : Option Addr) (c : Nat) (l : List Int) (w : World) (r : RowA w q l) (ln : l.length ≤ 1000000) (od : Nat → Nat)
    (HO : Takes T l → ∀ S, l.sum = S → 0 < S → Ord l.length od ∧ Sor (fun i => T * gd l i % S) l.length od) :
    Calls Tryd.prog 9 #[.int .i64 T, .slice q l.length c] w (ApR T l w) := by
  obtain ⟨i0, hi, hz0, hz1, hz2⟩ := info_parts intInfo
  have R := Lib.hid r
  have SO := Lib.hid (fun W h => rsums_any T q c l W h ln)
  have LF := Lib.hid (fun (S : Int) (h : l.sum = S) (h0 : 0 < S) => lr_left (T := T) h h0)
  have OO := Lib.hid HO
  have FE := Lib.hid (show ∀ E w', E ≠ 0 → SumR T l 0 E → Below w.heap.size w w' → ApR T l w (.returned (.tuple #[.slice none 0 0, .int .i64 E])) w' from fun E w' a b c => .inl ⟨E, a, rfl, b, c⟩)
  have FG := Lib.hid (show ∀ b P w', MadeI w w' b l.length P → Takes T l → (l.sum = 0 → T = 0) → (l.sum = 0 → P = List.replicate l.length 0) → (0 < l.sum → ∃ o left, LR T l.sum l P o left) → ApR T l w (.returned (.tuple #[.slice (some ⟨b, 0, none⟩) l.length l.length, .int .i64 0])) w' from fun b P w' a1 a2 a3 a4 a5 => .inr ⟨b, P, rfl, a1, a2, a3, a4, a5⟩)
  obtain ⟨x, hx⟩ : ∃ x, x = l.length := ⟨_, rfl⟩
  rw [← hx] at ln SO LF FG OO ⊢
  have HX := Lib.hid hx
  clear hx r HO
  go_enter Tryd.func9, Tryd.ntmps9
  go_wp2_with fail
  refine (SO.out _ R.out).mono ?_
  rintro e w1 ⟨⟨S, E, rfl, SR⟩, rfl⟩
  clear SO
  have CS : (E ≠ 0 ∧ S = 0 ∧ Hid (SumR T l 0 E)) ∨ (E = 0 ∧ Hid (Takes T l) ∧ (l.sum = 0 → T = 0) ∧ S = l.sum) := by
    rcases id SR with ⟨a, b, c⟩ | ⟨a, a', b, c⟩ | ⟨a, a', a'', b, c⟩ | ⟨a, b, c, d⟩
    · subst b; exact .inl ⟨by omega, rfl, SR⟩
    · subst b; exact .inl ⟨by omega, rfl, SR⟩
    · subst b; exact .inl ⟨by omega, rfl, SR⟩
    · exact .inr ⟨d, a, b, c⟩
  clear SR
  rcases CS with ⟨E0, rfl, SR⟩ | ⟨rfl, TK, TZ, hS⟩
  · have E0' : (E == 0) = false := by simpa using E0
    have E1 := Lib.hid E0
    clear E0 LF FG OO
    go_wp2_with fail
    go_ret2
    exact FE.out _ _ E1.out SR.out (by go_grown)
  · obtain ⟨ln2, ⟨T0, T1⟩, hl⟩ := TK.out
    have HL := Lib.hid hl
    have S0 : 0 ≤ S := by
      have := sum_le_of (a := List.replicate l.length 0) (b := l) (by simp) (fun i hi => by rw [gd_zeros]; exact (hl i (by simpa using hi)).1)
      rw [sum_zeros] at this; omega
    clear hl
    rw [← HX.out] at ln2
    replace TZ := Lib.hid TZ
    have HS := Lib.hid hS
    by_cases hz : S = 0
    · have T00 : T = 0 := TZ.out (by omega)
      clear hS LF FE OO
      subst hz T00
      go_wp2_with (first
        | (at_make; refine wpList_make_full _ rfl _ _ 22 rfl w.heap.size 3 i0 (.int .i64 0) 1 Tryd.underlying22 hi hz0 hz1 .i64 .i64 _ _ x rfl rfl (by omega) (by omega) (by rw [hz2]; omega) (by unfold maxLen; omega) (Nat.le_refl _) ?_; intro w0 hown0 hgrow0))
      rw [made_zeros] at hown0
      have M0 := Lib.hid (show MadeI w w0 w.heap.size x (List.replicate x 0) from ⟨by simp, Nat.le_refl _, hown0, (Below.refl _ _).grown hgrow0 (Nat.le_refl _) (fun k e => by cases e)⟩)
      clear hown0 hgrow0
      go_wp2_with fail
      go_ret2
      have Z := HS.out
      exact FG.out _ _ _ M0.out TK.out (by first | exact fun _ => rfl | exact fun _ => trivial) (fun _ => by rw [HX.out]) (fun h => by omega)
    · have zb : (S == 0) = false := by simpa using hz
      have SP : 0 < S := by omega
      clear hz hS
      go_upto_region 7 with (first | (at_make; refine wpList_make_full _ rfl _ _ 22 rfl w.heap.size 3 i0 (.int .i64 0) 1 Tryd.underlying22 hi hz0 hz1 .i64 .i64 _ _ x rfl rfl (by omega) (by omega) (by rw [hz2]; omega) (by unfold maxLen; omega) (Nat.le_refl _) ?_; intro w0 hown0 hgrow0))
      go_upto_region 8 with (first | (at_make; refine wpList_make_full _ rfl _ _ 22 rfl w.heap.size 3 i0 (.int .i64 0) 1 Tryd.underlying22 hi hz0 hz1 .i64 .i64 _ _ x rfl rfl (by omega) (by omega) (by rw [hz2]; omega) (by unfold maxLen; omega) hgrow0.size ?_; intro w1 hown1 hgrow1))
      have A0 := Lib.hid (RW.new hown0 hgrow0 hown1 hgrow1)
      clear hown0 hgrow0 hown1 hgrow1
      obtain ⟨p, hp⟩ : ∃ p, w.heap.size = p := ⟨_, rfl⟩
      obtain ⟨rr, hr⟩ : ∃ r, w0.heap.size = r := ⟨_, rfl⟩
      rw [hr, hp] at A0
      rw [hr, hp]
      have rp : ¬ rr = p := by have := A0.out.pr; omega
      have pr : ¬ p = rr := fun e => rp e.symm
      clear hp hr
      have WS : Hid (∀ i, i < x → 0 ≤ gd l i ∧ gd l i ≤ S) := fun i hi => by
        refine ⟨(HL.out i (by have := HX.out; omega)).1, ?_⟩
        have := gd_nonneg_le_sum (l := l) (fun i => by
          by_cases t : i < l.length
          · exact (HL.out i t).1
          · rw [gd_out (by omega)]; omega) i
        have := HS.out
        omega
      have SB : S ≤ 256 * 1073741824 := by
        have := sum_le_of (a := l) (b := List.replicate l.length 1073741824) (by simp) (fun i hi => by
          have : gd (List.replicate l.length (1073741824 : Int)) i = 1073741824 := by unfold gd; rw [List.getElem?_replicate, if_pos hi]; rfl
          rw [this]; exact (HL.out i hi).2)
        have e : (List.replicate l.length (1073741824 : Int)).sum = l.length * 1073741824 := by
          generalize l.length = n
          induction n with
          | zero => rfl
          | succ n ih => rw [List.replicate_succ, List.sum_cons, ih]; push_cast; omega
        have := HX.out
        have := HS.out
        omega
      obtain ⟨LF1, LF2⟩ := LF.out S HS.out.symm SP
      have QN := Lib.hid (fun (k : Nat) (hk : k ≤ x) => show 0 ≤ T - sm (fun i => T * gd l i / S) k ∧ T - sm (fun i => T * gd l i / S) k ≤ T by
        have a := sm_nonneg (F := fun i => T * gd l i / S) (n := k) fun i hi => Int.ediv_nonneg (Int.mul_nonneg T0 (WS.out i (by omega)).1) (by omega)
        have b := sm_mono (F := fun i => T * gd l i / S) (n := x) (fun i hi => Int.ediv_nonneg (Int.mul_nonneg T0 (WS.out i (by omega)).1) (by omega)) hk
        omega)
      have LFN := Lib.hid LF2
      clear LF LF1 LF2
      go_wp2_with fail
      go_loopw [10, 11] (fun fv kv wr => ∃ (k : Nat) (f : Int), k ≤ x ∧ fv = .int .i64 f ∧ kv = .int .i64 k ∧ 0 ≤ f ∧ f ≤ T ∧ Hid (f = T - sm (fun i => T * gd l i / S) k) ∧ Hid (RW p rr x w wr (fun i => if i < k then T * gd l i / S else 0) (fun i => if i < k then T * gd l i % S else 0))) (fun _ kv _ => x - (intOf kv).toNat)
      case atStart => exact ⟨0, T, Nat.zero_le _, rfl, rfl, T0, Int.le_refl _, by show _ = _; simp [sm], Lib.hid (A0.out.ext fun k _ => by simp)⟩
      case round =>
        obtain ⟨k, f, hk, rfl, rfl, f0, f1, HF, A⟩ := hrel
        clear A0
        by_cases t1 : k < x
        · obtain ⟨xa, rfl, kx, cx0⟩ := (R.out.below A.out.B) k (by have := HX.out; omega)
          obtain ⟨v0, v2⟩ := WS.out k t1
          have CX := Lib.hid cx0
          have BX := Lib.hid (show (xa.add k).block < wr.heap.size by rw [add_block]; exact kx)
          have NF : Hid (f - T * gd l k / S = T - sm (fun i => T * gd l i / S) (k + 1)) := by
            show _ = _
            have := HF.out
            simp only [sm]; omega
          have nf0 : 0 ≤ f - T * gd l k / S := by have := (QN.out (k + 1) (by omega)).1; have := NF.out; omega
          have AN := Lib.hid (fun W (st : Below wr.heap.size wr W) => (((A.out.grow st).setP k (T * gd l k / S)).setR k (T * gd l k % S)).ext (gP := fun i => if i < k + 1 then T * gd l i / S else 0) (gR := fun i => if i < k + 1 then T * gd l i % S else 0) fun i _ => by
            unfold upd
            dsimp only
            by_cases e : i = k
            · subst e; simp
            · rw [if_neg e, if_neg e]
              by_cases g : i < k
              · rw [if_pos g, if_pos g, if_pos (by omega), if_pos (by omega)]; exact ⟨rfl, rfl⟩
              · rw [if_neg g, if_neg g, if_neg (by omega), if_neg (by omega)]; exact ⟨rfl, rfl⟩)
          have i3 : (k : Int) < (x : Int) := by omega
          have i4 : (0 : Int) ≤ (k : Int) := by omega
          clear HF cx0 kx
          generalize gd l k = v at *
          obtain ⟨Q, hQ⟩ : ∃ Q, T * v / S = Q := ⟨_, rfl⟩
          obtain ⟨rm, hr⟩ : ∃ rm, T * v % S = rm := ⟨_, rfl⟩
          have m0 := Int.mul_nonneg T0 v0
          have q0 : 0 ≤ Q := by rw [← hQ]; exact Int.ediv_nonneg m0 (by omega)
          have qT : Q ≤ T := by
            have := Int.ediv_le_ediv (show 0 < S by omega) (Int.mul_le_mul_of_nonneg_left v2 T0)
            rw [Int.mul_ediv_cancel _ (by omega)] at this
            omega
          have rm0 : 0 ≤ rm := by rw [← hr]; exact Int.emod_nonneg _ (by omega)
          have rm1 : rm < S := by rw [← hr]; exact Int.emod_lt_of_pos _ SP
          have ST := Lib.hid (show false = decide (T < 0) by simp; omega)
          have SV := Lib.hid (show false = decide (v < 0) by simp; omega)
          have SM := Lib.hid (show false = decide (T * v < 0) by simp; omega)
          have SS := Lib.hid (show false = decide (S < 0) by simp; omega)
          have SQ := Lib.hid (show false = decide (T * v / S < 0) by rw [hQ]; simp; omega)
          have PN := Lib.hid m0
          have SPO := Lib.hid SP
          have HQ := Lib.hid hQ
          have HR := Lib.hid hr
          rw [hQ] at NF nf0 AN
          rw [hr] at AN
          clear hQ hr m0
          go_upto_region 12 with fail
          go_cut [12, 13] from 45 to 58 (fun b1v b2v wx => ∃ B1 B2 p5 q5 l5 m5 d5 e5, b1v = .pointer (some ⟨B1, 0, none⟩) ∧ b2v = .pointer (some ⟨B2, 0, none⟩) ∧ Hid (TwoG wr Q rm 12 11 p5 q5 l5 m5 d5 e5 B1 B2 wx))
          case first =>
            refine wp_region_G (fun w' => Below wr.heap.size wr w') 17 (by kernel_rfl) ?_
            have hS : Below wr.heap.size wr wr.drew := (Below.refl _ _).drew
            refine wpAnyG_take3 (i := 0) (d := 46) (oi := _) (v := .int .i64 T) rfl (by kernel_rfl) (by kernel_rfl) (by kernel_rfl) (by kernel_rfl) (by kernel_rfl) (by kernel_rfl) (by decide) (fun _ _ _ h => h) (by rfl) (fun w' hw' => ?_) hS ?_
            · go_simp
            simp only [List.setIfInBounds_toArray, List.set_cons_zero, List.set_cons_succ]
            refine wpAnyG_take3 (i := 2) (d := 48) (oi := _) (v := .slice (some xa) x c) rfl (by kernel_rfl) (by kernel_rfl) (by kernel_rfl) (by kernel_rfl) (by kernel_rfl) (by kernel_rfl) (by decide) (fun _ _ _ h => h) (by rfl) (fun w' hw' => ?_) hS ?_
            · go_simp
            simp only [List.setIfInBounds_toArray, List.set_cons_zero, List.set_cons_succ]
            refine wpAnyG_take3 (i := 3) (d := 49) (oi := _) (v := .int .i64 k) rfl (by kernel_rfl) (by kernel_rfl) (by kernel_rfl) (by kernel_rfl) (by kernel_rfl) (by kernel_rfl) (by decide) (fun _ _ _ h => h) (by rfl) (fun w' hw' => ?_) hS ?_
            · go_simp
            simp only [List.setIfInBounds_toArray, List.set_cons_zero, List.set_cons_succ]
            refine wpAnyG_take3 (i := 4) (d := 50) (oi := _) (v := .pointer (some (xa.add k))) rfl (by kernel_rfl) (by kernel_rfl) (by kernel_rfl) (by kernel_rfl) (by kernel_rfl) (by kernel_rfl) (by decide) (fun _ _ _ h => h) (by rfl) (fun w' hw' => ?_) hS ?_
            · go_simp
            simp only [List.setIfInBounds_toArray, List.set_cons_zero, List.set_cons_succ]
            refine wpAnyG_take3 (i := 5) (d := 51) (oi := _) (v := .int .i64 v) rfl (by kernel_rfl) (by kernel_rfl) (by kernel_rfl) (by kernel_rfl) (by kernel_rfl) (by kernel_rfl) (by decide) (fun _ _ _ h => h) (by rfl) (fun w' hw' => ?_) hS ?_
            · have cx := (hw'.cell (p := xa.add k) BX.out).trans CX.out
              go_simp
            simp only [List.setIfInBounds_toArray, List.set_cons_zero, List.set_cons_succ]
            refine wpAnyG_take3 (i := 8) (d := 54) (oi := _) (v := .int .i64 S) rfl (by kernel_rfl) (by kernel_rfl) (by kernel_rfl) (by kernel_rfl) (by kernel_rfl) (by kernel_rfl) (by decide) (fun _ _ _ h => h) (by rfl) (fun w' hw' => ?_) hS ?_
            · go_simp
            simp only [List.setIfInBounds_toArray, List.set_cons_zero, List.set_cons_succ]
            refine wpAnyG_flow (w0 := wr) (Lend := #[true, true, true, true, true, true, true, true, true, true, true, true, true, true, true, true, false, false]) [47, 52, 53, 55, 56, 45, 57, 58, 12, 13] [1, 6, 7, 9, 10, 11, 12, 13, 14, 15] (fun p' => match p' with | 0 => NumV 5 T | 1 => NumV 5 v | 2 => NumV 10 (T * v) | 3 => NumV 5 S | 4 => NumV2 12 11 Q rm | 5 => NumV2 12 11 Q rm | 6 => NumV 12 Q | 7 => NumV 11 rm | 8 => BoxV wr.heap.size | 9 => BoxV wr.heap.size | _ => fun _ _ => False) (fun p => p == 8 || p == 9) (fun p => match p with | 0 => [] | 1 => [] | 2 => [0, 1] | 3 => [] | 4 => [2, 3] | 5 => [4] | 6 => [5] | 7 => [5] | 8 => [] | 9 => [] | _ => []) 16 13 (by kernel_rfl) (by kernel_rfl) (by kernel_rfl) (by decide) (by decide) (by decide) rfl (by decide) (by decide) (by kernel_rfl) (by kernel_rfl) hS (hS) ?hfl ?ho ?hz (by kernel_rfl) ?hLm ?hval ?hbx ?H ?hend 7 ?hpo ?hopt
            case hfl =>
              intro j hj
              simp only [List.mem_cons, List.not_mem_nil, or_false] at hj
              rcases hj with rfl | rfl | rfl | rfl | rfl | rfl | rfl | rfl | rfl | rfl <;> rfl
            case ho =>
              intro j hj hn
              simp only [List.mem_cons, List.not_mem_nil, or_false, not_or] at hn
              rcases (by omega : j = 0 ∨ j = 2 ∨ j = 3 ∨ j = 4 ∨ j = 5 ∨ j = 8) with rfl | rfl | rfl | rfl | rfl | rfl <;> rfl
            case hz =>
              intro j hj
              by_cases hz : j < 18
              · rcases (by omega : j = 16 ∨ j = 17) with rfl | rfl <;> rfl
              · simp [Array.getD]; try omega
            case hLm =>
              intro j hj
              have hj : j < 18 := hj
              rcases (by omega : j = 0 ∨ j = 1 ∨ j = 2 ∨ j = 3 ∨ j = 4 ∨ j = 5 ∨ j = 6 ∨ j = 7 ∨ j = 8 ∨ j = 9 ∨ j = 10 ∨ j = 11 ∨ j = 12 ∨ j = 13 ∨ j = 14 ∨ j = 15 ∨ j = 16 ∨ j = 17) with rfl | rfl | rfl | rfl | rfl | rfl | rfl | rfl | rfl | rfl | rfl | rfl | rfl | rfl | rfl | rfl | rfl | rfl <;> rfl
            case hval =>
              intro p v w w' h st
              match p, h with
              | 0, h => exact NumV.grow h st
              | 1, h => exact NumV.grow h st
              | 2, h => exact NumV.grow h st
              | 3, h => exact NumV.grow h st
              | 4, h => exact NumV2.grow h st
              | 5, h => exact NumV2.grow h st
              | 6, h => exact NumV.grow h st
              | 7, h => exact NumV.grow h st
              | 8, h => exact BoxV.grow h st
              | 9, h => exact BoxV.grow h st
              | _ + 10, h => cases h
            case hbx =>
              intro p v w hb h
              simp only [Bool.or_eq_true, beq_iff_eq] at hb
              rcases hb with rfl | rfl
              · exact BoxV.at h
              · exact BoxV.at h
            case H =>
              intro p hp vs w' hvs hS' bel hd o ho A hA K' hK
              obtain ⟨x0, x1, x2, x3, x4, x5, x6, x7, x8, x9, rfl⟩ : ∃ x0 x1 x2 x3 x4 x5 x6 x7 x8 x9, vs = [x0, x1, x2, x3, x4, x5, x6, x7, x8, x9] := by
                rcases vs with _ | ⟨x0, _ | ⟨x1, _ | ⟨x2, _ | ⟨x3, _ | ⟨x4, _ | ⟨x5, _ | ⟨x6, _ | ⟨x7, _ | ⟨x8, _ | ⟨x9, _ | ⟨y, vs⟩⟩⟩⟩⟩⟩⟩⟩⟩⟩⟩
                all_goals first | (simp at hvs; done) | exact ⟨_, _, _, _, _, _, _, _, _, _, rfl⟩
              rcases (by simpa using hp : p < 10) with hp'
              rcases (by have : p < 10 := by simpa using hp
                         omega : p = 0 ∨ p = 1 ∨ p = 2 ∨ p = 3 ∨ p = 4 ∨ p = 5 ∨ p = 6 ∨ p = 7 ∨ p = 8 ∨ p = 9) with rfl | rfl | rfl | rfl | rfl | rfl | rfl | rfl | rfl | rfl
              · clear hd
                have ho2 := Option.some.inj ho
                clear ho
                subst ho2
                refine wp_of_callw (F := 31) (args := #[.int .i64 T]) (by rw [hA.out]; kernel_rfl) (by rw [hA.out]; kernel_rfl) (of_s T false ST.out (by omega) (by omega) _) ?_
                rintro e' w'' ⟨p1, l1, d1, rfl, r1, r2, r3⟩
                exact ⟨_, rfl, hK.out _ _ r3 (hS'.trans (r3.mono hS'.size)) ⟨_, _, _, rfl, r1⟩ (fun h => by cases h)⟩
              · clear hd
                have ho2 := Option.some.inj ho
                clear ho
                subst ho2
                refine wp_of_callw (F := 31) (args := #[.int .i64 v]) (by rw [hA.out]; kernel_rfl) (by rw [hA.out]; kernel_rfl) (of_s v false SV.out (by omega) (by omega) _) ?_
                rintro e' w'' ⟨p1, l1, d1, rfl, r1, r2, r3⟩
                exact ⟨_, rfl, hK.out _ _ r3 (hS'.trans (r3.mono hS'.size)) ⟨_, _, _, rfl, r1⟩ (fun h => by cases h)⟩
              · have g0 := hd 0 (by simp)
                have g1 := hd 1 (by simp)
                obtain ⟨u1, j1, k1, rfl, a1⟩ := g0
                obtain ⟨u2, j2, k2, rfl, a2⟩ := g1
                clear hd
                have ho2 := Option.some.inj ho
                clear ho
                subst ho2
                refine wp_of_callw (F := 30) (args := #[.agg #[.bool false, .slice u1 (List.length j1) k1], .agg #[.bool false, .slice u2 (List.length j2) k2]]) (by rw [hA.out]; kernel_rfl) (by rw [hA.out]; kernel_rfl) (times_s (n := 5) (m := 5) T v false false false ST.out SV.out SM.out u1 u2 k1 k2 j1 j2 _ a1 a2 (by decide) (by decide)) ?_
                rintro e' w'' ⟨p1, l1, d1, rfl, r1, r2, r3⟩
                exact ⟨_, rfl, hK.out _ _ r3 (hS'.trans (r3.mono hS'.size)) ⟨_, _, _, rfl, r1⟩ (fun h => by cases h)⟩
              · clear hd
                have ho2 := Option.some.inj ho
                clear ho
                subst ho2
                refine wp_of_callw (F := 31) (args := #[.int .i64 S]) (by rw [hA.out]; kernel_rfl) (by rw [hA.out]; kernel_rfl) (of_s S false SS.out (by omega) (by omega) _) ?_
                rintro e' w'' ⟨p1, l1, d1, rfl, r1, r2, r3⟩
                exact ⟨_, rfl, hK.out _ _ r3 (hS'.trans (r3.mono hS'.size)) ⟨_, _, _, rfl, r1⟩ (fun h => by cases h)⟩
              · have g2 := hd 2 (by simp)
                have g3 := hd 3 (by simp)
                obtain ⟨u1, j1, k1, rfl, a1⟩ := g2
                obtain ⟨u2, j2, k2, rfl, a2⟩ := g3
                clear hd
                have ho2 := Option.some.inj ho
                clear ho
                subst ho2
                refine wp_of_callw (F := 29) (args := #[.agg #[.bool false, .slice u1 (List.length j1) k1], .agg #[.bool false, .slice u2 (List.length j2) k2]]) (by rw [hA.out]; kernel_rfl) (by rw [hA.out]; kernel_rfl) (Over_pos (N := 10) u1 u2 k1 k2 j1 j2 (T * v) S false false SQ.out _ (BigR.more (m := 10) a1 (by decide)) (BigR.more (m := 10) a2 (by decide)) PN.out SPO.out (by decide)) ?_
                rintro e' w'' ⟨p1, l1, d1, q1, k3, e1, rfl, r1, r2, r2b, r3⟩
                exact ⟨_, rfl, hK.out _ _ r3 (hS'.trans (r3.mono hS'.size)) ⟨_, _, _, _, _, _, rfl, HQ.out ▸ r1, HR.out ▸ r2⟩ (fun h => by cases h)⟩
              · have g4 := hd 4 (by simp)
                obtain ⟨u1, j1, k1, u2, j2, k2, rfl, a1, a2⟩ := g4
                clear hd
                have ho2 := Option.some.inj ho
                clear ho
                subst ho2
                refine wp_of_valuew (v := .tuple #[.agg #[.bool false, .slice u1 (List.length j1) k1], .agg #[.bool false, .slice u2 (List.length j2) k2]]) (w' := w') (by rw [hA.out]; kernel_rfl) (by rw [hA.out]; kernel_rfl) ?_
                exact hK.out _ _ (Below.refl _ _) hS' ⟨_, _, _, _, _, _, rfl, a1, a2⟩ (fun h => by cases h)
              · have g5 := hd 5 (by simp)
                obtain ⟨u1, j1, k1, u2, j2, k2, rfl, a1, a2⟩ := g5
                clear hd
                have ho2 := Option.some.inj ho
                clear ho
                subst ho2
                refine wp_of_valuew (v := .agg #[.bool false, .slice u1 (List.length j1) k1]) (w' := w') (by rw [hA.out]; kernel_rfl) (by rw [hA.out]; kernel_rfl) ?_
                exact hK.out _ _ (Below.refl _ _) hS' ⟨_, _, _, rfl, a1⟩ (fun h => by cases h)
              · have g5 := hd 5 (by simp)
                obtain ⟨u1, j1, k1, u2, j2, k2, rfl, a1, a2⟩ := g5
                clear hd
                have ho2 := Option.some.inj ho
                clear ho
                subst ho2
                refine wp_of_valuew (v := .agg #[.bool false, .slice u2 (List.length j2) k2]) (w' := w') (by rw [hA.out]; kernel_rfl) (by rw [hA.out]; kernel_rfl) ?_
                exact hK.out _ _ (Below.refl _ _) hS' ⟨_, _, _, rfl, a2⟩ (fun h => by cases h)
              · clear hd
                have ho2 := Option.some.inj ho
                clear ho
                subst ho2
                refine wp_of_value (v := .pointer (some ⟨w'.heap.size, 0, none⟩)) (w' := w'.alloc (.cells #[.bool false, .slice none 0 0] 55)) rfl (by rw [hA.out]; kernel_rfl) ?_
                exact hK.out _ _ ((Below.refl _ _).alloc (Nat.le_refl _) _) (hS'.alloc hS'.size _) (BoxV.new _ hS'.size) (fun _ => ⟨_, rfl, Nat.le_refl _⟩)
              · clear hd
                have ho2 := Option.some.inj ho
                clear ho
                subst ho2
                refine wp_of_value (v := .pointer (some ⟨w'.heap.size, 0, none⟩)) (w' := w'.alloc (.cells #[.bool false, .slice none 0 0] 55)) rfl (by rw [hA.out]; kernel_rfl) ?_
                exact hK.out _ _ ((Below.refl _ _).alloc (Nat.le_refl _) _) (hS'.alloc hS'.size _) (BoxV.new _ hS'.size) (fun _ => ⟨_, rfl, Nat.le_refl _⟩)
            case hend =>
              intro vs w' hvs hS' bel hv hd A hA f hu
              obtain ⟨x0, x1, x2, x3, x4, x5, x6, x7, x8, x9, rfl⟩ : ∃ x0 x1 x2 x3 x4 x5 x6 x7 x8 x9, vs = [x0, x1, x2, x3, x4, x5, x6, x7, x8, x9] := by
                rcases vs with _ | ⟨x0, _ | ⟨x1, _ | ⟨x2, _ | ⟨x3, _ | ⟨x4, _ | ⟨x5, _ | ⟨x6, _ | ⟨x7, _ | ⟨x8, _ | ⟨x9, _ | ⟨y, vs⟩⟩⟩⟩⟩⟩⟩⟩⟩⟩⟩
                all_goals first | (simp at hvs; done) | exact ⟨_, _, _, _, _, _, _, _, _, _, rfl⟩
              have g0 := hv 0 (by simp)
              have g1 := hv 1 (by simp)
              have g2 := hv 2 (by simp)
              have g3 := hv 3 (by simp)
              have g4 := hv 4 (by simp)
              have g5 := hv 5 (by simp)
              have g6 := hv 6 (by simp)
              have g7 := hv 7 (by simp)
              have g8 := hv 8 (by simp)
              have g9 := hv 9 (by simp)
              obtain ⟨e00, e01, e02, rfl, -⟩ := g0
              obtain ⟨e10, e11, e12, rfl, -⟩ := g1
              obtain ⟨e20, e21, e22, rfl, -⟩ := g2
              obtain ⟨e30, e31, e32, rfl, -⟩ := g3
              obtain ⟨e40, e41, e42, e43, e44, e45, rfl, -, -⟩ := g4
              obtain ⟨e50, e51, e52, e53, e54, e55, rfl, -, -⟩ := g5
              obtain ⟨p5, l5, d5, rfl, B5⟩ := g6
              obtain ⟨q5, m5, e5, rfl, B6⟩ := g7
              obtain ⟨B1, rfl, z1, y1, c10, c11, f10, f11⟩ := g8
              obtain ⟨B2, rfl, z2, y2, c20, c21, f20, f21⟩ := g9
              have n12 := hd 8 9 (by decide) (by simp) rfl rfl
              simp only [List.getD_cons_zero, List.getD_cons_succ] at n12
              obtain ⟨f, rfl⟩ : ∃ g, f = g + 1 + 1 := ⟨f - 2, by have h3 : unl #[true, true, true, true, true, true, true, true, true, true, true, true, true, true, true, true, false, false] = 2 := (by decide); omega⟩
              clear hv hd hu
              have n21 : ¬ B1 = B2 := by simpa using n12
              have n22 : ¬ B2 = B1 := fun e => n21 e.symm
              have TW := Lib.hid (g_5 (w := wr) (c := d5) (d := e5) z1 z2 n21 hS' B5 B6 c10 c11 c20 c21)
              rw [hA.out]
              clear hA
              simp only [putL, Act.put, List.setIfInBounds_toArray, List.set_cons_zero, List.set_cons_succ]
              refine wpAnyG_one (i := 16) (o := _) (by kernel_rfl) rfl (fun K hK => ?_)
              go_simp
              refine hK.out _ _ (fun _ => (hS'.setCell (p := ⟨B1, 0, none⟩) z1 _).setCell (p := ⟨B1, 1, none⟩) z1 _) ?_
              try simp only [Act.put, List.setIfInBounds_toArray, List.set_cons_zero, List.set_cons_succ]
              clear hK
              refine wpAnyG_one (i := 17) (o := _) (by kernel_rfl) rfl (fun K hK => ?_)
              go_simp
              refine hK.out _ _ (fun h => absurd h (by decide)) ?_
              try simp only [Act.put, List.setIfInBounds_toArray, List.set_cons_zero, List.set_cons_succ]
              clear hK
              refine wpAnyG_done (by kernel_rfl) ?_ _
              go_wp2_with fail
              go_meet
              exact ⟨_, _, _, _, _, _, _, _, rfl, rfl, TW⟩
            case hpo => exact fun _ => ⟨by decide, rfl, rfl⟩
            case hopt =>
              intro _
              refine ⟨_, rfl, rfl, by kernel_rfl, by kernel_rfl, by kernel_rfl, by kernel_rfl, by kernel_rfl, by decide, fun _ _ _ _ h => h, ?_⟩
              intro vs w' hvs hd A hA
              obtain ⟨x0, x1, x2, x3, x4, x5, x6, x7, x8, x9, rfl⟩ : ∃ x0 x1 x2 x3 x4 x5 x6 x7 x8 x9, vs = [x0, x1, x2, x3, x4, x5, x6, x7, x8, x9] := by
                rcases vs with _ | ⟨x0, _ | ⟨x1, _ | ⟨x2, _ | ⟨x3, _ | ⟨x4, _ | ⟨x5, _ | ⟨x6, _ | ⟨x7, _ | ⟨x8, _ | ⟨x9, _ | ⟨y, vs⟩⟩⟩⟩⟩⟩⟩⟩⟩⟩⟩
                all_goals first | (simp at hvs; done) | exact ⟨_, _, _, _, _, _, _, _, _, _, rfl⟩
              have g5 := hd 5 (by simp)
              obtain ⟨u1, j1, k1, u2, j2, k2, rfl, a1, a2⟩ := g5
              refine ⟨.agg #[.bool false, .slice u2 (List.length j2) k2], ⟨_, _, _, rfl, a2⟩, by rfl, fun w hw => ?_⟩
              rw [hA.out]
              kernel_rfl
          case rest =>
            obtain ⟨B1, B2, p5, q5, l5, m5, d5, e5, rfl, rfl, TW⟩ := hcut
            clear ST SV SM SS SQ PN SPO CX BX HQ HR v0 v2
            have WI1 := Lib.hid (fun W (a : BigR 12 W p5 l5 Q) => within_p Q 1125899906842624 q0 p5 d5 l5 (by decide) (by decide) W a (by decide))
            have WI2 := Lib.hid (fun W (a : BigR 11 W q5 m5 rm) => within_p rm S rm0 q5 e5 m5 (by omega) (by omega) W a (by decide))
            rw [show wiV Q 1125899906842624 = Q from by unfold wiV; rw [if_pos (by omega)]] at WI1
            rw [show wiV rm S = rm from by unfold wiV; rw [if_pos (by omega)]] at WI2
            have c10 := TW.out.b0
            have c11 := TW.out.b1
            have c20 := TW.out.c0
            have c21 := TW.out.c1
            have BQ := Lib.hid TW.out.bx
            have BR := Lib.hid TW.out.by'
            have KB := Lib.hid TW.out.bel
            clear TW
            go_wp2_with fail
            refine (WI1.out _ BQ.out).mono ?_
            rintro e wd ⟨rfl, st⟩
            have c20 := cellGr st c20
            have c21 := cellGr st c21
            have BR := Lib.hid (BR.out.below st)
            have KB := Lib.hid (KB.out.trans (st.mono KB.out.size))
            clear st WI1 BQ c10 c11
            go_wp2_with fail
            refine (WI2.out _ BR.out).mono ?_
            rintro e we ⟨rfl, st⟩
            have KB := Lib.hid (KB.out.trans (st.mono KB.out.size))
            have A2 := Lib.hid (A.out.grow KB.out)
            obtain ⟨oP, cP⟩ : ∃ z, we.cell? ⟨p, k, none⟩ = some (.int .i64 z) := ⟨_, A2.out.cP t1⟩
            obtain ⟨oR, cR⟩ : ∃ z, we.cell? ⟨rr, k, none⟩ = some (.int .i64 z) := ⟨_, A2.out.cR t1⟩
            have fP := A2.out.P.frozenAt k
            have fR := A2.out.R.frozenAt k
            have A3 := Lib.hid (AN.out we KB.out)
            clear st WI2 BR c20 c21 A A2 AN KB
            go_wp2_with fail
            generalize (we.setCell ⟨p, k, none⟩ (.int .i64 Q)).setCell ⟨rr, k, none⟩ (.int .i64 rm) = wf at *
            go_roundw
            case rel => exact ⟨k + 1, f - Q, by omega, by first | rfl | go_num, by go_num, nf0, by omega, NF, A3⟩
            case measure => simp [intOf]; omega
        · obtain rfl : k = x := by omega
          obtain ⟨L, rfl⟩ := Int.eq_ofNat_of_zero_le f0
          have LX : L ≤ k := by have := HF.out; have := LFN.out; omega
          have HFL := HF
          replace A := Lib.hid (A.out.ext (gP := fun i => T * gd l i / S) (gR := fun i => T * gd l i % S) fun i hi => ⟨if_pos hi, if_pos hi⟩)
          obtain ⟨OR, SR⟩ := OO.out TK.out S HS.out.symm SP
          have OR := Lib.hid OR
          have SR := Lib.hid SR
          have RN := Lib.hid (fun i => (show 0 ≤ T * gd l i % S from Int.emod_nonneg _ (by omega)))
          clear HF LFN t1 OO f0
          go_wp2_with fail
          go_loopw [10] (fun rv wy => ∃ (m t : Nat) (fP fL : Nat → Int), t + m = L ∧ rv = .int .i64 t ∧ Hid (RW p rr k w wy fP fL) ∧ Hid (∀ j, j < k → fP (od j) = T * gd l (od j) / S + if j < m then 1 else 0) ∧ Hid (∀ j, j < k → fL (od j) = if j < m then -1 else T * gd l (od j) % S)) (fun rv _ => (intOf rv).toNat)
          case atStart => exact ⟨0, L, _, _, rfl, rfl, A, Lib.hid fun j _ => by simp, Lib.hid fun j _ => by simp⟩
          case round =>
            clear A
            obtain ⟨m, t, fP, fL, htm, rfl, A, V, U⟩ := hrel
            rename World => wq
            by_cases t2 : 0 < t
            · have tb : (0 : Int) < (t : Int) := by omega
              have mk : m < k := by omega
              have LB := Lib.hid (fun i (hi : i < k) => (show -1 ≤ fL i ∧ fL i ≤ S from by
                obtain ⟨j, hj, rfl⟩ := OR.out.onto i hi
                rw [U.out j hj]
                have := RN.out (od j)
                have := Int.emod_lt_of_pos (T * gd l (od j)) SP
                split <;> omega))
              have cells := Lib.hid (fun i (hi : i < k) => A.out.cR hi)
              have KB : Hid (∃ n, wq = wq.drewN n) := ⟨0, rfl⟩
              go_wp2_with fail
              go_loopw [18, 19] (fun bv iv wz => ∃ i : Nat, i ≤ k ∧ iv = .int .i64 i ∧ BestAtR fL i bv ∧ ∃ n, wz = wq.drewN n) (fun _ iv _ => k - (intOf iv).toNat)
              case atStart => exact ⟨0, Nat.zero_le _, rfl, .inl ⟨rfl, Lib.hid fun j hj => by omega⟩, 0, rfl⟩
              case round =>
                obtain ⟨i, hi1, rfl, hbest, n, rfl⟩ := hrel
                by_cases ti : i < k
                · have ci := cells.out i ti
                  have bi := LB.out i ti
                  have i3 : (i : Int) < (k : Int) := by omega
                  have i4 : (0 : Int) ≤ (i : Int) := by omega
                  by_cases v0 : fL i < 0
                  · have NB : BestAtR fL (i + 1) u18 := by
                      rcases hbest with ⟨e, h⟩ | ⟨b, hb, e, h⟩
                      · exact .inl ⟨e, Lib.hid fun j hj => by
                          rcases (by omega : j < i ∨ j = i) with c | c
                          · exact h.out j c
                          · subst c; exact v0⟩
                      · exact .inr ⟨b, by omega, e, Lib.hid ⟨h.out.1, fun j hj h0 hne => by
                          rcases (by omega : j < i ∨ j = i) with c | c
                          · exact h.out.2 j c h0 hne
                          · subst c; omega⟩⟩
                    have NB := Lib.hid NB
                    clear hbest
                    have d0 : decide (0 ≤ fL i) = false := decide_eq_false (by omega)
                    have d1 : ¬ 0 ≤ fL i := by omega
                    generalize fL i = v at *
                    go_wp2_with fail
                    try (go_quiet (fail))
                    try (go_wp2_with fail)
                    go_roundw
                    case rel => exact ⟨i + 1, by omega, by go_num, NB.out, _, rfl⟩
                    case measure => simp [intOf]; omega
                  · have d0 : decide (0 ≤ fL i) = true := decide_eq_true (by omega)
                    have d1 : 0 ≤ fL i := by omega
                    rcases hbest with ⟨rfl, h⟩ | ⟨b, hb, rfl, h⟩
                    · have NB := Lib.hid (show BestAtR fL (i + 1) (.int .i64 i) from .inr ⟨i, by omega, rfl, Lib.hid ⟨by omega, fun j hj h0 hne => by
                        rcases (by omega : j < i ∨ j = i) with c | c
                        · have := h.out j c; omega
                        · exact absurd c hne⟩⟩)
                      clear h
                      generalize fL i = v at *
                      go_wp2_with fail
                      try (go_quiet (fail))
                      try (go_wp2_with fail)
                      go_roundw
                      case rel => exact ⟨i + 1, by omega, by go_num, NB.out, _, rfl⟩
                      case measure => simp [intOf]; omega
                    · have cb := cells.out b (by omega)
                      have bb := LB.out b (by omega)
                      have j3 : (b : Int) < (k : Int) := by omega
                      have j4 : (0 : Int) ≤ (b : Int) := by omega
                      have j5 : ¬ (b : Int) < 0 := by omega
                      have j6 : decide ((b : Int) < 0) = false := decide_eq_false j5
                      by_cases vu : fL b < fL i
                      · have NB := Lib.hid (show BestAtR fL (i + 1) (.int .i64 i) from .inr ⟨i, by omega, rfl, Lib.hid ⟨by omega, fun j hj h0 hne => by
                          rcases (by omega : j < i ∨ j = i) with c | c
                          · by_cases e : j = b
                            · subst e; exact .inl vu
                            · have := h.out.2 j c h0 e; omega
                          · exact absurd c hne⟩⟩)
                        clear h
                        generalize fL i = v at *
                        generalize fL b = u at *
                        have d2 : decide (u < v) = true := decide_eq_true vu
                        go_wp2_with fail
                        try (go_quiet (fail))
                        try (go_wp2_with fail)
                        go_roundw
                        case rel => exact ⟨i + 1, by omega, by go_num, NB.out, _, rfl⟩
                        case measure => simp [intOf]; omega
                      · have NB := Lib.hid (show BestAtR fL (i + 1) (.int .i64 b) from .inr ⟨b, by omega, rfl, Lib.hid ⟨h.out.1, fun j hj h0 hne => by
                          rcases (by omega : j < i ∨ j = i) with c | c
                          · exact h.out.2 j c h0 hne
                          · subst c; omega⟩⟩)
                        clear h
                        generalize fL i = v at *
                        generalize fL b = u at *
                        have d2 : decide (u < v) = false := decide_eq_false vu
                        go_wp2_with fail
                        try (go_quiet (fail))
                        try (go_wp2_with fail)
                        go_roundw
                        case rel => exact ⟨i + 1, by omega, by go_num, NB.out, _, rfl⟩
                        case measure => simp [intOf]; omega
                · obtain rfl : i = k := by omega
                  have Um := U.out m mk
                  rw [if_neg (Nat.lt_irrefl m)] at Um
                  rcases hbest with ⟨rfl, h⟩ | ⟨b, hb, rfl, h⟩
                  · exact absurd (h.out (od m) (OR.out.lt m mk)) (by have := RN.out (od m); omega)
                  · have eb := best_is OR.out SR.out RN.out mk U.out hb h.out.1 h.out.2
                    obtain ⟨t1', ht1⟩ : ∃ t1, t1 + 1 = t := ⟨t - 1, by omega⟩
                    have et : IntKind.i64.wrap ((t : Int) - 1) = (t1' : Int) := w64 (by omega) (by omega)
                    have A2 := Lib.hid (A.out.drewN n)
                    have cP := A2.out.cP hb
                    have cR := A2.out.cR hb
                    have fzP := A2.out.P.frozenAt b
                    have fzR := A2.out.R.frozenAt b
                    have vy := V.out m mk
                    rw [← eb, if_neg (Nat.lt_irrefl m), Int.add_zero] at vy
                    have q0 : 0 ≤ T * gd l b / S := Int.ediv_nonneg (Int.mul_nonneg T0 (WS.out b hb).1) (by omega)
                    have qT : T * gd l b / S ≤ T := by
                      have := Int.ediv_le_ediv (show 0 < S by omega) (Int.mul_le_mul_of_nonneg_left (WS.out b hb).2 T0)
                      rwa [Int.mul_ediv_cancel _ (by omega)] at this
                    rw [← vy] at q0 qT
                    have NV : Hid (∀ j, j < i → upd fP b (fP b + 1) (od j) = T * gd l (od j) / S + if j < m + 1 then 1 else 0) := fun j hj => by
                      unfold upd
                      by_cases e : j = m
                      · subst e; rw [← eb, if_pos rfl, if_pos (by omega), vy]
                      · rw [if_neg (fun c => e (OR.out.inj j m hj mk (c.trans eb)))]
                        rw [V.out j hj]
                        by_cases c : j < m
                        · rw [if_pos c, if_pos (by omega)]
                        · rw [if_neg c, if_neg (by omega)]
                    have NU : Hid (∀ j, j < i → upd fL b (-1) (od j) = if j < m + 1 then -1 else T * gd l (od j) % S) := fun j hj => by
                      unfold upd
                      by_cases e : j = m
                      · subst e; rw [← eb, if_pos rfl, if_pos (by omega)]
                      · rw [if_neg (fun c => e (OR.out.inj j m hj mk (c.trans eb)))]
                        rw [U.out j hj]
                        by_cases c : j < m
                        · rw [if_pos c, if_pos (by omega)]
                        · rw [if_neg c, if_neg (by omega)]
                    have A3 := Lib.hid ((A2.out.setP b (fP b + 1)).setR b (-1))
                    have i1 : (0 : Int) ≤ (b : Int) := by omega
                    have i2 : (b : Int) < (i : Int) := by omega
                    have i5 : ¬ (b : Int) < 0 := by omega
                    have HT := Lib.hid (show t1' + 1 = t ∧ t + m = L from ⟨ht1, htm⟩)
                    clear A A2 V U h vy Um eb cells LB ht1 htm
                    generalize fP b = u at *
                    generalize fL b = z at *
                    have eu : IntKind.i64.wrap (u + 1) = u + 1 := IntWalk.i64_in _ (by omega)
                    generalize wq.drewN n = wv at *
                    go_wp2_with fail
                    go_roundw
                    case rel => exact ⟨m + 1, t1', _, _, by have := HT.out; omega, by first | rfl | go_num, A3, NV, NU⟩
                    case measure => have := HT.out; simp [intOf]; omega
            · obtain rfl : t = 0 := by omega
              obtain rfl : m = L := by omega
              have hx := HX.out
              have F := Lib.hid (FG.out p _ wq A.out.made TK.out TZ.out (fun e => by have := HS.out; omega) (fun _ => ⟨od, m, by
                rw [← HS.out]
                refine ⟨by simp [hx], hx ▸ OR.out, hx ▸ SR.out, by rw [← hx]; exact HFL.out, by omega, fun j hj => ?_⟩
                have hj' : j < k := by omega
                have e : gd ((List.range k).map fP) (od j) = fP (od j) := by
                  have := OR.out.lt j hj'
                  unfold gd; simp [this]
                rw [e]; exact V.out j hj'⟩))
              clear A V U FG OR SR
              go_wp2_with fail
              go_ret2
              exact F.out
end Go.Proofs.YtlahdfmciaibdaaDoor

/- Rounding by the floor and what is left over is rounding by size and sign. -/
namespace Go.Proofs.YtlahdfmciaibdaaDoor
open Go.RowKit
set_option linter.unusedVariables false
set_option linter.unusedSimpArgs false

/-- Is the next whole number taken? -/
def rzU (n q r d m : Int) : Bool := decide (m = 1) || (decide (m = 2) && decide (n < 0)) || (decide (m = 3) && decide (d ≤ 2 * r)) || (decide (m = 4) && (decide (d < 2 * r) || (decide (2 * r = d) && decide (q % 2 ≠ 0))))
/-- n/d rounded, of a d above 0. -/
def rz (n d m : Int) : Int := n / d + (if n % d = 0 then 0 else bif rzU n (n / d) (n % d) d m then 1 else 0)
theorem rz_exact {n d m : Int} (h : n % d = 0) : rz n d m = n / d := by unfold rz; rw [if_pos h]; omega
theorem rz_up {n d m : Int} (h : n % d ≠ 0) (u : rzU n (n / d) (n % d) d m = true) : rz n d m = n / d + 1 := by unfold rz; rw [if_neg h, u]; rfl
theorem rz_down {n d m : Int} (h : n % d ≠ 0) (u : rzU n (n / d) (n % d) d m = false) : rz n d m = n / d := by unfold rz; rw [if_neg h, u]; exact Int.add_zero _

theorem rz_rnd (neg : Bool) (p d m : Int) (hp : 0 ≤ p) (hd : 1 ≤ d) (hm1 : 0 ≤ m) (hm2 : m ≤ 4) :
    rz (bif neg then -p else p) d m = bif neg then -(rndQ neg p d m) else rndQ neg p d m := by
  have r0 : 0 ≤ p % d := Int.emod_nonneg _ (by omega)
  have r1 : p % d < d := Int.emod_lt_of_pos _ (by omega)
  have q0 : 0 ≤ p / d := Int.ediv_nonneg hp (by omega)
  have e := Int.mul_ediv_add_emod p d
  have hpq : p = 0 → p / d = 0 := by intro h; rw [h]; exact Int.zero_ediv d
  have pr : p % d ≠ 0 → 0 < p := by
    intro hr
    rcases (by omega : p = 0 ∨ 0 < p) with h | h
    · rw [h] at hr; simp at hr
    · exact h
  cases neg
  · have hn : ¬ p < 0 := by omega
    simp only [cond_false]
    unfold rz rndQ rzU upB
    generalize p / d = q at *
    generalize p % d = r at *
    clear e
    rcases (by omega : m = 0 ∨ m = 1 ∨ m = 2 ∨ m = 3 ∨ m = 4) with rfl | rfl | rfl | rfl | rfl
    all_goals simp [cond_eq_ite, Bool.or_eq_true, Bool.and_eq_true, hn]
    all_goals (repeat' split)
    all_goals omega
  · simp only [cond_true]
    by_cases hr : p % d = 0
    · have k := div_end (A := -p) (B := d) (q := -(p / d)) (r := 0) (by rw [Int.mul_neg]; omega) (by omega) (by omega)
      unfold rz rndQ upB
      rw [← k.1, ← k.2, hr]
      generalize p / d = q at *
      clear e k
      rcases (by omega : m = 0 ∨ m = 1 ∨ m = 2 ∨ m = 3 ∨ m = 4) with rfl | rfl | rfl | rfl | rfl
      all_goals simp [cond_eq_ite, Bool.or_eq_true, Bool.and_eq_true]
      all_goals omega
    · have k := div_end (A := -p) (B := d) (q := -(p / d) - 1) (r := d - p % d) (by rw [Int.mul_sub, Int.mul_neg]; omega) (by omega) (by omega)
      unfold rz rndQ rzU upB
      rw [← k.1, ← k.2]
      have pp := pr hr
      generalize p / d = q at *
      generalize p % d = r at *
      clear e k pr
      have n1 : -p < 0 := by omega
      have n2 : ¬ d - r = 0 := by omega
      rcases (by omega : m = 0 ∨ m = 1 ∨ m = 2 ∨ m = 3 ∨ m = 4) with rfl | rfl | rfl | rfl | rfl
      all_goals simp [cond_eq_ite, Bool.or_eq_true, Bool.and_eq_true, n1, n2, pp]
      all_goals (repeat' split)
      all_goals omega
end Go.Proofs.YtlahdfmciaibdaaDoor
