/- head: the parts at a threshold. -/
import Derived.Test.YtacliakmhkebbaaDoorU2
import Derived.Test.YtacliakmhkebbaaDoorR8
namespace Go.Proofs.YtacliakmhkebbaaDoor
open Go.RowKit
set_option linter.unusedVariables false
set_option linter.unusedSimpArgs false

/-- A row of numbers that is being written: at block b, in memory that is new to w. -/
def MadeI (w wr : World) (b N : Nat) (O : List Int) : Prop := O.length = N ∧ w.heap.size ≤ b ∧ wr.ownsRow w.heap.size 3 1 (.slice (some ⟨b, 0, none⟩) N N) N (O.map (Value.int .i64)) ∧ Below w.heap.size w wr
theorem MadeI.set {w wr : World} {b N : Nat} {O : List Int} (h : MadeI w wr b N O) (j : Nat) (x : Int) : MadeI w (wr.setCell ⟨b, j, none⟩ (.int .i64 x)) b N (O.set j x) := by
  obtain ⟨a, hb, c, d⟩ := h
  refine ⟨by simpa using a, hb, ?_, d.setCell hb _⟩
  have := (c.stored j (.int .i64 x)).1
  rwa [← List.map_set] at this
theorem MadeI.drewN {w wr : World} {b N : Nat} {O : List Int} (h : MadeI w wr b N O) (n : Nat) : MadeI w (wr.drewN n) b N O := ⟨h.1, h.2.1, h.2.2.1, below_drewN h.2.2.2 n⟩
theorem MadeI.cell {w wr : World} {b N : Nat} {O : List Int} (h : MadeI w wr b N O) (j : Nat) (hj : j < O.length) : wr.cell? ⟨b, j, none⟩ = some (.int .i64 (gd O j)) := by
  rw [h.2.2.1.cellAt j (by have := h.1; omega), gd_in hj]
  simp [hj]
theorem MadeI.frozen {w wr : World} {b N : Nat} {O : List Int} (h : MadeI w wr b N O) (j : Nat) : wr.frozen? ⟨b, j, none⟩ = false := h.2.2.1.frozenAt j
theorem MadeI.lt {w wr : World} {b N : Nat} {O : List Int} (h : MadeI w wr b N O) : b < wr.heap.size := (h.2.2.1.lt _ rfl).2

theorem posi_nonneg (l : List Int) : 0 ≤ posi l := by
  unfold posi
  induction l with
  | nil => simp
  | cons x l ih => rw [List.map_cons, List.sum_cons]; split <;> omega
theorem posi_le_take (l : List Int) (k : Nat) : posi (l.take k) ≤ k := by
  induction k with
  | zero => simp [posi]
  | succ k ih =>
    by_cases h : k < l.length
    · rw [posi_take h]; split <;> omega
    · rw [List.take_of_length_le (by omega)] at ih ⊢; omega
theorem gd_zeros (n i : Nat) : gd (List.replicate n (0 : Int)) i = 0 := by
  unfold gd
  rw [List.getElem?_replicate]
  split <;> rfl
theorem sum_zeros (n : Nat) : (List.replicate n (0 : Int)).sum = 0 := by
  induction n with
  | zero => rfl
  | succ n ih => rw [List.replicate_succ, List.sum_cons, ih]; rfl
theorem Dn.zeros (l : List Int) : Dn l (List.replicate l.length 0) :=
  ⟨by simp, fun i => by rw [gd_zeros]; omega, fun i _ _ => gd_zeros _ _, fun i j _ _ _ _ pp _ => by rw [gd_zeros] at pp; omega⟩
/-- What is left to do of head: the first k parts are cut. -/
def CutAt (l : List Int) (X S : Int) (k : Nat) (P : List Int) : Prop := ∀ i, i < k → 0 ≤ gd P i ∧ (gd l i = 0 → gd P i = 0) ∧ (2 * gd P i - 1) * S < X * gd l i + (if gd l i = 0 then S else 0) ∧ X * gd l i ≤ (2 * gd P i + 1) * S
theorem CutAt.more {l P : List Int} {X S : Int} {k : Nat} {Q : Int} (h : CutAt l X S k P) (hk : k < P.length) (h0 : 0 ≤ Q) (hz : gd l k = 0 → Q = 0) (h1 : (2 * Q - 1) * S < X * gd l k + (if gd l k = 0 then S else 0)) (h2 : X * gd l k ≤ (2 * Q + 1) * S) : CutAt l X S (k + 1) (P.set k Q) := fun i hi => by
  rw [gd_set hk]
  by_cases e : i = k
  · subst e; rw [if_pos rfl]; exact ⟨h0, hz, h1, h2⟩
  · rw [if_neg e]; exact h i (by omega)
theorem CutAt.done {l P : List Int} {X S : Int} (h : CutAt l X S l.length P) (hS : 0 < S) (hl : P.length = l.length) (h0 : ∀ i, i < l.length → 0 ≤ gd l i) : Dn l P := Dn.cut hS hl h0 h
theorem CutAt.sum {l P : List Int} {X S T : Int} (h : CutAt l X S l.length P) (hS : 0 < S) (hl : P.length = l.length) (h0 : ∀ i, i < l.length → 0 ≤ gd l i) (hs : l.sum = S) (hX : X + posi l = 2 * T) : P.sum ≤ T := by
  have := cut_sum (X := X) (S := S) hl (fun i hi => by
    obtain ⟨a, b, c, d⟩ := h i hi
    have e : (2 * gd P i - 1) * S = 2 * gd P i * S - S := by rw [Int.sub_mul, Int.one_mul]
    by_cases z : gd l i = 0
    · rw [b z, z]; simp
    · rw [if_neg z] at c
      rw [if_pos (by have := h0 i hi; omega), Int.mul_one]
      omega)
  rw [hs] at this
  have e : X * S + S * posi l = 2 * T * S := by rw [Int.mul_comm S, ← Int.add_mul, hX]
  have : 2 * P.sum * S ≤ 2 * T * S := by omega
  have := Int.le_of_mul_le_mul_right this hS
  omega
/-- The quotient and the remainder, rounded, a half downwards. -/
theorem cut_round {X w S Q : Int} (hS : 0 < S) (hX : 0 ≤ X) (hw : 0 ≤ w) (h : (X * w % (2 * S) ≤ S ∧ Q = X * w / (2 * S)) ∨ (S < X * w % (2 * S) ∧ Q = X * w / (2 * S) + 1)) :
    0 ≤ Q ∧ (w = 0 → Q = 0) ∧ (2 * Q - 1) * S < X * w + (if w = 0 then S else 0) ∧ X * w ≤ (2 * Q + 1) * S := by
  have p0 : 0 ≤ X * w := Int.mul_nonneg hX hw
  have q0 : 0 ≤ X * w / (2 * S) := Int.ediv_nonneg p0 (by omega)
  have r0 : 0 ≤ X * w % (2 * S) := Int.emod_nonneg _ (by omega)
  have r1 : X * w % (2 * S) < 2 * S := Int.emod_lt_of_pos _ (by omega)
  have e := Int.emod_add_mul_ediv (X * w) (2 * S)
  have z : w = 0 → X * w / (2 * S) = 0 ∧ X * w % (2 * S) = 0 := by rintro rfl; simp
  have ex : (2 * Q - 1) * S = 2 * (Q * S) - S := by rw [Int.sub_mul, Int.one_mul, Int.mul_assoc]
  have ey : (2 * Q + 1) * S = 2 * (Q * S) + S := by rw [Int.add_mul, Int.one_mul, Int.mul_assoc]
  generalize X * w % (2 * S) = r at *
  generalize X * w / (2 * S) = q at *
  rw [ex, ey]
  have em : 2 * S * q = 2 * (q * S) := by rw [Int.mul_assoc, Int.mul_comm S q]
  have ei : 0 ≤ (if w = 0 then S else 0) := by split <;> omega
  generalize X * w = Y at *
  rcases h with ⟨a, rfl⟩ | ⟨a, rfl⟩
  · exact ⟨q0, fun t => (z t).1, by omega, by omega⟩
  · have ee : (q + 1) * S = q * S + S := by rw [Int.add_mul, Int.one_mul]
    rw [ee]
    exact ⟨by omega, fun t => by have := (z t).2; omega, by omega, by omega⟩
--WALK
/-- What head returns. -/
def HeadR (T : Int) (l : List Int) (w : World) (e : Ending) (w' : World) : Prop := ∃ b P, e = .returned (.slice (some ⟨b, 0, none⟩) l.length l.length) ∧ MadeI w w' b l.length P ∧ Dn l P ∧ P.sum ≤ T

set_option maxRecDepth 100000 in
set_option maxHeartbeats 4000000 in
theorem head_any (T S : Int) (q : Option Addr) (c : Nat) (l : List Int) (w : World) (r : RowA w q l) (hT : Takes T l) (hS : l.sum = S) (S0 : 0 < S) :
    Calls Tryd.prog 39 #[.int .i64 T, .slice q l.length c, .int .i64 S] w (HeadR T l w) := by
  obtain ⟨i0, hi, hz0, hz1, hz2⟩ := info_parts intInfo
  obtain ⟨ln, ⟨T0, T1⟩, HL⟩ := hT
  have PN := posi_nonneg l
  have PL : posi l ≤ 256 := by have := posi_le_take l l.length; rw [List.take_length] at this; omega
  have SB : S ≤ 256 * 1073741824 := by
    have := sum_le_of (a := l) (b := List.replicate l.length 1073741824) (by simp) (fun i hi => by
      have : gd (List.replicate l.length (1073741824 : Int)) i = 1073741824 := by unfold gd; rw [List.getElem?_replicate, if_pos hi]; rfl
      rw [this]; exact (HL i hi).2)
    have e : (List.replicate l.length (1073741824 : Int)).sum = l.length * 1073741824 := by
      generalize l.length = n
      induction n with
      | zero => rfl
      | succ n ih => rw [List.replicate_succ, List.sum_cons, ih]; push_cast; omega
    omega
  have WS : Hid (∀ i, i < l.length → gd l i ≤ 2 * S) := fun i hi => by
    have := gd_nonneg_le_sum (l := l) (fun i => by
      by_cases t : i < l.length
      · exact (HL i t).1
      · rw [gd_out (by omega)]; omega) i
    omega
  have H0 : Hid (∀ i, i < l.length → 0 ≤ gd l i ∧ gd l i ≤ 1073741824) := HL
  have DZ := Lib.hid (Dn.zeros l)
  have DC := Lib.hid (fun (P : List Int) (X : Int) (h : CutAt l X S l.length P) (hl : P.length = l.length) => h.done S0 hl (fun i hi => (HL i hi).1))
  have DS := Lib.hid (fun (P : List Int) (X : Int) (h : CutAt l X S l.length P) (hl : P.length = l.length) (hX : X + posi l = 2 * T) => h.sum S0 hl (fun i hi => (HL i hi).1) hS hX)
  have PT := Lib.hid (show posi (l.take l.length) = posi l by rw [List.take_length])
  have PS := Lib.hid (fun (k : Nat) (h : k < l.length) => posi_take h)
  have R := Lib.hid r
  have HS := Lib.hid hS
  obtain ⟨x, hx⟩ : ∃ x, x = l.length := ⟨_, rfl⟩
  unfold HeadR
  rw [← hx] at ln WS DZ DC DS PT PS H0 ⊢
  have HX := Lib.hid hx
  clear hx r HL hS
  generalize hpo : posi l = po at *
  have HPO := Lib.hid hpo
  clear hpo
  go_enter Tryd.func39, Tryd.ntmps39
  go_wp2_with fail
  go_loop [7, 17] (fun nv kv => ∃ (k : Nat) (n : Int), k ≤ x ∧ nv = .int .i64 n ∧ kv = .int .i64 k ∧ 0 ≤ n ∧ n ≤ k ∧ Hid (n = posi (l.take k))) (fun _ kv => x - (intOf kv).toNat)
  case atStart => exact ⟨0, 0, Nat.zero_le _, rfl, rfl, by omega, by omega, by show _ = _; simp [posi]⟩
  case round =>
    obtain ⟨k, n, hk, rfl, rfl, n0, n1, HN⟩ := hrel
    by_cases t2 : k < x
    · have l1 : k < l.length := by have := HX.out; omega
      obtain ⟨xa, rfl, kx, cx⟩ := R.out k l1
      have NS := PS.out k (by omega)
      rw [← HN.out] at NS
      have i3 : (k : Int) < (x : Int) := by omega
      by_cases pk : 0 < gd l k
      · rw [if_pos pk] at NS
        have NY : Hid (n + 1 = posi (l.take (k + 1))) := NS.symm
        clear NS HN
        generalize gd l k = v at *
        go_wp2_with fail
        go_round
        case rel => exact ⟨k + 1, n + 1, by omega, rfl, by go_num, by omega, by omega, NY⟩
        case measure => simp [intOf]; omega
      · rw [if_neg pk] at NS
        have NY : Hid (n = posi (l.take (k + 1))) := by show _ = _; omega
        clear NS HN
        generalize gd l k = v at *
        go_wp2_with fail
        go_round
        case rel => exact ⟨k + 1, n, by omega, rfl, by go_num, by omega, by omega, NY⟩
        case measure => simp [intOf]; omega
    · have hn : n = po := by
        have a := HN.out
        rw [show k = x from by omega] at a
        rw [a, PT.out]
      clear HN n1 n0
      subst hn
      by_cases hc : 2 * T ≤ n
      · clear DC DS
        go_wp2_with (first
          | (at_make; refine wpList_make_full _ rfl _ _ 22 rfl w.heap.size 3 i0 (.int .i64 0) 1 Tryd.underlying22 hi hz0 hz1 .i64 .i64 _ _ x rfl rfl (by omega) (by omega) (by rw [hz2]; omega) (by unfold maxLen; omega) (Nat.le_refl _) ?_; intro w0 hown0 hgrow0))
        rw [made_zeros] at hown0
        have M0 := Lib.hid (show MadeI w w0 w.heap.size x (List.replicate x 0) from ⟨by simp, Nat.le_refl _, hown0, (Below.refl _ _).grown hgrow0 (Nat.le_refl _) (fun k e => by cases e)⟩)
        clear hown0 hgrow0
        go_wp2_with fail
        go_ret
        exact ⟨w.heap.size, rfl, List.replicate x 0, M0.out, DZ.out, by rw [sum_zeros]; exact T0⟩
      · have hc' : ¬ 2 * T ≤ n := hc
        clear DZ
        go_wp2_with (first
          | (at_make; refine wpList_make_full _ rfl _ _ 22 rfl w.heap.size 3 i0 (.int .i64 0) 1 Tryd.underlying22 hi hz0 hz1 .i64 .i64 _ _ x rfl rfl (by omega) (by omega) (by rw [hz2]; omega) (by unfold maxLen; omega) (Nat.le_refl _) ?_; intro w0 hown0 hgrow0))
        rw [made_zeros] at hown0
        have M0 := Lib.hid (show MadeI w w0 w.heap.size x (List.replicate x 0) from ⟨by simp, Nat.le_refl _, hown0, (Below.refl _ _).grown hgrow0 (Nat.le_refl _) (fun k e => by cases e)⟩)
        clear hown0 hgrow0
        obtain ⟨X, hX⟩ : ∃ X, 2 * T - n = X := ⟨_, rfl⟩
        have X0 : 0 < X := by omega
        have X1 : X ≤ 2251799813685248 := by omega
        have FIN : Hid (∀ P, CutAt l X S x P → P.length = x → Dn l P ∧ P.sum ≤ T) := fun P h hl => ⟨DC.out P X h hl, DS.out P X h hl (by have := HPO.out; omega)⟩
        clear DC DS
        go_loopw [36] (fun kv wr => ∃ (k : Nat) (P : List Int), k ≤ x ∧ kv = .int .i64 k ∧ Hid (MadeI w wr w.heap.size x P) ∧ Hid (CutAt l X S k P)) (fun kv _ => x - (intOf kv).toNat)
        case atStart => exact ⟨0, _, Nat.zero_le _, rfl, M0, by show CutAt _ _ _ _ _; intro i hi; omega⟩
        case round =>
          clear M0 hc hc'
          obtain ⟨k, P, hk, rfl, MP, CA⟩ := hrel
          by_cases t2 : k < x
          · have l1 : k < l.length := by have := HX.out; omega
            obtain ⟨xa, rfl, kx, cx⟩ := (R.out.below MP.out.2.2.2) k l1
            obtain ⟨v0, v1⟩ := H0.out k t2
            have v2 := WS.out k t2
            have lP : k < P.length := by have := MP.out.1; omega
            have SH := Lib.hid (fun W => share_any X (gd l k) (2 * S) (by omega) v0 (by omega) (by omega) (by omega) v2 W)
            have CR := Lib.hid (fun Q h => cut_round (X := X) (w := gd l k) (S := S) (Q := Q) S0 (by omega) v0 h)
            have CMR := Lib.hid (fun (Q : Int) h => (fun (c : 0 ≤ Q ∧ (gd l k = 0 → Q = 0) ∧ (2 * Q - 1) * S < X * gd l k + (if gd l k = 0 then S else 0) ∧ X * gd l k ≤ (2 * Q + 1) * S) => CA.out.more lP c.1 c.2.1 c.2.2.1 c.2.2.2) (CR.out Q h))
            have fP := MP.out.frozen k
            have cP := MP.out.cell k lP
            have gP := MP.out.lt
            have q0 : 0 ≤ X * gd l k / (2 * S) := Int.ediv_nonneg (Int.mul_nonneg (by omega) v0) (by omega)
            have q1 : X * gd l k / (2 * S) ≤ X := by
              have := Int.ediv_le_ediv (show 0 < 2 * S by omega) (Int.mul_le_mul_of_nonneg_left v2 (show 0 ≤ X by omega))
              rwa [Int.mul_ediv_cancel _ (by omega)] at this
            clear CR CA
            have i3 : (k : Int) < (x : Int) := by omega
            have i4 : (0 : Int) ≤ (k : Int) := by omega
            generalize gd l k = v at *
            generalize X * v / (2 * S) = Q at *
            generalize X * v % (2 * S) = rr at *
            generalize gd P k = old at *
            have ES := Lib.hid (show (S.natAbs : Int) = S by omega)
            go_wp2_with fail
            refine (SH.out _).mono ?_
            rintro e w1 ⟨rfl, m, rfl⟩
            have MS := Lib.hid (fun y : Int => (MP.out.drewN m).set k y)
            clear SH
            by_cases c : S < rr
            · have CM := Lib.hid (CMR.out (Q + 1) (.inr ⟨c, rfl⟩))
              clear CMR
              go_wp2_with fail
              refine (size_any _ (by omega) (by omega) _).mono ?_
              rintro e w1 ⟨rfl, rfl⟩
              rw [ES.out]
              go_wp2_with fail
              go_roundw
              case rel => exact ⟨k + 1, _, by omega, by go_num, MS.out _, CM⟩
              case measure => simp [intOf]; omega
            · have CM := Lib.hid (CMR.out Q (.inl ⟨by omega, rfl⟩))
              clear CMR
              go_wp2_with fail
              refine (size_any _ (by omega) (by omega) _).mono ?_
              rintro e w1 ⟨rfl, rfl⟩
              rw [ES.out]
              go_wp2_with fail
              go_roundw
              case rel => exact ⟨k + 1, _, by omega, by go_num, MS.out _, CM⟩
              case measure => simp [intOf]; omega
          · have hk' : k = x := by omega
            subst hk'
            obtain ⟨F1, F2⟩ := FIN.out P CA.out MP.out.1
            have F1 := Lib.hid F1
            have F2 := Lib.hid F2
            clear CA FIN
            go_wp2_with fail
            go_ret
            exact ⟨w.heap.size, P, rfl, MP.out, F1.out, F2.out⟩
end Go.Proofs.YtacliakmhkebbaaDoor
