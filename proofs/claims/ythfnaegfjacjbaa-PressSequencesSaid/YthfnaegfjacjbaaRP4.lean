/- The law PressSequences: its walk. -/
import Derived.Test.YthfnaegfjacjbaaRP3
import Derived.Test.YthfnaegfjacjbaaPBA
namespace Go.Proofs.Ythfnaegfjacjbaa
open Go.RowKit Go.Proofs.Ythfnaegfjacjbaa.Prs Go.Proofs.Ythfnaegfjacjbaa.Stb
set_option linter.unusedVariables false
set_option linter.unusedSimpArgs false

theorem intInfoA : (Try.prog.info? 3).map (fun i => (i.zero, i.size, i.bytes)) = some (some (.int .i64 0), 1, 8) := by kernel_rfl
theorem info_partsA {o : Option TypeInfo} {z : Option Value} {s b : Nat} (h : o.map (fun i => (i.zero, i.size, i.bytes)) = some (z, s, b)) : ∃ i, o = some i ∧ i.zero = z ∧ i.size = s ∧ i.bytes = b := by
  cases o with
  | none => cases h
  | some i => simp at h; exact ⟨i, rfl, h.1, h.2.1, h.2.2⟩
theorem made_zerosA (n : Nat) : (madeCells (Value.int .i64 0).cells (n * 1)).toList = (List.replicate n (0 : Int)).map (Value.int .i64) := by
  rw [Nat.mul_one, show (Value.int .i64 0).cells = #[.int .i64 0] from rfl, toList_madeCells_one, List.map_replicate]
theorem gi_set {l : List Int} {k j : Nat} {x : Int} (h : k < l.length) : gi (l.set k x) j = if j = k then x else gi l j := by
  unfold gi
  rw [List.getElem?_set]
  by_cases e : k = j
  · subst e; simp [h]
  · rw [if_neg e, if_neg (fun z => e z.symm)]
theorem gi_in {l : List Int} {k : Nat} (h : k < l.length) : gi l k = l[k] := by unfold gi; rw [List.getElem?_eq_getElem h]; rfl
/-- A row of numbers that is being written, in memory that is new to w. -/
def MadeN (w wr : World) (b N : Nat) (O : List Int) : Prop := O.length = N ∧ w.heap.size ≤ b ∧ wr.ownsRow w.heap.size 3 1 (.slice (some ⟨b, 0, none⟩) N N) N (O.map (Value.int .i64)) ∧ Below w.heap.size w wr
theorem MadeN.set {w wr : World} {b N : Nat} {O : List Int} (h : MadeN w wr b N O) (j : Nat) (x : Int) : MadeN w (wr.setCell ⟨b, j, none⟩ (.int .i64 x)) b N (O.set j x) := by
  obtain ⟨a, hb, c, d⟩ := h
  refine ⟨by simpa using a, hb, ?_, d.setCell hb _⟩
  have := (c.stored j (.int .i64 x)).1
  rwa [← List.map_set] at this
theorem MadeN.cell {w wr : World} {b N : Nat} {O : List Int} (h : MadeN w wr b N O) (j : Nat) (hj : j < O.length) : wr.cell? ⟨b, j, none⟩ = some (.int .i64 (gi O j)) := by
  rw [h.2.2.1.cellAt j (by have := h.1; omega), gi_in hj]
  simp [hj]
theorem MadeN.frozen {w wr : World} {b N : Nat} {O : List Int} (h : MadeN w wr b N O) (j : Nat) : wr.frozen? ⟨b, j, none⟩ = false := h.2.2.1.frozenAt j
theorem MadeN.lt {w wr : World} {b N : Nat} {O : List Int} (h : MadeN w wr b N O) : b < wr.heap.size := (h.2.2.1.lt _ rfl).2
theorem add_zero_addrA (b i : Nat) : (Addr.mk b 0 none).add i = ⟨b, i, none⟩ := by
  unfold Addr.add
  split
  · next h => subst h; rfl
  · simp

set_option maxRecDepth 100000 in
set_option maxHeartbeats 2000000 in
theorem copiedA_any (q : Option Addr) (c : Nat) (l : List Int) (w : World) (r : NumR w q l) (ln : l.length ≤ 300) :
    Calls Try.prog 16 #[.slice q l.length c] w fun e w' => ∃ b, e = .returned (.slice (some ⟨b, 0, none⟩) l.length l.length) ∧ NumR w' (some ⟨b, 0, none⟩) l ∧ Below w.heap.size w w' := by
  obtain ⟨i0, hi, hz0, hz1, hz2⟩ := info_partsA intInfoA
  have R := Lib.hid r
  obtain ⟨x, hx⟩ : ∃ x, x = l.length := ⟨_, rfl⟩
  have FC := Lib.hid (fun (w' : World) b (a : b < w'.heap.size) (h : ∀ i, i < x → w'.cell? ⟨b, i, none⟩ = some (.int .i64 (gi l i))) => (show NumR w' (some ⟨b, 0, none⟩) l from fun i hi => by subst hx; exact ⟨_, rfl, a, by rw [add_zero_addrA]; exact h i hi⟩))
  rw [← hx] at ln ⊢
  have HX := Lib.hid hx
  clear hx r
  go_enter Try.func16, Try.ntmps16
  go_wp2_with (first
    | (at_make; refine wpList_make_full _ rfl _ _ 23 rfl w.heap.size 3 i0 (.int .i64 0) 1 Try.underlying23 hi hz0 hz1 .i64 .i64 _ _ x rfl rfl (by omega) (by omega) (by rw [hz2]; omega) (by unfold maxLen; omega) (Nat.le_refl _) ?_; intro w0 hown0 hgrow0))
  rw [made_zerosA] at hown0
  have M0 := Lib.hid (show MadeN w w0 w.heap.size x (List.replicate x 0) from ⟨by simp, Nat.le_refl _, hown0, (Below.refl _ _).grown hgrow0 (Nat.le_refl _) (fun k e => by cases e)⟩)
  clear hown0 hgrow0
  go_wp2_with fail
  go_loopw [4] (fun kv wr => ∃ (k : Nat) (O : List Int), k ≤ x ∧ kv = .int .i64 k ∧ Hid (MadeN w wr w.heap.size x O) ∧ Hid (∀ j, j < k → gi O j = gi l j)) (fun kv _ => x - (intOf kv).toNat)
  case atStart => exact ⟨0, _, Nat.zero_le _, rfl, M0, Lib.hid fun j hj => absurd hj (by omega)⟩
  case round =>
    clear M0
    obtain ⟨k, O, hk, rfl, MO, HO⟩ := hrel
    by_cases t1 : k < x
    · have lO : k < O.length := by have := MO.out.1; omega
      have fO := MO.out.frozen k
      have cO := MO.out.cell k lO
      have i1 : (0 : Int) ≤ (k : Int) := by omega
      have i2 : (k : Int) < (x : Int) := by omega
      obtain ⟨xa, rfl, kx, cx⟩ := (R.out.below MO.out.2.2.2) k (by have := HX.out; omega)
      have MS := Lib.hid (MO.out.set k (gi l k))
      have HS : Hid (∀ j, j < k + 1 → gi (O.set k (gi l k)) j = gi l j) := fun j hj => by
        rw [gi_set lO]
        by_cases e : j = k
        · subst e; rw [if_pos rfl]
        · rw [if_neg e]; exact HO.out j (by omega)
      clear HO kx
      generalize gi l k = v at *
      generalize gi O k = o at *
      go_wp2_with fail
      go_roundw
      case rel => exact ⟨k + 1, _, by omega, by go_num, MS, HS⟩
      case measure => simp [intOf]; omega
    · have LO := MO.out.1
      have C0 := Lib.hid (FC.out wr w.heap.size MO.out.lt (fun i hi => by rw [MO.out.cell i (by omega), HO.out i (by omega)]))
      clear HO
      go_wp2_with fail
      go_ret
      exact ⟨w.heap.size, rfl, C0.out, MO.out.2.2.2⟩

set_option maxRecDepth 100000 in
theorem sameA_eq (p q : Option Addr) (c d : Nat) (l : List Int) (w : World) (r : NumR w p l) (s : NumR w q l) (ln : l.length ≤ 1000000) :
    Calls Try.prog 19 #[.slice p l.length c, .slice q l.length d] w fun e w' => e = .returned (.bool true) ∧ Below w.heap.size w w' := by
  have R := Lib.hid r
  have S := Lib.hid s
  obtain ⟨x, hx⟩ : ∃ x, x = l.length := ⟨_, rfl⟩
  rw [← hx] at ln ⊢
  have HX := Lib.hid hx
  clear hx r s
  go_enter Try.func19, Try.ntmps19
  go_wp2_with fail
  go_loopw [5] (fun kv wr => ∃ k : Nat, k ≤ x ∧ kv = .int .i64 k ∧ ∃ n, wr = w.drewN n) (fun kv _ => x - (intOf kv).toNat)
  case atStart => exact ⟨0, Nat.zero_le _, rfl, 0, rfl⟩
  case round =>
    obtain ⟨k, hk, rfl, n, rfl⟩ := hrel
    by_cases t1 : k < x
    · have l1 : k < l.length := by have := HX.out; omega
      obtain ⟨xa, rfl, kx, cx⟩ := R.out k l1
      obtain ⟨xb, rfl, ky, cy⟩ := S.out k l1
      have i1 : (0 : Int) ≤ (k : Int) := by omega
      have i2 : (k : Int) < (x : Int) := by omega
      generalize gi l k = v at *
      go_wp2_with fail
      go_quiet (fail)
      go_wp2_with fail
      go_roundw
      case rel => exact ⟨k + 1, by omega, by go_num, _, rfl⟩
      case measure => simp [intOf]; omega
    · go_wp2_with fail
      go_ret
      exact ⟨rfl, below_drewN (Below.refl _ _) _⟩

theorem SeqQ.seq {D : List (Int × Int)} {w w' : World} {e : Ending} (h : SeqQ D w e w') : ∃ x v m, e = .returned (.tuple #[v, .int .i64 m, .int .i64 x]) ∧ DErr D x ∧ Below w.heap.size w w' ∧ (x ≠ 0 → v = .slice none 0 0 ∧ m = 0) ∧ (x = 0 → ∃ q c, v = .slice q D.length c ∧ NumR w' q (seqO D D.length) ∧ m = mks (pd D) (sd D) (od (seqO D D.length)) D.length) := by
  obtain ⟨x, v, m, he, de, st, h1, h2⟩ := h
  refine ⟨x, v, m, he, de, st, h1, fun x0 => ?_⟩
  obtain ⟨b, O, hv, -, nr, io, hm, hr⟩ := h2 x0
  have e : O = seqO D D.length := ord_uniq io (seqO_ord D _) hr (seqO_rj D _)
  subst e
  exact ⟨some ⟨b, 0, none⟩, (seqO D D.length).length, by rw [hv, seqO_len], nr, hm⟩

set_option maxRecDepth 100000 in
set_option maxHeartbeats 8000000 in
theorem pressSequences_walk (p : Option Addr) (c : Nat) (D : List (Int × Int)) (w : World) (r : DmpR w p D) (ln : D.length ≤ 9223372036854775807) (q : Option Addr) (d : Nat) (O : List Int) (ro : NumR w q O) (lo : O.length ≤ 9223372036854775807) :
    Calls Try.prog 3 #[.slice p D.length c, .slice q O.length d] w fun e w' => e = .returned (.bool true) ∧ Below w.heap.size w w' := by
  have AL := Lib.hid alive_any
  by_cases big : 80 < D.length ∨ 80 < O.length
  · generalize D.length = n at *
    generalize O.length = m at *
    by_cases b1 : 80 < n
    · have b2 : decide (80 < n) = true := decide_eq_true b1
      clear big r ro
      go_enter Try.func3, Try.ntmps3
      go_wp2_with fail
      refine (AL.out _).mono ?_
      rintro e w1 ⟨rfl, st⟩
      go_wp2_with fail
      go_ret
      exact ⟨rfl, st⟩
    · have b2 : decide (80 < n) = false := decide_eq_false b1
      have b3 : 80 < m := by omega
      have b4 : decide (80 < m) = true := decide_eq_true b3
      clear big r ro
      go_enter Try.func3, Try.ntmps3
      go_wp2_with fail
      refine (AL.out _).mono ?_
      rintro e w1 ⟨rfl, st⟩
      go_wp2_with fail
      go_ret
      exact ⟨rfl, st⟩
  have lD : D.length ≤ 80 := by omega
  have lO : O.length ≤ 80 := by omega
  have CP := Lib.hid (copiedA_any q d O w ro (by omega))
  have S1 := Lib.hid (fun W (st : Below w.heap.size w W) => (Sequence_any p c D W (r.below st) (by omega)).mono fun e w' h => h.seq)
  have S2 := Lib.hid (fun W (st : Below w.heap.size w W) => rSequence_any p c D W (r.below st) (by omega))
  have SA := Lib.hid (fun W q1 c1 q2 c2 (h1 : NumR W q1 (seqO D D.length)) (h2 : NumR W q2 (seqO D D.length)) => sameA_eq q1 q2 c1 c2 (seqO D D.length) W h1 h2 (by rw [seqO_len]; omega))
  have SN := Lib.hid (fun W => sameA_eq none none 0 0 [] W (fun i hi => by simp at hi) (fun i hi => by simp at hi) (by simp))
  have M1 := Lib.hid (fun W b (st : Below w.heap.size w W) (h : NumR W (some ⟨b, 0, none⟩) O) => Makespan_any p c D (some ⟨b, 0, none⟩) O.length O W (r.below st) h (by omega) (by omega))
  have M2 := Lib.hid (fun W (st : Below w.heap.size w W) => rMakespan_any p c D q d O W (r.below st) (ro.below st) (by omega) (by omega))
  have C1 := Lib.hid (fun W b (st : Below w.heap.size w W) (h : NumR W (some ⟨b, 0, none⟩) O) => Critical_any p c D (some ⟨b, 0, none⟩) O.length O W (r.below st) h (by omega) (by omega))
  have C2 := Lib.hid (fun W (st : Below w.heap.size w W) => rCritical_any p c D q d O W (r.below st) (ro.below st) (by omega) (by omega))
  have SO := Lib.hid (fun W b (st : Below w.heap.size w W) (h : NumR W (some ⟨b, 0, none⟩) O) => sameA_eq (some ⟨b, 0, none⟩) q O.length d O W h (ro.below st) (by omega))
  rw [seqO_len] at SA
  rw [List.length_nil] at SN
  obtain ⟨n, hn⟩ : ∃ n, n = D.length := ⟨_, rfl⟩
  obtain ⟨m, hm⟩ : ∃ m, m = O.length := ⟨_, rfl⟩
  rw [← hn] at lD S1 S2 SA M1 M2 C1 C2 ⊢
  rw [← hm] at lO CP M1 M2 C1 C2 SO ⊢
  have l1 : decide (80 < n) = false := decide_eq_false (by omega)
  have l2 : decide (80 < m) = false := decide_eq_false (by omega)
  have l3 : ¬ 80 < n := by omega
  have l4 : ¬ 80 < m := by omega
  have HN := Lib.hid hn
  clear hn hm lD lO r ro ln lo big
  go_enter Try.func3, Try.ntmps3
  go_wp2_with fail
  refine CP.out.mono ?_
  rintro e w1 ⟨b, rfl, cn, st⟩
  have CN := Lib.hid cn
  have KB := Lib.hid st
  clear CP cn st l1 l2 l3 l4
  go_wp2_with fail
  refine (S1.out _ KB.out).mono ?_
  rintro e w2 ⟨x, v, mm, rfl, de, st, g1, g2⟩
  have Q1 := Lib.hid (show DErr D x ∧ (x ≠ 0 → v = .slice none 0 0 ∧ mm = 0) ∧ (x = 0 → ∃ q c, v = .slice q n c ∧ NumR w2 q (seqO D n) ∧ mm = mks (pd D) (sd D) (od (seqO D n)) n) from ⟨de, g1, g2⟩)
  replace CN := Lib.hid (CN.out.below st)
  replace KB := Lib.hid (KB.out.trans (st.mono KB.out.size))
  clear de st g1 g2 S1
  go_wp2_with fail
  refine (S2.out _ KB.out).mono ?_
  rintro e w3 ⟨x', v', m', rfl, de, st, g1, g2⟩
  rw [← HN.out] at g2
  obtain rfl : x' = x := DErr.fn de Q1.out.1
  replace CN := Lib.hid (CN.out.below st)
  replace KB := Lib.hid (KB.out.trans (st.mono KB.out.size))
  have SB := Lib.hid (show ∃ q1 l1 c1 q2 c2, v = .slice q1 l1 c1 ∧ v' = .slice q2 l1 c2 ∧ mm = m' ∧ Calls Try.prog 19 #[.slice q1 l1 c1, .slice q2 l1 c2] w3 (fun e w' => e = .returned (.bool true) ∧ Below w3.heap.size w3 w') from by
    by_cases x0 : x' = 0
    · obtain ⟨q1, c1, e1, n1, k1⟩ := Q1.out.2.2 x0
      obtain ⟨q2, c2, e2, n2, k2⟩ := g2 x0
      exact ⟨q1, n, c1, q2, c2, e1, e2, by rw [k1, k2], SA.out w3 q1 c1 q2 c2 (n1.below st) n2⟩
    · obtain ⟨e1, k1⟩ := Q1.out.2.1 x0
      obtain ⟨e2, k2⟩ := g1 x0
      exact ⟨none, 0, 0, none, 0, e1, e2, by rw [k1, k2], SN.out w3⟩)
  obtain ⟨q1, l1, c1, q2, c2, rfl, rfl, rfl, sc⟩ := SB.out
  have SC := Lib.hid sc
  have e0 : (mm != mm) = false := by simp
  have e1 : (x' != x') = false := by simp
  clear de st g1 g2 S2 Q1 SB sc SA SN
  go_wp2_with fail
  refine SC.out.mono ?_
  rintro e w4 ⟨rfl, st⟩
  replace CN := Lib.hid (CN.out.below st)
  replace KB := Lib.hid (KB.out.trans (st.mono KB.out.size))
  clear SC st
  go_wp2_with fail
  clear e0 e1
  refine (M1.out _ _ KB.out CN.out).mono ?_
  rintro e w5 ⟨x1, k1, rfl, mq, st⟩
  have MQ := Lib.hid mq
  replace CN := Lib.hid (CN.out.below st)
  replace KB := Lib.hid (KB.out.trans (st.mono KB.out.size))
  clear mq st M1
  go_wp2_with fail
  refine (M2.out _ KB.out).mono ?_
  rintro e w6 ⟨x2, k2, rfl, mq, st⟩
  obtain ⟨rfl, rfl⟩ := MQ.out.fn mq
  replace CN := Lib.hid (CN.out.below st)
  replace KB := Lib.hid (KB.out.trans (st.mono KB.out.size))
  have e0 : (k1 != k1) = false := by simp
  have e1 : (x1 != x1) = false := by simp
  clear mq st M2 MQ
  go_wp2_with fail
  clear e0 e1
  refine (C1.out _ _ KB.out CN.out).mono ?_
  rintro e w7 ⟨x3, k3, rfl, mq, st⟩
  have MQ := Lib.hid mq
  replace CN := Lib.hid (CN.out.below st)
  replace KB := Lib.hid (KB.out.trans (st.mono KB.out.size))
  clear mq st C1
  go_wp2_with fail
  refine (C2.out _ KB.out).mono ?_
  rintro e w8 ⟨x4, k4, rfl, mq, st⟩
  obtain ⟨rfl, rfl⟩ := MQ.out.fn mq
  replace CN := Lib.hid (CN.out.below st)
  replace KB := Lib.hid (KB.out.trans (st.mono KB.out.size))
  have e0 : (k3 == k3) = true := by simp
  have e1 : (x3 == x3) = true := by simp
  clear mq st C2 MQ
  go_wp2_with fail
  refine (SO.out _ _ KB.out CN.out).mono ?_
  rintro e w9 ⟨rfl, st⟩
  replace KB := Lib.hid (KB.out.trans (st.mono KB.out.size))
  clear st SO CN
  go_wp2_with fail
  refine (AL.out _).mono ?_
  rintro e wq ⟨rfl, st⟩
  replace KB := Lib.hid (KB.out.trans (st.mono KB.out.size))
  clear st
  go_wp2_with fail
  go_ret
  exact ⟨rfl, KB.out⟩
end Go.Proofs.Ythfnaegfjacjbaa
