/- The reference of press: first, Makespan, Critical. -/
import Derived.Test.YthfnaegfjacjbaaRP1
import Derived.Test.YthfnaegfjacjbaaPC3
namespace Go.Proofs.Ythfnaegfjacjbaa
open Go.RowKit Go.Proofs.Ythfnaegfjacjbaa.Prs Go.Proofs.Ythfnaegfjacjbaa.Stb
set_option linter.unusedVariables false
set_option linter.unusedSimpArgs false

theorem firstB_tt {pa sa pb sb : Int} (h1 : pa ≤ sa) (h2 : pb ≤ sb) : firstB pa sa pb sb = decide (pa < pb) := by
  unfold firstB jc cmpV
  rw [if_pos h1, if_pos h2]
  by_cases h : pa < pb
  · rw [if_pos h]; simp [h]
  · rw [if_neg h]; by_cases g : pb < pa
    · rw [if_pos g]; simp [h]
    · rw [if_neg g]; simp [h]
theorem firstB_tf {pa sa pb sb : Int} (h1 : pa ≤ sa) (h2 : ¬ pb ≤ sb) : firstB pa sa pb sb = true := by
  unfold firstB jc
  rw [if_pos h1, if_neg h2]; rfl
theorem firstB_ft {pa sa pb sb : Int} (h1 : ¬ pa ≤ sa) (h2 : pb ≤ sb) : firstB pa sa pb sb = false := by
  unfold firstB jc
  rw [if_neg h1, if_pos h2]; rfl
theorem firstB_ff {pa sa pb sb : Int} (h1 : ¬ pa ≤ sa) (h2 : ¬ pb ≤ sb) : firstB pa sa pb sb = decide (sb < sa) := by
  unfold firstB jc cmpV
  rw [if_neg h1, if_neg h2]
  by_cases h : sb < sa
  · rw [if_pos h]; simp [h]
  · rw [if_neg h]; by_cases g : sa < sb
    · rw [if_pos g]; simp [h]
    · rw [if_neg g]; simp [h]

set_option maxRecDepth 100000 in
set_option maxHeartbeats 4000000 in
theorem first_any (pa sa pb sb : Int) (w : World) :
    Calls Try.prog 46 #[.agg #[.int .i64 pa, .int .i64 sa], .agg #[.int .i64 pb, .int .i64 sb]] w fun e w' => e = .returned (.bool (firstB pa sa pb sb)) ∧ Below w.heap.size w w' := by
  have BB := Lib.hid (show Below w.heap.size w ((w.alloc (Obj.cells #[Value.int .i64 pa, Value.int .i64 sa] 45)).alloc (Obj.cells #[Value.int .i64 pb, Value.int .i64 sb] 45)) from ((Below.refl _ w).alloc (Nat.le_refl _) _).alloc ((Below.refl _ w).alloc (Nat.le_refl _) _).size _)
  have CE := Lib.hid (show let W := (w.alloc (Obj.cells #[Value.int .i64 pa, Value.int .i64 sa] 45)).alloc (Obj.cells #[Value.int .i64 pb, Value.int .i64 sb] 45)
    (W.cell? ⟨w.heap.size, 0, none⟩ = some (.int .i64 pa) ∧ W.cell? ⟨w.heap.size, 1, none⟩ = some (.int .i64 sa)) ∧ W.cell? ⟨w.heap.size + 1, 0, none⟩ = some (.int .i64 pb) ∧ W.cell? ⟨w.heap.size + 1, 1, none⟩ = some (.int .i64 sb) from by
    refine ⟨⟨?_, ?_⟩, ?_, ?_⟩ <;> simp [go_sem])
  by_cases h1 : pa ≤ sa
  · by_cases h2 : pb ≤ sb
    · have d1 : decide (pa ≤ sa) = true := decide_eq_true h1
      have d2 : decide (pb ≤ sb) = true := decide_eq_true h2
      rw [firstB_tt h1 h2]
      go_enter Try.func46, Try.ntmps46
      go_wp2_with fail
      generalize (w.alloc (Obj.cells #[Value.int .i64 pa, Value.int .i64 sa] 45)).alloc (Obj.cells #[Value.int .i64 pb, Value.int .i64 sb] 45) = w1 at CE BB ⊢
      obtain ⟨⟨a0, a1⟩, b0, b1⟩ := CE.out
      go_quiet (fail)
      have a0 : (w1.drewN nq).cell? ⟨w.heap.size, 0, none⟩ = some (.int .i64 pa) := a0
      have a1 : (w1.drewN nq).cell? ⟨w.heap.size, 1, none⟩ = some (.int .i64 sa) := a1
      have b0 : (w1.drewN nq).cell? ⟨w.heap.size + 1, 0, none⟩ = some (.int .i64 pb) := b0
      have b1 : (w1.drewN nq).cell? ⟨w.heap.size + 1, 1, none⟩ = some (.int .i64 sb) := b1
      have BB := Lib.hid (show Below w.heap.size w (w1.drewN nq) from ⟨BB.out.os, BB.out.tape, BB.out.output, BB.out.size, BB.out.block⟩)
      generalize w1.drewN nq = w2 at *
      go_wp2_with fail
      go_ret
      exact ⟨rfl, BB.out⟩
    · have d1 : decide (pa ≤ sa) = true := decide_eq_true h1
      have d2 : decide (pb ≤ sb) = false := decide_eq_false h2
      rw [firstB_tf h1 h2]
      go_enter Try.func46, Try.ntmps46
      go_wp2_with fail
      generalize (w.alloc (Obj.cells #[Value.int .i64 pa, Value.int .i64 sa] 45)).alloc (Obj.cells #[Value.int .i64 pb, Value.int .i64 sb] 45) = w1 at CE BB ⊢
      obtain ⟨⟨a0, a1⟩, b0, b1⟩ := CE.out
      go_quiet (fail)
      have a0 : (w1.drewN nq).cell? ⟨w.heap.size, 0, none⟩ = some (.int .i64 pa) := a0
      have a1 : (w1.drewN nq).cell? ⟨w.heap.size, 1, none⟩ = some (.int .i64 sa) := a1
      have b0 : (w1.drewN nq).cell? ⟨w.heap.size + 1, 0, none⟩ = some (.int .i64 pb) := b0
      have b1 : (w1.drewN nq).cell? ⟨w.heap.size + 1, 1, none⟩ = some (.int .i64 sb) := b1
      have BB := Lib.hid (show Below w.heap.size w (w1.drewN nq) from ⟨BB.out.os, BB.out.tape, BB.out.output, BB.out.size, BB.out.block⟩)
      generalize w1.drewN nq = w2 at *
      go_wp2_with fail
      go_ret
      exact ⟨rfl, BB.out⟩
  · by_cases h2 : pb ≤ sb
    · have d1 : decide (pa ≤ sa) = false := decide_eq_false h1
      have d2 : decide (pb ≤ sb) = true := decide_eq_true h2
      rw [firstB_ft h1 h2]
      go_enter Try.func46, Try.ntmps46
      go_wp2_with fail
      generalize (w.alloc (Obj.cells #[Value.int .i64 pa, Value.int .i64 sa] 45)).alloc (Obj.cells #[Value.int .i64 pb, Value.int .i64 sb] 45) = w1 at CE BB ⊢
      obtain ⟨⟨a0, a1⟩, b0, b1⟩ := CE.out
      go_quiet (fail)
      have a0 : (w1.drewN nq).cell? ⟨w.heap.size, 0, none⟩ = some (.int .i64 pa) := a0
      have a1 : (w1.drewN nq).cell? ⟨w.heap.size, 1, none⟩ = some (.int .i64 sa) := a1
      have b0 : (w1.drewN nq).cell? ⟨w.heap.size + 1, 0, none⟩ = some (.int .i64 pb) := b0
      have b1 : (w1.drewN nq).cell? ⟨w.heap.size + 1, 1, none⟩ = some (.int .i64 sb) := b1
      have BB := Lib.hid (show Below w.heap.size w (w1.drewN nq) from ⟨BB.out.os, BB.out.tape, BB.out.output, BB.out.size, BB.out.block⟩)
      generalize w1.drewN nq = w2 at *
      go_wp2_with fail
      go_ret
      exact ⟨rfl, BB.out⟩
    · have d1 : decide (pa ≤ sa) = false := decide_eq_false h1
      have d2 : decide (pb ≤ sb) = false := decide_eq_false h2
      rw [firstB_ff h1 h2]
      go_enter Try.func46, Try.ntmps46
      go_wp2_with fail
      generalize (w.alloc (Obj.cells #[Value.int .i64 pa, Value.int .i64 sa] 45)).alloc (Obj.cells #[Value.int .i64 pb, Value.int .i64 sb] 45) = w1 at CE BB ⊢
      obtain ⟨⟨a0, a1⟩, b0, b1⟩ := CE.out
      go_quiet (fail)
      have a0 : (w1.drewN nq).cell? ⟨w.heap.size, 0, none⟩ = some (.int .i64 pa) := a0
      have a1 : (w1.drewN nq).cell? ⟨w.heap.size, 1, none⟩ = some (.int .i64 sa) := a1
      have b0 : (w1.drewN nq).cell? ⟨w.heap.size + 1, 0, none⟩ = some (.int .i64 pb) := b0
      have b1 : (w1.drewN nq).cell? ⟨w.heap.size + 1, 1, none⟩ = some (.int .i64 sb) := b1
      have BB := Lib.hid (show Below w.heap.size w (w1.drewN nq) from ⟨BB.out.os, BB.out.tape, BB.out.output, BB.out.size, BB.out.block⟩)
      generalize w1.drewN nq = w2 at *
      go_wp2_with fail
      go_ret
      exact ⟨rfl, BB.out⟩

set_option maxRecDepth 100000 in
set_option maxHeartbeats 4000000 in
theorem rMakespan_any (p : Option Addr) (c : Nat) (D : List (Int × Int)) (q : Option Addr) (d : Nat) (O : List Int) (w : World) (r : DmpR w p D) (ro : NumR w q O) (ln : D.length ≤ 1000000) (lo : O.length ≤ 1000000) :
    Calls Try.prog 21 #[.slice p D.length c, .slice q O.length d] w fun e w' => ∃ x m, e = .returned (.tuple #[.int .i64 m, .int .i64 x]) ∧ MkQ D O x m ∧ Below w.heap.size w w' := by
  have R := Lib.hid r
  have RO := Lib.hid ro
  have CO := Lib.hid (rOrder_any p c D q d O w r ro ln lo)
  have LL := Lib.hid (show OErr D O 0 → O.length = D.length from fun h => h.len)
  generalize hn : D.length = n at ln CO LL ⊢
  generalize hm : O.length = m at lo CO LL ⊢
  have HM := Lib.hid (show n = D.length ∧ O.length = m from ⟨hn.symm, hm⟩)
  clear hn hm r ro
  go_enter Try.func21, Try.ntmps21
  go_wp2_with fail
  refine CO.out.mono ?_
  rintro e w1 ⟨x, rfl, OE, st⟩
  have OE := Lib.hid OE
  have S1 := Lib.hid st
  clear CO st
  by_cases x0 : x = 0
  case neg =>
    have x1 : (x == 0) = false := by simpa using x0
    have x2 : decide (x = 0) = false := decide_eq_false x0
    have X0 := Lib.hid x0
    clear x0
    go_wp2_with fail
    go_ret2
    exact ⟨x, 0, rfl, ⟨OE.out, fun _ => rfl, fun h => absurd h X0.out⟩, S1.out⟩
  subst x0
  obtain rfl : m = n := LL.out OE.out
  clear LL
  obtain ⟨n64, dk, io⟩ := OE.out.good
  rw [← HM.out.1] at n64 io
  have DK := Lib.hid dk.all
  have IO := Lib.hid io
  have BD := Lib.hid (fun k => mks_top (o := od O) dk.all k)
  have HN := Lib.hid (show m = D.length ∧ O.length = m from HM.out)
  clear dk io
  go_wp2_with fail
  go_loopw [7, 8, 9] (fun pv sv kv wr => ∃ i : Nat, i ≤ m ∧ pv = .int .i64 (sm (fun j => pd D (od O j)) i) ∧ sv = .int .i64 (mks (pd D) (sd D) (od O) i) ∧ kv = .int .i64 i ∧ Hid (Below w.heap.size w wr)) (fun _ _ kv _ => m - (intOf kv).toNat)
  case atStart => exact ⟨0, Nat.zero_le _, rfl, rfl, rfl, S1⟩
  case round =>
    obtain ⟨i, hi, rfl, rfl, rfl, HB⟩ := hrel
    clear S1
    by_cases t2 : i < m
    · obtain ⟨y, rfl, ky, cy⟩ := (RO.out.below HB.out) i (by have := HN.out; omega)
      obtain ⟨u, hu⟩ : ∃ u, u = od O i := ⟨_, rfl⟩
      have eu : gi O i = (u : Int) := by have := IO.out.2.1 i t2; rw [hu]; unfold od; omega
      have un : u < m := by rw [hu]; exact IO.out.ord.lt i t2
      obtain ⟨x, rfl, kx, cx, dx⟩ := (R.out.below HB.out) u (by have := HN.out; omega)
      have b1 := DK.out u
      have b2 := BD.out i
      have b3 := BD.out (i + 1)
      have e1 : sm (fun j => pd D (od O j)) (i + 1) = sm (fun j => pd D (od O j)) i + pd D u := by rw [hu]; rfl
      have e2 : mks (pd D) (sd D) (od O) (i + 1) = max (sm (fun j => pd D (od O j)) (i + 1)) (mks (pd D) (sd D) (od O) i) + sd D u := by rw [hu]; rfl
      rw [eu] at cy
      have E1 := Lib.hid e1
      have E2 := Lib.hid e2
      rw [e1] at b3
      have i1 : (0 : Int) ≤ (i : Int) := by omega
      have i2 : (i : Int) < (m : Int) := by omega
      have u1 : (0 : Int) ≤ (u : Int) := by omega
      have u2 : (u : Int) < (m : Int) := by omega
      clear eu hu e1 e2
      rw [E1.out] at E2
      generalize sm (fun j => pd D (od O j)) i = T at *
      generalize mks (pd D) (sd D) (od O) i = M at *
      generalize pd D u = P at *
      generalize sd D u = S at *
      have w1 : IntKind.i64.wrap (T + P) = T + P := wI rfl (by omega) (by omega)
      have B := Lib.hid (show (0 ≤ T + P ∧ T + P ≤ 64 * 1073741824) ∧ 0 ≤ M ∧ M ≤ 64 * 2147483648 ∧ 0 ≤ S ∧ S ≤ 1073741824 by omega)
      clear b1 b2 b3
      by_cases mx : M < T + P
      · have w2 : IntKind.i64.wrap (T + P + S) = T + P + S := wI rfl (by have := B.out; omega) (by have := B.out; omega)
        have w3 : wrap64 (T + P + S) = T + P + S := IntWalk.wrap64_in _ (by have := B.out; omega)
        go_wp2_with fail
        go_roundw
        case rel => exact ⟨i + 1, by omega, by rw [E1.out], by rw [E2.out, Int.max_eq_left (by omega)], by go_num, HB⟩
        case measure => clear w1 w2 w3; simp [intOf]; omega
      · have w2 : IntKind.i64.wrap (M + S) = M + S := wI rfl (by have := B.out; omega) (by have := B.out; omega)
        have w3 : wrap64 (M + S) = M + S := IntWalk.wrap64_in _ (by have := B.out; omega)
        go_wp2_with fail
        go_roundw
        case rel => exact ⟨i + 1, by omega, by rw [E1.out], by rw [E2.out, Int.max_eq_right (by omega)], by go_num, HB⟩
        case measure => clear w1 w2 w3; simp [intOf]; omega
    · obtain rfl : i = m := by omega
      have EN := Lib.hid (show mks (pd D) (sd D) (od O) i = mks (pd D) (sd D) (od O) D.length from by rw [HN.out.1])
      go_wp2_with fail
      go_ret2
      exact ⟨0, _, rfl, ⟨OE.out, fun h => absurd rfl h, fun _ => EN.out⟩, HB.out⟩

theorem vl_sum (P S : Nat → Int) (o : Nat → Nat) {n k : Nat} (hk : k < n) : sm (fun j => (if j ≤ k then P (o j) else 0) + (if k ≤ j then S (o j) else 0)) n = vl P S o n k := by
  unfold vl
  rw [sm_add, sm_from _ (by omega), sm_upto _ (show k + 1 ≤ n by omega)]
  congr 1
  exact sm_congr fun j _ => by
    by_cases c : j ≤ k
    · rw [if_pos c, if_pos (by omega)]
    · rw [if_neg c, if_neg (by omega)]

set_option maxRecDepth 100000 in
set_option maxHeartbeats 8000000 in
theorem rCritical_any (p : Option Addr) (c : Nat) (D : List (Int × Int)) (q : Option Addr) (d : Nat) (O : List Int) (w : World) (r : DmpR w p D) (ro : NumR w q O) (ln : D.length ≤ 1000000) (lo : O.length ≤ 1000000) :
    Calls Try.prog 23 #[.slice p D.length c, .slice q O.length d] w fun e w' => ∃ x k, e = .returned (.tuple #[.int .i64 k, .int .i64 x]) ∧ CrQ D O x k ∧ Below w.heap.size w w' := by
  have R := Lib.hid r
  have RO := Lib.hid ro
  have MK := Lib.hid (rMakespan_any p c D q d O w r ro ln lo)
  have LL := Lib.hid (show OErr D O 0 → O.length = D.length from fun h => h.len)
  obtain ⟨n, hn⟩ : ∃ n, n = D.length := ⟨_, rfl⟩
  obtain ⟨m, hm⟩ : ∃ m, m = O.length := ⟨_, rfl⟩
  have HQ := Lib.hid (show ∀ x k, CrQ D O x k = (OErr D O x ∧ (x ≠ 0 → k = 0) ∧ (x = 0 → (n = 0 ∧ k = -1) ∨ ∃ j : Nat, j < n ∧ k = j ∧ vl (pd D) (sd D) (od O) n j = mks (pd D) (sd D) (od O) n ∧ ∀ i, i < j → vl (pd D) (sd D) (od O) n i ≠ mks (pd D) (sd D) (od O) n)) from fun x k => by rw [hn]; rfl)
  have HK := Lib.hid (show ∀ x k, MkQ D O x k = (OErr D O x ∧ (x ≠ 0 → k = 0) ∧ (x = 0 → k = mks (pd D) (sd D) (od O) n)) from fun x k => by rw [hn]; rfl)
  rw [← hn] at ln MK LL ⊢
  rw [← hm] at lo MK LL ⊢
  have HN := Lib.hid (show n = D.length ∧ m = O.length from ⟨hn, hm⟩)
  clear hn hm r ro
  go_enter Try.func23, Try.ntmps23
  go_wp2_with fail
  refine MK.out.mono ?_
  rintro e w1 ⟨x, M, rfl, MQ, st⟩
  rw [HK.out] at MQ
  replace MQ := Lib.hid MQ
  have S1 := Lib.hid st
  clear MK st HK
  by_cases x0 : x = 0
  case neg =>
    have x1 : (x == 0) = false := by simpa using x0
    have x2 : decide (x = 0) = false := decide_eq_false x0
    have X0 := Lib.hid x0
    clear x0
    go_wp2_with fail
    go_ret2
    exact ⟨x, 0, rfl, by rw [HQ.out]; exact ⟨MQ.out.1, fun _ => rfl, fun h => absurd h X0.out⟩, S1.out⟩
  subst x0
  have OE := Lib.hid MQ.out.1
  have ME := Lib.hid (MQ.out.2.2 rfl)
  obtain rfl : m = n := LL.out OE.out
  obtain ⟨n64, dk, io⟩ := OE.out.good
  rw [← HN.out.1] at n64 io
  have AL := Lib.hid (show ∀ i, 0 ≤ pd D i ∧ pd D i ≤ 1073741824 ∧ 0 ≤ sd D i ∧ sd D i ≤ 1073741824 from dk.all)
  have IO := Lib.hid io
  have N64 := Lib.hid n64
  have AT0 := Lib.hid (show 0 < m → ∃ j, j < m ∧ vl (pd D) (sd D) (od O) m j = M from fun h => by
    rw [ME.out]; exact mks_at (pd D) (sd D) (od O) (fun _ => (AL.out _).1) m h)
  have HQ2 := Lib.hid (show (∀ k : Nat, k < m → vl (pd D) (sd D) (od O) m k = M → (∀ i, i < k → vl (pd D) (sd D) (od O) m i ≠ M) → CrQ D O 0 k) ∧ (m = 0 → CrQ D O 0 (-1)) from
    ⟨fun k hk e l => by rw [HQ.out]; rw [ME.out] at e l; exact ⟨OE.out, fun g => absurd rfl g, fun _ => .inr ⟨k, hk, rfl, e, l⟩⟩, fun h => by rw [HQ.out]; exact ⟨OE.out, fun g => absurd rfl g, fun _ => .inl ⟨h, rfl⟩⟩⟩)
  have VS := Lib.hid (fun k (hk : k < m) => vl_sum (pd D) (sd D) (od O) hk)
  have BF := Lib.hid (show ∀ k i, 0 ≤ sm (fun j => (if j ≤ k then pd D (od O j) else 0) + (if k ≤ j then sd D (od O j) else 0)) i ∧ sm (fun j => (if j ≤ k then pd D (od O j) else 0) + (if k ≤ j then sd D (od O j) else 0)) i ≤ i * 2147483648 from fun k i =>
    ⟨sm_nonneg fun j _ => by have := AL.out (od O j); split <;> split <;> omega, sm_top (fun j _ => by have := AL.out (od O j); split <;> split <;> omega) (by omega)⟩)
  clear dk io n64 HQ LL MQ ME
  go_wp2_with fail
  go_loopw [8] (fun kv wr => ∃ k : Nat, k ≤ m ∧ kv = .int .i64 k ∧ Hid (∀ j, j < k → vl (pd D) (sd D) (od O) m j ≠ M) ∧ Hid (Below w.heap.size w wr)) (fun kv _ => m - (intOf kv).toNat)
  case atStart => exact ⟨0, Nat.zero_le _, rfl, Lib.hid fun j h => absurd h (by omega), S1⟩
  case round =>
    clear S1
    obtain ⟨k, hk, rfl, HL, HB⟩ := hrel
    by_cases t1 : k < m
    · have i1 : (0 : Int) ≤ (k : Int) := by omega
      have i2 : (k : Int) < (m : Int) := by omega
      have FV := Lib.hid (show vl (pd D) (sd D) (od O) m k = M → CrQ D O 0 k from fun e => HQ2.out.1 k t1 e HL.out)
      have FN := Lib.hid (show vl (pd D) (sd D) (od O) m k ≠ M → ∀ j, j < k + 1 → vl (pd D) (sd D) (od O) m j ≠ M from fun h j hj => by
        by_cases e : j = k
        · rw [e]; exact h
        · exact HL.out j (by omega))
      rw [← VS.out k t1] at FV FN
      have BK := Lib.hid (BF.out k)
      clear HL
      obtain ⟨F, hF⟩ : ∃ F, F = fun j => (if j ≤ k then pd D (od O j) else 0) + (if k ≤ j then sd D (od O j) else 0) := ⟨_, rfl⟩
      have FE := Lib.hid (show ∀ j, F j = (if j ≤ k then pd D (od O j) else 0) + (if k ≤ j then sd D (od O j) else 0) from fun j => by rw [hF])
      rw [← hF] at FV BK
      have FN := Lib.hid (show sm F m ≠ M → ∀ j, j < k + 1 → vl (pd D) (sd D) (od O) m j ≠ M from by rw [hF]; exact FN.out)
      clear hF
      go_wp2_with fail
      go_loopw [9, 10] (fun sv iv wq => ∃ i : Nat, i ≤ m ∧ iv = .int .i64 i ∧ sv = .int .i64 (sm F i) ∧ wq = wr) (fun _ iv _ => m - (intOf iv).toNat)
      case atStart => exact ⟨0, Nat.zero_le _, rfl, rfl, rfl⟩
      case round =>
        obtain ⟨i, hi, rfl, rfl, rfl⟩ := hrel
        by_cases t2 : i < m
        · obtain ⟨y, rfl, ky, cy⟩ := (RO.out.below HB.out) i (by have := HN.out; omega)
          obtain ⟨u, hu⟩ : ∃ u, u = od O i := ⟨_, rfl⟩
          have eu : gi O i = (u : Int) := by have := IO.out.2.1 i t2; rw [hu]; unfold od; omega
          have un : u < m := by rw [hu]; exact IO.out.ord.lt i t2
          obtain ⟨x, rfl, kx, cx, dx⟩ := (R.out.below HB.out) u (by have := HN.out; omega)
          have al := AL.out u
          have bk := BK.out i
          have n64 := N64.out
          have E1 := Lib.hid (show sm F (i + 1) = sm F i + ((if i ≤ k then pd D u else 0) + (if k ≤ i then sd D u else 0)) from by rw [hu]; simp only [sm]; rw [FE.out])
          rw [eu] at cy
          have j1 : (0 : Int) ≤ (i : Int) := by omega
          have j2 : (i : Int) < (m : Int) := by omega
          have u1 : (0 : Int) ≤ (u : Int) := by omega
          have u2 : (u : Int) < (m : Int) := by omega
          clear eu hu
          generalize sm F i = T at *
          generalize pd D u = P at *
          generalize sd D u = Z at *
          have bT : 0 ≤ T ∧ T ≤ 64 * 2147483648 := by omega
          clear bk
          rcases Nat.lt_trichotomy i k with l | l | l
          · have d1 : decide (i ≤ k) = true := decide_eq_true (by omega)
            have d2 : decide (k ≤ i) = false := decide_eq_false (by omega)
            have E2 := Lib.hid (show sm F (i + 1) = T + P from by rw [E1.out, if_pos (by omega), if_neg (by omega)]; omega)
            have w4 : IntKind.i64.wrap (T + P) = T + P := wI rfl (by omega) (by omega)
            clear E1
            go_wp2_with fail
            go_roundw
            case rel => exact ⟨i + 1, by omega, by go_num, by rw [E2.out], trivial⟩
            case measure => clear w4; simp [intOf]; omega
          · subst l
            have d1 : decide (i ≤ i) = true := decide_eq_true (by omega)
            have E2 := Lib.hid (show sm F (i + 1) = T + P + Z from by rw [E1.out, if_pos (by omega), if_pos (by omega)]; omega)
            have w4 : IntKind.i64.wrap (T + P) = T + P := wI rfl (by omega) (by omega)
            have w5 : IntKind.i64.wrap (T + P + Z) = T + P + Z := wI rfl (by omega) (by omega)
            clear E1
            go_wp2_with fail
            go_roundw
            case rel => exact ⟨i + 1, by omega, by go_num, by rw [E2.out], trivial⟩
            case measure => clear w4 w5; simp [intOf]; omega
          · have d1 : decide (i ≤ k) = false := decide_eq_false (by omega)
            have d2 : decide (k ≤ i) = true := decide_eq_true (by omega)
            have E2 := Lib.hid (show sm F (i + 1) = T + Z from by rw [E1.out, if_neg (by omega), if_pos (by omega)]; omega)
            have w4 : IntKind.i64.wrap (T + Z) = T + Z := wI rfl (by omega) (by omega)
            clear E1
            go_wp2_with fail
            go_roundw
            case rel => exact ⟨i + 1, by omega, by go_num, by rw [E2.out], trivial⟩
            case measure => clear w4; simp [intOf]; omega
        · obtain rfl : i = m := by omega
          generalize sm F i = T at *
          by_cases ve : T = M
          · have v1 : (T == M) = true := by simpa using ve
            have FF := Lib.hid (FV.out ve)
            clear ve FV FN
            go_wp2_with fail
            go_ret2
            exact ⟨0, _, rfl, FF.out, HB.out⟩
          · have v1 : (T == M) = false := by simpa using ve
            have FF := Lib.hid (FN.out ve)
            clear ve FV FN
            go_wp2_with fail
            go_roundw
            case rel => exact ⟨k + 1, by omega, by go_num, FF, HB⟩
            case measure => simp [intOf]; omega
    · obtain rfl : k = m := by omega
      have K0 := Lib.hid (show k = 0 by
        apply Classical.byContradiction; intro h
        obtain ⟨j, j1, j2⟩ := AT0.out (by omega)
        exact HL.out j j1 j2)
      have FF := Lib.hid (HQ2.out.2 K0.out)
      go_wp2_with fail
      go_ret2
      exact ⟨0, -1, rfl, FF.out, HB.out⟩
end Go.Proofs.Ythfnaegfjacjbaa
