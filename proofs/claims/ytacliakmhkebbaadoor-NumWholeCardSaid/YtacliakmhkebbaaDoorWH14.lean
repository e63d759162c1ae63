/- Several texts in one: AQ7. -/
import Derived.Test.YtacliakmhkebbaaDoorWH8
import Derived.Test.YtacliakmhkebbaaDoorWH12
import Derived.Test.YtacliakmhkebbaaDoorWH13

/- The law NumWhole: its walk. -/
namespace Go.Proofs.YtacliakmhkebbaaDoor.numWhole
open Go.RowKit Go.Proofs.YtacliakmhkebbaaDoor.Prs
set_option linter.unusedVariables false
set_option linter.unusedSimpArgs false

theorem few_w (p : Option Addr) (n c : Nat) (w : World) :
    Calls Tryd.prog 7 #[.slice p n c] w fun e w' => e = .returned (.bool (decide (n ≤ 300))) ∧ w = w' := by
  go_enter Tryd.func7, Tryd.ntmps7
  go_wp2
  all_goals go_ret
  all_goals exact ⟨ret_b (by rw [Bool.eq_iff_iff]; simp; try omega), rfl⟩
/-- What the law asks of the parts by largest remainders. -/
theorem facts {T S : Int} {l P : List Int} (tk : Takes T l) (tz : l.sum = 0 → T = 0) (hl : P.length = l.length) (g : GA T l P) (hs : l.sum = S) :
    P.sum = T ∧ (∀ i, i < l.length → 0 ≤ gd P i ∧ (gd l i = 0 → gd P i = 0)) ∧ (0 < S → ∀ i, i < l.length → T * gd l i / S ≤ gd P i ∧ gd P i ≤ T * gd l i / S + 1 ∧ (T * gd l i % S = 0 → gd P i = T * gd l i / S)) := by
  have s0 : 0 ≤ S := by
    have := sum_le_of (a := List.replicate l.length 0) (b := l) (by simp) (fun i hi => by rw [gd_zeros]; exact (tk.2.2 i (by simpa using hi)).1)
    rw [sum_zeros] at this; omega
  rcases (by omega : S = 0 ∨ 0 < S) with z | z
  · have e := g.1 (by omega)
    subst e
    exact ⟨by rw [sum_zeros, tz (by omega)], fun i hi => by rw [gd_zeros]; omega, fun h => by omega⟩
  · obtain ⟨o, left, L⟩ := g.2 (by omega)
    rw [hs] at L
    have key : ∀ i, i < l.length → T * gd l i / S ≤ gd P i ∧ gd P i ≤ T * gd l i / S + 1 ∧ (T * gd l i % S = 0 → gd P i = T * gd l i / S) := fun i hi => ⟨(L.bounds hi).1, (L.bounds hi).2, fun h => L.exact hs z hi h⟩
    refine ⟨L.sum, fun i hi => ⟨?_, fun h0 => ?_⟩, fun _ => key⟩
    · have := Int.ediv_nonneg (Int.mul_nonneg tk.2.1.1 (tk.2.2 i hi).1) s0
      have := (key i hi).1
      omega
    · have := (key i hi).2.2 (by rw [h0]; simp)
      rw [this, h0]; simp
theorem sum_bound {P : List Int} {T : Int} (h0 : ∀ i, 0 ≤ gd P i) (hs : P.sum = T) : ∀ k, 0 ≤ (P.take k).sum ∧ (P.take k).sum ≤ T := fun k => by
  constructor
  · have := sum_le_of (a := List.replicate (P.take k).length 0) (b := P.take k) (by simp) (fun i hi => by
      rw [gd_zeros]
      simp only [List.length_replicate, List.length_take] at hi
      have := h0 i
      unfold gd at this ⊢
      rw [List.getElem?_take, if_pos (by omega)]; exact this)
    rw [sum_zeros] at this; exact this
  · have e : P.sum = (P.take k).sum + (P.drop k).sum := by rw [← List.sum_append, List.take_append_drop]
    have := sum_le_of (a := List.replicate (P.drop k).length 0) (b := P.drop k) (by simp) (fun i hi => by
      rw [gd_zeros]
      have := h0 (k + i)
      unfold gd at this ⊢
      rw [List.getElem?_drop]; exact this)
    rw [sum_zeros] at this; omega
theorem pos_all {P : List Int} {n : Nat} (hl : P.length = n) (h : ∀ i, i < n → 0 ≤ gd P i) : ∀ i, 0 ≤ gd P i := fun i => by
  by_cases c : i < n
  · exact h i c
  · rw [gd_out (by omega)]; omega

theorem keepA {w : World} {a : Addr} {v : Value} (h : w.cell? a = some v ∧ a.block < w.heap.size) (o : Obj) : (w.alloc o).cell? a = some v ∧ a.block < (w.alloc o).heap.size :=
  ⟨(World.cell?_alloc_lt w o a h.2).trans h.1, by rw [World.size_alloc]; omega⟩
theorem keepD {w : World} {a : Addr} {v : Value} (h : w.cell? a = some v ∧ a.block < w.heap.size) : w.drew.cell? a = some v ∧ a.block < w.drew.heap.size := h
theorem Below.ofDrew {w w' : World} (h : Below w.drew.heap.size w.drew w') : Below w.heap.size w w' := ((Below.refl _ _).drew).trans h
theorem Below.ofDrewN {w w' : World} {n : Nat} (h : Below (w.drewN n).heap.size (w.drewN n) w') : Below w.heap.size w w' := (below_drewN (Below.refl _ _) n).trans h
theorem keepS {w : World} {a q : Addr} {v : Value} (h : w.cell? a = some v ∧ a.block < w.heap.size) (hne : a.block ≠ q.block) (x : Value) : (w.setCell q x).cell? a = some v ∧ a.block < (w.setCell q x).heap.size :=
  ⟨(World.cell?_setCell_other _ _ _ _ (fun e => hne (by rw [e]))).trans h.1, by rw [World.size_setCell]; exact h.2⟩

set_option maxRecDepth 100000 in
set_option maxHeartbeats 8000000 in
theorem walkW (T : Int) (q : Option Addr) (c : Nat) (l : List Int) (t1 : -9223372036854775808 ≤ T) (t2 : T ≤ 9223372036854775807) (w : World) (r : RowA w q l) :
    Calls Tryd.prog 4 #[.int .i64 T, .slice q l.length c] w fun e w' => e = .returned (.bool true) ∧ Below w.heap.size w w' := by
  have R := Lib.hid r
  have AP := Lib.hid (fun W h (ln : l.length ≤ 300) => Apportion_q T q c l W h (by omega))
  have DV := Lib.hid (fun W h (ln : l.length ≤ 300) => Divide_q T q c l W h (by omega))
  have FA := Lib.hid (fun b cc (P : List Int) W h h' (lp : P.length ≤ 300) (ln : l.length ≤ 300) => Fair_any (some ⟨b, 0, none⟩) q cc c P l W h h' (by omega) (by omega))
  unfold DivE at AP DV
  obtain ⟨x, hx⟩ : ∃ x, x = l.length := ⟨_, rfl⟩
  rw [← hx] at AP DV FA ⊢
  have HX := Lib.hid hx
  clear hx r
  have KB : Hid (Below w.heap.size w w) := Below.refl _ _
  go_enter Tryd.func4, Tryd.ntmps4
  go_wp2_with fail
  refine (few_w q x c _).mono ?_
  rintro e w1 ⟨rfl, rfl⟩
  by_cases hf : x ≤ 300
  case neg =>
    rw [show decide (x ≤ 300) = false by simpa using hf]
    go_wp2_with fail
    refine (alive_any _).mono ?_
    rintro e wq ⟨rfl, hq⟩
    have B9 := Lib.hid (KB.out.trans ((show Below _ _ wq from by first | exact hq | exact ((Below.refl _ _).drew).trans hq | exact (below_drewN (Below.refl _ _) _).trans hq).mono KB.out.size))
    clear hq
    go_wp2_with fail
    go_ret
    exact ⟨rfl, by first | exact B9.out | exact B9.out.drew | exact below_drewN B9.out _⟩
  rw [show decide (x ≤ 300) = true by simpa using hf]
  go_wp2_with fail
  refine (AP.out _ R.out hf).mono ?_
  rintro e w1 ⟨v1, E1, rfl, Q1⟩
  replace Q1 := Lib.hid Q1
  have R1 := Lib.hid (R.out.below Q1.out.bel)
  clear AP
  go_wp2_with fail
  refine (DV.out _ R1.out hf).mono ?_
  rintro e w2 ⟨v2, E2, rfl, Q2⟩
  replace Q2 := Lib.hid Q2
  have R2 := Lib.hid (R1.out.below Q2.out.bel)
  replace KB := Lib.hid (Q1.out.bel.trans (Q2.out.bel.mono Q1.out.bel.size))
  clear DV
  obtain rfl : E1 = E2 := by
    obtain ⟨S1, s1⟩ := Q1.out.err
    obtain ⟨S2, s2⟩ := Q2.out.err
    exact s1.det s2
  by_cases hE : E1 = 0
  case neg =>
    obtain rfl := Q1.out.bad hE
    obtain rfl := Q2.out.bad hE
    have h1 : (E1 != 0) = true := by simpa using hE
    have h2 : (E1 == E1) = true := by simp
    clear hE Q1 Q2
    go_wp2_with fail
    refine (alive_any _).mono ?_
    rintro e wq ⟨rfl, hq⟩
    have B9 := Lib.hid (KB.out.trans ((show Below _ _ wq from by first | exact hq | exact ((Below.refl _ _).drew).trans hq | exact (below_drewN (Below.refl _ _) _).trans hq).mono KB.out.size))
    clear hq
    go_wp2_with fail
    go_ret
    exact ⟨rfl, by first | exact B9.out | exact B9.out.drew | exact below_drewN B9.out _⟩
  subst hE
  have o1 := Q1.out.good rfl
  have o2 := Q2.out.good rfl
  rw [← HX.out] at o1 o2
  obtain ⟨b1, P1, rfl, g1, r1, len1, tk, G1⟩ := o1
  obtain ⟨b2, P2, rfl, g2, r2, len2, -, G2⟩ := o2
  have tz : l.sum = 0 → T = 0 := by
    obtain ⟨S1, s1⟩ := Q1.out.err
    rcases s1 with ⟨_, _, e⟩ | ⟨_, _, _, e⟩ | ⟨_, _, _, _, e⟩ | ⟨_, e, _, _⟩
    · omega
    · omega
    · omega
    · exact e
  obtain ⟨S, hS⟩ : ∃ S, l.sum = S := ⟨_, rfl⟩
  obtain ⟨A1, A2, A3⟩ := facts tk tz (by rw [len1, HX.out]) G1 hS
  have D2 := G2.1.pos
  have D3 := fun i hi h0 => G2.1.none i hi h0
  have FR : Hid (∀ F E, FairR P2 l F E → F = true ∧ E = 0) := fun F E h => by
    have lx := HX.out
    have ok : ∀ i, i < l.length → AmtOk (gd P2 i) ∧ WgtOk (gd l i) := fun i hi => by
      refine ⟨⟨D2 i, ?_⟩, tk.2.2 i hi⟩
      have := gd_nonneg_le_sum (l := P2) D2 i
      have := G2.2
      have := tk.2.1.2
      omega
    have := h.uniq (F' := true) (E' := 0) (.inr (.inr ⟨by have := tk.1; omega, by omega, ok, ⟨fun _ => G2.1.okF (fun i hi => (tk.2.2 i hi).1), fun _ => rfl⟩, rfl⟩))
    exact this
  have B1 := Lib.hid (sum_bound (pos_all (n := x) len1 (fun i hi => (A2 i (by have := HX.out; omega)).1)) A1)
  have B2 := Lib.hid (sum_bound D2 G2.2)
  have TA := Lib.hid (fun k (h : k < x) => sum_take_succ (l := P1) (k := k) (by omega))
  have TB := Lib.hid (fun k (h : k < x) => sum_take_succ (l := P2) (k := k) (by omega))
  have TL := Lib.hid (fun k (h : k < x) => sum_take_succ (l := l) (k := k) (by have := HX.out; omega))
  have EA := Lib.hid (show (P1.take x).sum = T by rw [← len1, List.take_length, A1])
  have EB := Lib.hid (show (P2.take x).sum = T by rw [← len2, List.take_length, G2.2])
  have EL := Lib.hid (show (l.take x).sum = S by rw [HX.out, List.take_length, hS])
  have SL := Lib.hid hS
  obtain ⟨ln2, ⟨T0, T1⟩, hl⟩ := tk
  rw [← HX.out] at ln2
  have W0 := Lib.hid (fun i (hi : i < x) => hl i (by have := HX.out; omega))
  have Z1 := Lib.hid (fun i (hi : i < x) => A2 i (by have := HX.out; omega))
  have Z2 := Lib.hid (fun i (hi : i < x) => (show 0 ≤ gd P2 i ∧ (gd l i = 0 → gd P2 i = 0) from ⟨D2 i, fun h => D3 i (by have := HX.out; omega) (by omega)⟩))
  have Z3 := Lib.hid (fun (h : 0 < S) i (hi : i < x) => A3 h i (by have := HX.out; omega))
  have H1 := Lib.hid (r1.below Q2.out.bel)
  have H2 := Lib.hid r2
  have L1 := Lib.hid len1
  have L2 := Lib.hid len2
  clear Q1 Q2 G1 G2 A1 A2 A3 D2 D3 g1 g2 r1 r2 len1 len2 tz hl hS
  go_wp2_with fail
  go_loopw [9, 10, 11, 12] (fun sv ov tv kv wr => ∃ (k : Nat) (a b d : Int), k ≤ x ∧ sv = .int .i64 a ∧ ov = .int .i64 b ∧ tv = .int .i64 d ∧ kv = .int .i64 k ∧ 0 ≤ a ∧ a ≤ k * 1073741824 ∧ Hid (a = (l.take k).sum ∧ b = (P1.take k).sum ∧ d = (P2.take k).sum) ∧ w2 = wr) (fun _ _ _ kv _ => x - (intOf kv).toNat)
  case atStart => exact ⟨0, 0, 0, 0, Nat.zero_le _, rfl, rfl, rfl, rfl, by omega, by omega, Lib.hid ⟨by simp, by simp, by simp⟩, rfl⟩
  case round =>
    obtain ⟨k, a, b, d, hk, rfl, rfl, rfl, rfl, a0, a1, HV, rfl⟩ := hrel
    by_cases tk : k < x
    · obtain ⟨xa, rfl, kx, cx⟩ := R2.out k (by have := HX.out; omega)
      obtain ⟨_, e1, k1, c1⟩ := H1.out k (by have := L1.out; omega)
      cases e1
      obtain ⟨_, e2, k2, c2⟩ := H2.out k (by have := L2.out; omega)
      cases e2
      rw [add_zero_addr] at c1 c2
      obtain ⟨v0, v1⟩ := W0.out k tk
      obtain ⟨p0, p1⟩ := Z1.out k tk
      obtain ⟨q0, q1⟩ := Z2.out k tk
      have NV : Hid (a + gd l k = (l.take (k + 1)).sum ∧ b + gd P1 k = (P1.take (k + 1)).sum ∧ d + gd P2 k = (P2.take (k + 1)).sum) := by
        obtain ⟨h1, h2, h3⟩ := HV.out
        exact ⟨by rw [TL.out k tk, h1], by rw [TA.out k tk, h2], by rw [TB.out k tk, h3]⟩
      have nv2 := NV.out.2.1
      have nv3 := NV.out.2.2
      have bb := B1.out k
      have bb2 := B1.out (k + 1)
      have dd := B2.out k
      have dd2 := B2.out (k + 1)
      have h2 := HV.out.2.1
      have h3 := HV.out.2.2
      rw [← h2] at bb
      rw [← h3] at dd
      rw [← nv2] at bb2
      rw [← nv3] at dd2
      have i3 : (k : Int) < (x : Int) := by omega
      have i4 : (0 : Int) ≤ (k : Int) := by omega
      clear HV h2 h3 nv2 nv3 kx k1 k2
      generalize gd l k = v at *
      generalize gd P1 k = p at *
      generalize gd P2 k = u at *
      have ea : IntKind.i64.wrap (a + v) = a + v := IntWalk.i64_in _ (by omega)
      have eb : IntKind.i64.wrap (b + p) = b + p := IntWalk.i64_in _ (by omega)
      have ed : IntKind.i64.wrap (d + u) = d + u := IntWalk.i64_in _ (by omega)
      have n1 : decide (p < 0) = false := decide_eq_false (by omega)
      have n2 : decide (u < 0) = false := decide_eq_false (by omega)
      have m1 : ¬ p < 0 := by omega
      have m2 : ¬ u < 0 := by omega
      by_cases vz : v = 0
      · obtain rfl := p1 vz
        obtain rfl := q1 vz
        subst vz
        go_wp2_with fail
        go_roundw
        case rel => exact ⟨k + 1, a + 0, b + 0, d + 0, by omega, by first | rfl | simp, by first | rfl | simp, by first | rfl | simp, by go_num, by omega, by omega, NV, by first | rfl | trivial⟩
        case measure => simp [intOf]; omega
      · have vb : (v == 0) = false := by simpa using vz
        clear p1 q1
        go_wp2_with fail
        go_roundw
        case rel => exact ⟨k + 1, a + v, b + p, d + u, by omega, rfl, rfl, rfl, by go_num, by omega, by omega, NV, by first | rfl | trivial⟩
        case measure => simp [intOf]; omega
    · obtain rfl : k = x := by omega
      obtain ⟨h1, h2, h3⟩ := HV.out
      rw [EL.out] at h1
      rw [EA.out] at h2
      rw [EB.out] at h3
      replace h1 := h1.symm
      replace h2 := h2.symm
      replace h3 := h3.symm
      subst h1 h2 h3
      have KR := Lib.hid (Below.refl w2.heap.size w2)
      clear HV B1 B2 TA TB TL EA EB EL Z1 Z2
      go_wp2_with fail
      go_loopw [13] (fun kv wz => ∃ i : Nat, i ≤ k ∧ kv = .int .i64 i ∧ Hid (Below w2.heap.size w2 wz)) (fun kv _ => k - (intOf kv).toNat)
      case atStart => exact ⟨0, Nat.zero_le _, rfl, KR⟩
      case round =>
        clear KR
        obtain ⟨i, hi, rfl, K0⟩ := hrel
        by_cases tt : i < k ∧ 0 < S
        · obtain ⟨ti, SP⟩ := tt
          obtain ⟨xa, rfl, kx, cx0⟩ := R2.out i (by have := HX.out; omega)
          obtain ⟨_, e1, k1, c10⟩ := H1.out i (by have := L1.out; omega)
          cases e1
          rw [add_zero_addr] at c10
          obtain ⟨v0, v1⟩ := W0.out i ti
          obtain ⟨z1, z2, z3⟩ := Z3.out SP i ti
          have CX := Lib.hid cx0
          have BX := Lib.hid (show (xa.add i).block < w2.heap.size by rw [add_block]; exact kx)
          have cx := (K0.out.cell (p := xa.add i) BX.out).trans CX.out
          have bx := Nat.lt_of_lt_of_le BX.out K0.out.size
          have C1 := Lib.hid c10
          have BB := Lib.hid k1
          have i3 : (i : Int) < (k : Int) := by omega
          have i4 : (0 : Int) ≤ (i : Int) := by omega
          have v2 : gd l i ≤ S := by
            have := gd_nonneg_le_sum (l := l) (pos_all HX.out.symm (fun j hj => (W0.out j hj).1)) i
            have := SL.out
            omega
          clear cx0 c10 kx
          generalize gd l i = v at *
          generalize gd P1 i = p at *
          obtain ⟨Q, hQ⟩ : ∃ Q, T * v / S = Q := ⟨_, rfl⟩
          obtain ⟨rm, hr⟩ : ∃ rm, T * v % S = rm := ⟨_, rfl⟩
          rw [hQ] at z1 z2 z3
          rw [hr] at z3
          have m0 := Int.mul_nonneg T0 v0
          have q0 : 0 ≤ Q := by rw [← hQ]; exact Int.ediv_nonneg m0 (by omega)
          have qT : Q ≤ T := by
            have := Int.ediv_le_ediv (show 0 < S by omega) (Int.mul_le_mul_of_nonneg_left v2 T0)
            rw [Int.mul_ediv_cancel _ (by omega)] at this
            omega
          have ST := Lib.hid (show false = decide (T < 0) by simp; omega)
          have SV := Lib.hid (show false = decide (v < 0) by simp; omega)
          have SM := Lib.hid (show false = decide (T * v < 0) by simp; omega)
          have SS := Lib.hid (show false = decide (S < 0) by simp; omega)
          have SQ := Lib.hid (show false = decide (T * v / S < 0) by rw [hQ]; simp; omega)
          have PN := Lib.hid m0
          have SPO := Lib.hid SP
          have HQ := Lib.hid hQ
          have HR := Lib.hid hr
          have SBD : S ≤ 300 * 1073741824 := by omega
          clear hQ hr m0
          go_upto_region 21 with fail
          go_cut [14, 15] from 136 to 149 (fun b1v b2v wx => ∃ B1 B2 p5 q5 l5 m5 d5 e5, b1v = .pointer (some ⟨B1, 0, none⟩) ∧ b2v = .pointer (some ⟨B2, 0, none⟩) ∧ Hid (TwoG w2 Q rm 12 11 p5 q5 l5 m5 d5 e5 B1 B2 wx))
          case first =>
            refine wp_region_G (fun w' => Below w2.heap.size w2 w') 17 (by kernel_rfl) ?_
            have hS : Below w2.heap.size w2 wr.drew := K0.out.drew
            refine wpAnyG_take3 (i := 0) (d := 137) (oi := _) (v := .int .i64 T) rfl (by kernel_rfl) (by kernel_rfl) (by kernel_rfl) (by kernel_rfl) (by kernel_rfl) (by kernel_rfl) (by decide) (fun _ _ _ h => h) (by rfl) (fun w' hw' => ?_) hS ?_
            · go_simp
            simp only [List.setIfInBounds_toArray, List.set_cons_zero, List.set_cons_succ]
            refine wpAnyG_take3 (i := 2) (d := 139) (oi := _) (v := .slice (some xa) k c) rfl (by kernel_rfl) (by kernel_rfl) (by kernel_rfl) (by kernel_rfl) (by kernel_rfl) (by kernel_rfl) (by decide) (fun _ _ _ h => h) (by rfl) (fun w' hw' => ?_) hS ?_
            · go_simp
            simp only [List.setIfInBounds_toArray, List.set_cons_zero, List.set_cons_succ]
            refine wpAnyG_take3 (i := 3) (d := 140) (oi := _) (v := .int .i64 i) rfl (by kernel_rfl) (by kernel_rfl) (by kernel_rfl) (by kernel_rfl) (by kernel_rfl) (by kernel_rfl) (by decide) (fun _ _ _ h => h) (by rfl) (fun w' hw' => ?_) hS ?_
            · go_simp
            simp only [List.setIfInBounds_toArray, List.set_cons_zero, List.set_cons_succ]
            refine wpAnyG_take3 (i := 4) (d := 141) (oi := _) (v := .pointer (some (xa.add i))) rfl (by kernel_rfl) (by kernel_rfl) (by kernel_rfl) (by kernel_rfl) (by kernel_rfl) (by kernel_rfl) (by decide) (fun _ _ _ h => h) (by rfl) (fun w' hw' => ?_) hS ?_
            · go_simp
            simp only [List.setIfInBounds_toArray, List.set_cons_zero, List.set_cons_succ]
            refine wpAnyG_take3 (i := 5) (d := 142) (oi := _) (v := .int .i64 v) rfl (by kernel_rfl) (by kernel_rfl) (by kernel_rfl) (by kernel_rfl) (by kernel_rfl) (by kernel_rfl) (by decide) (fun _ _ _ h => h) (by rfl) (fun w' hw' => ?_) hS ?_
            · have cx := (hw'.cell (p := xa.add i) BX.out).trans CX.out
              go_simp
            simp only [List.setIfInBounds_toArray, List.set_cons_zero, List.set_cons_succ]
            refine wpAnyG_take3 (i := 8) (d := 145) (oi := _) (v := .int .i64 S) rfl (by kernel_rfl) (by kernel_rfl) (by kernel_rfl) (by kernel_rfl) (by kernel_rfl) (by kernel_rfl) (by decide) (fun _ _ _ h => h) (by rfl) (fun w' hw' => ?_) hS ?_
            · go_simp
            simp only [List.setIfInBounds_toArray, List.set_cons_zero, List.set_cons_succ]
            refine wpAnyG_flow (w0 := w2) (Lend := #[true, true, true, true, true, true, true, true, true, true, true, true, true, true, true, true, false, false]) [138, 143, 144, 146, 147, 136, 148, 149, 14, 15] [1, 6, 7, 9, 10, 11, 12, 13, 14, 15] (fun p => match p with | 0 => NumV 5 T | 1 => NumV 5 v | 2 => NumV 10 (T * v) | 3 => NumV 5 S | 4 => NumV2 12 11 Q rm | 5 => NumV2 12 11 Q rm | 6 => NumV 12 Q | 7 => NumV 11 rm | 8 => BoxV w2.heap.size | 9 => BoxV w2.heap.size | _ => fun _ _ => False) (fun p => p == 8 || p == 9) (fun p => match p with | 0 => [] | 1 => [] | 2 => [0, 1] | 3 => [] | 4 => [2, 3] | 5 => [4] | 6 => [5] | 7 => [5] | 8 => [] | 9 => [] | _ => []) 16 13 (by kernel_rfl) (by kernel_rfl) (by kernel_rfl) (by decide) (by decide) (by decide) rfl (by decide) (by decide) (by kernel_rfl) (by kernel_rfl) hS (hS) ?hfl ?ho ?hz (by kernel_rfl) ?hLm ?hval ?hbx ?H ?hend 7 ?hpo ?hopt
            case hfl =>
              intro j hj
              simp only [List.mem_cons, List.not_mem_nil, or_false] at hj
              rcases hj with rfl | rfl | rfl | rfl | rfl | rfl | rfl | rfl | rfl | rfl <;> rfl
            case ho =>
              intro j hj hn
              simp only [List.mem_cons, List.not_mem_nil, or_false, not_or] at hn
              rcases (by omega : j = 0 ∨ j = 2 ∨ j = 3 ∨ j = 4 ∨ j = 5 ∨ j = 8) with rfl | rfl | rfl | rfl | rfl | rfl <;> rfl
            case hz =>
              intro j hj
              by_cases hz : j < 18
              · rcases (by omega : j = 16 ∨ j = 17) with rfl | rfl <;> rfl
              · simp [Array.getD]; try omega
            case hLm =>
              intro j hj
              have hj : j < 18 := hj
              rcases (by omega : j = 0 ∨ j = 1 ∨ j = 2 ∨ j = 3 ∨ j = 4 ∨ j = 5 ∨ j = 6 ∨ j = 7 ∨ j = 8 ∨ j = 9 ∨ j = 10 ∨ j = 11 ∨ j = 12 ∨ j = 13 ∨ j = 14 ∨ j = 15 ∨ j = 16 ∨ j = 17) with rfl | rfl | rfl | rfl | rfl | rfl | rfl | rfl | rfl | rfl | rfl | rfl | rfl | rfl | rfl | rfl | rfl | rfl <;> rfl
            case hval =>
              intro p v w w' h st
              match p, h with
              | 0, h => exact NumV.grow h st
              | 1, h => exact NumV.grow h st
              | 2, h => exact NumV.grow h st
              | 3, h => exact NumV.grow h st
              | 4, h => exact NumV2.grow h st
              | 5, h => exact NumV2.grow h st
              | 6, h => exact NumV.grow h st
              | 7, h => exact NumV.grow h st
              | 8, h => exact BoxV.grow h st
              | 9, h => exact BoxV.grow h st
              | _ + 10, h => cases h
            case hbx =>
              intro p v w hb h
              simp only [Bool.or_eq_true, beq_iff_eq] at hb
              rcases hb with rfl | rfl
              · exact BoxV.at h
              · exact BoxV.at h
            case H =>
              intro p hp vs w' hvs hS' bel hd o ho A hA K' hK
              obtain ⟨x0, x1, x2, x3, x4, x5, x6, x7, x8, x9, rfl⟩ : ∃ x0 x1 x2 x3 x4 x5 x6 x7 x8 x9, vs = [x0, x1, x2, x3, x4, x5, x6, x7, x8, x9] := by
                rcases vs with _ | ⟨x0, _ | ⟨x1, _ | ⟨x2, _ | ⟨x3, _ | ⟨x4, _ | ⟨x5, _ | ⟨x6, _ | ⟨x7, _ | ⟨x8, _ | ⟨x9, _ | ⟨y, vs⟩⟩⟩⟩⟩⟩⟩⟩⟩⟩⟩
                all_goals first | (simp at hvs; done) | exact ⟨_, _, _, _, _, _, _, _, _, _, rfl⟩
              rcases (by simpa using hp : p < 10) with hp'
              rcases (by have : p < 10 := by simpa using hp
                         omega : p = 0 ∨ p = 1 ∨ p = 2 ∨ p = 3 ∨ p = 4 ∨ p = 5 ∨ p = 6 ∨ p = 7 ∨ p = 8 ∨ p = 9) with rfl | rfl | rfl | rfl | rfl | rfl | rfl | rfl | rfl | rfl
              · clear hd
                have ho2 := Option.some.inj ho
                clear ho
                subst ho2
                refine wp_of_callw (F := 19) (args := #[.int .i64 T]) (by rw [hA.out]; kernel_rfl) (by rw [hA.out]; kernel_rfl) (of_s T false ST.out (by omega) (by omega) _) ?_
                rintro e' w'' ⟨p1, l1, d1, rfl, r1, r2, r3⟩
                exact ⟨_, rfl, hK.out _ _ r3 (hS'.trans (r3.mono hS'.size)) ⟨_, _, _, rfl, r1⟩ (fun h => by cases h)⟩
              · clear hd
                have ho2 := Option.some.inj ho
                clear ho
                subst ho2
                refine wp_of_callw (F := 19) (args := #[.int .i64 v]) (by rw [hA.out]; kernel_rfl) (by rw [hA.out]; kernel_rfl) (of_s v false SV.out (by omega) (by omega) _) ?_
                rintro e' w'' ⟨p1, l1, d1, rfl, r1, r2, r3⟩
                exact ⟨_, rfl, hK.out _ _ r3 (hS'.trans (r3.mono hS'.size)) ⟨_, _, _, rfl, r1⟩ (fun h => by cases h)⟩
              · have g0 := hd 0 (by simp)
                have g1 := hd 1 (by simp)
                obtain ⟨u1, j1, k1, rfl, a1⟩ := g0
                obtain ⟨u2, j2, k2, rfl, a2⟩ := g1
                clear hd
                have ho2 := Option.some.inj ho
                clear ho
                subst ho2
                refine wp_of_callw (F := 18) (args := #[.agg #[.bool false, .slice u1 (List.length j1) k1], .agg #[.bool false, .slice u2 (List.length j2) k2]]) (by rw [hA.out]; kernel_rfl) (by rw [hA.out]; kernel_rfl) (times_s (n := 5) (m := 5) T v false false false ST.out SV.out SM.out u1 u2 k1 k2 j1 j2 _ a1 a2 (by decide) (by decide)) ?_
                rintro e' w'' ⟨p1, l1, d1, rfl, r1, r2, r3⟩
                exact ⟨_, rfl, hK.out _ _ r3 (hS'.trans (r3.mono hS'.size)) ⟨_, _, _, rfl, r1⟩ (fun h => by cases h)⟩
              · clear hd
                have ho2 := Option.some.inj ho
                clear ho
                subst ho2
                refine wp_of_callw (F := 19) (args := #[.int .i64 S]) (by rw [hA.out]; kernel_rfl) (by rw [hA.out]; kernel_rfl) (of_s S false SS.out (by omega) (by omega) _) ?_
                rintro e' w'' ⟨p1, l1, d1, rfl, r1, r2, r3⟩
                exact ⟨_, rfl, hK.out _ _ r3 (hS'.trans (r3.mono hS'.size)) ⟨_, _, _, rfl, r1⟩ (fun h => by cases h)⟩
              · have g2 := hd 2 (by simp)
                have g3 := hd 3 (by simp)
                obtain ⟨u1, j1, k1, rfl, a1⟩ := g2
                obtain ⟨u2, j2, k2, rfl, a2⟩ := g3
                clear hd
                have ho2 := Option.some.inj ho
                clear ho
                subst ho2
                refine wp_of_callw (F := 17) (args := #[.agg #[.bool false, .slice u1 (List.length j1) k1], .agg #[.bool false, .slice u2 (List.length j2) k2]]) (by rw [hA.out]; kernel_rfl) (by rw [hA.out]; kernel_rfl) (Over_pos (N := 10) u1 u2 k1 k2 j1 j2 (T * v) S false false SQ.out _ (BigR.more (m := 10) a1 (by decide)) (BigR.more (m := 10) a2 (by decide)) PN.out SPO.out (by decide)) ?_
                rintro e' w'' ⟨p1, l1, d1, q1, k3, e1, rfl, r1, r2, r2b, r3⟩
                exact ⟨_, rfl, hK.out _ _ r3 (hS'.trans (r3.mono hS'.size)) ⟨_, _, _, _, _, _, rfl, HQ.out ▸ r1, HR.out ▸ r2⟩ (fun h => by cases h)⟩
              · have g4 := hd 4 (by simp)
                obtain ⟨u1, j1, k1, u2, j2, k2, rfl, a1, a2⟩ := g4
                clear hd
                have ho2 := Option.some.inj ho
                clear ho
                subst ho2
                refine wp_of_valuew (v := .tuple #[.agg #[.bool false, .slice u1 (List.length j1) k1], .agg #[.bool false, .slice u2 (List.length j2) k2]]) (w' := w') (by rw [hA.out]; kernel_rfl) (by rw [hA.out]; kernel_rfl) ?_
                exact hK.out _ _ (Below.refl _ _) hS' ⟨_, _, _, _, _, _, rfl, a1, a2⟩ (fun h => by cases h)
              · have g5 := hd 5 (by simp)
                obtain ⟨u1, j1, k1, u2, j2, k2, rfl, a1, a2⟩ := g5
                clear hd
                have ho2 := Option.some.inj ho
                clear ho
                subst ho2
                refine wp_of_valuew (v := .agg #[.bool false, .slice u1 (List.length j1) k1]) (w' := w') (by rw [hA.out]; kernel_rfl) (by rw [hA.out]; kernel_rfl) ?_
                exact hK.out _ _ (Below.refl _ _) hS' ⟨_, _, _, rfl, a1⟩ (fun h => by cases h)
              · have g5 := hd 5 (by simp)
                obtain ⟨u1, j1, k1, u2, j2, k2, rfl, a1, a2⟩ := g5
                clear hd
                have ho2 := Option.some.inj ho
                clear ho
                subst ho2
                refine wp_of_valuew (v := .agg #[.bool false, .slice u2 (List.length j2) k2]) (w' := w') (by rw [hA.out]; kernel_rfl) (by rw [hA.out]; kernel_rfl) ?_
                exact hK.out _ _ (Below.refl _ _) hS' ⟨_, _, _, rfl, a2⟩ (fun h => by cases h)
              · clear hd
                have ho2 := Option.some.inj ho
                clear ho
                subst ho2
                refine wp_of_value (v := .pointer (some ⟨w'.heap.size, 0, none⟩)) (w' := w'.alloc (.cells #[.bool false, .slice none 0 0] 33)) rfl (by rw [hA.out]; kernel_rfl) ?_
                exact hK.out _ _ ((Below.refl _ _).alloc (Nat.le_refl _) _) (hS'.alloc hS'.size _) (BoxV.new _ hS'.size) (fun _ => ⟨_, rfl, Nat.le_refl _⟩)
              · clear hd
                have ho2 := Option.some.inj ho
                clear ho
                subst ho2
                refine wp_of_value (v := .pointer (some ⟨w'.heap.size, 0, none⟩)) (w' := w'.alloc (.cells #[.bool false, .slice none 0 0] 33)) rfl (by rw [hA.out]; kernel_rfl) ?_
                exact hK.out _ _ ((Below.refl _ _).alloc (Nat.le_refl _) _) (hS'.alloc hS'.size _) (BoxV.new _ hS'.size) (fun _ => ⟨_, rfl, Nat.le_refl _⟩)
            case hend =>
              intro vs w' hvs hS' bel hv hd A hA f hu
              obtain ⟨x0, x1, x2, x3, x4, x5, x6, x7, x8, x9, rfl⟩ : ∃ x0 x1 x2 x3 x4 x5 x6 x7 x8 x9, vs = [x0, x1, x2, x3, x4, x5, x6, x7, x8, x9] := by
                rcases vs with _ | ⟨x0, _ | ⟨x1, _ | ⟨x2, _ | ⟨x3, _ | ⟨x4, _ | ⟨x5, _ | ⟨x6, _ | ⟨x7, _ | ⟨x8, _ | ⟨x9, _ | ⟨y, vs⟩⟩⟩⟩⟩⟩⟩⟩⟩⟩⟩
                all_goals first | (simp at hvs; done) | exact ⟨_, _, _, _, _, _, _, _, _, _, rfl⟩
              have g0 := hv 0 (by simp)
              have g1 := hv 1 (by simp)
              have g2 := hv 2 (by simp)
              have g3 := hv 3 (by simp)
              have g4 := hv 4 (by simp)
              have g5 := hv 5 (by simp)
              have g6 := hv 6 (by simp)
              have g7 := hv 7 (by simp)
              have g8 := hv 8 (by simp)
              have g9 := hv 9 (by simp)
              obtain ⟨e00, e01, e02, rfl, -⟩ := g0
              obtain ⟨e10, e11, e12, rfl, -⟩ := g1
              obtain ⟨e20, e21, e22, rfl, -⟩ := g2
              obtain ⟨e30, e31, e32, rfl, -⟩ := g3
              obtain ⟨e40, e41, e42, e43, e44, e45, rfl, -, -⟩ := g4
              obtain ⟨e50, e51, e52, e53, e54, e55, rfl, -, -⟩ := g5
              obtain ⟨p5, l5, d5, rfl, B5⟩ := g6
              obtain ⟨q5, m5, e5, rfl, B6⟩ := g7
              obtain ⟨B1, rfl, z1, y1, c10, c11, f10, f11⟩ := g8
              obtain ⟨B2, rfl, z2, y2, c20, c21, f20, f21⟩ := g9
              have n12 := hd 8 9 (by decide) (by simp) rfl rfl
              simp only [List.getD_cons_zero, List.getD_cons_succ] at n12
              obtain ⟨f, rfl⟩ : ∃ g, f = g + 1 + 1 := ⟨f - 2, by have h3 : unl #[true, true, true, true, true, true, true, true, true, true, true, true, true, true, true, true, false, false] = 2 := (by decide); omega⟩
              clear hv hd hu
              have n21 : ¬ B1 = B2 := by simpa using n12
              have n22 : ¬ B2 = B1 := fun e => n21 e.symm
              have TW := Lib.hid (g_5 (w := w2) (c := d5) (d := e5) z1 z2 n21 hS' B5 B6 c10 c11 c20 c21)
              rw [hA.out]
              clear hA
              simp only [putL, Act.put, List.setIfInBounds_toArray, List.set_cons_zero, List.set_cons_succ]
              refine wpAnyG_one (i := 16) (o := _) (by kernel_rfl) rfl (fun K hK => ?_)
              go_simp
              refine hK.out _ _ (fun _ => (hS'.setCell (p := ⟨B1, 0, none⟩) z1 _).setCell (p := ⟨B1, 1, none⟩) z1 _) ?_
              try simp only [Act.put, List.setIfInBounds_toArray, List.set_cons_zero, List.set_cons_succ]
              clear hK
              refine wpAnyG_one (i := 17) (o := _) (by kernel_rfl) rfl (fun K hK => ?_)
              go_simp
              refine hK.out _ _ (fun h => absurd h (by decide)) ?_
              try simp only [Act.put, List.setIfInBounds_toArray, List.set_cons_zero, List.set_cons_succ]
              clear hK
              refine wpAnyG_done (by kernel_rfl) ?_ _
              go_wp2_with fail
              go_meet
              exact ⟨_, _, _, _, _, _, _, _, rfl, rfl, TW⟩
            case hpo => exact fun _ => ⟨by decide, rfl, rfl⟩
            case hopt =>
              intro _
              refine ⟨_, rfl, rfl, by kernel_rfl, by kernel_rfl, by kernel_rfl, by kernel_rfl, by kernel_rfl, by decide, fun _ _ _ _ h => h, ?_⟩
              intro vs w' hvs hd A hA
              obtain ⟨x0, x1, x2, x3, x4, x5, x6, x7, x8, x9, rfl⟩ : ∃ x0 x1 x2 x3 x4 x5 x6 x7 x8 x9, vs = [x0, x1, x2, x3, x4, x5, x6, x7, x8, x9] := by
                rcases vs with _ | ⟨x0, _ | ⟨x1, _ | ⟨x2, _ | ⟨x3, _ | ⟨x4, _ | ⟨x5, _ | ⟨x6, _ | ⟨x7, _ | ⟨x8, _ | ⟨x9, _ | ⟨y, vs⟩⟩⟩⟩⟩⟩⟩⟩⟩⟩⟩
                all_goals first | (simp at hvs; done) | exact ⟨_, _, _, _, _, _, _, _, _, _, rfl⟩
              have g5 := hd 5 (by simp)
              obtain ⟨u1, j1, k1, u2, j2, k2, rfl, a1, a2⟩ := g5
              refine ⟨.agg #[.bool false, .slice u2 (List.length j2) k2], ⟨_, _, _, rfl, a2⟩, by rfl, fun w hw => ?_⟩
              rw [hA.out]
              kernel_rfl
          case rest =>
            obtain ⟨B1, B2, p5, q5, l5, m5, d5, e5, rfl, rfl, TW⟩ := hcut
            rename World => wv
            clear K0 ST SV SM SS SQ PN SPO CX BX cx bx HQ HR v0 v1 v2 i4
            have i4 : (0 : Int) ≤ (i : Int) := by omega
            have KW := Lib.hid TW.out.bel
            have BBC := Lib.hid (show (⟨b1, i, none⟩ : Addr).block < wv.heap.size from Nat.lt_of_lt_of_le BB.out KW.out.size)
            have CPC := Lib.hid ((KW.out.cell (p := ⟨b1, i, none⟩) BB.out).trans C1.out)
            have B1L := Lib.hid (World.block_lt_of_cell? wv _ TW.out.b0)
            have SP1 := Lib.hid (show false = decide (p < 0) by simp; omega)
            have SQ1 := Lib.hid (show false = decide (Q < 0) by simp; omega)
            have SK1 := Lib.hid (show false = decide (p - Q < 0) by simp; omega)
            have PB : 0 ≤ p ∧ p ≤ T + 1 := by omega
            go_upto_region 22 with fail
            go_cut [16] from 150 to 156 (fun b3v wx => ∃ B3 p7 l7 d7, b3v = .pointer (some ⟨B3, 0, none⟩) ∧ Hid (OneG wv (p - Q) 13 p7 l7 d7 B3 wx))
            case first =>
              refine wp_region_G (fun w' => Below wv.heap.size wv w') 8 (by kernel_rfl) ?_
              have hS : Below wv.heap.size wv wv.drew := (Below.refl _ _).drew
              refine wpAnyG_take3 (i := 0) (d := 150) (oi := _) (v := .slice (some ⟨b1, 0, none⟩) k k) rfl (by kernel_rfl) (by kernel_rfl) (by kernel_rfl) (by kernel_rfl) (by kernel_rfl) (by kernel_rfl) (by decide) (fun _ _ _ h => h) (by rfl) (fun w' hw' => ?_) hS ?_
              · go_simp
              simp only [List.setIfInBounds_toArray, List.set_cons_zero, List.set_cons_succ]
              refine wpAnyG_take3 (i := 1) (d := 151) (oi := _) (v := .int .i64 i) rfl (by kernel_rfl) (by kernel_rfl) (by kernel_rfl) (by kernel_rfl) (by kernel_rfl) (by kernel_rfl) (by decide) (fun _ _ _ h => h) (by rfl) (fun w' hw' => ?_) hS ?_
              · go_simp
              simp only [List.setIfInBounds_toArray, List.set_cons_zero, List.set_cons_succ]
              refine wpAnyG_take3 (i := 2) (d := 152) (oi := _) (v := .pointer (some ⟨b1, i, none⟩)) rfl (by kernel_rfl) (by kernel_rfl) (by kernel_rfl) (by kernel_rfl) (by kernel_rfl) (by kernel_rfl) (by decide) (fun _ _ _ h => h) (by rfl) (fun w' hw' => ?_) hS ?_
              · go_simp
              simp only [List.setIfInBounds_toArray, List.set_cons_zero, List.set_cons_succ]
              refine wpAnyG_take3 (i := 3) (d := 153) (oi := _) (v := .int .i64 p) rfl (by kernel_rfl) (by kernel_rfl) (by kernel_rfl) (by kernel_rfl) (by kernel_rfl) (by kernel_rfl) (by decide) (fun _ _ _ h => h) (by rfl) (fun w' hw' => ?_) hS ?_
              · have cp := (hw'.cell (p := ⟨b1, i, none⟩) BBC.out).trans CPC.out
                go_simp
              simp only [List.setIfInBounds_toArray, List.set_cons_zero, List.set_cons_succ]
              refine wpAnyG_take3 (i := 5) (d := 155) (oi := _) (v := .agg #[.bool false, .slice p5 (List.length l5) d5]) rfl (by kernel_rfl) (by kernel_rfl) (by kernel_rfl) (by kernel_rfl) (by kernel_rfl) (by kernel_rfl) (by decide) (fun _ _ _ h => h) (by rfl) (fun w' hw' => ?_) hS ?_
              · have y0 := (hw'.cell (p := ⟨B1, 0, none⟩) B1L.out).trans TW.out.b0
                have y1 := (hw'.cell (p := ⟨B1, 1, none⟩) B1L.out).trans TW.out.b1
                go_simp
              simp only [List.setIfInBounds_toArray, List.set_cons_zero, List.set_cons_succ]
              refine wpAnyG_flow (w0 := wv) (Lend := #[true, true, true, true, true, true, true, true, false]) [154, 156, 16] [4, 6, 7] (fun p' => match p' with | 0 => NumV 5 p | 1 => NumV 13 (p - Q) | 2 => BoxV wv.heap.size | _ => fun _ _ => False) (fun p => p == 2) (fun p => match p with | 0 => [] | 1 => [0] | 2 => [] | _ => []) 8 1000 (by kernel_rfl) (by kernel_rfl) (by kernel_rfl) (by decide) (by decide) (by decide) rfl (by decide) (by decide) (by kernel_rfl) (by kernel_rfl) hS (hS) ?hfl ?ho ?hz (by kernel_rfl) ?hLm ?hval ?hbx ?H ?hend 0 ?hpo ?hopt
              case hfl =>
                intro j hj
                simp only [List.mem_cons, List.not_mem_nil, or_false] at hj
                rcases hj with rfl | rfl | rfl <;> rfl
              case ho =>
                intro j hj hn
                simp only [List.mem_cons, List.not_mem_nil, or_false, not_or] at hn
                rcases (by omega : j = 0 ∨ j = 1 ∨ j = 2 ∨ j = 3 ∨ j = 5) with rfl | rfl | rfl | rfl | rfl <;> rfl
              case hz =>
                intro j hj
                by_cases hz : j < 9
                · rcases (by omega : j = 8) with rfl <;> rfl
                · simp [Array.getD]; try omega
              case hLm =>
                intro j hj
                have hj : j < 9 := hj
                rcases (by omega : j = 0 ∨ j = 1 ∨ j = 2 ∨ j = 3 ∨ j = 4 ∨ j = 5 ∨ j = 6 ∨ j = 7 ∨ j = 8) with rfl | rfl | rfl | rfl | rfl | rfl | rfl | rfl | rfl <;> rfl
              case hval =>
                intro p v w w' h st
                match p, h with
                | 0, h => exact NumV.grow h st
                | 1, h => exact NumV.grow h st
                | 2, h => exact BoxV.grow h st
                | _ + 3, h => cases h
              case hbx =>
                intro p v w hb h
                simp only [Bool.or_eq_true, beq_iff_eq] at hb
                rcases hb with rfl
                · exact BoxV.at h
              case H =>
                intro p hp vs w' hvs hS' bel hd o ho A hA K' hK
                obtain ⟨x0, x1, x2, rfl⟩ : ∃ x0 x1 x2, vs = [x0, x1, x2] := by
                  rcases vs with _ | ⟨x0, _ | ⟨x1, _ | ⟨x2, _ | ⟨y, vs⟩⟩⟩⟩
                  all_goals first | (simp at hvs; done) | exact ⟨_, _, _, rfl⟩
                rcases (by simpa using hp : p < 3) with hp'
                rcases (by have : p < 3 := by simpa using hp
                           omega : p = 0 ∨ p = 1 ∨ p = 2) with rfl | rfl | rfl
                · clear hd
                  have ho2 := Option.some.inj ho
                  clear ho
                  subst ho2
                  refine wp_of_callw (F := 19) (args := #[.int .i64 p]) (by rw [hA.out]; kernel_rfl) (by rw [hA.out]; kernel_rfl) (of_s p false SP1.out (by omega) (by omega) _) ?_
                  rintro e' w'' ⟨p1, l1, d1, rfl, r1, r2, r3⟩
                  exact ⟨_, rfl, hK.out _ _ r3 (hS'.trans (r3.mono hS'.size)) ⟨_, _, _, rfl, r1⟩ (fun h => by cases h)⟩
                · have g0 := hd 0 (by simp)
                  obtain ⟨u1, j1, k1, rfl, a1⟩ := g0
                  clear hd
                  have ho2 := Option.some.inj ho
                  clear ho
                  subst ho2
                  refine wp_of_callw (F := 20) (args := #[.agg #[.bool false, .slice u1 (List.length j1) k1], .agg #[.bool false, .slice p5 (List.length l5) d5]]) (by rw [hA.out]; kernel_rfl) (by rw [hA.out]; kernel_rfl) (minus_s (k := 12) p Q false false false SP1.out SQ1.out SK1.out u1 p5 k1 d5 j1 l5 _ (BigR.more (m := 12) a1 (by decide)) (TW.out.bx.below hS') (by decide)) ?_
                  rintro e' w'' ⟨p1, l1, d1, rfl, r1, r2, r3⟩
                  exact ⟨_, rfl, hK.out _ _ r3 (hS'.trans (r3.mono hS'.size)) ⟨_, _, _, rfl, r1⟩ (fun h => by cases h)⟩
                · clear hd
                  have ho2 := Option.some.inj ho
                  clear ho
                  subst ho2
                  refine wp_of_value (v := .pointer (some ⟨w'.heap.size, 0, none⟩)) (w' := w'.alloc (.cells #[.bool false, .slice none 0 0] 33)) rfl (by rw [hA.out]; kernel_rfl) ?_
                  exact hK.out _ _ ((Below.refl _ _).alloc (Nat.le_refl _) _) (hS'.alloc hS'.size _) (BoxV.new _ hS'.size) (fun _ => ⟨_, rfl, Nat.le_refl _⟩)
              case hend =>
                intro vs w' hvs hS' bel hv hd A hA f hu
                obtain ⟨x0, x1, x2, rfl⟩ : ∃ x0 x1 x2, vs = [x0, x1, x2] := by
                  rcases vs with _ | ⟨x0, _ | ⟨x1, _ | ⟨x2, _ | ⟨y, vs⟩⟩⟩⟩
                  all_goals first | (simp at hvs; done) | exact ⟨_, _, _, rfl⟩
                have g0 := hv 0 (by simp)
                have g1 := hv 1 (by simp)
                have g2 := hv 2 (by simp)
                obtain ⟨e00, e01, e02, rfl, -⟩ := g0
                obtain ⟨p7, l7, d7, rfl, B7⟩ := g1
                obtain ⟨B3, rfl, z4, y1, c10, c11, f10, f11⟩ := g2
                obtain ⟨f, rfl⟩ : ∃ g, f = g + 1 := ⟨f - 1, by have h3 : unl #[true, true, true, true, true, true, true, true, false] = 1 := (by decide); omega⟩
                clear hv hd hu
                have OW := Lib.hid (o_2 (w := wv) (c := d7) z4 hS' B7 c10 c11)
                rw [hA.out]
                clear hA
                simp only [putL, Act.put, List.setIfInBounds_toArray, List.set_cons_zero, List.set_cons_succ]
                refine wpAnyG_one (i := 8) (o := _) (by kernel_rfl) rfl (fun K hK => ?_)
                go_simp
                refine hK.out _ _ (fun h => absurd h (by decide)) ?_
                try simp only [Act.put, List.setIfInBounds_toArray, List.set_cons_zero, List.set_cons_succ]
                clear hK
                refine wpAnyG_done (by kernel_rfl) ?_ _
                go_wp2_with fail
                go_meet
                exact ⟨_, _, _, _, rfl, OW⟩
              case hpo => exact fun h => absurd h (by decide)
              case hopt => exact fun h => absurd h (by decide)
            case rest =>
              obtain ⟨B3, p7, l7, d7, rfl, OW⟩ := hcut
              have KX := Lib.hid (KW.out.trans (OW.out.bel.mono KW.out.size))
              have c30 := OW.out.b0
              have c31 := OW.out.b1
              have c20 := (OW.out.bel.cell (p := ⟨B2, 0, none⟩) (World.block_lt_of_cell? wv _ TW.out.c0)).trans TW.out.c0
              have c21 := (OW.out.bel.cell (p := ⟨B2, 1, none⟩) (World.block_lt_of_cell? wv _ TW.out.c1)).trans TW.out.c1
              have BK := Lib.hid OW.out.bx
              have zk : l7.length = 0 ↔ p - Q = 0 := by
                have := BK.out.can.length_zero
                omega
              have zr : m5.length = 0 ↔ rm = 0 := by
                have := TW.out.by'.can.length_zero
                omega
              have CZ : ¬ 0 < cmpZ (p - Q) 1 := by
                unfold cmpZ
                repeat' split
                all_goals omega
              clear TW OW BBC CPC B1L SP1 SQ1 C1 BB KW
              have S1 := Lib.hid (show false = decide ((1 : Int) < 0) by decide)
              have SK2 := Lib.hid (show false = decide (p - Q < 0) by simp; omega)
              have QP : rm = 0 → p - Q = 0 := fun h => by have := z3 h; omega
              obtain ⟨z, hz⟩ : ∃ z, z = cmpZ (p - Q) 1 := ⟨_, rfl⟩
              have CM := Lib.hid (fun W (pp : Option Addr) (dd : Nat) (ll : List Int) (a : BigR 13 W p7 l7 (p - Q)) (b : BigR 5 W pp ll 1) => compare_s (n := 13) (m := 5) (p - Q) 1 false false SK2.out S1.out p7 pp d7 dd l7 ll W a b (by decide) (by decide))
              rw [← hz] at CM CZ
              have cz : decide (0 < z) = false := decide_eq_false CZ
              clear hz z1 z2 z3
              by_cases hr0 : rm = 0
              · have lr : m5.length = 0 := zr.2 hr0
                have lk : l7.length = 0 := zk.2 (QP hr0)
                have ZR := Lib.hid (fun W => Zero_any false q5 m5.length e5 W)
                have ZK := Lib.hid (fun W => Zero_any false p7 l7.length d7 W)
                rw [show decide (m5.length = 0) = true from decide_eq_true lr] at ZR
                rw [show decide (l7.length = 0) = true from decide_eq_true lk] at ZK
                clear lr lk zr zk QP hr0
                go_upto_region 23 with fail
                go_region_held3 (fun w' => w'.cell? ⟨B3, 0, none⟩ = some (.bool false) ∧ w'.cell? ⟨B3, 1, none⟩ = some (.slice p7 l7.length d7) ∧ w'.cell? ⟨B2, 0, none⟩ = some (.bool false) ∧ w'.cell? ⟨B2, 1, none⟩ = some (.slice q5 m5.length e5))
                  (first | exact ⟨c30, c31, c20, c21⟩ | exact ⟨cellDr c30, cellDr c31, cellDr c20, cellDr c21⟩)
                  (first
                    | (go_at_call 19; (with_reducible refine (of_s 1 false S1.out (by decide) (by decide) _).mono ?_); rintro e wd ⟨p8, l8, d8, rfl, r1, r2, r3⟩; have st : Below wc.heap.size wc wd := (by with_reducible first | exact r3 | exact Below.ofDrew r3 | exact Below.ofDrewN r3); have c30 := cellGr st c30; have c31 := cellGr st c31; have c20 := cellGr st c20; have c21 := cellGr st c21; have B8 := Lib.hid r1; have BK := Lib.hid (BK.out.below st); have KX := Lib.hid (KX.out.trans (st.mono KX.out.size)); clear st r1 r2 r3)
                    | (go_at_call 21; (with_reducible refine (CM.out _ p8 d8 l8 (by with_reducible first | exact BK.out | exact BK.out.drew | exact BK.out.drewN _) (by with_reducible first | exact B8.out | exact B8.out.drew | exact B8.out.drewN _)).mono ?_); rintro e we ⟨rfl, r3⟩; have st : Below wd.heap.size wd we := (by with_reducible first | exact r3 | exact Below.ofDrew r3 | exact Below.ofDrewN r3); have c30 := cellGr st c30; have c31 := cellGr st c31; have c20 := cellGr st c20; have c21 := cellGr st c21; have BK := Lib.hid (BK.out.below st); have KX := Lib.hid (KX.out.trans (st.mono KX.out.size)); clear st r3)
                    | (go_at_call 22; (with_reducible refine (ZR.out _).mono ?_); rintro e wf ⟨rfl, r3⟩; have st : Below we.heap.size we wf := (by with_reducible first | exact r3 | exact Below.ofDrew r3 | exact Below.ofDrewN r3); have c30 := cellGr st c30; have c31 := cellGr st c31; have c20 := cellGr st c20; have c21 := cellGr st c21; have BK := Lib.hid (BK.out.below st); have KX := Lib.hid (KX.out.trans (st.mono KX.out.size)); clear st r3)
                    | (go_at_call 22; (with_reducible refine (ZK.out _).mono ?_); rintro e wg ⟨rfl, r3⟩; have st : Below wf.heap.size wf wg := (by with_reducible first | exact r3 | exact Below.ofDrew r3 | exact Below.ofDrewN r3); have c30 := cellGr st c30; have c31 := cellGr st c31; have c20 := cellGr st c20; have c21 := cellGr st c21; have KX := Lib.hid (KX.out.trans (st.mono KX.out.size)); clear st r3))
                clear c30 c31 c20 c21 BK CM ZR ZK
                go_wp2_with fail
                go_roundw
                case rel => exact ⟨i + 1, by omega, by go_num, by first | exact KX | exact Lib.hid KX.out.drew⟩
                case measure => simp [intOf]; omega
              · have lr : ¬ m5.length = 0 := fun h => hr0 (zr.1 h)
                have ZR := Lib.hid (fun W => Zero_any false q5 m5.length e5 W)
                rw [show decide (m5.length = 0) = false from decide_eq_false lr] at ZR
                clear lr zr zk QP hr0
                have B2L := Lib.hid (World.block_lt_of_cell? wc _ c20)
                have B3L := Lib.hid (World.block_lt_of_cell? wc _ c30)
                go_upto_region 23 with fail
                refine wp_region_G (fun w' => Below wc.heap.size wc w') 17 (by kernel_rfl) ?_
                have hS : Below wc.heap.size wc wc.drew := (Below.refl _ _).drew
                refine wpAnyG_take3 (i := 0) (d := 157) (oi := _) (v := .pointer (some ⟨B3, 0, none⟩)) rfl (by kernel_rfl) (by kernel_rfl) (by kernel_rfl) (by kernel_rfl) (by kernel_rfl) (by kernel_rfl) (by decide) (fun _ _ _ h => h) (by rfl) (fun w' hw' => ?_) hS ?_
                · go_simp
                simp only [List.setIfInBounds_toArray, List.set_cons_zero, List.set_cons_succ]
                refine wpAnyG_take3 (i := 1) (d := 158) (oi := _) (v := .bool false) rfl (by kernel_rfl) (by kernel_rfl) (by kernel_rfl) (by kernel_rfl) (by kernel_rfl) (by kernel_rfl) (by decide) (fun _ _ _ h => h) (by rfl) (fun w' hw' => ?_) hS ?_
                · have y0 := (hw'.cell (p := ⟨B3, 0, none⟩) B3L.out).trans c30
                  go_simp
                simp only [List.setIfInBounds_toArray, List.set_cons_zero, List.set_cons_succ]
                refine wpAnyG_take3 (i := 2) (d := 159) (oi := _) (v := .bool false) rfl (by kernel_rfl) (by kernel_rfl) (by kernel_rfl) (by kernel_rfl) (by kernel_rfl) (by kernel_rfl) (by decide) (fun _ _ _ h => h) (by rfl) (fun w' hw' => ?_) hS ?_
                · go_simp
                simp only [List.setIfInBounds_toArray, List.set_cons_zero, List.set_cons_succ]
                refine wpAnyG_take3 (i := 3) (d := 160) (oi := _) (v := .agg #[.bool false, .slice p7 l7.length d7]) rfl (by kernel_rfl) (by kernel_rfl) (by kernel_rfl) (by kernel_rfl) (by kernel_rfl) (by kernel_rfl) (by decide) (fun _ _ _ h => h) (by rfl) (fun w' hw' => ?_) hS ?_
                · have y0 := (hw'.cell (p := ⟨B3, 0, none⟩) B3L.out).trans c30
                  have y1 := (hw'.cell (p := ⟨B3, 1, none⟩) B3L.out).trans c31
                  go_simp
                simp only [List.setIfInBounds_toArray, List.set_cons_zero, List.set_cons_succ]
                refine wpAnyG_flow (w0 := wc) (Lend := #[true, true, true, true, true, true, true, true, true, true, true, true, true, true, true, true, true]) [161, 162, 163, 164, 165, 166, 167, 168, 169, 170, 171, 172, 173] [4, 5, 6, 7, 8, 9, 10, 11, 12, 13, 14, 15, 16] (fun p' => match p' with | 0 => NumV 5 1 | 1 => fun v _ => v = .int .i64 z | 2 => fun v _ => v = .bool false | 3 => fun v _ => v = .bool false | 4 => fun v _ => v = .bool false | 5 => fun v _ => v = .agg #[.bool false, .slice q5 m5.length e5] | 6 => fun v _ => v = .bool false | 7 => fun v _ => v = .bool false | 8 => fun v _ => v = undef | 9 => fun v _ => v = undef | 10 => fun v _ => v = undef | 11 => fun v _ => v = .bool false | 12 => fun v _ => v = .bool false | _ => fun _ _ => False) (fun p => false) (fun p => match p with | 0 => [] | 1 => [0] | 2 => [1] | 3 => [2] | 4 => [3] | 5 => [4] | 6 => [4, 5] | 7 => [4, 6] | 8 => [7] | 9 => [7] | 10 => [7] | 11 => [4, 7] | 12 => [4, 11] | _ => []) 17 1000 (by kernel_rfl) (by kernel_rfl) (by kernel_rfl) (by decide) (by decide) (by decide) rfl (by decide) (by decide) (by kernel_rfl) (by kernel_rfl) hS (hS) ?hfl ?ho ?hz (by kernel_rfl) ?hLm ?hval ?hbx ?H ?hend 0 ?hpo ?hopt
                case hfl =>
                  intro j hj
                  simp only [List.mem_cons, List.not_mem_nil, or_false] at hj
                  rcases hj with rfl | rfl | rfl | rfl | rfl | rfl | rfl | rfl | rfl | rfl | rfl | rfl | rfl <;> rfl
                case ho =>
                  intro j hj hn
                  simp only [List.mem_cons, List.not_mem_nil, or_false, not_or] at hn
                  rcases (by omega : j = 0 ∨ j = 1 ∨ j = 2 ∨ j = 3) with rfl | rfl | rfl | rfl <;> rfl
                case hz =>
                  intro j hj
                  by_cases hz : j < 17
                  · rcases (by omega : False) with h <;> cases h
                  · simp [Array.getD]; try omega
                case hLm =>
                  intro j hj
                  have hj : j < 17 := hj
                  rcases (by omega : j = 0 ∨ j = 1 ∨ j = 2 ∨ j = 3 ∨ j = 4 ∨ j = 5 ∨ j = 6 ∨ j = 7 ∨ j = 8 ∨ j = 9 ∨ j = 10 ∨ j = 11 ∨ j = 12 ∨ j = 13 ∨ j = 14 ∨ j = 15 ∨ j = 16) with rfl | rfl | rfl | rfl | rfl | rfl | rfl | rfl | rfl | rfl | rfl | rfl | rfl | rfl | rfl | rfl | rfl <;> rfl
                case hval =>
                  intro p v w w' h st
                  match p, h with
                  | 0, h => exact NumV.grow h st
                  | 1, h => exact eq_grow h st
                  | 2, h => exact eq_grow h st
                  | 3, h => exact eq_grow h st
                  | 4, h => exact eq_grow h st
                  | 5, h => exact eq_grow h st
                  | 6, h => exact eq_grow h st
                  | 7, h => exact eq_grow h st
                  | 8, h => exact eq_grow h st
                  | 9, h => exact eq_grow h st
                  | 10, h => exact eq_grow h st
                  | 11, h => exact eq_grow h st
                  | 12, h => exact eq_grow h st
                  | _ + 13, h => cases h
                case hbx => intro p v w hb h; cases hb
                case H =>
                  intro p hp vs w' hvs hS' bel hd o ho A hA K' hK
                  obtain ⟨x0, x1, x2, x3, x4, x5, x6, x7, x8, x9, x10, x11, x12, rfl⟩ : ∃ x0 x1 x2 x3 x4 x5 x6 x7 x8 x9 x10 x11 x12, vs = [x0, x1, x2, x3, x4, x5, x6, x7, x8, x9, x10, x11, x12] := by
                    rcases vs with _ | ⟨x0, _ | ⟨x1, _ | ⟨x2, _ | ⟨x3, _ | ⟨x4, _ | ⟨x5, _ | ⟨x6, _ | ⟨x7, _ | ⟨x8, _ | ⟨x9, _ | ⟨x10, _ | ⟨x11, _ | ⟨x12, _ | ⟨y, vs⟩⟩⟩⟩⟩⟩⟩⟩⟩⟩⟩⟩⟩⟩
                    all_goals first | (simp at hvs; done) | exact ⟨_, _, _, _, _, _, _, _, _, _, _, _, _, rfl⟩
                  rcases (by simpa using hp : p < 13) with hp'
                  rcases (by have : p < 13 := by simpa using hp
                             omega : p = 0 ∨ p = 1 ∨ p = 2 ∨ p = 3 ∨ p = 4 ∨ p = 5 ∨ p = 6 ∨ p = 7 ∨ p = 8 ∨ p = 9 ∨ p = 10 ∨ p = 11 ∨ p = 12) with rfl | rfl | rfl | rfl | rfl | rfl | rfl | rfl | rfl | rfl | rfl | rfl | rfl
                  · clear hd
                    have ho2 := Option.some.inj ho
                    clear ho
                    subst ho2
                    refine wp_of_callw (F := 19) (args := #[.int .i64 1]) (by rw [hA.out]; kernel_rfl) (by rw [hA.out]; kernel_rfl) (of_s 1 false S1.out (by decide) (by decide) _) ?_
                    rintro e' w'' ⟨p1, l1, d1, rfl, r1, r2, r3⟩
                    exact ⟨_, rfl, hK.out _ _ r3 (hS'.trans (r3.mono hS'.size)) ⟨_, _, _, rfl, r1⟩ (fun h => by cases h)⟩
                  · have g0 := hd 0 (by simp)
                    obtain ⟨u1, j1, k1, rfl, a1⟩ := g0
                    clear hd
                    have ho2 := Option.some.inj ho
                    clear ho
                    subst ho2
                    refine wp_of_callw (F := 21) (args := #[.agg #[.bool false, .slice p7 l7.length d7], .agg #[.bool false, .slice u1 (List.length j1) k1]]) (by rw [hA.out]; kernel_rfl) (by rw [hA.out]; kernel_rfl) (CM.out w' u1 k1 j1 (BK.out.below hS') a1) ?_
                    rintro e' w'' ⟨rfl, r3⟩
                    exact ⟨_, rfl, hK.out _ _ r3 (hS'.trans (r3.mono hS'.size)) rfl (fun h => by cases h)⟩
                  · have g1 := hd 1 (by simp)
                    obtain rfl := g1
                    clear hd
                    have ho2 := Option.some.inj ho
                    clear ho
                    subst ho2
                    refine wp_of_valuew (v := .bool (decide (0 < z))) (w' := w') (by rw [hA.out]; kernel_rfl) (by rw [hA.out]; kernel_rfl) ?_
                    exact hK.out _ _ (Below.refl _ _) hS' (show _ = _ by rw [cz]) (fun h => by cases h)
                  · have g2 := hd 2 (by simp)
                    obtain rfl := g2
                    clear hd
                    have ho2 := Option.some.inj ho
                    clear ho
                    subst ho2
                    refine wp_of_valuew (v := .bool false) (w' := w') (by rw [hA.out]; kernel_rfl) (by rw [hA.out]; kernel_rfl) ?_
                    exact hK.out _ _ (Below.refl _ _) hS' rfl (fun h => by cases h)
                  · have g3 := hd 3 (by simp)
                    obtain rfl := g3
                    clear hd
                    have ho2 := Option.some.inj ho
                    clear ho
                    subst ho2
                    refine wp_of_valuew (v := .bool false) (w' := w') (by rw [hA.out]; kernel_rfl) (by rw [hA.out]; kernel_rfl) ?_
                    exact hK.out _ _ (Below.refl _ _) hS' rfl (fun h => by cases h)
                  · have g4 := hd 4 (by simp)
                    obtain rfl := g4
                    clear hd
                    have ho2 := Option.some.inj ho
                    clear ho
                    subst ho2
                    have ev15 : A.tmps[15]?.getD undef = .pointer (some ⟨B2, 0, none⟩) := by rw [hA.out]; kernel_rfl
                    have y0 := (hS'.cell (p := ⟨B2, 0, none⟩) B2L.out).trans c20
                    have y1 := (hS'.cell (p := ⟨B2, 1, none⟩) B2L.out).trans c21
                    refine wp_of_valuew (v := .agg #[.bool false, .slice q5 m5.length e5]) (w' := w') (by rw [hA.out]; kernel_rfl) (by clear hA; go_simp) ?_
                    exact hK.out _ _ (Below.refl _ _) hS' rfl (fun h => by cases h)
                  · have g4 := hd 4 (by simp)
                    have g5 := hd 5 (by simp)
                    obtain rfl := g4
                    obtain rfl := g5
                    clear hd
                    have ho2 := Option.some.inj ho
                    clear ho
                    subst ho2
                    refine wp_of_callw (F := 22) (args := #[.agg #[.bool false, .slice q5 m5.length e5]]) (by rw [hA.out]; kernel_rfl) (by rw [hA.out]; kernel_rfl) (ZR.out _) ?_
                    rintro e' w'' ⟨rfl, r3⟩
                    exact ⟨_, rfl, hK.out _ _ r3 (hS'.trans (r3.mono hS'.size)) rfl (fun h => by cases h)⟩
                  · have g4 := hd 4 (by simp)
                    have g6 := hd 6 (by simp)
                    obtain rfl := g4
                    obtain rfl := g6
                    clear hd
                    have ho2 := Option.some.inj ho
                    clear ho
                    subst ho2
                    refine wp_of_valuew (v := .bool false) (w' := w') (by rw [hA.out]; kernel_rfl) (by rw [hA.out]; kernel_rfl) ?_
                    exact hK.out _ _ (Below.refl _ _) hS' rfl (fun h => by cases h)
                  · have g7 := hd 7 (by simp)
                    obtain rfl := g7
                    clear hd
                    have ho2 := Option.some.inj ho
                    clear ho
                    subst ho2
                    refine wp_of_skipw (by rw [hA.out]; kernel_rfl) ?_
                    exact hK.out _ _ (Below.refl _ _) hS' rfl (fun h => by cases h)
                  · have g7 := hd 7 (by simp)
                    obtain rfl := g7
                    clear hd
                    have ho2 := Option.some.inj ho
                    clear ho
                    subst ho2
                    refine wp_of_skipw (by rw [hA.out]; kernel_rfl) ?_
                    exact hK.out _ _ (Below.refl _ _) hS' rfl (fun h => by cases h)
                  · have g7 := hd 7 (by simp)
                    obtain rfl := g7
                    clear hd
                    have ho2 := Option.some.inj ho
                    clear ho
                    subst ho2
                    refine wp_of_skipw (by rw [hA.out]; kernel_rfl) ?_
                    exact hK.out _ _ (Below.refl _ _) hS' rfl (fun h => by cases h)
                  · have g4 := hd 4 (by simp)
                    have g7 := hd 7 (by simp)
                    obtain rfl := g4
                    obtain rfl := g7
                    clear hd
                    have ho2 := Option.some.inj ho
                    clear ho
                    subst ho2
                    refine wp_of_valuew (v := .bool false) (w' := w') (by rw [hA.out]; kernel_rfl) (by rw [hA.out]; kernel_rfl) ?_
                    exact hK.out _ _ (Below.refl _ _) hS' rfl (fun h => by cases h)
                  · have g4 := hd 4 (by simp)
                    have g11 := hd 11 (by simp)
                    obtain rfl := g4
                    obtain rfl := g11
                    clear hd
                    have ho2 := Option.some.inj ho
                    clear ho
                    subst ho2
                    refine wp_of_valuew (v := .bool false) (w' := w') (by rw [hA.out]; kernel_rfl) (by rw [hA.out]; kernel_rfl) ?_
                    exact hK.out _ _ (Below.refl _ _) hS' rfl (fun h => by cases h)
                case hend =>
                  intro vs w' hvs hS' bel hv hd A hA f hu
                  obtain ⟨x0, x1, x2, x3, x4, x5, x6, x7, x8, x9, x10, x11, x12, rfl⟩ : ∃ x0 x1 x2 x3 x4 x5 x6 x7 x8 x9 x10 x11 x12, vs = [x0, x1, x2, x3, x4, x5, x6, x7, x8, x9, x10, x11, x12] := by
                    rcases vs with _ | ⟨x0, _ | ⟨x1, _ | ⟨x2, _ | ⟨x3, _ | ⟨x4, _ | ⟨x5, _ | ⟨x6, _ | ⟨x7, _ | ⟨x8, _ | ⟨x9, _ | ⟨x10, _ | ⟨x11, _ | ⟨x12, _ | ⟨y, vs⟩⟩⟩⟩⟩⟩⟩⟩⟩⟩⟩⟩⟩⟩
                    all_goals first | (simp at hvs; done) | exact ⟨_, _, _, _, _, _, _, _, _, _, _, _, _, rfl⟩
                  have g0 := hv 0 (by simp)
                  have g1 := hv 1 (by simp)
                  have g2 := hv 2 (by simp)
                  have g3 := hv 3 (by simp)
                  have g4 := hv 4 (by simp)
                  have g5 := hv 5 (by simp)
                  have g6 := hv 6 (by simp)
                  have g7 := hv 7 (by simp)
                  have g8 := hv 8 (by simp)
                  have g9 := hv 9 (by simp)
                  have g10 := hv 10 (by simp)
                  have g11 := hv 11 (by simp)
                  have g12 := hv 12 (by simp)
                  obtain ⟨e0, e1, e2, rfl, -⟩ := g0
                  obtain rfl := g1
                  obtain rfl := g2
                  obtain rfl := g3
                  obtain rfl := g4
                  obtain rfl := g5
                  obtain rfl := g6
                  obtain rfl := g7
                  obtain rfl := g8
                  obtain rfl := g9
                  obtain rfl := g10
                  obtain rfl := g11
                  obtain rfl := g12
                  obtain ⟨f, rfl⟩ : ∃ g, f = g := ⟨f - 0, by have h3 : unl #[true, true, true, true, true, true, true, true, true, true, true, true, true, true, true, true, true] = 0 := (by decide); omega⟩
                  clear hv hd hu
                  have KE := Lib.hid hS'
                  rw [hA.out]
                  clear hA
                  simp only [putL, Act.put, List.setIfInBounds_toArray, List.set_cons_zero, List.set_cons_succ]
                  refine wpAnyG_done (by kernel_rfl) ?_ _
                  generalize w' = we at *
                  have KX := Lib.hid (KX.out.trans (KE.out.mono KX.out.size))
                  clear c30 c31 c20 c21 BK CM ZR hS hS' bel KE
                  go_wp2_with fail
                  go_roundw
                  case rel => exact ⟨i + 1, by omega, by go_num, by first | exact KX | exact Lib.hid KX.out.drew⟩
                  case measure => simp [intOf]; omega
                case hpo => exact fun h => absurd h (by decide)
                case hopt => exact fun h => absurd h (by decide)
        · have ex : ¬ (i < k ∧ 0 < S) := tt
          have FC := Lib.hid (fun W h h' => FA.out b2 k P2 W h h' (by have := L2.out; omega) hf)
          rw [L2.out] at FC
          have e1 : (T == T) = true := by simp
          have H2z := Lib.hid (H2.out.below K0.out)
          have R2z := Lib.hid (R2.out.below K0.out)
          have KBz := Lib.hid (KB.out.trans (K0.out.mono KB.out.size))
          have cs : (i = k) ∨ (i < k ∧ ¬ 0 < S) := by omega
          clear tt ex FA H1 H2 R R1 R2 KB K0 W0 Z3 SL
          rcases cs with rfl | ⟨ti, ns⟩
          · go_wp2_with fail
            refine (FC.out _ H2z.out R2z.out).mono ?_
            rintro e wq ⟨⟨F, E, rfl, h⟩, nq, rfl⟩
            obtain ⟨rfl, rfl⟩ := FR.out F E h
            have KB := Lib.hid (below_drewN KBz.out nq)
            clear FC FR h H2z R2z
            go_wp2_with fail
            refine (alive_any _).mono ?_
            rintro e wq ⟨rfl, hq⟩
            have B9 := Lib.hid (KB.out.trans ((show Below _ _ wq from by first | exact hq | exact ((Below.refl _ _).drew).trans hq | exact (below_drewN (Below.refl _ _) _).trans hq).mono KB.out.size))
            clear hq
            go_wp2_with fail
            go_ret
            exact ⟨rfl, by first | exact B9.out | exact B9.out.drew | exact below_drewN B9.out _⟩
          · go_wp2_with fail
            refine (FC.out _ H2z.out R2z.out).mono ?_
            rintro e wq ⟨⟨F, E, rfl, h⟩, nq, rfl⟩
            obtain ⟨rfl, rfl⟩ := FR.out F E h
            have KB := Lib.hid (below_drewN KBz.out nq)
            clear FC FR h H2z R2z
            go_wp2_with fail
            refine (alive_any _).mono ?_
            rintro e wq ⟨rfl, hq⟩
            have B9 := Lib.hid (KB.out.trans ((show Below _ _ wq from by first | exact hq | exact ((Below.refl _ _).drew).trans hq | exact (below_drewN (Below.refl _ _) _).trans hq).mono KB.out.size))
            clear hq
            go_wp2_with fail
            go_ret
            exact ⟨rfl, by first | exact B9.out | exact B9.out.drew | exact below_drewN B9.out _⟩
end Go.Proofs.YtacliakmhkebbaaDoor.numWhole
