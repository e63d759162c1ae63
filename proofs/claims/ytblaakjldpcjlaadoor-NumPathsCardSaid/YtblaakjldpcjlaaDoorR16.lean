/- The reference's Lowest. -/
import Derived.Test.YtblaakjldpcjlaaDoorR15
import Derived.Test.YtblaakjldpcjlaaDoorB4
namespace Go.Proofs.YtblaakjldpcjlaaDoor
open Go.RowKit
set_option linter.unusedVariables false
set_option linter.unusedSimpArgs false

/-- Two boxed numbers and a fraction's box. -/
structure BoxF (w v : World) (s t : Bool) (P Q : Value) : Prop where
  a0 : v.cell? ⟨w.heap.size, 0, none⟩ = some (.bool s)
  a1 : v.cell? ⟨w.heap.size, 1, none⟩ = some P
  b0 : v.cell? ⟨w.heap.size + 1, 0, none⟩ = some (.bool t)
  b1 : v.cell? ⟨w.heap.size + 1, 1, none⟩ = some Q
  c0 : v.cell? ⟨w.heap.size + 1 + 1, 0, none⟩ = some (.int .i64 0)
  c1 : v.cell? ⟨w.heap.size + 1 + 1, 1, none⟩ = some (.int .i64 0)
  f0 : v.frozen? ⟨w.heap.size + 1 + 1, 0, none⟩ = false
  f1 : v.frozen? ⟨w.heap.size + 1 + 1, 1, none⟩ = false
  sz : w.heap.size + 1 + 1 < v.heap.size
  bel : Below w.heap.size w v
theorem BoxF.below {w v v' : World} {s t : Bool} {P Q : Value} (h : BoxF w v s t P Q) (hb : Below v.heap.size v v') : BoxF w v' s t P Q := by
  obtain ⟨h1, h2, h3, h4, h5, h6, h7, h8, h9, h10⟩ := h
  have z0 : w.heap.size < v.heap.size := by omega
  have z1 : w.heap.size + 1 < v.heap.size := by omega
  exact ⟨(hb.cell (p := ⟨w.heap.size, 0, none⟩) z0).trans h1, (hb.cell (p := ⟨w.heap.size, 1, none⟩) z0).trans h2, (hb.cell (p := ⟨w.heap.size + 1, 0, none⟩) z1).trans h3, (hb.cell (p := ⟨w.heap.size + 1, 1, none⟩) z1).trans h4,
    (hb.cell (p := ⟨w.heap.size + 1 + 1, 0, none⟩) h9).trans h5, (hb.cell (p := ⟨w.heap.size + 1 + 1, 1, none⟩) h9).trans h6, (hb.frozen (p := ⟨w.heap.size + 1 + 1, 0, none⟩) h9).trans h7, (hb.frozen (p := ⟨w.heap.size + 1 + 1, 1, none⟩) h9).trans h8, Nat.lt_of_lt_of_le h9 hb.size, h10.trans (hb.mono h10.size)⟩
theorem BoxF.new (w : World) (s t : Bool) (P Q : Value) : BoxF w (((w.alloc (Obj.cells #[Value.bool s, P] 30)).alloc (Obj.cells #[Value.bool t, Q] 30)).alloc (Obj.cells #[Value.int .i64 0, Value.int .i64 0] 23)) s t P Q := by
  refine ⟨?_, ?_, ?_, ?_, ?_, ?_, ?_, ?_, ?_, by go_grown⟩ <;> simp [go_sem]
theorem BoxF.drew {w v : World} {s t : Bool} {P Q : Value} (h : BoxF w v s t P Q) : BoxF w v.drew s t P Q := ⟨h.a0, h.a1, h.b0, h.b1, h.c0, h.c1, h.f0, h.f1, h.sz, h.bel.drew⟩

theorem sgn_abs (X : Int) : (bif decide (X < 0) then -(X.natAbs : Int) else (X.natAbs : Int)) = X := by
  by_cases h : X < 0 <;> simp [h] <;> omega

theorem low_end {s : Bool} {X Y P Q : Int} (hX : (bif s then -(X.natAbs : Int) else (X.natAbs : Int)) = X) (hY : 0 < Y) (hP : P = bif s then -((X.natAbs : Int) / (Int.gcd (X.natAbs : Int) Y.natAbs : Int)) else (X.natAbs : Int) / (Int.gcd (X.natAbs : Int) Y.natAbs : Int)) (hQ : Q = (Y.natAbs : Int) / (Int.gcd (X.natAbs : Int) Y.natAbs : Int)) :
    ((P.natAbs : Int) ≤ 1099511627776 → (Q.natAbs : Int) ≤ 1048576 → IsFrac X Y P Q 0) ∧ ((1099511627776 < (P.natAbs : Int) ∨ 1048576 < (Q.natAbs : Int)) → IsFrac X Y 0 0 4) := by
  have Q0 := Int.ediv_nonneg (show 0 ≤ (X.natAbs : Int) by omega) (show 0 ≤ (Int.gcd (X.natAbs : Int) Y.natAbs : Int) by omega)
  have Q1 := Int.ediv_nonneg (show 0 ≤ (Y.natAbs : Int) by omega) (show 0 ≤ (Int.gcd (X.natAbs : Int) Y.natAbs : Int) by omega)
  have LF := low_frac s X.natAbs Y.natAbs (by omega) (by omega)
  rw [hX, show (Y.natAbs : Int) = Y from by omega] at LF
  rw [show (Y.natAbs : Int) = Y from by omega] at hP hQ Q0 Q1
  have PA : (P.natAbs : Int) = (X.natAbs : Int) / (Int.gcd (X.natAbs : Int) Y : Int) := by rw [hP]; exact whole_abs s Q0
  have QA : (Q.natAbs : Int) = Y / (Int.gcd (X.natAbs : Int) Y : Int) := by rw [hQ]; omega
  unfold lowV lowD lowE at LF
  rw [← PA, ← QA] at LF
  constructor
  · intro a b
    rw [if_pos ⟨a, b⟩, if_pos ⟨a, b⟩, if_pos ⟨a, b⟩] at LF
    rw [PA, ← hP, QA, ← hQ] at LF
    exact LF
  · intro a
    have na : ¬ ((P.natAbs : Int) ≤ 1099511627776 ∧ (Q.natAbs : Int) ≤ 1048576) := by omega
    rw [if_neg na, if_neg na, if_neg na] at LF
    exact LF

set_option maxRecDepth 100000 in
set_option maxHeartbeats 4000000 in
theorem Lowest_pos {N : Nat} (p q : Option Addr) (c d : Nat) (l m : List Int) (X Y : Int) (w : World) (A : BigR N w p l X) (B : BigR N w q m Y) (hY : 0 < Y) (hN : N ≤ 80000) :
    Calls Tryd.prog 68 #[.agg #[.bool (decide (X < 0)), .slice p l.length c], .agg #[.bool (decide (Y < 0)), .slice q m.length d]] w (Res (IsFrac X Y) w) := by
  have K := BoxF.new w (decide (X < 0)) (decide (Y < 0)) (.slice p l.length c) (.slice q m.length d)
  have conv : ∀ V D E, IsFrac X Y V D E → IsFrac X Y V D E := fun _ _ _ h => h
  have hXs : (bif decide (X < 0) then -(X.natAbs : Int) else (X.natAbs : Int)) = X := sgn_abs _
  have ht : decide (Y < 0) = false := by simp; omega
  rw [ht] at K ⊢
  have bx := A.below K.bel
  have by' := B.below K.bel
  clear ht A B
  generalize decide (X < 0) = s at *
  go_enter Tryd.func68, Tryd.ntmps68
  go_upto_region 1 with fail
  generalize (((w.alloc (Obj.cells #[Value.bool s, Value.slice p l.length c] 30)).alloc (Obj.cells #[Value.bool false, Value.slice q m.length d] 30)).alloc (Obj.cells #[Value.int .i64 0, Value.int .i64 0] 23)) = v at *
  -- X over Y, Y above 0
  have HX := Lib.hid bx
  have HY := Lib.hid by'
  have HK := Lib.hid K
  have HC := Lib.hid conv
  have HXs := Lib.hid hXs
  have Y1 : 1 ≤ (Y.natAbs : Int) := by omega
  have Y2 := Lib.hid hY
  clear bx by' K conv hXs hY
  obtain ⟨k1, k2, k3, k4, k5, k6, k7, k8, k9, kb⟩ := HK.out
  have GC := Lib.hid (fun W (h : Below v.heap.size v W) => gcdD_any N p q c d l m X.natAbs Y.natAbs W HX.out.can HY.out.can (HX.out.row.below h) (HY.out.row.below h) HX.out.size HY.out.size (by omega))
  have LX := HX.out.size
  have LY := HY.out.size
  generalize hln : l.length = nl at *
  generalize hmn : m.length = nm at *
  have HLN := Lib.hid hln
  have HMN := Lib.hid hmn
  clear hln hmn
  go_wp2_with fail
  refine (GC.out _ (Below.refl _ _)).mono ?_
  rintro e v1 ⟨g, pg, cg, rfl, g1, g2, g3, g4⟩
  obtain ⟨G, hG⟩ : ∃ G : Int, G = (Int.gcd (X.natAbs : Int) Y.natAbs : Int) := ⟨_, rfl⟩
  rw [← hG] at g1
  have gp : 0 < G := by
    have := Int.gcd_pos_of_ne_zero_right (X.natAbs : Int) (show (Y.natAbs : Int) ≠ 0 by omega)
    omega
  have HG := Lib.hid hG
  clear hG
  have DX := Lib.hid (fun W (h : Below v1.heap.size v1 W) => by
    have := divD_any p pg c cg l g G W HX.out.can.digs g1 gp ((HX.out.row.below g4).below h) (g3.below h) (by have := HLN.out; omega) (by omega)
    rwa [HX.out.can.val, HLN.out] at this)
  have DY := Lib.hid (fun W (h : Below v1.heap.size v1 W) => by
    have := divD_any q pg d cg m g G W HY.out.can.digs g1 gp ((HY.out.row.below g4).below h) (g3.below h) (by have := HMN.out; omega) (by omega)
    rwa [HY.out.can.val, HMN.out] at this)
  have K1 := Lib.hid (HK.out.below g4)
  clear k1 k2 k3 k4 k5 k6 k7 k8 k9 kb g1 g2 g3 g4 GC
  obtain ⟨k1, k2, k3, k4, k5, k6, k7, k8, k9, kb⟩ := K1.out
  go_wp2_with fail
  refine (DX.out _ (Below.refl _ _)).mono ?_
  rintro e v2 ⟨q1, pq1, cq1, r1, pr1, cr1, rfl, a1, a2, a3, a4, a5, a6, a7⟩
  have K2 := Lib.hid (K1.out.below a7)
  have A1 := Lib.hid a1
  have A2 := Lib.hid a2
  have A3 := Lib.hid a3
  have A7 := Lib.hid a7
  clear a1 a2 a3 a4 a5 a6 a7 DX k1 k2 k3 k4 k5 k6 k7 k8 k9 kb
  obtain ⟨k1, k2, k3, k4, k5, k6, k7, k8, k9, kb⟩ := K2.out
  go_wp2_with fail
  refine (DY.out _ A7.out).mono ?_
  rintro e v3 ⟨q2, pq2, cq2, r2, pr2, cr2, rfl, b1, b2, b3, b4, b5, b6, b7⟩
  have K3 := Lib.hid (K2.out.below b7)
  have B1 := Lib.hid b1
  have B2 := Lib.hid b2
  have B3 := Lib.hid b3
  have A3' := Lib.hid (A3.out.below b7)
  clear b1 b2 b3 b4 b5 b6 b7 DY k1 k2 k3 k4 k5 k6 k7 k8 k9 kb
  obtain ⟨k1, k2, k3, k4, k5, k6, k7, k8, k9, kb⟩ := K3.out
  obtain ⟨P, hP⟩ : ∃ P, P = (bif s then -((X.natAbs : Int) / G) else (X.natAbs : Int) / G) := ⟨_, rfl⟩
  have W1 := Lib.hid (whole_to hP.symm pq1 cq1 q1 v3 A1.out.digs A1.out.val A3'.out (by have := A2.out; omega))
  have HP := Lib.hid hP
  clear hP
  go_wp2_with fail
  refine (W1.out).mono ?_
  rintro e v4 ⟨pw, lw, cw, rfl, w1, w2, w3⟩
  have WI := Lib.hid (Within_any pw cw lw P 1099511627776 (by omega) (by omega) v4 w1 (by have := A2.out; omega))
  have B3' := Lib.hid (B3.out.below w3)
  have K4 := Lib.hid (K3.out.below w3)
  clear w1 w2 w3 W1 k1 k2 k3 k4 k5 k6 k7 k8 k9 kb
  generalize decide (P < 0) = sp at *
  go_wp2_with fail
  refine (WI.out).mono ?_
  rintro e v5 ⟨rfl, w4⟩
  obtain ⟨Q, hQ⟩ : ∃ Q, Q = (Y.natAbs : Int) / G := ⟨_, rfl⟩
  have K5 := Lib.hid (K4.out.below w4)
  have W2 := Lib.hid (whole_to (s := false) (X := Q) hQ.symm pq2 cq2 q2 v5 B1.out.digs B1.out.val (B3'.out.below w4) (by have := B2.out; omega))
  have HQ := Lib.hid hQ
  clear w4 WI hQ
  go_wp2_with fail
  refine (W2.out).mono ?_
  rintro e v6 ⟨px, lx, cx, rfl, x1, x2, x3⟩
  have WJ := Lib.hid (Within_any px cx lx Q 1048576 (by omega) (by omega) v6 x1 (by have := B2.out; omega))
  have K6 := Lib.hid (K5.out.below x3)
  clear x1 x2 x3 W2
  generalize decide (Q < 0) = sq at *
  go_wp2_with fail
  refine (WJ.out).mono ?_
  rintro e v7 ⟨rfl, x4⟩
  have K7 := Lib.hid (K6.out.below x4)
  clear x4 WJ
  obtain ⟨k1, k2, k3, k4, k5, k6, k7, k8, k9, kb⟩ := K7.out
  obtain ⟨E1, E2⟩ := low_end (P := P) (Q := Q) HXs.out Y2.out (by rw [← HG.out]; exact HP.out) (by rw [← HG.out]; exact HQ.out)
  have E1' := Lib.hid E1
  have E2' := Lib.hid E2
  clear E1 E2
  by_cases hp : (P.natAbs : Int) ≤ 1099511627776
  · by_cases hq : (Q.natAbs : Int) ≤ 1048576
    · have F := Lib.hid (HC.out _ _ _ (E1'.out hp hq))
      rw [show wiV P 1099511627776 = P from if_pos hp, show wiB P 1099511627776 = true from by simpa [wiB] using hp, show wiV Q 1048576 = Q from if_pos hq, show wiB Q 1048576 = true from by simpa [wiB] using hq]
      clear hp hq
      go_wp2_with fail
      refine bodyPost_ret (v := fracV P Q 0) (by simp [results, Tryd.results68, go_sem, fracV, k5, k6, k9]) rfl ⟨P, Q, 0, F.out, rfl, ?_⟩
      exact by repeat' (first | exact Below.refl _ _ | refine below_drewN ?_ _ | refine Below.setCell ?_ ?_ _ | refine Below.alloc ?_ ?_ _ | (with_reducible exact kb) | (simp; done) | (simp; omega) | omega)
    · have F := Lib.hid (HC.out _ _ _ (E2'.out (.inr (by omega))))
      rw [show wiV P 1099511627776 = P from if_pos hp, show wiB P 1099511627776 = true from by simpa [wiB] using hp, show wiV Q 1048576 = 0 from if_neg hq, show wiB Q 1048576 = false from by simpa [wiB] using hq]
      clear hp hq
      go_wp2_with fail
      refine bodyPost_ret (v := fracV 0 0 4) (by simp [results, Tryd.results68, go_sem, fracV, k5, k6, k9]) rfl ⟨0, 0, 4, F.out, rfl, ?_⟩
      exact by repeat' (first | exact Below.refl _ _ | refine below_drewN ?_ _ | refine Below.setCell ?_ ?_ _ | refine Below.alloc ?_ ?_ _ | (with_reducible exact kb) | (simp; done) | (simp; omega) | omega)
  · have F := Lib.hid (HC.out _ _ _ (E2'.out (.inl (by omega))))
    rw [show wiV P 1099511627776 = 0 from if_neg hp, show wiB P 1099511627776 = false from by simpa [wiB] using hp]
    generalize wiV Q 1048576 = vq
    generalize wiB Q 1048576 = bq
    clear hp
    go_wp2_with fail
    refine bodyPost_ret (v := fracV 0 0 4) (by simp [results, Tryd.results68, go_sem, fracV, k5, k6, k9]) rfl ⟨0, 0, 4, F.out, rfl, ?_⟩
    exact by repeat' (first | exact Below.refl _ _ | refine below_drewN ?_ _ | refine Below.setCell ?_ ?_ _ | refine Below.alloc ?_ ?_ _ | (with_reducible exact kb) | (simp; done) | (simp; omega) | omega)

/-- Both numbers with their signs turned. -/
def Turned (N : Nat) (w : World) (X Y : Int) (wx : World) : Prop :=
  ∃ p l c q m d, BoxF w wx (decide (-X < 0)) (decide (-Y < 0)) (.slice p (List.length l) c) (.slice q (List.length m) d) ∧ BigR N wx p l (-X) ∧ BigR N wx q m (-Y)
theorem turned_of {N : Nat} {w v wx : World} {X Y : Int} {s t : Bool} {P Q : Value} {p q : Option Addr} {l m : List Int} {c d : Nat} (K : BoxF w v s t P Q) (hb : Below v.heap.size v wx) (A : BigR N wx p l (-X)) (B : BigR N wx q m (-Y))
    (fa : ∀ a, p = some a → v.heap.size ≤ a.block) (fb : ∀ a, q = some a → v.heap.size ≤ a.block) :
    Turned N w X Y ((((wx.setCell ⟨w.heap.size, 0, none⟩ (.bool (decide (-X < 0)))).setCell ⟨w.heap.size, 1, none⟩ (.slice p l.length c)).setCell ⟨w.heap.size + 1, 0, none⟩ (.bool (decide (-Y < 0)))).setCell ⟨w.heap.size + 1, 1, none⟩ (.slice q m.length d)) := by
  have K' := K.below hb
  have sz := K.sz
  have f0 : ∀ a, p = some a → a.block ≠ w.heap.size := fun a h => by have := fa a h; omega
  have f1 : ∀ a, p = some a → a.block ≠ w.heap.size + 1 := fun a h => by have := fa a h; omega
  have e0 : ∀ a, q = some a → a.block ≠ w.heap.size := fun a h => by have := fb a h; omega
  have e1 : ∀ a, q = some a → a.block ≠ w.heap.size + 1 := fun a h => by have := fb a h; omega
  have sz' := K'.sz
  refine ⟨p, l, c, q, m, d, ?_, ⟨A.can, A.size, ?_⟩, ⟨B.can, B.size, ?_⟩⟩
  · generalize decide (-X < 0) = s'
    generalize decide (-Y < 0) = t'
    obtain ⟨k1, k2, k3, k4, k5, k6, k7, k8, k9, kb⟩ := K'
    have z0 : w.heap.size < wx.heap.size := by omega
    have z1 : w.heap.size + 1 < wx.heap.size := by omega
    refine ⟨?_, ?_, ?_, ?_, ?_, ?_, ?_, ?_, ?_, (((kb.setCell (Nat.le_refl _) _).setCell (Nat.le_refl _) _).setCell (Nat.le_succ _) _).setCell (Nat.le_succ _) _⟩
    all_goals simp [go_sem, k1, k2, k3, k4, k5, k6, k7, k8, k9, z0, z1]
  · exact (((A.row.setCell (q := ⟨w.heap.size, 0, none⟩) f0 _).setCell (q := ⟨w.heap.size, 1, none⟩) f0 _).setCell (q := ⟨w.heap.size + 1, 0, none⟩) f1 _).setCell (q := ⟨w.heap.size + 1, 1, none⟩) f1 _
  · exact (((B.row.setCell (q := ⟨w.heap.size, 0, none⟩) e0 _).setCell (q := ⟨w.heap.size, 1, none⟩) e0 _).setCell (q := ⟨w.heap.size + 1, 0, none⟩) e1 _).setCell (q := ⟨w.heap.size + 1, 1, none⟩) e1 _
end Go.Proofs.YtblaakjldpcjlaaDoor
