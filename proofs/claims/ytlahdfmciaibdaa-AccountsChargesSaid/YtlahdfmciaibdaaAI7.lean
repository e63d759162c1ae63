/- Several texts in one: R24. -/
import Derived.Test.YtlahdfmciaibdaaAI6
import Derived.Test.YtlahdfmciaibdaaAI1
import Derived.Deep.RegionLaw

/- The reference's Rounded, of a denominator above 0. -/
namespace Go.Proofs.Ytlahdfmciaibdaa
open Go.RowKit
set_option linter.unusedVariables false
set_option linter.unusedSimpArgs false

/-- Two boxed numbers, a result's box, and the boxes of the quotient and of what is left over. -/
structure Rd (w v : World) (g : Nat) (s t u r : Bool) (P Q A B : Value) : Prop where
  a0 : v.cell? ⟨w.heap.size, 0, none⟩ = some (.bool s)
  a1 : v.cell? ⟨w.heap.size, 1, none⟩ = some P
  b0 : v.cell? ⟨w.heap.size + 1, 0, none⟩ = some (.bool t)
  b1 : v.cell? ⟨w.heap.size + 1, 1, none⟩ = some Q
  c0 : v.cell? ⟨w.heap.size + 1 + 1, 0, none⟩ = some (.bool false)
  c1 : v.cell? ⟨w.heap.size + 1 + 1, 1, none⟩ = some (.slice none 0 0)
  f0 : v.frozen? ⟨w.heap.size + 1 + 1, 0, none⟩ = false
  f1 : v.frozen? ⟨w.heap.size + 1 + 1, 1, none⟩ = false
  q0 : v.cell? ⟨g, 0, none⟩ = some (.bool u)
  q1 : v.cell? ⟨g, 1, none⟩ = some A
  r0 : v.cell? ⟨g + 1, 0, none⟩ = some (.bool r)
  r1 : v.cell? ⟨g + 1, 1, none⟩ = some B
  e0 : v.frozen? ⟨g, 0, none⟩ = false
  e1 : v.frozen? ⟨g, 1, none⟩ = false
  sz : w.heap.size + 1 + 1 < v.heap.size
  sg : g + 1 < v.heap.size
  gw : w.heap.size + 1 + 1 < g
  bel : Below w.heap.size w v
theorem Rd.below {w v v' : World} {g : Nat} {s t u r : Bool} {P Q A B : Value} (h : Rd w v g s t u r P Q A B) (hb : Below v.heap.size v v') : Rd w v' g s t u r P Q A B := by
  obtain ⟨h1, h2, h3, h4, h5, h6, h7, h8, h9, h10, h11, h12, h13, h14, h15, h16, h17, h18⟩ := h
  have z0 : w.heap.size < v.heap.size := by omega
  have z1 : w.heap.size + 1 < v.heap.size := by omega
  have z2 : g < v.heap.size := by omega
  exact ⟨(hb.cell (p := ⟨w.heap.size, 0, none⟩) z0).trans h1, (hb.cell (p := ⟨w.heap.size, 1, none⟩) z0).trans h2, (hb.cell (p := ⟨w.heap.size + 1, 0, none⟩) z1).trans h3, (hb.cell (p := ⟨w.heap.size + 1, 1, none⟩) z1).trans h4,
    (hb.cell (p := ⟨w.heap.size + 1 + 1, 0, none⟩) h15).trans h5, (hb.cell (p := ⟨w.heap.size + 1 + 1, 1, none⟩) h15).trans h6, (hb.frozen (p := ⟨w.heap.size + 1 + 1, 0, none⟩) h15).trans h7, (hb.frozen (p := ⟨w.heap.size + 1 + 1, 1, none⟩) h15).trans h8,
    (hb.cell (p := ⟨g, 0, none⟩) z2).trans h9, (hb.cell (p := ⟨g, 1, none⟩) z2).trans h10, (hb.cell (p := ⟨g + 1, 0, none⟩) h16).trans h11, (hb.cell (p := ⟨g + 1, 1, none⟩) h16).trans h12, (hb.frozen (p := ⟨g, 0, none⟩) z2).trans h13, (hb.frozen (p := ⟨g, 1, none⟩) z2).trans h14,
    Nat.lt_of_lt_of_le h15 hb.size, Nat.lt_of_lt_of_le h16 hb.size, h17, h18.trans (hb.mono h18.size)⟩
theorem Rd.new {w v : World} {s t : Bool} {P Q : Value} (h : Box3 w v s t P Q) (u r : Bool) (A B : Value) :
    Rd w ((v.alloc (Obj.cells #[Value.bool u, A] 81)).alloc (Obj.cells #[Value.bool r, B] 81)) v.heap.size s t u r P Q A B := by
  have h' := h.below (((Below.refl _ v).alloc (Nat.le_refl _) (Obj.cells #[Value.bool u, A] 81)).alloc (by simp) (Obj.cells #[Value.bool r, B] 81))
  have sz := h.sz
  obtain ⟨k1, k2, k3, k4, k5, k6, k7, k8, k9, kb⟩ := h'
  refine ⟨k1, k2, k3, k4, k5, k6, k7, k8, ?_, ?_, ?_, ?_, ?_, ?_, k9, ?_, sz, kb⟩ <;> simp [go_sem]

theorem over_any {N : Nat} (p q : Option Addr) (c d : Nat) (l m : List Int) (x y : Int) (s t u : Bool) (hs : s = decide (x < 0)) (hu : u = decide (x / y < 0)) (w : World) (A : BigR N w p l x) (B : BigR N w q m y) (hy : 0 < y) (hN : N ≤ 80000) :
    Calls Try.prog 92 #[.agg #[.bool s, .slice p l.length c], .agg #[.bool t, .slice q m.length d]] w (OvRes (N + 2) (N + 1) (x / y) (x % y) u w) := by
  by_cases h : 0 ≤ x
  · obtain rfl : s = false := by rw [hs]; simp; omega
    exact Over_pos p q c d l m x y t u hu w A B h hy hN
  · obtain rfl : s = true := by rw [hs]; simp; omega
    by_cases hr : (x.natAbs : Int) % y.natAbs = 0
    · exact Over_neg0 p q c d l m x y t u hu w A B (by omega) hy hr hN
    · exact Over_neg1 p q c d l m x y t u hu w A B (by omega) hy hr hN

/-- The lowest digit tells even from odd. -/
theorem odd_digit {l : List Int} {x : Int} (h : Can l x.natAbs) (h0 : 0 < l.length) : l[0] % 2 = x.natAbs % 2 := by
  have v := h.val
  rcases l with _ | ⟨a, l⟩
  · simp at h0
  · simp only [dval] at v; simp only [List.getElem_cons_zero]; omega
theorem plus_n {k : Nat} (x y : Int) (s t u : Bool) (na : Nat) (hs : s = decide (x < 0)) (ht : t = decide (y < 0)) (hu : u = decide (x + y < 0)) {a : List Int} (ha : a.length = na) (pa pb : Option Addr) (ca cb : Nat) (b : List Int) (w : World) (A : BigR k w pa a x) (B : BigR k w pb b y) (hk : k ≤ 90000) :
    Calls Try.prog 50 #[.agg #[.bool s, .slice pa na ca], .agg #[.bool t, .slice pb b.length cb]] w (BigS (k + 1) (x + y) u w) := by
  subst ha
  exact plus_s x y s t u hs ht hu pa pb ca cb a b w A B hk
theorem compare_s' {n m : Nat} (x y : Int) (s t : Bool) (nb : Nat) (hs : s = decide (x < 0)) (ht : t = decide (y < 0)) {b : List Int} (hb : b.length = nb) (pa pb : Option Addr) (ca cb : Nat) (a b' : List Int) (w : World) (A : BigR n w pa a x) (B : BigR m w pb b y) (hn : n ≤ 90000) (hm : m ≤ 90000) :
    Calls Try.prog 94 #[.agg #[.bool s, .slice pa a.length ca], .agg #[.bool t, .slice pb nb cb]] w fun e w' => e = .returned (.int .i64 (cmpZ x y)) ∧ Below w.heap.size w w' := by
  subst hb
  exact compare_s x y s t hs ht pa pb ca cb a b w A B hn hm

set_option maxRecDepth 100000 in
set_option maxHeartbeats 8000000 in
theorem Rounded_pos {N : Nat} (p q : Option Addr) (c d : Nat) (l m : List Int) (X Y mode : Int) (w : World) (A : BigR N w p l X) (B : BigR N w q m Y) (hY : 0 < Y) (m0 : 0 ≤ mode) (m4 : mode ≤ 4) (hN : N ≤ 70000) :
    Calls Try.prog 54 #[.agg #[.bool (decide (X < 0)), .slice p l.length c], .agg #[.bool (decide (Y < 0)), .slice q m.length d], .int .i64 mode] w (BigRes (N + 6) (rz X Y mode) w) := by
  obtain ⟨s, hs⟩ : ∃ b, b = decide (X < 0) := ⟨_, rfl⟩
  obtain ⟨u, hu⟩ : ∃ b, b = decide (X / Y < 0) := ⟨_, rfl⟩
  rw [← hs, show decide (Y < 0) = false from by simp; omega]
  have K := Box3.new w s false (.slice p l.length c) (.slice q m.length d)
  have bx := A.below K.bel
  have by' := B.below K.bel
  have HS := Lib.hid hs
  have HU := Lib.hid hu
  clear A B hs hu
  go_enter Try.func54, Try.ntmps54
  go_upto_region 1 with fail
  generalize (((w.alloc (Obj.cells #[Value.bool s, Value.slice p l.length c] 81)).alloc (Obj.cells #[Value.bool false, Value.slice q m.length d] 81)).alloc (Obj.cells #[Value.bool false, Value.slice none 0 0] 81)) = v at *
  -- the core: X over Y, Y above 0
  have ht := Lib.hid (show false = decide (Y < 0) by simp; omega)
  have LX := bx.size
  have LY := by'.size
  have OV := Lib.hid (over_any p q c d l m X Y s false u HS.out HU.out v bx by' hY (by omega))
  have HX := Lib.hid bx
  have HY := Lib.hid by'
  have K0 := Lib.hid K
  have m10 := Lib.hid (Int.emod_nonneg X (show Y ≠ 0 by omega))
  have m11 := Lib.hid (Int.emod_lt_of_pos X hY)
  have HZr := Lib.hid (show false = decide (X % Y < 0) by have := m10.out; simp; omega)
  have HZ2 := Lib.hid (show false = decide (X % Y + X % Y < 0) by have := m10.out; simp; omega)
  clear bx by'
  generalize hln : l.length = nl at *
  generalize hmn : m.length = nm at *
  have HMN := Lib.hid hmn
  clear hln hmn
  obtain ⟨k1, k2, k3, k4, k5, k6, k7, k8, k9, kb⟩ := K
  go_wp2_with fail
  refine (OV.out).mono ?_
  rintro e v1 ⟨p1, l1, c1, p2, l2, c2, rfl, o1, o2, of, o3⟩
  have K1 := Lib.hid (Rd.new (K0.out.below o3) u false (.slice p1 l1.length c1) (.slice p2 l2.length c2))
  have al : Below v1.heap.size v1 ((v1.alloc (Obj.cells #[Value.bool u, Value.slice p1 l1.length c1] 81)).alloc (Obj.cells #[Value.bool false, Value.slice p2 l2.length c2] 81)) := ((Below.refl _ v1).alloc (Nat.le_refl _) _).alloc (by simp) _
  have QA := Lib.hid (o1.below al)
  have RA := Lib.hid (o2.below al)
  have YA := Lib.hid ((HY.out.below o3).below al)
  have OF := Lib.hid of
  have O3 := Lib.hid (o3.trans (al.mono o3.size))
  have V1 := Lib.hid o3.size
  clear o1 o2 of o3 al OV k1 k2 k3 k4 k5 k6 k7 k8 k9 kb
  go_upto_region 4 with fail
  generalize ((v1.alloc (Obj.cells #[Value.bool u, Value.slice p1 l1.length c1] 81)).alloc (Obj.cells #[Value.bool false, Value.slice p2 l2.length c2] 81)) = va at *
  generalize v1.heap.size = g at *
  obtain ⟨k1, k2, k3, k4, k5, k6, k7, k8, k9, k10, k11, k12, k13, k14, k15, k16, k17, kb⟩ := K1.out
  go_wp2_with fail
  refine (Zero_any _ _ _ _ _).mono ?_
  rintro e v2 ⟨rfl, hz⟩
  have D0 := Lib.hid (K1.out.below hz)
  have QB := Lib.hid (QA.out.below hz)
  have RB := Lib.hid (RA.out.below hz)
  have YB := Lib.hid (YA.out.below hz)
  have OB := Lib.hid (O3.out.trans (hz.mono O3.out.size))
  have L2 := RB.out.can.length_zero
  rw [show ((X % Y).natAbs : Int) = X % Y from by have := m10.out; omega] at L2
  clear hz k1 k2 k3 k4 k5 k6 k7 k8 k9 k10 k11 k12 k13 k14 k15 k16 k17 kb QA RA YA O3
  obtain ⟨k1, k2, k3, k4, k5, k6, k7, k8, k9, k10, k11, k12, k13, k14, k15, k16, k17, kb⟩ := D0.out
  by_cases hr : X % Y = 0
  · have l20 := L2.2 hr
    rw [show decide (l2.length = 0) = true from by simpa using l20]
    have FIN := Lib.hid (show BigRes (N + 6) (rz X Y mode) w (.returned (.agg #[.bool u, .slice p1 l1.length c1])) ((v2.setCell ⟨w.heap.size + 1 + 1, 0, none⟩ (.bool u)).setCell ⟨w.heap.size + 1 + 1, 1, none⟩ (.slice p1 l1.length c1)) by
      rw [rz_exact hr, HU.out]
      exact BigRes.stored (c := c1) (r := w.heap.size + 1 + 1) K0.out.bel (by omega) K0.out.sz (QB.out.more (by omega)) OF.out OB.out)
    clear L2 l20 hr
    go_wp2_with fail
    exact bodyPost_ret (v := .agg #[.bool u, .slice p1 l1.length c1]) (by simp [results, Try.results54, go_sem, k5, k6, k15]) rfl FIN.out
  · have l20 : ¬ l2.length = 0 := fun h => hr (L2.1 h)
    rw [show decide (l2.length = 0) = false from by simpa using l20]
    have HR := Lib.hid hr
    clear L2 l20 hr
    go_wp2_with fail
    go_region_held3 (fun w' => w'.cell? ⟨w.heap.size + 1, 0, none⟩ = some (.bool false) ∧ w'.cell? ⟨w.heap.size + 1, 1, none⟩ = some (.slice q nm d) ∧ w'.cell? ⟨g + 1, 0, none⟩ = some (.bool false) ∧ w'.cell? ⟨g + 1, 1, none⟩ = some (.slice p2 l2.length c2))
      (first | exact ⟨k3, k4, k11, k12⟩)
      (first
        | (go_at_call 50; (with_reducible refine (plus_s (k := N + 1) (X % Y) (X % Y) false false false HZr.out HZr.out HZ2.out p2 p2 c2 c2 l2 l2 _ (by first | exact RB.out | exact RB.out.drew | exact RB.out.drewN _) (by first | exact RB.out | exact RB.out.drew | exact RB.out.drewN _) (by omega)).mono ?_); rintro e v3 ⟨p3, l3, c3, rfl, r1, r2, r3⟩; have st : Below v2.heap.size v2 v3 := (by first | exact r3 | exact ((Below.refl _ _).drew).trans r3 | exact (below_drewN (Below.refl _ _) _).trans r3); have D1 := Lib.hid (D0.out.below st); clear k3 k4 k11 k12 k1 k2 k5 k6 k7 k8 k9 k10 k13 k14 k15 k16 k17 kb; obtain ⟨k1, k2, k3, k4, k5, k6, k7, k8, k9, k10, k11, k12, k13, k14, k15, k16, k17, kb⟩ := D1.out; have YB_1 := Lib.hid (YB.out.below st); have QB_1 := Lib.hid (QB.out.below st); have B3 := Lib.hid r1; have OB1 := Lib.hid (OB.out.trans (st.mono OB.out.size)); clear r1 r2 r3; clear st)
        | (go_at_call 94; (with_reducible refine (compare_s' (n := N + 1 + 1) (m := N) (X % Y + X % Y) Y false false nm HZ2.out ht.out HMN.out p3 q c3 d l3 m _ (by first | exact B3.out | exact B3.out.drew | exact B3.out.drewN _) (by first | exact YB_1.out | exact YB_1.out.drew | exact YB_1.out.drewN _) (by omega) (by omega)).mono ?_); rintro e v4 ⟨rfl, r3⟩; have st : Below v3.heap.size v3 v4 := (by first | exact r3 | exact ((Below.refl _ _).drew).trans r3 | exact (below_drewN (Below.refl _ _) _).trans r3); have D2 := Lib.hid (D1.out.below st); clear k3 k4 k11 k12 k1 k2 k5 k6 k7 k8 k9 k10 k13 k14 k15 k16 k17 kb; obtain ⟨k1, k2, k3, k4, k5, k6, k7, k8, k9, k10, k11, k12, k13, k14, k15, k16, k17, kb⟩ := D2.out; have QB_2 := Lib.hid (QB_1.out.below st); have OB2 := Lib.hid (OB1.out.trans (st.mono OB1.out.size)); clear r3; clear st))
    have key : (Y < X % Y + X % Y ∧ cmpZ (X % Y + X % Y) Y = 1) ∨ (X % Y + X % Y = Y ∧ cmpZ (X % Y + X % Y) Y = 0) ∨ (X % Y + X % Y < Y ∧ cmpZ (X % Y + X % Y) Y = -1) := by
      unfold cmpZ
      rcases Int.lt_trichotomy (X % Y + X % Y) Y with h | h | h
      · rw [if_pos h]; exact .inr (.inr ⟨h, rfl⟩)
      · rw [if_neg (by omega), if_neg (by omega)]; exact .inr (.inl ⟨h, rfl⟩)
      · rw [if_neg (by omega), if_pos h]; exact .inl ⟨h, rfl⟩
    have QV := Lib.hid QB_2.out.can
    have KEY := Lib.hid key
    clear key
    generalize cmpZ (X % Y + X % Y) Y = z at *
    generalize hn1 : l1.length = n1 at *
    have HN1 := Lib.hid hn1
    clear hn1 D0 D1 K1 YB_1 QB_1 QB RB YB OB OB1 B3
    go_upto_block 0 with fail
    go_cut [10] from 32 to 63 (fun uv wx => uv = .bool (rzU X (X / Y) (X % Y) Y mode) ∧ wx = v4)
    case first =>
      rcases (by omega : mode = 0 ∨ mode = 1 ∨ mode = 2 ∨ mode = 3 ∨ mode = 4) with rfl | rfl | rfl | rfl | rfl
      · go_wp2_with fail
        go_meet
        exact ⟨congrArg _ (by simp [rzU]), rfl⟩
      · go_wp2_with fail
        go_meet
        exact ⟨congrArg _ (by simp [rzU]), rfl⟩
      · go_wp2_with fail
        go_meet
        exact ⟨congrArg _ (by rw [HS.out]; simp [rzU]), rfl⟩
      · rcases KEY.out with ⟨h, e⟩ | ⟨h, e⟩ | ⟨h, e⟩
        · have HH := Lib.hid h
          have zz : 0 ≤ z := by omega
          clear e h KEY
          go_wp2_with fail
          go_meet
          exact ⟨congrArg _ (by have := HH.out; simp [rzU]; omega), rfl⟩
        · have HH := Lib.hid h
          have zz : 0 ≤ z := by omega
          clear e h KEY
          go_wp2_with fail
          go_meet
          exact ⟨congrArg _ (by have := HH.out; simp [rzU]; omega), rfl⟩
        · have HH := Lib.hid h
          have zz : z < 0 := by omega
          clear e h KEY
          go_wp2_with fail
          go_meet
          exact ⟨congrArg _ (by have := HH.out; simp [rzU]; omega), rfl⟩
      · rcases KEY.out with ⟨h, e⟩ | ⟨h, e⟩ | ⟨h, e⟩
        · have HH := Lib.hid h
          have zz : 0 < z := by omega
          clear e h KEY
          go_wp2_with fail
          go_meet
          exact ⟨congrArg _ (by have := HH.out; simp [rzU]; omega), rfl⟩
        · have HH := Lib.hid h
          have zz : ¬ 0 < z := by omega
          have z0 : (z == 0) = true := by simpa using e
          have LZ := QV.out.length_zero
          by_cases l0 : n1 = 0
          · have VAL := Lib.hid (show X / Y = 0 by have := LZ.1 (HN1.out.trans l0); omega)
            have l1' : n1 ≤ 0 := by omega
            clear e h KEY LZ l0
            go_wp2_with fail
            go_meet
            exact ⟨congrArg _ (by have := HH.out; rw [VAL.out]; simp [rzU]; omega), rfl⟩
          · have lp : 0 < l1.length := by have := HN1.out; omega
            have ln : 0 < n1 := by omega
            have QR := QB_2.out.row
            obtain ⟨g1, hg1, gk, gc⟩ := QR 0 lp
            have OD := odd_digit QV.out lp
            have DG := QV.out.digs _ (List.getElem_mem lp)
            generalize l1[0] = dg at *
            have HOD := Lib.hid OD
            subst hg1
            clear e h KEY LZ QR OD l0
            by_cases od : dg % 2 = 1
            · have OQ := Lib.hid od
              have od2 : (dg % 2 == 1) = true := by simpa using od
              clear od
              go_wp2_with fail
              go_meet
              exact ⟨congrArg _ (by have := HH.out; have := HOD.out; have := OQ.out; simp [rzU]; omega), rfl⟩
            · have OQ := Lib.hid (show dg % 2 = 0 by omega)
              have od2 : (dg % 2 == 1) = false := by simpa using od
              clear od
              go_wp2_with fail
              go_meet
              exact ⟨congrArg _ (by have := HH.out; have := HOD.out; have := OQ.out; simp [rzU]; omega), rfl⟩
        · have HH := Lib.hid h
          have zz : ¬ 0 < z := by omega
          have z0 : (z == 0) = false := by simp; omega
          clear e h KEY
          go_wp2_with fail
          go_meet
          exact ⟨congrArg _ (by have := HH.out; simp [rzU]; omega), rfl⟩
    case rest =>
      obtain ⟨rfl, hwc⟩ := hcut
      subst hwc
      cases hU : rzU X (X / Y) (X % Y) Y mode
      · have FIN := Lib.hid (show BigRes (N + 6) (rz X Y mode) w (.returned (.agg #[.bool u, .slice p1 n1 c1])) ((wc.setCell ⟨w.heap.size + 1 + 1, 0, none⟩ (.bool u)).setCell ⟨w.heap.size + 1 + 1, 1, none⟩ (.slice p1 n1 c1)) by
          rw [rz_down HR.out hU, HU.out, ← HN1.out]
          exact BigRes.stored (c := c1) (r := w.heap.size + 1 + 1) K0.out.bel (by omega) K0.out.sz (QB_2.out.more (by omega)) OF.out OB2.out)
        clear hU
        go_wp2_with fail
        exact bodyPost_ret (v := .agg #[.bool u, .slice p1 n1 c1]) (by simp [results, Try.results54, go_sem, k5, k6, k15]) rfl FIN.out
      · have RU := Lib.hid (rz_up HR.out hU)
        obtain ⟨u2, hu2⟩ : ∃ b, b = decide (X / Y + 1 < 0) := ⟨_, rfl⟩
        have HU2 := Lib.hid hu2
        have H1 := Lib.hid (show false = decide ((1 : Int) < 0) by decide)
        clear hU hu2
        go_wp2_with fail
        go_region_law (first | (go_simp; go_at_call 52; (with_reducible refine (of_s 1 false H1.out (by omega) (by omega) _).mono ?_); rintro e v5 ⟨p7, l7, c7, rfl, r1, r2, r3⟩; have st : Below wc.heap.size wc v5 := (by first | exact r3 | exact ((Below.refl _ _).drew).trans r3 | exact (below_drewN (Below.refl _ _) _).trans r3); have D3 := Lib.hid (D2.out.below st); have OB3 := Lib.hid (OB2.out.trans (st.mono OB2.out.size)); have QB3 := Lib.hid (QB_2.out.below st); have O7 := Lib.hid r1; clear r1 r2 r3 k1 k2 k3 k4 k5 k6 k7 k8 k9 k10 k11 k12 k13 k14 k15 k16 k17 kb; obtain ⟨k1, k2, k3, k4, k5, k6, k7, k8, k9, k10, k11, k12, k13, k14, k15, k16, k17, kb⟩ := D3.out) | (go_simp; go_at_call 50; (with_reducible refine (plus_n (k := N + 5) (X / Y) 1 u false u2 n1 HU.out H1.out HU2.out HN1.out p1 p7 c1 c7 l7 _ (by first | exact QB3.out.more (by omega) | exact QB3.out.drew.more (by omega) | exact (QB3.out.drewN _).more (by omega)) (by first | exact O7.out.more (by omega) | exact O7.out.drew.more (by omega) | exact (O7.out.drewN _).more (by omega)) (by omega)).mono ?_); rintro e v6 ⟨p8, l8, c8, rfl, r1, r2, r3⟩; have st : Below v5.heap.size v5 v6 := (by first | exact r3 | exact ((Below.refl _ _).drew).trans r3 | exact (below_drewN (Below.refl _ _) _).trans r3); have D4 := Lib.hid (D3.out.below st); have OB4 := Lib.hid (OB3.out.trans (st.mono OB3.out.size)); have R1 := Lib.hid r1; have R2 := Lib.hid (show ∀ a, p8 = some a → v5.heap.size ≤ a.block from r2); clear r1 r2 r3 k1 k2 k3 k4 k5 k6 k7 k8 k9 k10 k11 k12 k13 k14 k15 k16 k17 kb; obtain ⟨k1, k2, k3, k4, k5, k6, k7, k8, k9, k10, k11, k12, k13, k14, k15, k16, k17, kb⟩ := D4.out))
        all_goals
          have s5 := D3.out.sg
          have n8 : ∀ a, p8 = some a → a.block ≠ g := fun a h => by have := R2.out a h; omega
          have FIN := Lib.hid (show BigRes (N + 6) (rz X Y mode) w (.returned (.agg #[.bool u2, .slice p8 l8.length c8])) ((((v6.setCell ⟨g, 0, none⟩ (.bool u2)).setCell ⟨g, 1, none⟩ (.slice p8 l8.length c8)).setCell ⟨w.heap.size + 1 + 1, 0, none⟩ (.bool u2)).setCell ⟨w.heap.size + 1 + 1, 1, none⟩ (.slice p8 l8.length c8)) by
            rw [RU.out, HU2.out]
            refine BigRes.stored (c := c8) (r := w.heap.size + 1 + 1) K0.out.bel (by omega) K0.out.sz ⟨R1.out.can, by have := R1.out.size; omega, ((R1.out.row.setCell (q := ⟨g, 0, none⟩) n8 _).setCell (q := ⟨g, 1, none⟩) n8 _)⟩ (fun a h => Nat.le_trans OB3.out.size (R2.out a h)) ((OB4.out.setCell V1.out _).setCell V1.out _))
          clear n8 s5 R1 R2 RU D3 D4 OB3 OB4 QB3 O7 QB_2 D2 OB2 OF K0 HX HY QV
        all_goals go_wp2_with fail
        all_goals exact bodyPost_ret (v := .agg #[.bool u2, .slice p8 l8.length c8]) (by simp [results, Try.results54, go_sem, k5, k6, k9, k10, k15, k16]) rfl FIN.out
end Go.Proofs.Ytlahdfmciaibdaa
