/- Several texts in one: AH2 AH3. -/
import Derived.Test.YtlahdfmciaibdaaAI8
import Derived.Test.YtlahdfmciaibdaaABA

/- Accounts: Charge, the reference's. -/
namespace Go.Proofs.Ytlahdfmciaibdaa
open Go.RowKit
set_option linter.unusedVariables false
set_option linter.unusedSimpArgs false

/-- A whole number's box and a band's. -/
structure BoxH (g : Nat) (s : Bool) (p : Option Addr) (n c : Nat) (b : Nat) (U S : Int) (W : World) : Prop where
  sz : g < W.heap.size
  a0 : W.cell? ⟨g, 0, none⟩ = some (.bool s)
  a1 : W.cell? ⟨g, 1, none⟩ = some (.slice p n c)
  f0 : W.frozen? ⟨g, 0, none⟩ = false
  f1 : W.frozen? ⟨g, 1, none⟩ = false
  bz : b < W.heap.size
  b0 : W.cell? ⟨b, 0, none⟩ = some (.int .i64 U)
  b1 : W.cell? ⟨b, 1, none⟩ = some (.int .i64 S)
theorem BoxH.below {g : Nat} {s : Bool} {p : Option Addr} {n c : Nat} {b : Nat} {U S : Int} {W W' : World} (h : BoxH g s p n c b U S W) (hb : Below W.heap.size W W') : BoxH g s p n c b U S W' := by
  obtain ⟨h1, h2, h3, h4, h5, h6, h7, h8⟩ := h
  exact ⟨Nat.lt_of_lt_of_le h1 hb.size, (hb.cell (p := ⟨g, 0, none⟩) h1).trans h2, (hb.cell (p := ⟨g, 1, none⟩) h1).trans h3, (hb.frozen (p := ⟨g, 0, none⟩) h1).trans h4, (hb.frozen (p := ⟨g, 1, none⟩) h1).trans h5,
    Nat.lt_of_lt_of_le h6 hb.size, (hb.cell (p := ⟨b, 0, none⟩) h6).trans h7, (hb.cell (p := ⟨b, 1, none⟩) h6).trans h8⟩
theorem BoxH.new {g : Nat} {s : Bool} {p : Option Addr} {n c : Nat} {W : World} (h : BoxG g s p n c W) (U S : Int) : BoxH g s p n c W.heap.size U S (W.alloc (Obj.cells #[Value.int .i64 U, Value.int .i64 S] 74)) := by
  obtain ⟨h1, h2, h3, h4, h5⟩ := h.below ((Below.refl _ W).alloc (Nat.le_refl _) (Obj.cells #[Value.int .i64 U, Value.int .i64 S] 74))
  refine ⟨h1, h2, h3, h4, h5, ?_, ?_, ?_⟩ <;> simp [go_sem]
/-- The box with another whole number. -/
theorem BoxH.put {g : Nat} {s : Bool} {p : Option Addr} {n c : Nat} {b : Nat} {U S : Int} {W : World} (h : BoxH g s p n c b U S W) (t : Bool) (q : Option Addr) (m d : Nat) :
    BoxG g t q m d ((W.setCell ⟨g, 0, none⟩ (.bool t)).setCell ⟨g, 1, none⟩ (.slice q m d)) := by
  obtain ⟨h1, h2, h3, h4, h5, -, -, -⟩ := h
  refine ⟨by simpa [World.setCell] using h1, ?_, ?_, ?_, ?_⟩ <;> simp [go_sem, h1, h2, h3, h4, h5]
theorem BigR.put {N : Nat} {W : World} {p : Option Addr} {l : List Int} {x : Int} (r : BigR N W p l x) {g : Nat} (h : ∀ a, p = some a → a.block ≠ g) (u v : Value) :
    BigR N ((W.setCell ⟨g, 0, none⟩ u).setCell ⟨g, 1, none⟩ v) p l x := ⟨r.can, r.size, (r.row.setCell (q := ⟨g, 0, none⟩) h u).setCell (q := ⟨g, 1, none⟩) h v⟩
theorem band_in {n L U : Int} (h : L < U) : max 0 (min n U - L) = min n U - min n L := by omega

set_option maxRecDepth 100000 in
set_option maxHeartbeats 8000000 in
theorem rCharge_any (n : Int) (p : Option Addr) (c : Nat) (D : List (Int × Int)) (w : World) (r : DmpR w p D) (ln : D.length ≤ 1000000) :
    Calls Try.prog 23 #[.int .i64 n, .slice p D.length c] w fun e w' => ∃ x E, e = .returned (.tuple #[.int .i64 x, .int .i64 E]) ∧ ChQ n D x E ∧ Below w.heap.size w w' := by
  have R := Lib.hid r
  obtain ⟨z, hz⟩ : ∃ z, z = D.length := ⟨_, rfl⟩
  have CQ := Lib.hid (show ∀ x E, ((¬ (0 ≤ n ∧ n ≤ 1099511627776) ∧ x = 0 ∧ E = 2) ∨ ((0 ≤ n ∧ n ≤ 1099511627776) ∧ 16 < z ∧ x = 0 ∧ E = 3) ∨
    ((0 ≤ n ∧ n ≤ 1099511627776) ∧ z ≤ 16 ∧ ¬ ScOk D z ∧ x = 0 ∧ E = 2) ∨
    ((0 ≤ n ∧ n ≤ 1099511627776) ∧ z ≤ 16 ∧ ScOk D z ∧ lastU D z < n ∧ x = 0 ∧ E = 4) ∨
    ((0 ≤ n ∧ n ≤ 1099511627776) ∧ z ≤ 16 ∧ ScOk D z ∧ n ≤ lastU D z ∧ x = chg (pts n D z) ∧ E = 0)) → ChQ n D x E from fun x E h => by subst hz; exact h)
  rw [← hz] at ln ⊢
  have HZ := Lib.hid hz
  clear hz r
  have HB : Hid (Below w.heap.size w w) := Below.refl _ _
  go_enter Try.func23, Try.ntmps23
  by_cases t1 : n < 0
  · have tb : decide (n < 0) = true := decide_eq_true t1
    go_wp2_with fail
    try (go_quiet (fail))
    try (go_wp2_with fail)
    go_ret2
    exact ⟨_, _, rfl, CQ.out _ _ (.inl ⟨by omega, rfl, rfl⟩), (by first | exact HB.out | exact HB.out.drew | exact HB.out.alloc HB.out.size _ | exact below_drewN HB.out _)⟩
  have tb1 : decide (n < 0) = false := decide_eq_false t1
  by_cases t2 : 1099511627776 < n
  · have C1 := Lib.hid (fun W => rcents_b n false (cenB_f (by omega)) W)
    go_wp2_with fail
    try (go_quiet (fail))
    try (go_wp2_with fail)
    refine (C1.out _).mono ?_
    rintro e wb ⟨rfl, rfl⟩
    go_wp2_with fail
    try (go_quiet (fail))
    try (go_wp2_with fail)
    go_ret2
    exact ⟨_, _, rfl, CQ.out _ _ (.inl ⟨by omega, rfl, rfl⟩), (by first | exact HB.out | exact HB.out.drew | exact HB.out.alloc HB.out.size _ | exact below_drewN HB.out _)⟩
  have C1 := Lib.hid (fun W => rcents_b n true (cenB_t (by omega)) W)
  have NR := Lib.hid (show 0 ≤ n ∧ n ≤ 1099511627776 from ⟨by omega, by omega⟩)
  go_wp2_with fail
  try (go_quiet (fail))
  try (go_wp2_with fail)
  refine (C1.out _).mono ?_
  rintro e wb ⟨rfl, rfl⟩
  clear C1
  by_cases t3 : 16 < z
  · have tb : decide (16 < z) = true := decide_eq_true t3
    go_wp2_with fail
    try (go_quiet (fail))
    try (go_wp2_with fail)
    go_ret2
    exact ⟨_, _, rfl, CQ.out _ _ (.inr (.inl ⟨NR.out, t3, rfl, rfl⟩)), (by first | exact HB.out | exact HB.out.drew | exact HB.out.alloc HB.out.size _ | exact below_drewN HB.out _)⟩
  have tb3 : decide (16 < z) = false := decide_eq_false t3
  have z16 : z ≤ 16 := by omega
  have D0 := Lib.hid (BoxG.new w false none 0 0)
  have KB := Lib.hid (show Below w.heap.size w (w.alloc (Obj.cells #[Value.bool false, Value.slice none 0 0] 81)) from (Below.refl _ _).alloc (Nat.le_refl _) _)
  have g0 : w.heap.size ≤ w.heap.size := Nat.le_refl _
  replace HB := KB
  clear KB
  go_wp2_with fail
  go_loopw [6, 8] (fun lv iv wr => ∃ (i : Nat) (L : Int) (p2 : Option Addr) (l2 : List Int) (c2 : Nat), i ≤ z ∧ iv = .int .i64 i ∧ lv = .int .i64 L ∧ 0 ≤ L ∧ L ≤ 1099511627776 ∧ Hid (BoxG w.heap.size false p2 l2.length c2 wr) ∧ Hid (BigR (12 + i) wr p2 l2 (pts n D i)) ∧ Hid (∀ a, p2 = some a → a.block ≠ w.heap.size) ∧ Hid (L = lastU D i) ∧ Hid (ScOk D i) ∧ Hid (Below w.heap.size w wr)) (fun _ iv _ => z - (intOf iv).toNat)
  case atStart => exact ⟨0, 0, none, [], 0, Nat.zero_le _, rfl, rfl, by omega, by omega, D0, Lib.hid ⟨Can.nil, by simp, fun i h => by simp at h⟩, Lib.hid (fun a h => by cases h), Lib.hid rfl, Lib.hid (fun i h => absurd h (by omega)), HB⟩
  case round =>
    clear HB D0
    obtain ⟨i, L, p2, l2, c2, hi, rfl, rfl, l0, l1, D0, PB, FR, HL, SK, HB⟩ := hrel
    by_cases t : i < z
    · obtain ⟨x, rfl, kx, cx, dx⟩ := (R.out.below (HB.out)) i (by have := HZ.out; omega)
      have i1 : (0 : Int) ≤ (i : Int) := by omega
      have i2 : (i : Int) < (z : Int) := by omega
      have SX := Lib.hid (show L < pd D i ∧ pd D i ≤ 1099511627776 ∧ 0 ≤ sd D i ∧ sd D i ≤ 10000 → ScOk D (i + 1) from fun h j hj => by
        by_cases e : j = i
        · subst e; rw [← HL.out]; exact h
        · exact SK.out j (by omega))
      have NO := Lib.hid (show ¬ (L < pd D i ∧ pd D i ≤ 1099511627776 ∧ 0 ≤ sd D i ∧ sd D i ≤ 10000) → ¬ ScOk D z from fun h G => h (by rw [HL.out]; exact G i t))
      have PN := Lib.hid (show pts n D (i + 1) = pts n D i + (min n (pd D i) - min n L) * sd D i from by rw [HL.out]; rfl)
      have PP := Lib.hid (show 0 ≤ pts n D i from (pts_bound NR.out.1 SK.out).1)
      have LN := Lib.hid (show pd D i = lastU D (i + 1) from rfl)
      clear HL
      generalize pd D i = U at *
      generalize sd D i = S at *
      by_cases u0 : U < 1
      · have ub : decide (U < 1) = true := decide_eq_true u0
        have NK := Lib.hid (NO.out (by omega))
        clear SX NO PN LN SK PP PB D0 FR
        go_wp2_with fail
        try (go_quiet (fail))
        try (go_wp2_with fail)
        go_ret2
        exact ⟨_, _, rfl, CQ.out _ _ (.inr (.inr (.inl ⟨NR.out, z16, NK.out, rfl, rfl⟩))), (by first | exact HB.out | exact HB.out.drew | exact HB.out.alloc HB.out.size _ | exact below_drewN HB.out _)⟩
      have ub0 : decide (U < 1) = false := decide_eq_false u0
      by_cases u1 : 1099511627776 < U
      · have ub : decide (1099511627776 < U) = true := decide_eq_true u1
        have NK := Lib.hid (NO.out (by omega))
        clear SX NO PN LN SK PP PB D0 FR
        go_wp2_with fail
        try (go_quiet (fail))
        try (go_wp2_with fail)
        go_ret2
        exact ⟨_, _, rfl, CQ.out _ _ (.inr (.inr (.inl ⟨NR.out, z16, NK.out, rfl, rfl⟩))), (by first | exact HB.out | exact HB.out.drew | exact HB.out.alloc HB.out.size _ | exact below_drewN HB.out _)⟩
      have ub1 : decide (1099511627776 < U) = false := decide_eq_false u1
      by_cases u2 : U ≤ L
      · have ub : decide (U ≤ L) = true := decide_eq_true u2
        have NK := Lib.hid (NO.out (by omega))
        clear SX NO PN LN SK PP PB D0 FR
        go_wp2_with fail
        try (go_quiet (fail))
        try (go_wp2_with fail)
        go_ret2
        exact ⟨_, _, rfl, CQ.out _ _ (.inr (.inr (.inl ⟨NR.out, z16, NK.out, rfl, rfl⟩))), (by first | exact HB.out | exact HB.out.drew | exact HB.out.alloc HB.out.size _ | exact below_drewN HB.out _)⟩
      have ub2 : decide (U ≤ L) = false := decide_eq_false u2
      by_cases u3 : S < 0
      · have ub : decide (S < 0) = true := decide_eq_true u3
        have NK := Lib.hid (NO.out (by omega))
        clear SX NO PN LN SK PP PB D0 FR
        go_wp2_with fail
        try (go_quiet (fail))
        try (go_wp2_with fail)
        go_ret2
        exact ⟨_, _, rfl, CQ.out _ _ (.inr (.inr (.inl ⟨NR.out, z16, NK.out, rfl, rfl⟩))), (by first | exact HB.out | exact HB.out.drew | exact HB.out.alloc HB.out.size _ | exact below_drewN HB.out _)⟩
      have ub3 : decide (S < 0) = false := decide_eq_false u3
      by_cases u4 : 10000 < S
      · have ub : decide (10000 < S) = true := decide_eq_true u4
        have NK := Lib.hid (NO.out (by omega))
        clear SX NO PN LN SK PP PB D0 FR
        go_wp2_with fail
        try (go_quiet (fail))
        try (go_wp2_with fail)
        go_ret2
        exact ⟨_, _, rfl, CQ.out _ _ (.inr (.inr (.inl ⟨NR.out, z16, NK.out, rfl, rfl⟩))), (by first | exact HB.out | exact HB.out.drew | exact HB.out.alloc HB.out.size _ | exact below_drewN HB.out _)⟩
      have ub4 : decide (10000 < S) = false := decide_eq_false u4
      have SN := Lib.hid (SX.out ⟨by omega, by omega, by omega, by omega⟩)
      obtain ⟨A, hA⟩ : ∃ A, min n U = A := ⟨_, rfl⟩
      obtain ⟨V, hV⟩ : ∃ V, max 0 (A - L) = V := ⟨_, rfl⟩
      have NRO := NR.out
      have v0 : 0 ≤ V := by omega
      have v1 : V ≤ 1099511627776 := by omega
      have aw : IntKind.i64.wrap (A - L) = A - L := IntWalk.i64_in _ (by omega)
      have PN2 := Lib.hid (show pts n D (i + 1) = pts n D i + V * S from by rw [PN.out, ← hV, ← hA, band_in (by omega)])
      have q0 : 0 ≤ V * S := Int.mul_nonneg v0 (by omega)
      have H1 := Lib.hid (show false = decide (V < 0) from (decide_eq_false (by omega)).symm)
      have H2 := Lib.hid (show false = decide (S < 0) from ub3.symm)
      have H3 := Lib.hid (show false = decide (V * S < 0) from (decide_eq_false (by omega)).symm)
      have H4 := Lib.hid (show false = decide (pts n D i < 0) from (decide_eq_false (by have := PP.out; omega)).symm)
      have H5 := Lib.hid (show false = decide (pts n D i + V * S < 0) from (decide_eq_false (by have := PP.out; omega)).symm)
      have CV := Lib.hid (fun W => of_s V false H1.out (by omega) (by omega) W)
      have CS := Lib.hid (fun W => of_s S false H2.out (by omega) (by omega) W)
      have UR : 0 ≤ U ∧ U ≤ 1099511627776 := by omega
      have E0 := Lib.hid (BoxH.new D0.out U S)
      have al : Below wr.heap.size wr (wr.alloc (Obj.cells #[Value.int .i64 U, Value.int .i64 S] 74)) := (Below.refl _ _).alloc (Nat.le_refl _) _
      have PB1 := Lib.hid (PB.out.below al)
      have KB := Lib.hid (HB.out.trans (al.mono HB.out.size))
      have gb : ¬ w.heap.size = wr.heap.size := by have := D0.out.sz; omega
      have bg : ¬ wr.heap.size = w.heap.size := by have := D0.out.sz; omega
      clear SX NO PN SK PP q0 al D0 PB HB u0 u1 u2 u3 u4
      go_upto_region 13 with fail
      generalize (wr.alloc (Obj.cells #[Value.int .i64 U, Value.int .i64 S] 74)) = wa at *
      generalize wr.heap.size = b at *
      generalize hn2 : l2.length = n2 at *
      have HN2 := Lib.hid hn2
      generalize pts n D i = P at *
      clear hn2 hA hV aw
      obtain ⟨k1, k2, k3, k4, k5, k6, k7, k8⟩ := E0.out
      go_region_law (first
        | (go_simp; go_at_call 52; (with_reducible refine (CV.out _).mono ?_); rintro e y1 ⟨p7, l7, c7, rfl, r1, r2, r3⟩; replace E0 := Lib.hid (E0.out.below (show Below _ _ y1 from by first | exact r3 | exact ((Below.refl _ _).drew).trans r3 | exact (below_drewN (Below.refl _ _) _).trans r3)); replace PB1 := Lib.hid (PB1.out.below (show Below _ _ y1 from by first | exact r3 | exact ((Below.refl _ _).drew).trans r3 | exact (below_drewN (Below.refl _ _) _).trans r3)); replace KB := Lib.hid (KB.out.trans ((show Below _ _ y1 from by first | exact r3 | exact ((Below.refl _ _).drew).trans r3 | exact (below_drewN (Below.refl _ _) _).trans r3).mono KB.out.size)); (try (replace X8 := Lib.hid (X8.out.below (show Below _ _ y1 from by first | exact r3 | exact ((Below.refl _ _).drew).trans r3 | exact (below_drewN (Below.refl _ _) _).trans r3)))); have X7 := Lib.hid r1; clear r1 r2 r3 k1 k2 k3 k4 k5 k6 k7 k8; obtain ⟨k1, k2, k3, k4, k5, k6, k7, k8⟩ := E0.out)
        | (go_simp; go_at_call 52; (with_reducible refine (CS.out _).mono ?_); rintro e y2 ⟨p8, l8, c8, rfl, r1, r2, r3⟩; replace E0 := Lib.hid (E0.out.below (show Below _ _ y2 from by first | exact r3 | exact ((Below.refl _ _).drew).trans r3 | exact (below_drewN (Below.refl _ _) _).trans r3)); replace PB1 := Lib.hid (PB1.out.below (show Below _ _ y2 from by first | exact r3 | exact ((Below.refl _ _).drew).trans r3 | exact (below_drewN (Below.refl _ _) _).trans r3)); replace KB := Lib.hid (KB.out.trans ((show Below _ _ y2 from by first | exact r3 | exact ((Below.refl _ _).drew).trans r3 | exact (below_drewN (Below.refl _ _) _).trans r3).mono KB.out.size)); (try (replace X7 := Lib.hid (X7.out.below (show Below _ _ y2 from by first | exact r3 | exact ((Below.refl _ _).drew).trans r3 | exact (below_drewN (Below.refl _ _) _).trans r3)))); have X8 := Lib.hid r1; clear r1 r2 r3 k1 k2 k3 k4 k5 k6 k7 k8; obtain ⟨k1, k2, k3, k4, k5, k6, k7, k8⟩ := E0.out)
        | (go_simp; go_at_call 51; (with_reducible refine (times_s V S false false false H1.out H2.out H3.out p7 p8 c7 c8 l7 l8 _ (by first | exact X7.out | exact X7.out.drew | exact X7.out.drewN _) (by first | exact X8.out | exact X8.out.drew | exact X8.out.drewN _) (by omega) (by omega)).mono ?_); rintro e y3 ⟨p9, l9, c9, rfl, r1, r2, r3⟩; replace E0 := Lib.hid (E0.out.below (show Below _ _ y3 from by first | exact r3 | exact ((Below.refl _ _).drew).trans r3 | exact (below_drewN (Below.refl _ _) _).trans r3)); replace PB1 := Lib.hid (PB1.out.below (show Below _ _ y3 from by first | exact r3 | exact ((Below.refl _ _).drew).trans r3 | exact (below_drewN (Below.refl _ _) _).trans r3)); replace KB := Lib.hid (KB.out.trans ((show Below _ _ y3 from by first | exact r3 | exact ((Below.refl _ _).drew).trans r3 | exact (below_drewN (Below.refl _ _) _).trans r3).mono KB.out.size)); have X9 := Lib.hid r1; clear r1 r2 r3 k1 k2 k3 k4 k5 k6 k7 k8; obtain ⟨k1, k2, k3, k4, k5, k6, k7, k8⟩ := E0.out)
        | (go_simp; go_at_call 50; (with_reducible refine (plus_n (k := 12 + i) P (V * S) false false false n2 H4.out H3.out H5.out HN2.out p2 p9 c2 c9 l9 _ (by first | exact PB1.out | exact PB1.out.drew | exact PB1.out.drewN _) (by first | exact X9.out.more (by omega) | exact X9.out.drew.more (by omega) | exact (X9.out.drewN _).more (by omega)) (by omega)).mono ?_); rintro e y4 ⟨q4, m4, d4, rfl, r1, r2, r3⟩; have F4 := Lib.hid (show ∀ a, q4 = some a → a.block ≠ w.heap.size from fun a h => by have := r2 a h; have := E0.out.sz; omega); replace E0 := Lib.hid (E0.out.below (show Below _ _ y4 from by first | exact r3 | exact ((Below.refl _ _).drew).trans r3 | exact (below_drewN (Below.refl _ _) _).trans r3)); replace KB := Lib.hid (KB.out.trans ((show Below _ _ y4 from by first | exact r3 | exact ((Below.refl _ _).drew).trans r3 | exact (below_drewN (Below.refl _ _) _).trans r3).mono KB.out.size)); have X4 := Lib.hid r1; clear r1 r2 r3 k1 k2 k3 k4 k5 k6 k7 k8; obtain ⟨k1, k2, k3, k4, k5, k6, k7, k8⟩ := E0.out))
      all_goals
        have G4 := Lib.hid (E0.out.put false q4 m4.length d4)
        have Y4 := Lib.hid (X4.out.put F4.out (.bool false) (.slice q4 m4.length d4))
        have B4 := Lib.hid (((KB.out.setCell (p := ⟨w.heap.size, 0, none⟩) g0 (.bool false)).setCell (p := ⟨w.heap.size, 1, none⟩) g0 (.slice q4 m4.length d4)))
        rw [← PN2.out] at Y4
        clear CV CS X4 E0 KB
      all_goals go_wp2_with fail
      all_goals go_roundw
      all_goals first
        | (case rel => exact ⟨i + 1, U, q4, m4, d4, by omega, by go_num, rfl, UR.1, UR.2, G4, Y4, F4, LN, SN, B4⟩)
        | (case measure => simp [intOf]; omega)
    · obtain rfl : i = z := by omega
      have EZ := Lib.hid (pts_bound NR.out.1 SK.out)
      by_cases t4 : L < n
      · have tb4 : decide (L < n) = true := decide_eq_true t4
        have LK := Lib.hid (show lastU D i < n from by rw [← HL.out]; exact t4)
        clear HL
        go_wp2_with fail
        go_ret2
        exact ⟨_, _, rfl, CQ.out _ _ (.inr (.inr (.inr (.inl ⟨NR.out, z16, SK.out, LK.out, rfl, rfl⟩)))), (by first | exact HB.out | exact HB.out.drew | exact HB.out.alloc HB.out.size _ | exact below_drewN HB.out _)⟩
      have tb4 : decide (L < n) = false := decide_eq_false t4
      have LK := Lib.hid (show n ≤ lastU D i from by rw [← HL.out]; omega)
      have NRO := NR.out
      obtain ⟨x, hx⟩ : ∃ x, x = rz (pts n D i) 10000 3 := ⟨_, rfl⟩
      have e1 := EZ.out
      have x1 : x = chg (pts n D i) := by rw [hx, rz_half e1.1]
      have x0 : 0 ≤ x := by rw [x1]; unfold chg; omega
      have x2 : x ≤ 1099511627776 := by rw [x1]; unfold chg; omega
      have RX := Lib.hid x1
      have HX := Lib.hid hx
      have BX := Lib.hid (show (x.natAbs : Int) ≤ 1125899906842624 from by omega)
      have S4 := Lib.hid (show false = decide (x < 0) from (decide_eq_false (by omega)).symm)
      have S3 := Lib.hid (show false = decide (pts n D i < 0) from (decide_eq_false (by omega)).symm)
      have SC := Lib.hid (show false = decide ((10000 : Int) < 0) from rfl)
      generalize hn5 : l2.length = n5 at *
      have H5 := Lib.hid hn5
      have KB := HB
      have X5 := PB
      obtain ⟨k1, k2, k3, k4, k5⟩ := D0.out
      clear hx x1 x0 x2 e1 EZ HL HB PB hn5
      generalize hP : pts n D i = P at *
      have HP := Lib.hid hP
      clear hP
      go_upto_region 17 with fail
      go_region_held3 (fun w' => w'.cell? ⟨w.heap.size, 0, none⟩ = some (.bool false) ∧ w'.cell? ⟨w.heap.size, 1, none⟩ = some (.slice p2 n5 c2))
        (first | exact ⟨k2, k3⟩)
        (first
          | (go_at_call 52; (with_reducible refine (of_s 10000 false SC.out (by omega) (by omega) _).mono ?_); rintro e v7 ⟨p7, l7, c7, rfl, r1, r2, r3⟩; replace D0 := Lib.hid (D0.out.below (show Below _ _ v7 from by first | exact r3 | exact ((Below.refl _ _).drew).trans r3 | exact (below_drewN (Below.refl _ _) _).trans r3)); clear k1 k2 k3 k4 k5; obtain ⟨k1, k2, k3, k4, k5⟩ := D0.out; replace X5 := Lib.hid (X5.out.below (show Below _ _ v7 from by first | exact r3 | exact ((Below.refl _ _).drew).trans r3 | exact (below_drewN (Below.refl _ _) _).trans r3)); have X7 := Lib.hid r1; replace KB := Lib.hid (KB.out.trans ((show Below _ _ v7 from by first | exact r3 | exact ((Below.refl _ _).drew).trans r3 | exact (below_drewN (Below.refl _ _) _).trans r3).mono KB.out.size)); clear r1 r2 r3)
          | (go_at_call 54; (with_reducible refine (rounded_s (N := 12 + i) P 10000 3 false false false S3.out SC.out (by rw [← HX.out]; exact S4.out) n5 p2 p7 c2 c7 l2 l7 H5.out _ (by first | exact X5.out | exact X5.out.drew | exact X5.out.drewN _) (by first | exact X7.out.more (by omega) | exact X7.out.drew.more (by omega) | exact (X7.out.drewN _).more (by omega)) (by omega) (by omega) (by omega) (by omega)).mono ?_); rintro e v8 ⟨p8, l8, c8, rfl, r1, r2, r3⟩; rw [← HX.out] at r1; replace D0 := Lib.hid (D0.out.below (show Below _ _ v8 from by first | exact r3 | exact ((Below.refl _ _).drew).trans r3 | exact (below_drewN (Below.refl _ _) _).trans r3)); clear k1 k2 k3 k4 k5; obtain ⟨k1, k2, k3, k4, k5⟩ := D0.out; have X8 := Lib.hid r1; replace KB := Lib.hid (KB.out.trans ((show Below _ _ v8 from by first | exact r3 | exact ((Below.refl _ _).drew).trans r3 | exact (below_drewN (Below.refl _ _) _).trans r3).mono KB.out.size)); clear r1 r2 r3)
          | (go_at_call 53; (with_reducible refine (within_s x 1125899906842624 false S4.out p8 c8 l8 (by omega) (by omega) BX.out _ (by first | exact X8.out | exact X8.out.drew | exact X8.out.drewN _) (by omega)).mono ?_); rintro e v9 ⟨rfl, r3⟩; replace D0 := Lib.hid (D0.out.below (show Below _ _ v9 from by first | exact r3 | exact ((Below.refl _ _).drew).trans r3 | exact (below_drewN (Below.refl _ _) _).trans r3)); clear k1 k2 k3 k4 k5; obtain ⟨k1, k2, k3, k4, k5⟩ := D0.out; replace KB := Lib.hid (KB.out.trans ((show Below _ _ v9 from by first | exact r3 | exact ((Below.refl _ _).drew).trans r3 | exact (below_drewN (Below.refl _ _) _).trans r3).mono KB.out.size)); clear r3))
      clear k1 k2 k3 k4 k5
      go_wp2_with fail
      go_ret2
      exact ⟨_, _, rfl, CQ.out _ _ (.inr (.inr (.inr (.inr ⟨NR.out, z16, SK.out, LK.out, RX.out, rfl⟩)))), (by first | exact KB.out | exact KB.out.drew | exact below_drewN KB.out _)⟩
end Go.Proofs.Ytlahdfmciaibdaa

/- The law AccountsCharges: its walk. -/
namespace Go.Proofs.Ytlahdfmciaibdaa.accountsCharges
open Go.RowKit
set_option linter.unusedVariables false
set_option linter.unusedSimpArgs false

set_option maxRecDepth 100000 in
set_option maxHeartbeats 8000000 in
theorem walk (n : Int) (g0 : -9223372036854775808 ≤ n ∧ n ≤ 9223372036854775807) (p : Option Addr) (c : Nat) (D : List (Int × Int)) (w : World) (r : DmpR w p D) (ln : D.length ≤ 9223372036854775807) (rt : Int) (g2 : -9223372036854775808 ≤ rt ∧ rt ≤ 9223372036854775807) (a : Int) (g3 : -9223372036854775808 ≤ a ∧ a ≤ 9223372036854775807) (b : Int) (g4 : -9223372036854775808 ≤ b ∧ b ≤ 9223372036854775807) :
    Calls Try.prog 5 #[.int .i64 n, .slice p D.length c, .int .i64 rt, .int .i64 a, .int .i64 b] w fun e w' => e = .returned (.bool true) ∧ Below w.heap.size w w' := by
  have R := Lib.hid r
  have C1 := Lib.hid (fun W h (l : D.length ≤ 30) => Charge_any n p c D W h (by omega))
  have C2 := Lib.hid (fun W h (l : D.length ≤ 30) => rCharge_any n p c D W h (by omega))
  have C3 := Lib.hid (fun W => Interest_any n rt a b W)
  have C4 := Lib.hid (fun W => rInterest_any n rt a b W)
  obtain ⟨z, hz⟩ : ∃ z, z = D.length := ⟨_, rfl⟩
  rw [← hz] at C1 C2 ln ⊢
  clear hz r g0 g2 g3 g4
  have KB : Hid (Below w.heap.size w w) := Below.refl _ _
  go_enter Try.func5, Try.ntmps5
  by_cases hf : 30 < z
  · clear C1 C2 C3 C4
    go_wp2_with fail
    refine (alive_any _).mono ?_
    rintro e wq ⟨rfl, hq⟩
    have B9 := Lib.hid (KB.out.trans ((show Below _ _ wq from by first | exact hq | exact ((Below.refl _ _).drew).trans hq | exact (below_drewN (Below.refl _ _) _).trans hq).mono KB.out.size))
    clear hq
    go_wp2_with fail
    go_ret
    exact ⟨rfl, (by first | exact B9.out | exact B9.out.drew | exact below_drewN B9.out _)⟩
  have hl : z ≤ 30 := by omega
  go_wp2_with fail
  refine (C1.out _ R.out hl).mono ?_
  rintro e w1 ⟨x, E, rfl, q1, b1⟩
  have Q1 := Lib.hid q1
  replace KB := Lib.hid b1
  clear q1 b1
  replace R := Lib.hid (R.out.below KB.out)
  go_wp2_with fail
  refine (C2.out _ R.out hl).mono ?_
  rintro e w2 ⟨y, F, rfl, q2, b1⟩
  obtain ⟨rfl, rfl⟩ := Q1.out.det q2
  replace KB := Lib.hid (KB.out.trans (b1.mono KB.out.size))
  clear q2 b1 Q1 C1 C2 R
  go_wp2_with fail
  refine (C3.out _).mono ?_
  rintro e w3 ⟨u, G, rfl, q1, b1⟩
  have Q1 := Lib.hid q1
  replace KB := Lib.hid (KB.out.trans ((show Below _ _ w3 from by first | exact b1 | exact ((Below.refl _ _).drew).trans b1 | exact (below_drewN (Below.refl _ _) _).trans b1).mono KB.out.size))
  clear q1 b1 C3
  go_wp2_with fail
  refine (C4.out _).mono ?_
  rintro e w4 ⟨v, H, rfl, q2, b1⟩
  obtain ⟨rfl, rfl⟩ := Q1.out.det q2
  replace KB := Lib.hid (KB.out.trans ((show Below _ _ w4 from by first | exact b1 | exact ((Below.refl _ _).drew).trans b1 | exact (below_drewN (Below.refl _ _) _).trans b1).mono KB.out.size))
  clear q2 b1 Q1 C4
  go_wp2_with fail
  try (go_quiet (fail))
  try (go_wp2_with fail)
  refine (alive_any _).mono ?_
  rintro e wq ⟨rfl, hq⟩
  have B9 := Lib.hid (KB.out.trans ((show Below _ _ wq from by first | exact hq | exact ((Below.refl _ _).drew).trans hq | exact (below_drewN (Below.refl _ _) _).trans hq).mono KB.out.size))
  clear hq
  go_wp2_with fail
  go_ret
  exact ⟨rfl, (by first | exact B9.out | exact B9.out.drew | exact below_drewN B9.out _)⟩
end Go.Proofs.Ytlahdfmciaibdaa.accountsCharges
