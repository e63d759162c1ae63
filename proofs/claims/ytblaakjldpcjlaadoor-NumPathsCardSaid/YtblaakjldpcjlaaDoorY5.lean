/- The reference's FromPath in general. -/
import Derived.Test.YtblaakjldpcjlaaDoorY4
import Derived.Test.YtblaakjldpcjlaaDoorR19
import Derived.Deep.RegionLaw
namespace Go.Proofs.YtblaakjldpcjlaaDoor
open Go.RowKit
set_option linter.unusedVariables false
set_option linter.unusedSimpArgs false

/-- The result's box and the boxes of the value's two numbers. -/
structure FB (w wr : World) (g : Nat) (sn sd : Bool) (P Q : Option Addr) (L K : List Int) (C C' : Nat) : Prop where
  x0 : wr.cell? ⟨w.heap.size, 0, none⟩ = some (.int .i64 0)
  x1 : wr.cell? ⟨w.heap.size, 1, none⟩ = some (.int .i64 0)
  fx0 : wr.frozen? ⟨w.heap.size, 0, none⟩ = false
  fx1 : wr.frozen? ⟨w.heap.size, 1, none⟩ = false
  n0 : wr.cell? ⟨g, 0, none⟩ = some (.bool sn)
  n1 : wr.cell? ⟨g, 1, none⟩ = some (.slice P L.length C)
  d0 : wr.cell? ⟨g + 1, 0, none⟩ = some (.bool sd)
  d1 : wr.cell? ⟨g + 1, 1, none⟩ = some (.slice Q K.length C')
  fn0 : wr.frozen? ⟨g, 0, none⟩ = false
  fn1 : wr.frozen? ⟨g, 1, none⟩ = false
  fd0 : wr.frozen? ⟨g + 1, 0, none⟩ = false
  fd1 : wr.frozen? ⟨g + 1, 1, none⟩ = false
  zx : w.heap.size < g
  zg : g + 1 < wr.heap.size
  bel : Below w.heap.size w wr
theorem FB.below {w wr wr' : World} {g : Nat} {sn sd : Bool} {P Q : Option Addr} {L K : List Int} {C C' : Nat} (h : FB w wr g sn sd P Q L K C C') (hb : Below wr.heap.size wr wr') : FB w wr' g sn sd P Q L K C C' := by
  obtain ⟨h1, h2, h3, h4, h5, h6, h7, h8, h9, h10, h11, h12, zx, zg, kb⟩ := h
  have zz : w.heap.size < wr.heap.size := by omega
  have zn : g < wr.heap.size := by omega
  exact ⟨(hb.cell (p := ⟨w.heap.size, 0, none⟩) zz).trans h1, (hb.cell (p := ⟨w.heap.size, 1, none⟩) zz).trans h2, (hb.frozen (p := ⟨w.heap.size, 0, none⟩) zz).trans h3, (hb.frozen (p := ⟨w.heap.size, 1, none⟩) zz).trans h4,
    (hb.cell (p := ⟨g, 0, none⟩) zn).trans h5, (hb.cell (p := ⟨g, 1, none⟩) zn).trans h6, (hb.cell (p := ⟨g + 1, 0, none⟩) zg).trans h7, (hb.cell (p := ⟨g + 1, 1, none⟩) zg).trans h8,
    (hb.frozen (p := ⟨g, 0, none⟩) zn).trans h9, (hb.frozen (p := ⟨g, 1, none⟩) zn).trans h10, (hb.frozen (p := ⟨g + 1, 0, none⟩) zg).trans h11, (hb.frozen (p := ⟨g + 1, 1, none⟩) zg).trans h12, zx, Nat.lt_of_lt_of_le zg hb.size, kb.trans (hb.mono kb.size)⟩
theorem RowR.setCell' {w : World} {p : Option Addr} {l : List Int} (r : RowR w p l) {q : Addr} (h : l ≠ [] → ∀ a, p = some a → a.block ≠ q.block) (v : Value) : RowR (w.setCell q v) p l := by
  by_cases e : l = []
  · subst e; intro i hi; simp at hi
  · exact r.setCell (h e) v
theorem RowR.blk {w : World} {p : Option Addr} {l : List Int} (r : RowR w p l) (h : l ≠ []) : ∀ a, p = some a → a.block < w.heap.size := fun a ha => by
  obtain ⟨g, e, k, _⟩ := r 0 (by cases l with | nil => exact absurd rfl h | cons => simp)
  rw [ha] at e
  obtain rfl := Option.some.inj e
  exact k
/-- The two numbers themselves. -/
structure FN (wr : World) (g M : Nat) (n d : Int) (sn sd : Bool) (P Q : Option Addr) (L K : List Int) : Prop where
  hn : sn = decide (n < 0)
  hd : sd = decide (d < 0)
  bn : BigR M wr P L n
  bd : BigR M wr Q K d
  nP : L ≠ [] → ∀ a, P = some a → a.block ≠ g ∧ a.block ≠ g + 1

theorem FB.turn {w v2 v3 : World} {g M : Nat} {s nn dd : Int} {s4 sn sd : Bool} {P Q p3 : Option Addr} {L K l3 : List Int} {C C' k3 : Nat} (D : FB w v3 g sn sd P Q L K C C') (hz : g + 1 < v2.heap.size) (hs : s4 = decide (s * nn + dd < 0)) (hn : sn = decide (nn < 0))
    (B3 : BigR (5 + M + 1) v3 p3 l3 (s * nn + dd)) (RF : ∀ a, p3 = some a → v2.heap.size ≤ a.block) (BN : BigR M v3 P L nn) (NP : L ≠ [] → ∀ a, P = some a → a.block ≠ g ∧ a.block ≠ g + 1) :
    FB w ((((v3.setCell ⟨g, 0, none⟩ (Value.bool s4)).setCell ⟨g, 1, none⟩ (Value.slice p3 l3.length k3)).setCell ⟨g + 1, 0, none⟩ (Value.bool sn)).setCell ⟨g + 1, 1, none⟩ (Value.slice P L.length C)) g s4 sn p3 P l3 L k3 C ∧ FN ((((v3.setCell ⟨g, 0, none⟩ (Value.bool s4)).setCell ⟨g, 1, none⟩ (Value.slice p3 l3.length k3)).setCell ⟨g + 1, 0, none⟩ (Value.bool sn)).setCell ⟨g + 1, 1, none⟩ (Value.slice P L.length C)) g (M + 6) (s * nn + dd) nn s4 sn p3 P l3 L := by
  obtain ⟨x0, x1, fx0, fx1, n0, n1, d0, d1, fn0, fn1, fd0, fd1, zx, zg, kb⟩ := D
  have n3 : ∀ a, p3 = some a → a.block ≠ g ∧ a.block ≠ g + 1 := fun a h => by have := RF a h; omega
  have q1 : ¬ w.heap.size = g := by omega
  have q2 : ¬ w.heap.size = g + 1 := by omega
  have q3 : ¬ g = w.heap.size := by omega
  have q4 : ¬ g + 1 = w.heap.size := by omega
  have q5 : g < v3.heap.size := by omega
  have q6 : w.heap.size < v3.heap.size := by omega
  refine ⟨⟨?_, ?_, ?_, ?_, ?_, ?_, ?_, ?_, ?_, ?_, ?_, ?_, zx, by simpa using zg, (((kb.setCell (by show w.heap.size ≤ g; omega) _).setCell (by show w.heap.size ≤ g; omega) _).setCell (by show w.heap.size ≤ g + 1; omega) _).setCell (by show w.heap.size ≤ g + 1; omega) _⟩,
    ⟨hs, hn, ⟨B3.can, by have := B3.size; omega, ?_⟩, ⟨BN.can, by have := BN.size; omega, ?_⟩, fun _ => n3⟩⟩
  case refine_13 => exact (((B3.row.setCell (q := ⟨g, 0, none⟩) (fun a h => (n3 a h).1) _).setCell (q := ⟨g, 1, none⟩) (fun a h => (n3 a h).1) _).setCell (q := ⟨g + 1, 0, none⟩) (fun a h => (n3 a h).2) _).setCell (q := ⟨g + 1, 1, none⟩) (fun a h => (n3 a h).2) _
  case refine_14 => exact (((BN.row.setCell' (q := ⟨g, 0, none⟩) (fun hl a h => (NP hl a h).1) _).setCell' (q := ⟨g, 1, none⟩) (fun hl a h => (NP hl a h).1) _).setCell' (q := ⟨g + 1, 0, none⟩) (fun hl a h => (NP hl a h).2) _).setCell' (q := ⟨g + 1, 1, none⟩) (fun hl a h => (NP hl a h).2) _
  all_goals (simp [go_sem, x0, x1, fx0, fx1, n0, n1, d0, d1, fn0, fn1, fd0, fd1, zg, q1, q2, q3, q4, q5, q6]; done)

set_option maxRecDepth 100000 in
set_option maxHeartbeats 40000000 in
theorem rFromPath_any (q : Option Addr) (c : Nat) (l : List Int) (w : World) (h : RowA w q l) (ll : l.length ≤ 1000000) (hz : ∀ i, i < l.length → -9223372036854775808 ≤ gd l i ∧ gd l i ≤ 9223372036854775807) :
    Calls Tryd.prog 31 #[.slice q l.length c] w (Res (FromR l) w) := by
  have R := Lib.hid h
  have HZ := Lib.hid hz
  clear hz
  obtain ⟨x, hx⟩ : ∃ x, x = l.length := ⟨_, rfl⟩
  unfold Res
  have F3 : Hid (64 < x → FromR l 0 0 3) := fun t => .inl ⟨by omega, rfl, rfl, rfl⟩
  have F2 : Hid (x ≤ 64 → BadPath l → FromR l 0 0 2) := fun t b => .inr (.inl ⟨by omega, b, rfl, rfl, rfl⟩)
  have FK : Hid (x ≤ 64 → ¬ BadPath l → ∀ V D E, IsFrac (evB l).1 (evB l).2 V D E → FromR l V D E) := fun t b V D E h => .inr (.inr ⟨by omega, b, h⟩)
  have BZ : Hid (x = 0 → BadPath l) := fun t => .inl (by omega)
  have BI : Hid (∀ i, 1 ≤ i → i < x → gd l i < 1 → BadPath l) := fun i h1 h2 h3 => .inr (.inl ⟨i, h1, by omega, h3⟩)
  have BL : Hid (1 < x → gd l (x - 1) = 1 → BadPath l) := fun h1 h2 => .inr (.inr ⟨by omega, by rw [← hx]; exact h2⟩)
  have GD : Hid (x ≠ 0 → (∀ i, 1 ≤ i → i < x → ¬ gd l i < 1) → ¬ (1 < x ∧ gd l (x - 1) = 1) → ¬ BadPath l) := fun h1 h2 h3 => by
    rintro (h | ⟨i, a, b, c⟩ | ⟨a, b⟩)
    · omega
    · exact h2 i a (by omega) c
    · rw [← hx] at a b; exact h3 ⟨a, b⟩
  have DR := Lib.hid (fun k (hk : k < x) => (show l.drop k = gd l k :: l.drop (k + 1) from by rw [List.drop_eq_getElem_cons (by omega), gd_in (by omega)]))
  have DE := Lib.hid (show l.drop x = [] by rw [hx]; exact List.drop_length)
  have D1 : Hid (¬ BadPath l → (evB l).2 ≠ 0) := fun hb => by
    obtain ⟨a0, r, hl, on, lt⟩ := good_parts hb
    have := (evB_ge on).1
    rw [hl]; show (evB r).1 ≠ 0; omega
  rw [← hx]
  have HX := Lib.hid hx
  clear hx h
  by_cases h1 : 64 < x
  · have F := Lib.hid (F3.out h1)
    clear F3 F2 FK BZ BI BL GD DR DE D1
    go_enter Tryd.func31, Tryd.ntmps31
    go_wp2_with fail
    exact bodyPost_ret (v := fracV 0 0 3) (by simp [results, Tryd.results31, go_sem, fracV]) rfl ⟨0, 0, 3, F.out, rfl, by go_grown⟩
  by_cases h2 : x = 0
  · have F := Lib.hid (F2.out (by omega) (BZ.out h2))
    subst h2
    clear F3 F2 FK BZ BI BL GD DR DE D1
    go_enter Tryd.func31, Tryd.ntmps31
    go_wp2_with fail
    exact bodyPost_ret (v := fracV 0 0 2) (by simp [results, Tryd.results31, go_sem, fracV]) rfl ⟨0, 0, 2, F.out, rfl, by go_grown⟩
  obtain ⟨y, hy⟩ : ∃ y, x = y + 1 := ⟨x - 1, by omega⟩
  subst hy
  have xb : ((y : Int) + 1 == 0) = false := by simp; omega
  obtain ⟨xq, eq, kq, cy⟩ := R.out y (by have := HX.out; omega)
  subst eq
  have BLy := BL.out
  rw [show y + 1 - 1 = y by omega] at BLy
  have GDy := GD.out
  rw [show y + 1 - 1 = y by omega] at GDy
  have BAD := Lib.hid (fun h1 h2 => F2.out (by omega) (BLy h1 h2))
  replace GDy := Lib.hid (fun h1 h2 => GDy (by omega) h1 h2)
  have BIy := Lib.hid (fun i h1 h2 h3 => F2.out (by omega) (BI.out i h1 h2 h3))
  have DLY := DR.out y (by omega)
  rw [DE.out] at DLY
  have HLY := Lib.hid (show evB (l.drop y) = (gd l y * 1 + 0, 1) by rw [DLY]; rfl)
  clear BLy DLY
  have i1 : (0 : Int) ≤ (y : Int) := by omega
  have i2 : (y : Int) < ((y + 1 : Nat) : Int) := by omega
  have cyb : (w.alloc (Obj.cells #[Value.int IntKind.i64 0, Value.int IntKind.i64 0] 23)).cell? (xq.add y) = some (.int .i64 (gd l y)) := (((Below.refl _ w).alloc (Nat.le_refl _) _).cell (p := xq.add y) (by rw [add_block]; exact kq)).trans cy
  clear F3 F2 BZ BI BL GD DE h2
  by_cases hb : 1 < y + 1 ∧ gd l y = 1
  · have F := Lib.hid (BAD.out hb.1 hb.2)
    obtain ⟨hb1, hb2⟩ := hb
    rw [hb2] at cy cyb
    clear hb2 BAD GDy BIy FK DR D1 HLY
    go_enter Tryd.func31, Tryd.ntmps31
    go_wp2_with fail
    exact bodyPost_ret (v := fracV 0 0 2) (by simp [results, Tryd.results31, go_sem, fracV]) rfl ⟨0, 0, 2, F.out, rfl, by go_grown⟩
  · have CC : y + 1 = 1 ∨ (1 < y + 1 ∧ (gd l y == 1) = false) := by
      rcases (by omega : y = 0 ∨ 0 < y) with t | t
      · exact .inl (by omega)
      · exact .inr ⟨by omega, by simp; intro e; exact hb ⟨by omega, e⟩⟩
    have HB := Lib.hid hb
    clear BAD hb
    go_enter Tryd.func31, Tryd.ntmps31
    go_upto_region 3 with fail
    go_cut [28] from 12 to 28 (fun s wx => s = .bool false ∧ wx = (w.alloc (Obj.cells #[Value.int IntKind.i64 0, Value.int IntKind.i64 0] 23)))
    case first =>
      rcases CC with cc | ⟨cc, cb⟩
      · obtain rfl : y = 0 := by omega
        go_wp2_with fail
        go_meet
        exact ⟨rfl, rfl⟩
      · go_wp2_with fail
        go_meet
        exact ⟨rfl, rfl⟩
    case rest =>
      obtain ⟨rfl, rfl⟩ := hcut
      clear CC cyb
      have W0 : Hid (Below w.heap.size w (w.alloc (Obj.cells #[Value.int IntKind.i64 0, Value.int IntKind.i64 0] 23))) := (Below.refl _ _).alloc (Nat.le_refl _) _
      go_wp2_with fail
      go_loop [4] (fun kv => ∃ k : Nat, 1 ≤ k ∧ k ≤ y + 1 ∧ kv = .int .i64 k ∧ Hid (∀ i, 1 ≤ i → i < k → ¬ gd l i < 1)) (fun kv => y + 1 - (intOf kv).toNat)
      case atStart => exact ⟨1, by omega, by omega, rfl, by show ∀ i, _; intro i hi hi2; omega⟩
      case round =>
        obtain ⟨k, k1, hk, rfl, HK⟩ := hrel
        by_cases t1 : k < y + 1
        · obtain ⟨xq', eq, kq', ck⟩ := R.out k (by have := HX.out; omega)
          obtain rfl : xq = xq' := Option.some.inj eq
          have ckb : (w.alloc (Obj.cells #[Value.int IntKind.i64 0, Value.int IntKind.i64 0] 23)).cell? (xq.add k) = some (.int .i64 (gd l k)) := (W0.out.cell (p := xq.add k) (by rw [add_block]; exact kq')).trans ck
          have BK := Lib.hid (fun h => BIy.out k k1 t1 h)
          have NX : Hid (¬ gd l k < 1 → ∀ i, 1 ≤ i → i < k + 1 → ¬ gd l i < 1) := fun h i h1 h2 => by
            rcases (by omega : i < k ∨ i = k) with e | e
            · exact HK.out i h1 e
            · subst e; exact h
          have j1 : (0 : Int) ≤ (k : Int) := by omega
          have j2 : (k : Int) < ((y + 1 : Nat) : Int) := by omega
          clear HK eq ck
          generalize gd l k = v at *
          by_cases hv : v < 1
          · have F := Lib.hid (BK.out hv)
            clear BK NX
            go_wp2_with fail
            exact bodyPost_ret (v := fracV 0 0 2) (by simp [results, Tryd.results31, go_sem, fracV]) rfl ⟨0, 0, 2, F.out, rfl, by go_grown⟩
          · have F := Lib.hid (NX.out hv)
            clear BK NX
            go_wp2_with fail
            go_round
            case rel => exact ⟨k + 1, by omega, by omega, by go_num, F⟩
            case measure => simp [intOf]; omega
        · have NB := GDy.out (fun i h1 h2 => by have := HK.out i h1 (by omega); omega) HB.out
          have OKF := Lib.hid (fun V D E h => FK.out (by omega) NB V D E h)
          have DNZ := Lib.hid (D1.out NB)
          obtain ⟨z1, z2⟩ := HZ.out y (by have := HX.out; omega)
          have cyb : (w.alloc (Obj.cells #[Value.int IntKind.i64 0, Value.int IntKind.i64 0] 23)).cell? (xq.add y) = some (.int .i64 (gd l y)) := (W0.out.cell (p := xq.add y) (by rw [add_block]; exact kq)).trans cy
          clear FK D1 BIy GDy HK NB HB cy
          obtain ⟨s0, hs0⟩ : ∃ b, b = decide (gd l y < 0) := ⟨_, rfl⟩
          have HS0 := Lib.hid hs0
          clear hs0
          have H1 : Hid (false = decide ((1 : Int) < 0)) := by show _ = _; decide
          have O1 := Lib.hid (fun W => of_s (gd l y) s0 HS0.out z1 z2 W)
          have O2 := Lib.hid (fun W => of_s 1 false H1.out (by omega) (by omega) W)
          have e9 : IntKind.i64.wrap ((y : Int) + 1 - 1) = y := by rw [show (y : Int) + 1 - 1 = y by omega]; exact IntWalk.i64_in _ (by omega)
          generalize gd l y = v at *
          go_wp2_with fail
          refine (O1.out _).mono ?_
          rintro e w1 ⟨p1, l1, c1, rfl, B1, g1, hb1⟩
          have KB1 := Lib.hid (W0.out.trans (hb1.mono W0.out.size))
          have XX := Lib.hid (show w1.cell? ⟨w.heap.size, 0, none⟩ = some (.int .i64 0) ∧ w1.cell? ⟨w.heap.size, 1, none⟩ = some (.int .i64 0) ∧ w1.frozen? ⟨w.heap.size, 0, none⟩ = false ∧ w1.frozen? ⟨w.heap.size, 1, none⟩ = false ∧ w.heap.size < w1.heap.size from ⟨(hb1.cell (p := ⟨w.heap.size, 0, none⟩) (by simp)).trans (by simp [go_sem]), (hb1.cell (p := ⟨w.heap.size, 1, none⟩) (by simp)).trans (by simp [go_sem]), (hb1.frozen (p := ⟨w.heap.size, 0, none⟩) (by simp)).trans (by simp [go_sem]), (hb1.frozen (p := ⟨w.heap.size, 1, none⟩) (by simp)).trans (by simp [go_sem]), by have := hb1.size; simp at this; omega⟩)
          replace B1 := Lib.hid B1
          clear hb1 g1 O1
          go_wp2_with fail
          refine (O2.out _).mono ?_
          rintro e w2 ⟨p2, l2, c2, rfl, B2, g2, hb2⟩
          have AL2 : Below w2.heap.size w2 ((w2.alloc (Obj.cells #[Value.bool s0, Value.slice p1 l1.length c1] 30)).alloc (Obj.cells #[Value.bool false, Value.slice p2 l2.length c2] 30)) := ((Below.refl _ _).alloc (Nat.le_refl _) _).alloc (by simp) _
          obtain ⟨y0, y1, yf0, yf1, yz⟩ := XX.out
          have st2 := hb2.trans (AL2.mono hb2.size)
          have SB0 : Hid (FB w ((w2.alloc (Obj.cells #[Value.bool s0, Value.slice p1 l1.length c1] 30)).alloc (Obj.cells #[Value.bool false, Value.slice p2 l2.length c2] 30)) w2.heap.size s0 false p1 p2 l1 l2 c1 c2) := by
            refine ⟨(st2.cell (p := ⟨w.heap.size, 0, none⟩) yz).trans y0, (st2.cell (p := ⟨w.heap.size, 1, none⟩) yz).trans y1, (st2.frozen (p := ⟨w.heap.size, 0, none⟩) yz).trans yf0, (st2.frozen (p := ⟨w.heap.size, 1, none⟩) yz).trans yf1, ?_, ?_, ?_, ?_, ?_, ?_, ?_, ?_, Nat.lt_of_lt_of_le yz hb2.size, by simp, KB1.out.trans (st2.mono KB1.out.size)⟩
            all_goals (simp [go_sem]; done)
          have SN0 : Hid (FN ((w2.alloc (Obj.cells #[Value.bool s0, Value.slice p1 l1.length c1] 30)).alloc (Obj.cells #[Value.bool false, Value.slice p2 l2.length c2] 30)) w2.heap.size (5 + 6 * (y - y)) (evB (l.drop y)).1 (evB (l.drop y)).2 s0 false p1 p2 l1 l2) := by
            have E := HLY.out
            rw [E]
            refine ⟨by rw [HS0.out, Int.mul_one, Int.add_zero], H1.out, ?_, ?_, fun hl a ha => by have := B1.out.row.blk hl a ha; have := hb2.size; omega⟩
            · have := (B1.out.below st2).more (m := 5 + 6 * (y - y)) (by omega)
              rwa [show v * 1 + 0 = v by omega]
            · exact (B2.below AL2).more (by omega)
          have j9 : IntKind.i64.wrap ((y : Int) + 1 - 2) = (y : Int) - 1 := by rw [show (y : Int) + 1 - 2 = (y : Int) - 1 by omega]; exact IntWalk.i64_in _ (by omega)
          clear AL2 y0 y1 yf0 yf1 yz st2 XX KB1 B1 B2 g2 hb2 O2 HS0 HLY cyb
          go_wp2_with fail
          generalize ((w2.alloc (Obj.cells #[Value.bool s0, Value.slice p1 l1.length c1] 30)).alloc (Obj.cells #[Value.bool false, Value.slice p2 l2.length c2] 30)) = U at SB0 SN0 ⊢
          generalize w2.heap.size = g at *
          go_loopw [7] (fun iv wr => ∃ (j : Nat) (sn sd : Bool) (P Q : Option Addr) (L K : List Int) (C C' : Nat), j ≤ y ∧ iv = .int .i64 ((j : Int) - 1) ∧ Hid (FB w wr g sn sd P Q L K C C') ∧ Hid (FN wr g (5 + 6 * (y - j)) (evB (l.drop j)).1 (evB (l.drop j)).2 sn sd P Q L K)) (fun iv _ => (intOf iv + 1).toNat)
          case atStart => exact ⟨y, _, _, _, _, _, _, _, _, Nat.le_refl _, rfl, SB0, SN0⟩
          case round =>
            clear SB0 SN0
            obtain ⟨j, sn, sd, P, Q, L, K, C, C', hj, rfl, SB, SN⟩ := hrel
            obtain ⟨x0, x1, fx0, fx1, n0, n1, d0, d1, fn0, fn1, fd0, fd1, zx, zg, kb⟩ := SB.out
            rcases j with _ | i
            · have SNo := SN.out
              rw [List.drop_zero] at SNo
              obtain ⟨hn, hd, bn, bd, -⟩ := SNo
              have LW := Lib.hid (fun W A B => lowest_s (N := 5 + 6 * (y - 0)) (evB l).1 (evB l).2 sn sd hn hd DNZ.out P Q C C' L K W A B (by omega))
              unfold Res at LW
              have BN := Lib.hid bn
              have BD := Lib.hid bd
              clear hn hd bn bd SN
              generalize (evB l).1 = NN at *
              generalize (evB l).2 = DD at *
              have z0 : w.heap.size < wr.heap.size := by omega
              go_wp2_with fail
              refine (LW.out _ (by first | exact BN.out | exact BN.out.drew | exact BN.out.drewN _) (by first | exact BD.out | exact BD.out.drew | exact BD.out.drewN _)).mono ?_
              rintro e w3 ⟨V, D, E, FR, rfl, hq0⟩
              have hq := (show Below wr.heap.size wr w3 from by first | exact hq0 | exact ((Below.refl _ _).drew).trans hq0 | exact (below_drewN (Below.refl _ _) _).trans hq0)
              unfold fracV
              have F := Lib.hid (OKF.out V D E FR)
              have SB2 := Lib.hid (SB.out.below hq)
              clear FR LW BN BD hq hq0 z0 SB x0 x1 fx0 fx1 n0 n1 d0 d1 fn0 fn1 fd0 fd1 zx zg kb
              obtain ⟨x0, x1, fx0, fx1, n0, n1, d0, d1, fn0, fn1, fd0, fd1, zx, zg, kb⟩ := SB2.out
              have z0 : w.heap.size < w3.heap.size := by omega
              go_wp2_with fail
              exact bodyPost_ret (v := fracV V D E) (by simp [results, Tryd.results31, go_sem, fracV, x0, x1, z0]) rfl ⟨V, D, E, F.out, rfl, (kb.setCell (Nat.le_refl _) _).setCell (Nat.le_refl _) _⟩
            · obtain ⟨M, hM⟩ : ∃ M, M = 5 + 6 * (y - (i + 1)) := ⟨_, rfl⟩
              have SNo := SN.out
              rw [← hM] at SNo
              have EV := Lib.hid (show evB (l.drop i) = (gd l i * (evB (l.drop (i + 1))).1 + (evB (l.drop (i + 1))).2, (evB (l.drop (i + 1))).1) from by rw [DR.out i (by omega)]; rfl)
              have MM : M + 6 = 5 + 6 * (y - i) := by omega
              have ML : M ≤ 500 := by omega
              obtain ⟨xq', eq, kq', ci⟩ := R.out i (by have := HX.out; omega)
              obtain rfl : xq = xq' := Option.some.inj eq
              obtain ⟨zs1, zs2⟩ := HZ.out i (by have := HX.out; omega)
              have ciw : wr.cell? (xq.add i) = some (.int .i64 (gd l i)) := (kb.cell (p := xq.add i) (by rw [add_block]; exact kq')).trans ci
              have zq : xq.block < wr.heap.size := Nat.lt_of_lt_of_le kq' kb.size
              clear hM SN eq ci
              generalize gd l i = s at *
              generalize (evB (l.drop (i + 1))).1 = nn at *
              generalize (evB (l.drop (i + 1))).2 = dd at *
              obtain ⟨hn, hd, bn, bd, nP⟩ := SNo
              have HN := Lib.hid hn
              have HD := Lib.hid hd
              have BN := Lib.hid bn
              have BD := Lib.hid bd
              have NP := Lib.hid nP
              obtain ⟨ss, hss⟩ : ∃ b, b = decide (s < 0) := ⟨_, rfl⟩
              obtain ⟨st0, hst⟩ : ∃ b, b = decide (s * nn < 0) := ⟨_, rfl⟩
              obtain ⟨s4, hs4⟩ : ∃ b, b = decide (s * nn + dd < 0) := ⟨_, rfl⟩
              have HSS := Lib.hid hss
              have HST := Lib.hid hst
              have HS4 := Lib.hid hs4
              have D0 := Lib.hid SB.out
              have i3 : (0 : Int) ≤ (i : Int) := by omega
              have i4 : (i : Int) < ((y + 1 : Nat) : Int) := by omega
              have i5 : (i : Int) < (y : Int) + 1 := by omega
              have i6 : i < y + 1 := by omega
              have e8 : ((i : Int) + 1 - 1) = i := by omega
              clear hn hd bn bd nP hss hst hs4 SB
              go_wp2_with fail
              go_region_law (first
                | (go_simp; go_at_call 16; (with_reducible refine (of_s s ss HSS.out zs1 zs2 _).mono ?_); rintro e v1 ⟨p1, l1, k1, rfl, r1, r2, r3⟩; have st : Below wr.heap.size wr v1 := (by first | exact r3 | exact ((Below.refl _ _).drew).trans r3 | exact (below_drewN (Below.refl _ _) _).trans r3); have D1 := Lib.hid (D0.out.below st); have BN_1 := Lib.hid (BN.out.below st); have BD_1 := Lib.hid (BD.out.below st); have B1 := Lib.hid r1; clear r1 r2 r3 st x0 x1 fx0 fx1 n0 n1 d0 d1 fn0 fn1 fd0 fd1 zx zg kb; obtain ⟨x0, x1, fx0, fx1, n0, n1, d0, d1, fn0, fn1, fd0, fd1, zx, zg, kb⟩ := D1.out)
                | (go_simp; go_at_call 14; (with_reducible refine (times_s (n := 5) (m := M) s nn ss sn st0 HSS.out HN.out HST.out p1 P k1 C l1 L _ (by first | exact B1.out | exact B1.out.drew | exact B1.out.drewN _) (by first | exact BN_1.out | exact BN_1.out.drew | exact BN_1.out.drewN _) (by omega) (by omega)).mono ?_); rintro e v2 ⟨p2, l2, k2, rfl, r1, r2, r3⟩; have st : Below v1.heap.size v1 v2 := (by first | exact r3 | exact ((Below.refl _ _).drew).trans r3 | exact (below_drewN (Below.refl _ _) _).trans r3); have D2 := Lib.hid (D1.out.below st); have BN_2 := Lib.hid (BN_1.out.below st); have BD_2 := Lib.hid (BD_1.out.below st); have B1_2 := Lib.hid (B1.out.below st); have B2 := Lib.hid r1; clear r1 r2 r3 st x0 x1 fx0 fx1 n0 n1 d0 d1 fn0 fn1 fd0 fd1 zx zg kb; obtain ⟨x0, x1, fx0, fx1, n0, n1, d0, d1, fn0, fn1, fd0, fd1, zx, zg, kb⟩ := D2.out)
                | (go_simp; go_at_call 62; (with_reducible refine (plus_s (k := 5 + M) (s * nn) dd st0 sd s4 HST.out HD.out HS4.out p2 Q k2 C' l2 K _ (by first | exact B2.out | exact B2.out.drew | exact B2.out.drewN _) (by first | exact BD_2.out.more (by omega) | exact BD_2.out.drew.more (by omega) | exact (BD_2.out.drewN _).more (by omega)) (by omega)).mono ?_); rintro e v3 ⟨p3, l3, k3, rfl, r1, r2, r3⟩; have st : Below v2.heap.size v2 v3 := (by first | exact r3 | exact ((Below.refl _ _).drew).trans r3 | exact (below_drewN (Below.refl _ _) _).trans r3); have D3 := Lib.hid (D2.out.below st); have BN_3 := Lib.hid (BN_2.out.below st); have BD_3 := Lib.hid (BD_2.out.below st); have B1_3 := Lib.hid (B1_2.out.below st); have B2_3 := Lib.hid (B2.out.below st); have B3 := Lib.hid r1; have RF := Lib.hid (show ∀ a, p3 = some a → v2.heap.size ≤ a.block from by intro a ha; have := r2 a ha; simpa using this); clear r1 r2 r3 st x0 x1 fx0 fx1 n0 n1 d0 d1 fn0 fn1 fd0 fd1 zx zg kb; obtain ⟨x0, x1, fx0, fx1, n0, n1, d0, d1, fn0, fn1, fd0, fd1, zx, zg, kb⟩ := D3.out))
              all_goals
                have TN := FB.turn (C := C) (k3 := k3) D3.out D2.out.zg HS4.out HN.out B3.out RF.out BN_3.out NP.out
                have FB2 := Lib.hid TN.1
                have SN2 : Hid (FN ((((v3.setCell ⟨g, 0, none⟩ (Value.bool s4)).setCell ⟨g, 1, none⟩ (Value.slice p3 l3.length k3)).setCell ⟨g + 1, 0, none⟩ (Value.bool sn)).setCell ⟨g + 1, 1, none⟩ (Value.slice P L.length C)) g (5 + 6 * (y - i)) (evB (l.drop i)).1 (evB (l.drop i)).2 s4 sn p3 P l3 L) := by
                  rw [EV.out, ← MM]; exact TN.2
                clear TN D0 D1 D2 D3 RF B3 BN_3 BD_3 HN HD NP HSS HST HS4 EV ciw x0 x1 fx0 fx1 n0 n1 d0 d1 fn0 fn1 fd0 fd1 zx zg kb
                go_wp2_with fail
                go_roundw
                case rel => exact ⟨i, s4, sn, p3, P, l3, L, k3, C, by omega, by go_num, FB2, SN2⟩
                case measure => simp [intOf]
end Go.Proofs.YtblaakjldpcjlaaDoor
