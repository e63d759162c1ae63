/- Classing's lines: Cost and Price. -/
import Derived.Test.YtmdhmpfagekonaaCG7
/- Classing's lines: Cost. -/
namespace Go.Proofs.Ytmdhmpfagekonaa
open Go.RowKit Go.Proofs.Ytmdhmpfagekonaa.Ct Go.Proofs.Ytmdhmpfagekonaa.Ce Go.Proofs.Ytmdhmpfagekonaa.Stb
set_option linter.unusedVariables false
set_option linter.unusedSimpArgs false

theorem ret_2 {p q : Int × Int} (h : p = q) : Ending.returned (.tuple #[.int .i64 p.1, .int .i64 p.2]) = Ending.returned (.tuple #[.int .i64 q.1, .int .i64 q.2]) := by rw [h]
theorem spBx (w : World) (ls le sp : Int) : OB (w.alloc (Obj.cells #[.int .i64 ls, .int .i64 le, .int .i64 sp] 24)) w.heap.size 24 3 (spC ls le sp) := by
  unfold OB
  rw [heap_alloc_new]
  rfl

set_option maxRecDepth 100000 in
set_option maxHeartbeats 16000000 in
theorem Cost_any (p : Option Addr) (c n : Nat) (F : Nat → Fl) (ls le sp : Int) (q : Option Addr) (d m : Nat) (L : Nat → Int) (w : World) (r : FlR w p n F) (rl : NmR w q m L) (ln : n ≤ 140) (lm : m ≤ 300) (kok : ∀ k, k < n → (F k).kok) (hp : ∀ x, p = some x → x.block < w.heap.size) :
    Calls Try.prog 20 #[.slice p n c, .agg #[.int .i64 ls, .int .i64 le, .int .i64 sp], .slice q m d] w fun e w' => e = .returned (.tuple #[.int .i64 (coV ls le sp F n L m).1, .int .i64 (coV ls le sp F n L m).2]) ∧ Below w.heap.size w w' := by
  have R := Lib.hid r
  have RL := Lib.hid rl
  have KOK := Lib.hid kok
  have HP := Lib.hid hp
  have B1 := Lib.hid (show Below w.heap.size w (w.alloc (Obj.cells #[.int .i64 ls, .int .i64 le, .int .i64 sp] 24)) from (Below.refl _ _).alloc (Nat.le_refl _) _)
  have OS := Lib.hid (spBx w ls le sp)
  clear r rl kok hp
  go_enter Try.func20, Try.ntmps20
  go_upto_region 1 with fail
  generalize (w.alloc (Obj.cells #[.int .i64 ls, .int .i64 le, .int .i64 sp] 24)) = wa at *
  have s0 : wa.cell? ⟨w.heap.size, 0, none⟩ = some (.int .i64 ls) := OS.out.cell (k := 0) (by decide)
  have s1 : wa.cell? ⟨w.heap.size, 1, none⟩ = some (.int .i64 le) := OS.out.cell (k := 1) (by decide)
  have s2 : wa.cell? ⟨w.heap.size, 2, none⟩ = some (.int .i64 sp) := OS.out.cell (k := 2) (by decide)
  have C1 := Lib.hid (check_any p c n F ls le sp wa (R.out.below B1.out) (by omega))
  go_wp2_with fail
  refine C1.out.mono ?_
  rintro e w1 ⟨rfl, b1⟩
  have HB := Lib.hid (B1.out.trans (b1.mono B1.out.size))
  have OS1 := Lib.hid (OS.out.below b1)
  clear b1 C1 s0 s1 s2 OS B1
  by_cases z1 : flE ls le sp F n = 0
  case neg =>
    have d1 : (flE ls le sp F n == 0) = false := by simpa using z1
    have E := Lib.hid (coV_1 (L := L) (m := m) z1)
    clear z1
    generalize flE ls le sp F n = x at *
    go_wp2_with fail
    go_ret2
    exact ⟨ret_2 (p := (0, x)) E.out.symm, HB.out⟩
  have Z1 := Lib.hid z1
  obtain ⟨n128, so, fok⟩ := flE_ok z1
  have FOK := Lib.hid fok
  have SO := Lib.hid so
  rw [z1]
  clear z1 fok so
  have C2 := Lib.hid (checkLengths_any q d m n L w1 (RL.out.below HB.out) (by omega) (by omega))
  go_wp2_with fail
  refine C2.out.mono ?_
  rintro e w2 ⟨rfl, b1⟩
  replace HB := Lib.hid (HB.out.trans (b1.mono HB.out.size))
  replace OS1 := Lib.hid (OS1.out.below b1)
  clear b1 C2
  by_cases z2 : lnE L m n = 0
  case neg =>
    have d1 : (lnE L m n == 0) = false := by simpa using z2
    have E := Lib.hid (coV_2 Z1.out z2)
    clear z2
    generalize lnE L m n = x at *
    go_wp2_with fail
    go_ret2
    exact ⟨ret_2 (p := (0, x)) E.out.symm, HB.out⟩
  have Z2 := Lib.hid z2
  obtain ⟨m128, hL, hN⟩ := lnE_ok z2
  have LOK := Lib.hid hL
  have LN := Lib.hid hN
  rw [z2]
  clear z2 hL hN
  have s0 : w2.cell? ⟨w.heap.size, 0, none⟩ = some (.int .i64 ls) := OS1.out.cell (k := 0) (by decide)
  by_cases z3 : ls < (m : Int)
  case pos =>
    have d1 : decide (ls < (m : Int)) = true := decide_eq_true z3
    have E := Lib.hid (coV_3 Z1.out Z2.out z3)
    clear z3
    go_wp2_with fail
    go_ret2
    exact ⟨ret_2 (p := (0, 13)) E.out.symm, HB.out⟩
  have d1 : decide (ls < (m : Int)) = false := decide_eq_false z3
  have Z3 := Lib.hid z3
  have s1 : w2.cell? ⟨w.heap.size, 1, none⟩ = some (.int .i64 le) := OS1.out.cell (k := 1) (by decide)
  have s2 : w2.cell? ⟨w.heap.size, 2, none⟩ = some (.int .i64 sp) := OS1.out.cell (k := 2) (by decide)
  have C3 := Lib.hid (sorted_any p c n F ls le sp w2 (R.out.below HB.out) ln FOK.out KOK.out (fun x hx => Nat.lt_of_lt_of_le (HP.out x hx) HB.out.size))
  clear z3
  go_wp2_with fail
  refine C3.out.mono ?_
  rintro e w3 ⟨gp, gf, gc, rfl, -, -, qc, b1, -⟩
  replace HB := Lib.hid (HB.out.trans (b1.mono HB.out.size))
  clear b1 C3 s0 s1 s2 OS1 d1
  have OC := Lib.hid (ob_cl w3 ls le sp (.slice (some ⟨gp, 0, none⟩) n n) (.slice (some ⟨gf, 0, none⟩) n n) (.slice (some ⟨gc, 0, none⟩) n n) 67)
  have B2 : Below w3.heap.size w3 (w3.alloc (Obj.cells #[.int .i64 ls, .int .i64 le, .int .i64 sp, .slice (some ⟨gp, 0, none⟩) n n, .slice (some ⟨gf, 0, none⟩) n n, .slice (some ⟨gc, 0, none⟩) n n] 67)) := (Below.refl _ _).alloc (Nat.le_refl _) _
  have QC := Lib.hid (qc.below B2)
  have RL2 := Lib.hid ((RL.out.below HB.out).below B2)
  replace HB := Lib.hid (HB.out.trans (B2.mono HB.out.size))
  clear qc B2
  unfold clV
  go_upto_region 10 with fail
  generalize (w3.alloc (Obj.cells #[.int .i64 ls, .int .i64 le, .int .i64 sp, .slice (some ⟨gp, 0, none⟩) n n, .slice (some ⟨gf, 0, none⟩) n n, .slice (some ⟨gc, 0, none⟩) n n] 67)) = wb at *
  have k5 : wb.cell? ⟨w3.heap.size, 5, none⟩ = some (.slice (some ⟨gc, 0, none⟩) n n) := OC.out.cell (k := 5) (by decide)
  generalize w3.heap.size = gb at *
  have CB := Lib.hid (fun (t : Nat) (h : t ≤ m) => cst_bd (C := cMat (inO F n) le sp) (M := 1503238553600000) (by omega) LOK.out (fun i j h => cMat_bd (inO_ok FOK.out) ln h) h)
  go_wp2_with fail
  go_loopw [11, 12, 39] (fun sv av kv wr => ∃ t : Nat, t ≤ m ∧ kv = .int .i64 t ∧ av = .int .i64 (sm L t) ∧ sv = .int .i64 (cst (cMat (inO F n) le sp) L t) ∧ Hid (cst (cMat (inO F n) le sp) L t ≠ -1) ∧ wr = wb) (fun _ _ kv _ => m - (intOf kv).toNat)
  case atStart => exact ⟨0, Nat.zero_le _, rfl, rfl, rfl, Lib.hid (by simp [cst]), rfl⟩
  case round =>
    obtain ⟨t, ht, rfl, rfl, rfl, HN, rfl⟩ := hrel
    by_cases t1 : t < m
    case pos =>
      have i1 : (0 : Int) ≤ (t : Int) := by omega
      have i2 : (t : Int) < (m : Int) := by omega
      obtain ⟨y, rfl, -, cy⟩ := RL2.out t t1
      have lb := LOK.out t t1
      have sb := sm_bd LOK.out (t := t) (by omega)
      have sb2 := sm_bd LOK.out (t := t + 1) (by omega)
      have SN := Lib.hid (show sm L (t + 1) = sm L t + L t from rfl)
      have CN := Lib.hid (show cst (cMat (inO F n) le sp) L (t + 1) = both (cst (cMat (inO F n) le sp) L t) (cMat (inO F n) le sp (sm L t).toNat (sm L (t + 1)).toNat) from rfl)
      have CZ := Lib.hid (fun h => cst_none (C := cMat (inO F n) le sp) (L := L) t1 h)
      have cb := CB.out t (by omega)
      have cb2 := cMat_bd (A := inO F n) (n := n) (i := (sm L t).toNat) (j := (sm L (t + 1)).toNat) (le := le) (sp := sp) (inO_ok FOK.out) ln (by omega)
      obtain ⟨a, ha⟩ := Int.eq_ofNat_of_zero_le sb.1
      obtain ⟨b, hb⟩ := Int.eq_ofNat_of_zero_le sb2.1
      have hab : (a : Int) + L t = (b : Int) := by have := SN.out; omega
      obtain ⟨x, y2, cd, ex, kx, cx, hy⟩ := QC.out a (by omega)
      cases ex
      obtain ⟨z, rfl, kz, cz⟩ := hy b (by omega)
      rw [add0] at cx
      rw [ha, hb] at CN CZ cb2
      rw [Int.toNat_natCast, Int.toNat_natCast] at CN CZ cb2
      rw [ha] at sb lb
      have HA := Lib.hid ha
      have HBB := Lib.hid hb
      rw [ha]
      have a1 : (0 : Int) ≤ (a : Int) := by omega
      have a2 : (a : Int) < (n : Int) := by omega
      have a3 : (0 : Int) ≤ (b : Int) := by omega
      have a4 : (b : Int) < ((n + 1 : Nat) : Int) := by omega
      have a5 : (b : Int) < (n : Int) + 1 := by omega
      have e1 : IntKind.i64.wrap ((a : Int) + L t) = (b : Int) := by rw [hab]; exact hwI (by omega) (by omega)
      clear ha hb hab lb SN hy kx kz
      generalize L t = l at *
      generalize cMat (inO F n) le sp a b = u at *
      generalize cst (cMat (inO F n) le sp) L t = v at *
      by_cases z4 : u = -1
      · have E := Lib.hid (coV_4 Z1.out Z2.out (Int.not_lt.2 Z3.out) (CZ.out z4))
        subst z4
        clear CN CZ cb cb2 sb sb2
        go_wp2_with fail
        go_ret2
        exact ⟨ret_2 (p := (0, 13)) E.out.symm, HB.out⟩
      · have d4 : (u == -1) = false := by simpa using z4
        have hn := HN.out
        have CN2 := Lib.hid (show cst (cMat (inO F n) le sp) L (t + 1) = v + u from by rw [CN.out]; exact both_pos hn z4)
        have CN3 := Lib.hid (show cst (cMat (inO F n) le sp) L (t + 1) ≠ -1 from by rw [CN2.out]; omega)
        have e2 : IntKind.i64.wrap (v + u) = v + u := hwI (by omega) (by
          have : 1503238553600000 * (t : Int) ≤ 1503238553600000 * 300 := Int.mul_le_mul_of_nonneg_left (by omega) (by omega)
          omega)
        clear CN CZ cb cb2 sb sb2 hn z4
        go_wp2_with fail
        go_roundw
        case rel => exact ⟨t + 1, by omega, by go_num, by rw [HBB.out], by rw [CN2.out], CN3, by first | rfl | trivial⟩
        case measure => simp [intOf]; omega
    obtain rfl : t = m := by omega
    have E := Lib.hid (coV_5 Z1.out Z2.out (Int.not_lt.2 Z3.out) HN.out)
    generalize cst (cMat (inO F n) le sp) L t = v at *
    go_wp2_with fail
    go_ret2
    exact ⟨ret_2 (p := (v, 0)) E.out.symm, HB.out⟩
end Go.Proofs.Ytmdhmpfagekonaa

/- Classing's lines: Price. -/
namespace Go.Proofs.Ytmdhmpfagekonaa
open Go.RowKit Go.Proofs.Ytmdhmpfagekonaa.Ct Go.Proofs.Ytmdhmpfagekonaa.Ce Go.Proofs.Ytmdhmpfagekonaa.Stb
set_option linter.unusedVariables false
set_option linter.unusedSimpArgs false

theorem made1 (n : Nat) : (madeCells (Value.int .i64 0).cells ((n + 1) * 1)).toList = (List.range ((n + 1) * 1)).map fun k => Value.int .i64 ((fun _ => 0) k) := by
  rw [madeInts]
theorem made1' (n : Nat) : (madeCells (Value.int .i64 0).cells (n + 1)).toList = (List.range ((n + 1) * 1)).map fun k => Value.int .i64 ((fun _ => 0) k) := by
  rw [madeInts, Nat.mul_one]
theorem OB.setI {W : World} {g n : Nat} {t : TypeId} {f : Nat → Int} (h : OB W g t n (fun k => .int .i64 (f k))) (i : Nat) (v : Int) : OB (W.setCell ⟨g, i, none⟩ (.int .i64 v)) g t n (fun k => .int .i64 (upF f i v k)) :=
  (h.set i (.int .i64 v)).ext fun k _ => by
    unfold updV upF
    by_cases e : k = i
    · rw [if_pos e, if_pos e]
    · rw [if_neg e, if_neg e]
theorem upF_up (f : Nat → Int) (i : Nat) (u v : Int) : upF (upF f i u) i v = upF f i v := by
  funext k
  unfold upF
  by_cases e : k = i
  · rw [if_pos e, if_pos e]
  · rw [if_neg e, if_neg e, if_neg e]
theorem below_set {b : Nat} {w W : World} (h : Below b w W) {g : Nat} (hg : b ≤ g) (k : Nat) (v : Value) : Below b w (W.setCell ⟨g, k, none⟩ v) := h.setCell hg _

set_option maxRecDepth 100000 in
set_option maxHeartbeats 16000000 in
theorem Price_any (p : Option Addr) (c n : Nat) (F : Nat → Fl) (ls le sp pr : Int) (w : World) (r : FlR w p n F) (ln : n ≤ 140) (kok : ∀ k, k < n → (F k).kok) (hp : ∀ x, p = some x → x.block < w.heap.size) :
    Calls Try.prog 22 #[.slice p n c, .agg #[.int .i64 ls, .int .i64 le, .int .i64 sp], .int .i64 pr] w fun e w' => e = .returned (.tuple #[.int .i64 (prV ls le sp F n pr).1, .int .i64 (prV ls le sp F n pr).2]) ∧ Below w.heap.size w w' := by
  obtain ⟨i0, hi, hz0, hz1, hz2⟩ := info_parts intInfo
  have R := Lib.hid r
  have KOK := Lib.hid kok
  have HP := Lib.hid hp
  have B1 := Lib.hid (show Below w.heap.size w (w.alloc (Obj.cells #[.int .i64 ls, .int .i64 le, .int .i64 sp] 24)) from (Below.refl _ _).alloc (Nat.le_refl _) _)
  have OS := Lib.hid (spBx w ls le sp)
  clear r kok hp
  go_enter Try.func22, Try.ntmps22
  go_upto_region 1 with fail
  generalize (w.alloc (Obj.cells #[.int .i64 ls, .int .i64 le, .int .i64 sp] 24)) = wa at *
  have s0 : wa.cell? ⟨w.heap.size, 0, none⟩ = some (.int .i64 ls) := OS.out.cell (k := 0) (by decide)
  have s1 : wa.cell? ⟨w.heap.size, 1, none⟩ = some (.int .i64 le) := OS.out.cell (k := 1) (by decide)
  have s2 : wa.cell? ⟨w.heap.size, 2, none⟩ = some (.int .i64 sp) := OS.out.cell (k := 2) (by decide)
  have C1 := Lib.hid (check_any p c n F ls le sp wa (R.out.below B1.out) (by omega))
  go_wp2_with fail
  refine C1.out.mono ?_
  rintro e w1 ⟨rfl, b1⟩
  have HB := Lib.hid (B1.out.trans (b1.mono B1.out.size))
  have OS1 := Lib.hid (OS.out.below b1)
  clear b1 C1 s0 s1 s2 OS B1
  by_cases z1 : flE ls le sp F n = 0
  case neg =>
    have d1 : (flE ls le sp F n == 0) = false := by simpa using z1
    have E := Lib.hid (prV_1 (p := pr) z1)
    clear z1
    generalize flE ls le sp F n = x at *
    go_wp2_with fail
    go_ret2
    exact ⟨ret_2 (p := (0, x)) E.out.symm, HB.out⟩
  have Z1 := Lib.hid z1
  obtain ⟨n128, so, fok⟩ := flE_ok z1
  have FOK := Lib.hid fok
  have SO := Lib.hid so
  rw [z1]
  clear z1 fok so
  by_cases z2 : pr < 0
  case pos =>
    have d1 : decide (pr < 0) = true := decide_eq_true z2
    have E := Lib.hid (prV_2 (p := pr) Z1.out (fun h => by omega))
    clear z2
    go_wp2_with fail
    go_ret2
    exact ⟨ret_2 (p := (0, 2)) E.out.symm, HB.out⟩
  have d2 : decide (pr < 0) = false := decide_eq_false z2
  by_cases z3 : 1125899906842624 < pr
  case pos =>
    have d1 : decide (1125899906842624 < pr) = true := decide_eq_true z3
    have E := Lib.hid (prV_2 (p := pr) Z1.out (fun h => by omega))
    clear z2 z3
    go_wp2_with fail
    go_ret2
    exact ⟨ret_2 (p := (0, 2)) E.out.symm, HB.out⟩
  have d3 : decide (1125899906842624 < pr) = false := decide_eq_false z3
  have PO := Lib.hid (show 0 ≤ pr ∧ pr ≤ 1125899906842624 from by omega)
  have s0 : w1.cell? ⟨w.heap.size, 0, none⟩ = some (.int .i64 ls) := OS1.out.cell (k := 0) (by decide)
  have s1 : w1.cell? ⟨w.heap.size, 1, none⟩ = some (.int .i64 le) := OS1.out.cell (k := 1) (by decide)
  have s2 : w1.cell? ⟨w.heap.size, 2, none⟩ = some (.int .i64 sp) := OS1.out.cell (k := 2) (by decide)
  have C3 := Lib.hid (sorted_any p c n F ls le sp w1 (R.out.below HB.out) ln FOK.out KOK.out (fun x hx => Nat.lt_of_lt_of_le (HP.out x hx) HB.out.size))
  clear z2 z3
  go_wp2_with fail
  refine C3.out.mono ?_
  rintro e w3 ⟨gp, gf, gc, rfl, -, -, qc, b1, -⟩
  replace HB := Lib.hid (HB.out.trans (b1.mono HB.out.size))
  clear b1 C3 s0 s1 s2 OS1 d2 d3
  have OC := Lib.hid (ob_cl w3 ls le sp (.slice (some ⟨gp, 0, none⟩) n n) (.slice (some ⟨gf, 0, none⟩) n n) (.slice (some ⟨gc, 0, none⟩) n n) 67)
  have B2 : Below w3.heap.size w3 (w3.alloc (Obj.cells #[.int .i64 ls, .int .i64 le, .int .i64 sp, .slice (some ⟨gp, 0, none⟩) n n, .slice (some ⟨gf, 0, none⟩) n n, .slice (some ⟨gc, 0, none⟩) n n] 67)) := (Below.refl _ _).alloc (Nat.le_refl _) _
  have QC := Lib.hid (qc.below B2)
  replace HB := Lib.hid (HB.out.trans (B2.mono HB.out.size))
  clear qc B2
  unfold clV
  go_upto_region 7 with fail
  generalize (w3.alloc (Obj.cells #[.int .i64 ls, .int .i64 le, .int .i64 sp, .slice (some ⟨gp, 0, none⟩) n n, .slice (some ⟨gf, 0, none⟩) n n, .slice (some ⟨gc, 0, none⟩) n n] 67)) = wb at *
  generalize w3.heap.size = gb at *
  have n0 : ¬ ((n : Int) + 1 < 0) := by omega
  have e0 : IntKind.i64.wrap ((n : Int) + 1) = ((n + 1 : Nat) : Int) := by rw [hwI (by omega) (by omega)]; omega
  have e1 : IntKind.i64.wrap ((n : Int) - 1) = (n : Int) - 1 := hwI (by omega) (by omega)
  go_upto_region 8 with (first
    | (at_make; refine wpList_make_full _ rfl _ _ 36 rfl wb.heap.size 3 i0 (.int .i64 0) 1 Try.underlying36 hi hz0 hz1 .i64 .i64 _ _ (n + 1) rfl rfl (by omega) (by omega) (by rw [hz2]; omega) (by unfold maxLen; omega) (Nat.le_refl _) ?_; intro wc hown hgrow))
  first | rw [made1] at hown | rw [made1'] at hown
  have OL := Lib.hid (show OB wc wb.heap.size 3 (n + 1) (fun k => .int .i64 (prc (cMat (inO F n) le sp) pr n 0 k)) from by
    have := OB.of hown
    rw [Nat.mul_one] at this
    exact this)
  have B3 := Lib.hid (show Below wb.heap.size wb wc from (Below.refl _ _).grown hgrow (Nat.le_refl _) (fun k e => by cases e))
  have GBL := Lib.hid OC.out.lt
  obtain ⟨gl, hgl⟩ : ∃ gl, gl = wb.heap.size := ⟨_, rfl⟩
  rw [← hgl] at OL ⊢
  have HGL := Lib.hid hgl
  have KC := Lib.hid (show ∀ W, Below wb.heap.size wb W → OB W gb 67 6 (clC ls le sp (.slice (some ⟨gp, 0, none⟩) n n) (.slice (some ⟨gf, 0, none⟩) n n) (.slice (some ⟨gc, 0, none⟩) n n)) ∧ CoR W (some ⟨gc, 0, none⟩) n (n + 1) (cMat (inO F n) le sp) from fun W b => ⟨OC.out.below b, QC.out.below b⟩)
  clear hown hgrow hgl OC QC
  have PB := Lib.hid (fun (k : Nat) (h : k ≤ n) (j : Nat) => prc_bd (C := cMat (inO F n) le sp) (p := pr) (n := n) (M := 1503238553600000) (by omega) PO.out.1 (fun i j _ h => cMat_bd (inO_ok FOK.out) ln h) k h j)
  have CBD := Lib.hid (fun (a j : Nat) (h : j ≤ n) => cMat_bd (A := inO F n) (n := n) (i := a) (j := j) (le := le) (sp := sp) (inO_ok FOK.out) ln h)
  go_wp2_with fail
  go_loopw [11] (fun iv wr => ∃ i1 : Nat, i1 ≤ n ∧ iv = .int .i64 ((i1 : Int) - 1) ∧ Hid (OB wr gl 3 (n + 1) (fun k => .int .i64 (prc (cMat (inO F n) le sp) pr n (n - i1) k))) ∧ Hid (Below wb.heap.size wb wr)) (fun iv _ => (intOf iv + 1).toNat)
  case atStart => exact ⟨n, Nat.le_refl _, rfl, by rw [Nat.sub_self]; exact OL, B3⟩
  case round =>
    clear OL B3
    obtain ⟨i1, hi1, ei, HO, HW⟩ := hrel
    by_cases t1 : i1 = 0
    case neg =>
      obtain ⟨i, rfl⟩ : ∃ i, i1 = i + 1 := ⟨i1 - 1, by omega⟩
      have ei2 : ((i + 1 : Nat) : Int) - 1 = (i : Int) := by omega
      rw [ei2] at ei
      subst ei
      have hin : i < n := by omega
      obtain ⟨OCr, QCr⟩ := KC.out wr HW.out
      have c0 : wr.cell? ⟨gb, 0, none⟩ = some (.int .i64 ls) := OCr.cell (k := 0) (by decide)
      have c1 : wr.cell? ⟨gb, 1, none⟩ = some (.int .i64 le) := OCr.cell (k := 1) (by decide)
      have c2 : wr.cell? ⟨gb, 2, none⟩ = some (.int .i64 sp) := OCr.cell (k := 2) (by decide)
      have c3 : wr.cell? ⟨gb, 3, none⟩ = some (.slice (some ⟨gp, 0, none⟩) n n) := OCr.cell (k := 3) (by decide)
      have c4 : wr.cell? ⟨gb, 4, none⟩ = some (.slice (some ⟨gf, 0, none⟩) n n) := OCr.cell (k := 4) (by decide)
      have c5 : wr.cell? ⟨gb, 5, none⟩ = some (.slice (some ⟨gc, 0, none⟩) n n) := OCr.cell (k := 5) (by decide)
      have LB := PB.out (n - (i + 1)) (by omega)
      have pk : (1503238553600000 + pr) * ((n - (i + 1) : Nat) : Int) ≤ 2629138480442624 * 140 := by
        have := PO.out
        exact Int.mul_le_mul (by omega) (by omega) (by omega) (by omega)
      have CL := Lib.hid (leastFrom_any ls le sp (some ⟨gp, 0, none⟩) (some ⟨gf, 0, none⟩) (some ⟨gc, 0, none⟩) (some ⟨gl, 0, none⟩) n n n n n n (n + 1) i (cMat (inO F n) le sp) (prc (cMat (inO F n) le sp) pr n (n - (i + 1))) wr QCr HO.out.nm (by omega) (by omega)
        (fun a j _ hj => by have := CBD.out a j (by omega); omega) (fun j _ => by have := LB j; omega))
      unfold clV at CL
      have NX := Lib.hid (show prc (cMat (inO F n) le sp) pr n (n - i) = upF (prc (cMat (inO F n) le sp) pr n (n - (i + 1))) i (both (lfm (cMat (inO F n) le sp i) (prc (cMat (inO F n) le sp) pr n (n - (i + 1))) i (n - i)) pr) from by
        obtain ⟨k, hk⟩ : ∃ k, n - (i + 1) = k := ⟨_, rfl⟩
        have h1 : n - i = k + 1 := by omega
        rw [hk, h1]
        show upF (prc (cMat (inO F n) le sp) pr n k) (n - 1 - k) (both (lfm (cMat (inO F n) le sp (n - 1 - k)) (prc (cMat (inO F n) le sp) pr n k) (n - 1 - k) (k + 1)) pr) = _
        rw [show n - 1 - k = i by omega])
      have vb := lfm_bd (c := cMat (inO F n) le sp i) (r := prc (cMat (inO F n) le sp) pr n (n - (i + 1))) (x := 1503238553600000) (y := 2629138480442624 * 140) i (by omega) (by omega) (n - i) (fun k _ hk => CBD.out i k (by omega)) (fun k _ _ => by have := LB k; omega)
      generalize lfm (cMat (inO F n) le sp i) (prc (cMat (inO F n) le sp) pr n (n - (i + 1))) i (n - i) = v at *
      generalize prc (cMat (inO F n) le sp) pr n (n - (i + 1)) = rest at *
      have j1 : (0 : Int) ≤ (i : Int) := by omega
      have j2 : (i : Int) < ((n + 1 : Nat) : Int) := by omega
      have j3 : (i : Int) < (n : Int) + 1 := by omega
      have ew : IntKind.i64.wrap ((i : Int) - 1) = (i : Int) - 1 := hwI (by omega) (by omega)
      clear OCr QCr LB pk
      go_wp2_with fail
      refine CL.out.mono ?_
      rintro e w5 ⟨rfl, q5⟩
      have HO5 := Lib.hid (HO.out.below q5)
      have HW5 := Lib.hid (HW.out.trans (q5.mono HW.out.size))
      clear q5 c0 c1 c2 c3 c4 c5 CL HO HW
      have ci := HO5.out.cell (k := i) (by omega)
      have fi := HO5.out.frozen i
      generalize rest i = ri at ci
      by_cases z4 : v = -1
      · subst z4
        have NR := Lib.hid (show OB (w5.setCell ⟨gl, i, none⟩ (.int .i64 (-1))) gl 3 (n + 1) (fun k => .int .i64 (prc (cMat (inO F n) le sp) pr n (n - i) k)) from by
          rw [NX.out, both_n (.inl rfl)]
          exact HO5.out.setI i (-1))
        have NB := Lib.hid (below_set HW5.out (g := gl) (by rw [HGL.out]; exact Nat.le_refl _) i (.int .i64 (-1)))
        clear HO5 HW5 NX vb
        go_wp2_with fail
        go_roundw
        case rel => exact ⟨i, by omega, by go_num, NR, NB⟩
        case measure => simp [intOf] <;> omega
      · have d4 : (v == -1) = false := by simpa using z4
        have po := PO.out
        have ev : IntKind.i64.wrap (v + pr) = v + pr := hwI (by omega) (by omega)
        have NR := Lib.hid (show OB ((w5.setCell ⟨gl, i, none⟩ (.int .i64 v)).setCell ⟨gl, i, none⟩ (.int .i64 (v + pr))) gl 3 (n + 1) (fun k => .int .i64 (prc (cMat (inO F n) le sp) pr n (n - i) k)) from by
          rw [NX.out, both_pos z4 (by omega), ← upF_up rest i v (v + pr)]
          exact (HO5.out.setI i v).setI i (v + pr))
        have NB := Lib.hid (below_set (below_set HW5.out (g := gl) (by rw [HGL.out]; exact Nat.le_refl _) i (.int .i64 v)) (g := gl) (by rw [HGL.out]; exact Nat.le_refl _) i (.int .i64 (v + pr)))
        clear HO5 HW5 NX vb z4 po
        go_wp2_with fail
        go_roundw
        case rel => exact ⟨i, by omega, by go_num, NR, NB⟩
        case measure => simp [intOf] <;> omega
    subst t1
    have HH := Lib.hid (HB.out.trans (HW.out.mono HB.out.size))
    have ei2 : ((0 : Nat) : Int) - 1 = -1 := rfl
    rw [ei2] at ei
    subst ei
    have cz := HO.out.cell (k := 0) (by omega)
    rw [Nat.sub_zero] at cz
    have E3 := Lib.hid (fun h => prV_3 (p := pr) Z1.out PO.out h)
    have E4 := Lib.hid (fun h => prV_4 (p := pr) Z1.out PO.out h)
    generalize prc (cMat (inO F n) le sp) pr n n 0 = v at *
    by_cases z4 : v = -1
    · have E := Lib.hid (E3.out z4)
      subst z4
      clear E3 E4
      go_wp2_with fail
      go_ret2
      exact ⟨ret_2 (p := (0, 13)) E.out.symm, HH.out⟩
    · have E := Lib.hid (E4.out z4)
      have d4 : (v == -1) = false := by simpa using z4
      clear E3 E4 z4
      go_wp2_with fail
      go_ret2
      exact ⟨ret_2 (p := (v, 0)) E.out.symm, HH.out⟩
end Go.Proofs.Ytmdhmpfagekonaa
