/- Classing's lines: the reference's Cost and Price. -/
import Derived.Test.YtmdhmpfagekonaaCJ4
import Derived.Test.YtmdhmpfagekonaaLE
import Derived.Test.YtmdhmpfagekonaaLI
import Derived.Test.YtmdhmpfagekonaaCJ5
/- Classing's lines: the reference's Cost. -/
namespace Go.Proofs.Ytmdhmpfagekonaa
open Go.RowKit Go.Proofs.Ytmdhmpfagekonaa.Ct Go.Proofs.Ytmdhmpfagekonaa.Ce Go.Proofs.Ytmdhmpfagekonaa.Stb
set_option linter.unusedVariables false
set_option linter.unusedSimpArgs false

theorem lnQ_yes {A : Nat → Fl} {o : Nat → Int} {le sp : Int} {i j : Nat} {w : World} {args : Array Value} (h : Calls Try.prog 31 args w (LnQ A o le sp i j w)) (il : isLine A le sp i j) :
    Calls Try.prog 31 args w fun e w' => ∃ q d, e = .returned (.tuple #[lnV (A i) (.slice q (j - i) d) (mas A i j) (cen A i j) (cMat A le sp i j), .bool true]) ∧ Below w.heap.size w w' := by
  refine h.mono ?_
  rintro e w' (⟨_, ⟨q, d, rfl, -, -⟩, b⟩ | ⟨nl, -, -⟩)
  · refine ⟨q, d, ?_, b⟩
    rw [show cMat A le sp i j = offs A (cen A i j) i j from by unfold cMat lnc; rw [if_pos il.1, if_pos il]]
  · exact absurd il nl
theorem lnQ_no {A : Nat → Fl} {o : Nat → Int} {le sp : Int} {i j : Nat} {w : World} {args : Array Value} (h : Calls Try.prog 31 args w (LnQ A o le sp i j w)) (il : ¬ isLine A le sp i j) :
    Calls Try.prog 31 args w fun e w' => e = .returned (.tuple #[lnZ, .bool false]) ∧ Below w.heap.size w w' := by
  refine h.mono ?_
  rintro e w' (⟨yl, -, -⟩ | ⟨_, rfl, b⟩)
  · exact absurd yl il
  · exact ⟨rfl, b⟩
theorem line_nn {A : Nat → Fl} {n i j : Nat} {le sp : Int} (ok : ∀ k, k < n → (A k).ok) (jn : j ≤ n) (il : isLine A le sp i j) : cMat A le sp i j ≠ -1 := by
  have b := mas_bd (A := A) (i := i) ok (j := j) jn
  have ij := il.1
  have := cenF_lt (A := A) (i := i) (k := j - i) (p := i) (j := j) (by omega) (by omega) b.1
  have o : 1 ≤ cen A i j ∧ cen A i j ≤ 10000 := (ok (cenP A i j) (Nat.lt_of_lt_of_le this.2 jn)).1
  have := offs_bd2 i o.1 o.2 ok (j := j) jn
  unfold cMat lnc
  rw [if_pos il.1, if_pos il]
  omega
theorem obZ (W : World) : OB (W.alloc (Obj.cells #[.int .u8 0, .int .u8 0, .int .u8 0, .int .u8 0, .slice none 0 0, .int .i64 0, .int .i64 0, .int .i64 0] 38)) W.heap.size 38 8 (lnC fl0 (.slice none 0 0) 0 0 0) := by
  unfold OB; rw [heap_alloc_new]; rfl
/-- What a step of Cost reads. -/
def RdC (z : Addr) (b t : Nat) (l ls le sp : Int) (W : World) : Prop := W.cell? (z.add t) = some (.int .i64 l) ∧ W.cell? ⟨b, 0, none⟩ = some (.int .i64 ls) ∧ W.cell? ⟨b, 1, none⟩ = some (.int .i64 le) ∧ W.cell? ⟨b, 2, none⟩ = some (.int .i64 sp)
theorem RdC.below {z : Addr} {b t : Nat} {l ls le sp : Int} {W W' : World} (h : RdC z b t l ls le sp W) (st : Below W.heap.size W W') : RdC z b t l ls le sp W' := ⟨cellGr st h.1, cellGr st h.2.1, cellGr st h.2.2.1, cellGr st h.2.2.2⟩

set_option maxRecDepth 100000 in
set_option maxHeartbeats 16000000 in
theorem rCost_any (p : Option Addr) (c n : Nat) (F : Nat → Fl) (ls le sp : Int) (q : Option Addr) (d m : Nat) (L : Nat → Int) (w : World) (r : FlR w p n F) (rl : NmR w q m L) (ln : n ≤ 140) (lm : m ≤ 300) (kok : ∀ k, k < n → (F k).kok) :
    Calls Try.prog 21 #[.slice p n c, .agg #[.int .i64 ls, .int .i64 le, .int .i64 sp], .slice q m d] w fun e w' => e = .returned (.tuple #[.int .i64 (coV ls le sp F n L m).1, .int .i64 (coV ls le sp F n L m).2]) ∧ Below w.heap.size w w' := by
  have R := Lib.hid r
  have RL := Lib.hid rl
  have KOK := Lib.hid kok
  have B1 := Lib.hid (show Below w.heap.size w (w.alloc (Obj.cells #[.int .i64 ls, .int .i64 le, .int .i64 sp] 24)) from (Below.refl _ _).alloc (Nat.le_refl _) _)
  have OS := Lib.hid (spBx w ls le sp)
  clear r rl kok
  go_enter Try.func21, Try.ntmps21
  go_upto_region 1 with fail
  generalize (w.alloc (Obj.cells #[.int .i64 ls, .int .i64 le, .int .i64 sp] 24)) = wa at *
  have s0 : wa.cell? ⟨w.heap.size, 0, none⟩ = some (.int .i64 ls) := OS.out.cell (k := 0) (by decide)
  have s1 : wa.cell? ⟨w.heap.size, 1, none⟩ = some (.int .i64 le) := OS.out.cell (k := 1) (by decide)
  have s2 : wa.cell? ⟨w.heap.size, 2, none⟩ = some (.int .i64 sp) := OS.out.cell (k := 2) (by decide)
  have C1 := Lib.hid (errors_any p c n F ls le sp wa (R.out.below B1.out) (by omega))
  go_wp2_with fail
  refine C1.out.mono ?_
  rintro e w1 ⟨rfl, b1⟩
  have HB := Lib.hid (B1.out.trans (b1.mono B1.out.size))
  have OS1 := Lib.hid (OS.out.below b1)
  clear b1 C1 s0 s1 s2 OS B1
  by_cases z1 : flE ls le sp F n = 0
  case neg =>
    have d1 : (flE ls le sp F n == 0) = false := by simpa using z1
    have E := Lib.hid (coV_1 (L := L) (m := m) z1)
    clear z1
    generalize flE ls le sp F n = x at *
    go_wp2_with fail
    go_ret2
    exact ⟨ret_2 (p := (0, x)) E.out.symm, HB.out⟩
  have Z1 := Lib.hid z1
  obtain ⟨n128, so, fok⟩ := flE_ok z1
  have FOK := Lib.hid fok
  have SO := Lib.hid so
  rw [z1]
  clear z1 fok so
  by_cases t0 : 128 < m
  case pos =>
    have d1 : decide ((128 : Int) < (m : Int)) = true := decide_eq_true (by omega)
    have E := Lib.hid (coV_2 (L := L) (m := m) Z1.out (by rw [lnE_3 t0]; decide))
    have E2 := Lib.hid (lnE_3 (L := L) (n := n) t0)
    go_wp2_with fail
    go_ret2
    exact ⟨ret_2 (p := (0, 3)) (by rw [E.out, E2.out]), HB.out⟩
  have d1 : decide ((128 : Int) < (m : Int)) = false := decide_eq_false (by omega)
  go_wp2_with fail
  go_loopw [9, 10] (fun nv kv wr => ∃ i : Nat, i ≤ m ∧ kv = .int .i64 i ∧ nv = .int .i64 (n - sm L i) ∧ Hid (∀ k, k < i → 1 ≤ L k ∧ L k ≤ n - sm L k) ∧ Hid (0 ≤ sm L i ∧ sm L i ≤ n) ∧ wr = w1) (fun _ kv _ => m - (intOf kv).toNat)
  case atStart => exact ⟨0, Nat.zero_le _, rfl, by simp [sm], Lib.hid (fun k h => absurd h (by omega)), Lib.hid (by simp [sm]), rfl⟩
  case round =>
    obtain ⟨i, hi, rfl, rfl, HO, HS, rfl⟩ := hrel
    by_cases t2 : i < m
    case pos =>
      have i1 : (0 : Int) ≤ (i : Int) := by omega
      have i2 : (i : Int) < (m : Int) := by omega
      obtain ⟨x, rfl, -, cx⟩ := (RL.out.below HB.out) i t2
      have GO := Lib.hid (show 1 ≤ L i ∧ L i ≤ n - sm L i → ∀ k, k < i + 1 → 1 ≤ L k ∧ L k ≤ n - sm L k from fun h k hk => by
        by_cases e : k = i
        · rw [e]; exact h
        · exact HO.out k (by omega))
      have BA := Lib.hid (show ¬ (1 ≤ L i ∧ L i ≤ n - sm L i) → coV ls le sp F n L m = (0, 2) from fun h => by
        have e := lnE_l t0 t2 h
        rw [coV_2 Z1.out (by rw [e]; decide), e])
      have NX := Lib.hid (show sm L (i + 1) = sm L i + L i from rfl)
      have hs := HS.out
      clear HO
      generalize sm L i = s at *
      generalize L i = v at *
      by_cases z0 : v < 1
      case pos =>
        have d0 : decide (v < 1) = true := decide_eq_true z0
        have E := Lib.hid (BA.out fun h => by omega)
        clear BA GO hs z0
        go_wp2_with fail
        go_ret2
        exact ⟨ret_2 (p := (0, 2)) E.out.symm, HB.out⟩
      have d0 : decide (v < 1) = false := decide_eq_false z0
      by_cases z1 : (n : Int) - s < v
      case pos =>
        have d1 : decide ((n : Int) - s < v) = true := decide_eq_true z1
        have E := Lib.hid (BA.out fun h => by omega)
        clear BA GO hs z0 z1
        go_wp2_with fail
        go_ret2
        exact ⟨ret_2 (p := (0, 2)) E.out.symm, HB.out⟩
      have d1 : decide ((n : Int) - s < v) = false := decide_eq_false z1
      have G := Lib.hid (GO.out (by omega))
      have e1 : IntKind.i64.wrap ((n : Int) - s - v) = (n : Int) - s - v := hwI (by omega) (by omega)
      have HS2 := Lib.hid (show 0 ≤ sm L (i + 1) ∧ sm L (i + 1) ≤ n from by rw [NX.out]; omega)
      clear BA GO hs z0 z1
      go_wp2_with fail
      go_roundw
      case rel => exact ⟨i + 1, by omega, by go_num, by rw [NX.out, Int.sub_sub], G, HS2, by first | rfl | trivial⟩
      case measure => simp [intOf]; omega
    obtain rfl : i = m := by omega
    have hs := HS.out
    by_cases z : (n : Int) - sm L i = 0
    case neg =>
      have d : ((n : Int) - sm L i == 0) = false := by simpa using z
      have E := Lib.hid (show coV ls le sp F n L i = (0, 2) from by
        have e := lnE_n (L := L) (n := n) t0 (by omega)
        rw [coV_2 Z1.out (by rw [e]; decide), e])
      have z' : ¬ (n : Int) = sm L i := by omega
      clear hs
      go_wp2_with fail
      go_ret2
      exact ⟨ret_2 (p := (0, 2)) E.out.symm, HB.out⟩
    have Z2 := Lib.hid (lnE_0 (L := L) t0 HO.out (by omega))
    have LOK := Lib.hid HO.out
    rw [z]
    clear hs z HO HS
    have s0 : wr.cell? ⟨w.heap.size, 0, none⟩ = some (.int .i64 ls) := OS1.out.cell (k := 0) (by decide)
    by_cases z3 : ls < (i : Int)
    case pos =>
      have d1 : decide (ls < (i : Int)) = true := decide_eq_true z3
      have E := Lib.hid (coV_3 Z1.out Z2.out z3)
      clear z3
      go_wp2_with fail
      go_ret2
      exact ⟨ret_2 (p := (0, 13)) E.out.symm, HB.out⟩
    have d3 : decide (ls < (i : Int)) = false := decide_eq_false z3
    have Z3 := Lib.hid (Int.not_lt.1 z3)
    have C3 := Lib.hid (rOrder_any p c n F wr (R.out.below HB.out) ln FOK.out KOK.out)
    clear z3
    go_wp2_with fail
    refine C3.out.mono ?_
    rintro e wo ⟨q2, d2, rfl, RO, b1, -⟩
    replace HB := Lib.hid (HB.out.trans (b1.mono HB.out.size))
    replace OS1 := Lib.hid (OS1.out.below b1)
    replace RO := Lib.hid RO
    clear b1 C3 s0 d3
    have RL2 := Lib.hid (RL.out.below HB.out)
    have LC := Lib.hid (fun W (b : Below wo.heap.size wo W) (i j : Nat) (hj : j ≤ n) => rline_any p c n F q2 d2 i j ls le sp W ((R.out.below HB.out).below b) (RO.out.below b) ln hj FOK.out KOK.out)
    have CB := Lib.hid (fun (t : Nat) (h : t ≤ i) => cst_bd (C := cMat (inO F n) le sp) (M := 1503238553600000) (by omega) LOK.out (fun i j h => cMat_bd (inO_ok FOK.out) ln h) h)
    have CMB := Lib.hid (fun (a b : Nat) (h : b ≤ n) => cMat_bd (A := inO F n) (n := n) (i := a) (j := b) (le := le) (sp := sp) (inO_ok FOK.out) ln h)
    go_wp2_with fail
    go_loopw [12, 13, 14] (fun sv av kv wr => ∃ t : Nat, t ≤ i ∧ kv = .int .i64 t ∧ av = .int .i64 (sm L t) ∧ sv = .int .i64 (cst (cMat (inO F n) le sp) L t) ∧ Hid (cst (cMat (inO F n) le sp) L t ≠ -1) ∧ Hid (Below wo.heap.size wo wr)) (fun _ _ kv _ => i - (intOf kv).toNat)
    case atStart => exact ⟨0, Nat.zero_le _, rfl, rfl, rfl, Lib.hid (by simp [cst]), Lib.hid (Below.refl _ _)⟩
    case round =>
      obtain ⟨t, ht, rfl, rfl, rfl, HN, HW⟩ := hrel
      rename World => wr
      by_cases t1 : t < i
      case pos =>
        have i1 : (0 : Int) ≤ (t : Int) := by omega
        have i2 : (t : Int) < (i : Int) := by omega
        obtain ⟨z, rfl, -, cz⟩ := (RL2.out.below HW.out) t t1
        have lb := LOK.out t t1
        have sb := sm_bd LOK.out (t := t) (by omega)
        have sb2 := sm_bd LOK.out (t := t + 1) (by omega)
        have SN := Lib.hid (show sm L (t + 1) = sm L t + L t from rfl)
        have CN := Lib.hid (show cst (cMat (inO F n) le sp) L (t + 1) = both (cst (cMat (inO F n) le sp) L t) (cMat (inO F n) le sp (sm L t).toNat (sm L (t + 1)).toNat) from rfl)
        have CZ := Lib.hid (fun h => cst_none (C := cMat (inO F n) le sp) (L := L) t1 h)
        have cb := CB.out t (by omega)
        obtain ⟨a, ha⟩ := Int.eq_ofNat_of_zero_le sb.1
        obtain ⟨b, hb⟩ := Int.eq_ofNat_of_zero_le sb2.1
        have cb2 := CMB.out a b (by omega)
        have hab : (a : Int) + L t = (b : Int) := by have := SN.out; omega
        rw [ha, hb] at CN CZ
        rw [Int.toNat_natCast, Int.toNat_natCast] at CN CZ
        rw [ha] at sb lb
        have CL := Lib.hid (fun W (bw : Below wr.heap.size wr W) => LC.out W (HW.out.trans (bw.mono HW.out.size)) a b (by omega))
        have ABL := Lib.hid (show a < b from by omega)
        have BN := Lib.hid (show b ≤ n from by omega)
        have HA := Lib.hid ha
        have HBB := Lib.hid hb
        rw [ha]
        have e1 : IntKind.i64.wrap ((a : Int) + L t) = (b : Int) := by rw [hab]; exact hwI (by omega) (by omega)
        have e9 : (a : Int) + L t = (b : Int) := hab
        have e8 : IntKind.i64.wrap (b : Int) = (b : Int) := hwI (by omega) (by omega)
        have OSr := OS1.out.below HW.out
        have s0 : wr.cell? ⟨w.heap.size, 0, none⟩ = some (.int .i64 ls) := OSr.cell (k := 0) (by decide)
        have s1 : wr.cell? ⟨w.heap.size, 1, none⟩ = some (.int .i64 le) := OSr.cell (k := 1) (by decide)
        have s2 : wr.cell? ⟨w.heap.size, 2, none⟩ = some (.int .i64 sp) := OSr.cell (k := 2) (by decide)
        have BZL := Lib.hid (show w.heap.size < wr.heap.size from World.block_lt_of_cell? wr ⟨w.heap.size, 0, none⟩ s0)
        clear ha hb hab lb SN OSr
        generalize L t = l at *
        by_cases il : isLine (inO F n) le sp a b
        case pos =>
          have CLy := Lib.hid (fun W (bw : Below wr.heap.size wr W) => lnQ_yes (CL.out W bw) il)
          clear CL
          replace CL := CLy
          clear CLy
          go_upto_region 22 with fail
          go_cut [15, 16] from 68 to 82 (fun p15 b16 wx => ∃ gz, p15 = .pointer (some ⟨gz, 0, none⟩) ∧ b16 = .bool true ∧ Hid (wx.cell? ⟨gz, 7, none⟩ = some (.int .i64 (cMat (inO F n) le sp a b))) ∧ Hid (Below wr.heap.size wr wx))
          case first =>
            refine wp_region_G (fun w' => w'.cell? (z.add t) = some (.int .i64 l) ∧ w'.cell? ⟨w.heap.size, 0, none⟩ = some (.int .i64 ls) ∧ w'.cell? ⟨w.heap.size, 1, none⟩ = some (.int .i64 le) ∧ w'.cell? ⟨w.heap.size, 2, none⟩ = some (.int .i64 sp)) 15 (by kernel_rfl) ?_
            have hS : wr.drew.cell? (z.add t) = some (.int .i64 l) ∧ wr.drew.cell? ⟨w.heap.size, 0, none⟩ = some (.int .i64 ls) ∧ wr.drew.cell? ⟨w.heap.size, 1, none⟩ = some (.int .i64 le) ∧ wr.drew.cell? ⟨w.heap.size, 2, none⟩ = some (.int .i64 sp) := ⟨cellDr cz, cellDr s0, cellDr s1, cellDr s2⟩
            refine wpAnyG_take (i := 0) (oi := _) (v := .slice p n c) rfl (by kernel_rfl) (by kernel_rfl) (by kernel_rfl) (by kernel_rfl) (by kernel_rfl) (by decide) (fun _ _ _ h => h) (by rfl) (fun w' hw' => ?_) hS ?_
            · obtain ⟨h1, h2, h3, h4⟩ := hw'
              go_simp
            try simp only [Act.put, List.setIfInBounds_toArray, List.set_cons_zero, List.set_cons_succ]
            refine wpAnyG_take (i := 1) (oi := _) (v := .slice q2 n d2) rfl (by kernel_rfl) (by kernel_rfl) (by kernel_rfl) (by kernel_rfl) (by kernel_rfl) (by decide) (fun _ _ _ h => h) (by rfl) (fun w' hw' => ?_) hS ?_
            · obtain ⟨h1, h2, h3, h4⟩ := hw'
              go_simp
            try simp only [Act.put, List.setIfInBounds_toArray, List.set_cons_zero, List.set_cons_succ]
            refine wpAnyG_take (i := 2) (oi := _) (v := .int .i64 (a : Int)) rfl (by kernel_rfl) (by kernel_rfl) (by kernel_rfl) (by kernel_rfl) (by kernel_rfl) (by decide) (fun _ _ _ h => h) (by rfl) (fun w' hw' => ?_) hS ?_
            · obtain ⟨h1, h2, h3, h4⟩ := hw'
              go_simp
            try simp only [Act.put, List.setIfInBounds_toArray, List.set_cons_zero, List.set_cons_succ]
            refine wpAnyG_take (i := 3) (oi := _) (v := .int .i64 (a : Int)) rfl (by kernel_rfl) (by kernel_rfl) (by kernel_rfl) (by kernel_rfl) (by kernel_rfl) (by decide) (fun _ _ _ h => h) (by rfl) (fun w' hw' => ?_) hS ?_
            · obtain ⟨h1, h2, h3, h4⟩ := hw'
              go_simp
            try simp only [Act.put, List.setIfInBounds_toArray, List.set_cons_zero, List.set_cons_succ]
            refine wpAnyG_take (i := 4) (oi := _) (v := .slice (some z) i d) rfl (by kernel_rfl) (by kernel_rfl) (by kernel_rfl) (by kernel_rfl) (by kernel_rfl) (by decide) (fun _ _ _ h => h) (by rfl) (fun w' hw' => ?_) hS ?_
            · obtain ⟨h1, h2, h3, h4⟩ := hw'
              go_simp
            try simp only [Act.put, List.setIfInBounds_toArray, List.set_cons_zero, List.set_cons_succ]
            refine wpAnyG_take (i := 5) (oi := _) (v := .int .i64 (t : Int)) rfl (by kernel_rfl) (by kernel_rfl) (by kernel_rfl) (by kernel_rfl) (by kernel_rfl) (by decide) (fun _ _ _ h => h) (by rfl) (fun w' hw' => ?_) hS ?_
            · obtain ⟨h1, h2, h3, h4⟩ := hw'
              go_simp
            try simp only [Act.put, List.setIfInBounds_toArray, List.set_cons_zero, List.set_cons_succ]
            refine wpAnyG_take (i := 6) (oi := _) (v := .pointer (some (z.add t))) rfl (by kernel_rfl) (by kernel_rfl) (by kernel_rfl) (by kernel_rfl) (by kernel_rfl) (by decide) (fun _ _ _ h => h) (by rfl) (fun w' hw' => ?_) hS ?_
            · obtain ⟨h1, h2, h3, h4⟩ := hw'
              go_simp
            try simp only [Act.put, List.setIfInBounds_toArray, List.set_cons_zero, List.set_cons_succ]
            refine wpAnyG_take (i := 7) (oi := _) (v := .int .i64 l) rfl (by kernel_rfl) (by kernel_rfl) (by kernel_rfl) (by kernel_rfl) (by kernel_rfl) (by decide) (fun _ _ _ h => h) (by rfl) (fun w' hw' => ?_) hS ?_
            · obtain ⟨h1, h2, h3, h4⟩ := hw'
              go_simp
            try simp only [Act.put, List.setIfInBounds_toArray, List.set_cons_zero, List.set_cons_succ]
            refine wpAnyG_take (i := 8) (oi := _) (v := .int .i64 (b : Int)) rfl (by kernel_rfl) (by kernel_rfl) (by kernel_rfl) (by kernel_rfl) (by kernel_rfl) (by decide) (fun _ _ _ h => h) (by rfl) (fun w' hw' => ?_) hS ?_
            · obtain ⟨h1, h2, h3, h4⟩ := hw'
              go_simp
            try simp only [Act.put, List.setIfInBounds_toArray, List.set_cons_zero, List.set_cons_succ]
            refine wpAnyG_take (i := 9) (oi := _) (v := .agg #[.int .i64 ls, .int .i64 le, .int .i64 sp]) rfl (by kernel_rfl) (by kernel_rfl) (by kernel_rfl) (by kernel_rfl) (by kernel_rfl) (by decide) (fun _ _ _ h => h) (by rfl) (fun w' hw' => ?_) hS ?_
            · obtain ⟨h1, h2, h3, h4⟩ := hw'
              go_simp
            try simp only [Act.put, List.setIfInBounds_toArray, List.set_cons_zero, List.set_cons_succ]
            have RC : RdC z w.heap.size t l ls le sp wr := ⟨cz, s0, s1, s2⟩
            refine wpAnyG_two (i := 10) (j := 14) (o := _) (p := _) (by kernel_rfl) rfl rfl (fun KK hK => ?_) (fun KK hK => ?_)
            · go_simp
              refine (CL.out _ (Below.refl _ _).drew).mono ?_
              rintro e w5 ⟨q5, d5, rfl, q6⟩
              have b5 := Lib.hid (show Below wr.heap.size wr w5 from (Below.refl _ _).drew.trans q6)
              have RC5 := Lib.hid (RC.below b5.out)
              have RCA := Lib.hid (fun o => RC5.out.below ((Below.refl _ w5).alloc (Nat.le_refl _) o))
              refine hK.out _ _ (fun _ => RC5.out) ?_
              try simp only [Act.put, List.setIfInBounds_toArray, List.set_cons_zero, List.set_cons_succ]
              clear hK q6
              have hS5 := RC5.out
              refine wpAnyG_take (i := 11) (oi := _) (v := .tuple #[lnV (inO F n a) (.slice q5 (b - a) d5) (mas (inO F n) a b) (cen (inO F n) a b) (cMat (inO F n) le sp a b), .bool true]) rfl (by kernel_rfl) (by kernel_rfl) (by kernel_rfl) (by kernel_rfl) (by kernel_rfl) (by decide) (fun _ _ _ h => h) (by rfl) (fun w' hw' => ?_) hS5 ?_
              · obtain ⟨h1, h2, h3, h4⟩ := hw'
                go_simp
              try simp only [Act.put, List.setIfInBounds_toArray, List.set_cons_zero, List.set_cons_succ]
              refine wpAnyG_take (i := 12) (oi := _) (v := lnV (inO F n a) (.slice q5 (b - a) d5) (mas (inO F n) a b) (cen (inO F n) a b) (cMat (inO F n) le sp a b)) rfl (by kernel_rfl) (by kernel_rfl) (by kernel_rfl) (by kernel_rfl) (by kernel_rfl) (by decide) (fun _ _ _ h => h) (by rfl) (fun w' hw' => ?_) hS5 ?_
              · obtain ⟨h1, h2, h3, h4⟩ := hw'
                go_simp
              try simp only [Act.put, List.setIfInBounds_toArray, List.set_cons_zero, List.set_cons_succ]
              unfold lnV
              refine wpAnyG_two (i := 13) (j := 14) (o := _) (p := _) (by kernel_rfl) rfl rfl (fun KK hK => ?_) (fun KK hK => ?_)
              · go_simp
                refine hK.out _ _ (fun _ => RC5.out) ?_
                try simp only [Act.put, List.setIfInBounds_toArray, List.set_cons_zero, List.set_cons_succ]
                clear hK
                refine wpAnyG_one (i := 14) (o := _) (by kernel_rfl) rfl (fun KK hK => ?_)
                go_simp
                refine hK.out _ _ (fun _ => RC5.out.below ((Below.refl _ _).alloc (Nat.le_refl _) _)) ?_
                try simp only [Act.put, List.setIfInBounds_toArray, List.set_cons_zero, List.set_cons_succ]
                clear hK
                refine wpAnyG_one (i := 15) (o := _) (by kernel_rfl) rfl (fun KK hK => ?_)
                go_simp
                refine hK.out _ _ (fun h => absurd h (by decide)) ?_
                try simp only [Act.put, List.setIfInBounds_toArray, List.set_cons_zero, List.set_cons_succ]
                clear hK
                refine wpAnyG_one (i := 16) (o := _) (by kernel_rfl) rfl (fun KK hK => ?_)
                go_simp
                refine hK.out _ _ (fun h => absurd h (by decide)) ?_
                try simp only [Act.put, List.setIfInBounds_toArray, List.set_cons_zero, List.set_cons_succ]
                clear hK
                refine wpAnyG_done (by kernel_rfl) ?_ _
                go_wp2_with fail
                go_meet
                exact ⟨_, rfl, rfl, Lib.hid (by simp [go_sem]), Lib.hid (by first | exact b5.out.alloc b5.out.size _ | exact (b5.out.alloc b5.out.size _).drew)⟩
              · go_simp
                refine hK.out _ _ (fun _ => RC5.out.below ((Below.refl _ _).alloc (Nat.le_refl _) _)) ?_
                try simp only [Act.put, List.setIfInBounds_toArray, List.set_cons_zero, List.set_cons_succ]
                clear hK
                refine wpAnyG_two (i := 13) (j := 15) (o := _) (p := _) (by kernel_rfl) rfl rfl (fun KK hK => ?_) (fun KK hK => ?_)
                · go_simp
                  refine hK.out _ _ (fun _ => RC5.out.below ((Below.refl _ _).alloc (Nat.le_refl _) _)) ?_
                  try simp only [Act.put, List.setIfInBounds_toArray, List.set_cons_zero, List.set_cons_succ]
                  clear hK
                  refine wpAnyG_one (i := 15) (o := _) (by kernel_rfl) rfl (fun KK hK => ?_)
                  go_simp
                  refine hK.out _ _ (fun h => absurd h (by decide)) ?_
                  try simp only [Act.put, List.setIfInBounds_toArray, List.set_cons_zero, List.set_cons_succ]
                  clear hK
                  refine wpAnyG_one (i := 16) (o := _) (by kernel_rfl) rfl (fun KK hK => ?_)
                  go_simp
                  refine hK.out _ _ (fun h => absurd h (by decide)) ?_
                  try simp only [Act.put, List.setIfInBounds_toArray, List.set_cons_zero, List.set_cons_succ]
                  clear hK
                  refine wpAnyG_done (by kernel_rfl) ?_ _
                  go_wp2_with fail
                  go_meet
                  exact ⟨_, rfl, rfl, Lib.hid (by simp [go_sem]), Lib.hid (by first | exact b5.out.alloc b5.out.size _ | exact (b5.out.alloc b5.out.size _).drew)⟩
                · go_simp
                  refine hK.out _ _ (fun h => absurd h (by decide)) ?_
                  try simp only [Act.put, List.setIfInBounds_toArray, List.set_cons_zero, List.set_cons_succ]
                  clear hK
                  refine wpAnyG_one (i := 13) (o := _) (by kernel_rfl) rfl (fun KK hK => ?_)
                  go_simp
                  refine hK.out _ _ (fun _ => RCA.out _) ?_
                  try simp only [Act.put, List.setIfInBounds_toArray, List.set_cons_zero, List.set_cons_succ]
                  clear hK
                  refine wpAnyG_one (i := 16) (o := _) (by kernel_rfl) rfl (fun KK hK => ?_)
                  go_simp
                  refine hK.out _ _ (fun h => absurd h (by decide)) ?_
                  try simp only [Act.put, List.setIfInBounds_toArray, List.set_cons_zero, List.set_cons_succ]
                  clear hK
                  refine wpAnyG_done (by kernel_rfl) ?_ _
                  go_wp2_with fail
                  go_meet
                  exact ⟨_, rfl, rfl, Lib.hid (by simp [go_sem]), Lib.hid (by first | exact b5.out.alloc b5.out.size _ | exact (b5.out.alloc b5.out.size _).drew)⟩
            · go_simp
              have RA := RC.below ((Below.refl _ wr).alloc (Nat.le_refl _) (Obj.cells #[.int .u8 0, .int .u8 0, .int .u8 0, .int .u8 0, .slice none 0 0, .int .i64 0, .int .i64 0, .int .i64 0] 38))
              refine hK.out _ _ (fun _ => RA) ?_
              try simp only [Act.put, List.setIfInBounds_toArray, List.set_cons_zero, List.set_cons_succ]
              clear hK
              refine wpAnyG_one (i := 10) (o := _) (by kernel_rfl) rfl (fun KK hK => ?_)
              go_simp
              refine (CL.out _ (by first | exact ((Below.refl _ _).alloc (Nat.le_refl _) _).drew | exact (Below.refl _ _).drew.alloc (Nat.le_refl _) _)).mono ?_
              rintro e w5 ⟨q5, d5, rfl, q6⟩
              have q7 : Below (wr.alloc (Obj.cells #[.int .u8 0, .int .u8 0, .int .u8 0, .int .u8 0, .slice none 0 0, .int .i64 0, .int .i64 0, .int .i64 0] 38)).heap.size (wr.alloc (Obj.cells #[.int .u8 0, .int .u8 0, .int .u8 0, .int .u8 0, .slice none 0 0, .int .i64 0, .int .i64 0, .int .i64 0] 38)) w5 := (Below.refl _ _).drew.trans q6
              have b5 := Lib.hid (show Below wr.heap.size wr w5 from ((Below.refl _ wr).alloc (Nat.le_refl _) _).trans (q7.mono (by simp)))
              have OZ := (obZ wr).below q7
              have RC5 := Lib.hid (RA.below q7)
              refine hK.out _ _ (fun _ => RC5.out) ?_
              try simp only [Act.put, List.setIfInBounds_toArray, List.set_cons_zero, List.set_cons_succ]
              clear hK q6
              have hS5 := RC5.out
              refine wpAnyG_take (i := 11) (oi := _) (v := .tuple #[lnV (inO F n a) (.slice q5 (b - a) d5) (mas (inO F n) a b) (cen (inO F n) a b) (cMat (inO F n) le sp a b), .bool true]) rfl (by kernel_rfl) (by kernel_rfl) (by kernel_rfl) (by kernel_rfl) (by kernel_rfl) (by decide) (fun _ _ _ h => h) (by rfl) (fun w' hw' => ?_) hS5 ?_
              · obtain ⟨h1, h2, h3, h4⟩ := hw'
                go_simp
              try simp only [Act.put, List.setIfInBounds_toArray, List.set_cons_zero, List.set_cons_succ]
              refine wpAnyG_take (i := 12) (oi := _) (v := lnV (inO F n a) (.slice q5 (b - a) d5) (mas (inO F n) a b) (cen (inO F n) a b) (cMat (inO F n) le sp a b)) rfl (by kernel_rfl) (by kernel_rfl) (by kernel_rfl) (by kernel_rfl) (by kernel_rfl) (by decide) (fun _ _ _ h => h) (by rfl) (fun w' hw' => ?_) hS5 ?_
              · obtain ⟨h1, h2, h3, h4⟩ := hw'
                go_simp
              try simp only [Act.put, List.setIfInBounds_toArray, List.set_cons_zero, List.set_cons_succ]
              have v0 : w5.cell? ⟨wr.heap.size, 0, none⟩ = some (.int .u8 0) := OZ.cell (k := 0) (by decide)
              have y0 := OZ.frozen 0
              have v1 : w5.cell? ⟨wr.heap.size, 1, none⟩ = some (.int .u8 0) := OZ.cell (k := 1) (by decide)
              have y1 := OZ.frozen 1
              have v2 : w5.cell? ⟨wr.heap.size, 2, none⟩ = some (.int .u8 0) := OZ.cell (k := 2) (by decide)
              have y2 := OZ.frozen 2
              have v3 : w5.cell? ⟨wr.heap.size, 3, none⟩ = some (.int .u8 0) := OZ.cell (k := 3) (by decide)
              have y3 := OZ.frozen 3
              have v4 : w5.cell? ⟨wr.heap.size, 4, none⟩ = some (.slice none 0 0) := OZ.cell (k := 4) (by decide)
              have y4 := OZ.frozen 4
              have v5 : w5.cell? ⟨wr.heap.size, 5, none⟩ = some (.int .i64 0) := OZ.cell (k := 5) (by decide)
              have y5 := OZ.frozen 5
              have v6 : w5.cell? ⟨wr.heap.size, 6, none⟩ = some (.int .i64 0) := OZ.cell (k := 6) (by decide)
              have y6 := OZ.frozen 6
              have v7 : w5.cell? ⟨wr.heap.size, 7, none⟩ = some (.int .i64 0) := OZ.cell (k := 7) (by decide)
              have y7 := OZ.frozen 7
              have FS := fm_setL w5 wr.heap.size (inO F n a) (.slice q5 (b - a) d5) (mas (inO F n) a b) (cen (inO F n) a b) (cMat (inO F n) le sp a b)
              have RZ := rl_all OZ (inO F n a) (.slice q5 (b - a) d5) (mas (inO F n) a b) (cen (inO F n) a b) (cMat (inO F n) le sp a b)
              have BS := Lib.hid (fm_below b5.out FS (Nat.le_refl _) OZ.lt)
              have RCS := Lib.hid (show RdC z w.heap.size t l ls le sp (setL w5 wr.heap.size (inO F n a) (.slice q5 (b - a) d5) (mas (inO F n) a b) (cen (inO F n) a b) (cMat (inO F n) le sp a b)) from RC.below BS.out)
              have C7 := Lib.hid (show (setL w5 wr.heap.size (inO F n a) (.slice q5 (b - a) d5) (mas (inO F n) a b) (cen (inO F n) a b) (cMat (inO F n) le sp a b)).cell? ⟨wr.heap.size, 7, none⟩ = some (.int .i64 (cMat (inO F n) le sp a b)) from by simp [World.cell?, RZ])
              unfold setL at C7 BS RCS
              clear RZ FS
              unfold lnV
              refine wpAnyG_two (i := 13) (j := 15) (o := _) (p := _) (by kernel_rfl) rfl rfl (fun KK hK => ?_) (fun KK hK => ?_)
              · go_simp
                refine hK.out _ _ (fun _ => RC5.out) ?_
                try simp only [Act.put, List.setIfInBounds_toArray, List.set_cons_zero, List.set_cons_succ]
                clear hK
                refine wpAnyG_one (i := 15) (o := _) (by kernel_rfl) rfl (fun KK hK => ?_)
                go_simp
                refine hK.out _ _ (fun h => absurd h (by decide)) ?_
                try simp only [Act.put, List.setIfInBounds_toArray, List.set_cons_zero, List.set_cons_succ]
                clear hK
                refine wpAnyG_one (i := 16) (o := _) (by kernel_rfl) rfl (fun KK hK => ?_)
                go_simp
                refine hK.out _ _ (fun h => absurd h (by decide)) ?_
                try simp only [Act.put, List.setIfInBounds_toArray, List.set_cons_zero, List.set_cons_succ]
                clear hK
                refine wpAnyG_done (by kernel_rfl) ?_ _
                go_wp2_with fail
                go_meet
                exact ⟨_, rfl, rfl, C7, BS⟩
              · go_simp
                refine hK.out _ _ (fun h => absurd h (by decide)) ?_
                try simp only [Act.put, List.setIfInBounds_toArray, List.set_cons_zero, List.set_cons_succ]
                clear hK
                refine wpAnyG_one (i := 13) (o := _) (by kernel_rfl) rfl (fun KK hK => ?_)
                go_simp
                refine hK.out _ _ (fun _ => RCS.out) ?_
                try simp only [Act.put, List.setIfInBounds_toArray, List.set_cons_zero, List.set_cons_succ]
                clear hK
                refine wpAnyG_one (i := 16) (o := _) (by kernel_rfl) rfl (fun KK hK => ?_)
                go_simp
                refine hK.out _ _ (fun h => absurd h (by decide)) ?_
                try simp only [Act.put, List.setIfInBounds_toArray, List.set_cons_zero, List.set_cons_succ]
                clear hK
                refine wpAnyG_done (by kernel_rfl) ?_ _
                go_wp2_with fail
                go_meet
                exact ⟨_, rfl, rfl, C7, BS⟩
          case rest =>
            obtain ⟨gz, rfl, rfl, C7, BW⟩ := hcut
            have c7 := C7.out
            have cz := cellGr BW.out cz
            have HW2 := Lib.hid (HW.out.trans (BW.out.mono HW.out.size))
            have z4 := line_nn (n := n) (inO_ok FOK.out) BN.out il
            have hn := HN.out
            have CN2 := Lib.hid (show cst (cMat (inO F n) le sp) L (t + 1) = cst (cMat (inO F n) le sp) L t + cMat (inO F n) le sp a b from by rw [CN.out]; exact both_pos hn z4)
            have CN3 := Lib.hid (show cst (cMat (inO F n) le sp) L (t + 1) ≠ -1 from by rw [CN2.out]; omega)
            have e2 : IntKind.i64.wrap (cst (cMat (inO F n) le sp) L t + cMat (inO F n) le sp a b) = cst (cMat (inO F n) le sp) L t + cMat (inO F n) le sp a b := hwI (by omega) (by
              have : 1503238553600000 * (t : Int) ≤ 1503238553600000 * 300 := Int.mul_le_mul_of_nonneg_left (by omega) (by omega)
              omega)
            clear CN CZ cb cb2 sb sb2 hn z4 il C7 BW HW s0 s1 s2 CL
            generalize cMat (inO F n) le sp a b = u at *
            generalize cst (cMat (inO F n) le sp) L t = v at *
            go_wp2_with fail
            go_roundw
            case rel => exact ⟨t + 1, by omega, by go_num, by rw [HBB.out], by rw [CN2.out], CN3, HW2⟩
            case measure => simp [intOf]; omega
        have CLy := Lib.hid (fun W (bw : Below wr.heap.size wr W) => lnQ_no (CL.out W bw) il)
        clear CL
        replace CL := CLy
        clear CLy
        have E := Lib.hid (coV_4 Z1.out Z2.out (Int.not_lt.2 Z3.out) (CZ.out (by unfold cMat lnc; rw [if_pos ABL.out, if_neg il])))
        clear CZ CN cb cb2 sb sb2 il
        go_upto_region 22 with fail
        go_cut [15, 16] from 68 to 82 (fun p15 b16 wx => ∃ gz, p15 = .pointer (some ⟨gz, 0, none⟩) ∧ b16 = .bool false ∧ Hid (Below wr.heap.size wr wx))
        case first =>
          refine wp_region_G (fun w' => w'.cell? (z.add t) = some (.int .i64 l) ∧ w'.cell? ⟨w.heap.size, 0, none⟩ = some (.int .i64 ls) ∧ w'.cell? ⟨w.heap.size, 1, none⟩ = some (.int .i64 le) ∧ w'.cell? ⟨w.heap.size, 2, none⟩ = some (.int .i64 sp)) 15 (by kernel_rfl) ?_
          have hS : wr.drew.cell? (z.add t) = some (.int .i64 l) ∧ wr.drew.cell? ⟨w.heap.size, 0, none⟩ = some (.int .i64 ls) ∧ wr.drew.cell? ⟨w.heap.size, 1, none⟩ = some (.int .i64 le) ∧ wr.drew.cell? ⟨w.heap.size, 2, none⟩ = some (.int .i64 sp) := ⟨cellDr cz, cellDr s0, cellDr s1, cellDr s2⟩
          refine wpAnyG_take (i := 0) (oi := _) (v := .slice p n c) rfl (by kernel_rfl) (by kernel_rfl) (by kernel_rfl) (by kernel_rfl) (by kernel_rfl) (by decide) (fun _ _ _ h => h) (by rfl) (fun w' hw' => ?_) hS ?_
          · obtain ⟨h1, h2, h3, h4⟩ := hw'
            go_simp
          try simp only [Act.put, List.setIfInBounds_toArray, List.set_cons_zero, List.set_cons_succ]
          refine wpAnyG_take (i := 1) (oi := _) (v := .slice q2 n d2) rfl (by kernel_rfl) (by kernel_rfl) (by kernel_rfl) (by kernel_rfl) (by kernel_rfl) (by decide) (fun _ _ _ h => h) (by rfl) (fun w' hw' => ?_) hS ?_
          · obtain ⟨h1, h2, h3, h4⟩ := hw'
            go_simp
          try simp only [Act.put, List.setIfInBounds_toArray, List.set_cons_zero, List.set_cons_succ]
          refine wpAnyG_take (i := 2) (oi := _) (v := .int .i64 (a : Int)) rfl (by kernel_rfl) (by kernel_rfl) (by kernel_rfl) (by kernel_rfl) (by kernel_rfl) (by decide) (fun _ _ _ h => h) (by rfl) (fun w' hw' => ?_) hS ?_
          · obtain ⟨h1, h2, h3, h4⟩ := hw'
            go_simp
          try simp only [Act.put, List.setIfInBounds_toArray, List.set_cons_zero, List.set_cons_succ]
          refine wpAnyG_take (i := 3) (oi := _) (v := .int .i64 (a : Int)) rfl (by kernel_rfl) (by kernel_rfl) (by kernel_rfl) (by kernel_rfl) (by kernel_rfl) (by decide) (fun _ _ _ h => h) (by rfl) (fun w' hw' => ?_) hS ?_
          · obtain ⟨h1, h2, h3, h4⟩ := hw'
            go_simp
          try simp only [Act.put, List.setIfInBounds_toArray, List.set_cons_zero, List.set_cons_succ]
          refine wpAnyG_take (i := 4) (oi := _) (v := .slice (some z) i d) rfl (by kernel_rfl) (by kernel_rfl) (by kernel_rfl) (by kernel_rfl) (by kernel_rfl) (by decide) (fun _ _ _ h => h) (by rfl) (fun w' hw' => ?_) hS ?_
          · obtain ⟨h1, h2, h3, h4⟩ := hw'
            go_simp
          try simp only [Act.put, List.setIfInBounds_toArray, List.set_cons_zero, List.set_cons_succ]
          refine wpAnyG_take (i := 5) (oi := _) (v := .int .i64 (t : Int)) rfl (by kernel_rfl) (by kernel_rfl) (by kernel_rfl) (by kernel_rfl) (by kernel_rfl) (by decide) (fun _ _ _ h => h) (by rfl) (fun w' hw' => ?_) hS ?_
          · obtain ⟨h1, h2, h3, h4⟩ := hw'
            go_simp
          try simp only [Act.put, List.setIfInBounds_toArray, List.set_cons_zero, List.set_cons_succ]
          refine wpAnyG_take (i := 6) (oi := _) (v := .pointer (some (z.add t))) rfl (by kernel_rfl) (by kernel_rfl) (by kernel_rfl) (by kernel_rfl) (by kernel_rfl) (by decide) (fun _ _ _ h => h) (by rfl) (fun w' hw' => ?_) hS ?_
          · obtain ⟨h1, h2, h3, h4⟩ := hw'
            go_simp
          try simp only [Act.put, List.setIfInBounds_toArray, List.set_cons_zero, List.set_cons_succ]
          refine wpAnyG_take (i := 7) (oi := _) (v := .int .i64 l) rfl (by kernel_rfl) (by kernel_rfl) (by kernel_rfl) (by kernel_rfl) (by kernel_rfl) (by decide) (fun _ _ _ h => h) (by rfl) (fun w' hw' => ?_) hS ?_
          · obtain ⟨h1, h2, h3, h4⟩ := hw'
            go_simp
          try simp only [Act.put, List.setIfInBounds_toArray, List.set_cons_zero, List.set_cons_succ]
          refine wpAnyG_take (i := 8) (oi := _) (v := .int .i64 (b : Int)) rfl (by kernel_rfl) (by kernel_rfl) (by kernel_rfl) (by kernel_rfl) (by kernel_rfl) (by decide) (fun _ _ _ h => h) (by rfl) (fun w' hw' => ?_) hS ?_
          · obtain ⟨h1, h2, h3, h4⟩ := hw'
            go_simp
          try simp only [Act.put, List.setIfInBounds_toArray, List.set_cons_zero, List.set_cons_succ]
          refine wpAnyG_take (i := 9) (oi := _) (v := .agg #[.int .i64 ls, .int .i64 le, .int .i64 sp]) rfl (by kernel_rfl) (by kernel_rfl) (by kernel_rfl) (by kernel_rfl) (by kernel_rfl) (by decide) (fun _ _ _ h => h) (by rfl) (fun w' hw' => ?_) hS ?_
          · obtain ⟨h1, h2, h3, h4⟩ := hw'
            go_simp
          try simp only [Act.put, List.setIfInBounds_toArray, List.set_cons_zero, List.set_cons_succ]
          have RC : RdC z w.heap.size t l ls le sp wr := ⟨cz, s0, s1, s2⟩
          refine wpAnyG_two (i := 10) (j := 14) (o := _) (p := _) (by kernel_rfl) rfl rfl (fun KK hK => ?_) (fun KK hK => ?_)
          · go_simp
            refine (CL.out _ (Below.refl _ _).drew).mono ?_
            rintro e w5 ⟨rfl, q6⟩
            have b5 := Lib.hid (show Below wr.heap.size wr w5 from (Below.refl _ _).drew.trans q6)
            have RC5 := Lib.hid (RC.below b5.out)
            have RCA := Lib.hid (fun o => RC5.out.below ((Below.refl _ w5).alloc (Nat.le_refl _) o))
            refine hK.out _ _ (fun _ => RC5.out) ?_
            try simp only [Act.put, List.setIfInBounds_toArray, List.set_cons_zero, List.set_cons_succ]
            clear hK q6
            have hS5 := RC5.out
            refine wpAnyG_take (i := 11) (oi := _) (v := .tuple #[lnZ, .bool false]) rfl (by kernel_rfl) (by kernel_rfl) (by kernel_rfl) (by kernel_rfl) (by kernel_rfl) (by decide) (fun _ _ _ h => h) (by rfl) (fun w' hw' => ?_) hS5 ?_
            · obtain ⟨h1, h2, h3, h4⟩ := hw'
              go_simp
            try simp only [Act.put, List.setIfInBounds_toArray, List.set_cons_zero, List.set_cons_succ]
            refine wpAnyG_take (i := 12) (oi := _) (v := lnZ) rfl (by kernel_rfl) (by kernel_rfl) (by kernel_rfl) (by kernel_rfl) (by kernel_rfl) (by decide) (fun _ _ _ h => h) (by rfl) (fun w' hw' => ?_) hS5 ?_
            · obtain ⟨h1, h2, h3, h4⟩ := hw'
              go_simp
            try simp only [Act.put, List.setIfInBounds_toArray, List.set_cons_zero, List.set_cons_succ]
            unfold lnZ
            refine wpAnyG_two (i := 13) (j := 14) (o := _) (p := _) (by kernel_rfl) rfl rfl (fun KK hK => ?_) (fun KK hK => ?_)
            · go_simp
              refine hK.out _ _ (fun _ => RC5.out) ?_
              try simp only [Act.put, List.setIfInBounds_toArray, List.set_cons_zero, List.set_cons_succ]
              clear hK
              refine wpAnyG_one (i := 14) (o := _) (by kernel_rfl) rfl (fun KK hK => ?_)
              go_simp
              refine hK.out _ _ (fun _ => RC5.out.below ((Below.refl _ _).alloc (Nat.le_refl _) _)) ?_
              try simp only [Act.put, List.setIfInBounds_toArray, List.set_cons_zero, List.set_cons_succ]
              clear hK
              refine wpAnyG_one (i := 15) (o := _) (by kernel_rfl) rfl (fun KK hK => ?_)
              go_simp
              refine hK.out _ _ (fun h => absurd h (by decide)) ?_
              try simp only [Act.put, List.setIfInBounds_toArray, List.set_cons_zero, List.set_cons_succ]
              clear hK
              refine wpAnyG_one (i := 16) (o := _) (by kernel_rfl) rfl (fun KK hK => ?_)
              go_simp
              refine hK.out _ _ (fun h => absurd h (by decide)) ?_
              try simp only [Act.put, List.setIfInBounds_toArray, List.set_cons_zero, List.set_cons_succ]
              clear hK
              refine wpAnyG_done (by kernel_rfl) ?_ _
              go_wp2_with fail
              go_meet
              exact ⟨_, rfl, rfl, Lib.hid (by first | exact b5.out.alloc b5.out.size _ | exact (b5.out.alloc b5.out.size _).drew)⟩
            · go_simp
              refine hK.out _ _ (fun _ => RC5.out.below ((Below.refl _ _).alloc (Nat.le_refl _) _)) ?_
              try simp only [Act.put, List.setIfInBounds_toArray, List.set_cons_zero, List.set_cons_succ]
              clear hK
              refine wpAnyG_two (i := 13) (j := 15) (o := _) (p := _) (by kernel_rfl) rfl rfl (fun KK hK => ?_) (fun KK hK => ?_)
              · go_simp
                refine hK.out _ _ (fun _ => RC5.out.below ((Below.refl _ _).alloc (Nat.le_refl _) _)) ?_
                try simp only [Act.put, List.setIfInBounds_toArray, List.set_cons_zero, List.set_cons_succ]
                clear hK
                refine wpAnyG_one (i := 15) (o := _) (by kernel_rfl) rfl (fun KK hK => ?_)
                go_simp
                refine hK.out _ _ (fun h => absurd h (by decide)) ?_
                try simp only [Act.put, List.setIfInBounds_toArray, List.set_cons_zero, List.set_cons_succ]
                clear hK
                refine wpAnyG_one (i := 16) (o := _) (by kernel_rfl) rfl (fun KK hK => ?_)
                go_simp
                refine hK.out _ _ (fun h => absurd h (by decide)) ?_
                try simp only [Act.put, List.setIfInBounds_toArray, List.set_cons_zero, List.set_cons_succ]
                clear hK
                refine wpAnyG_done (by kernel_rfl) ?_ _
                go_wp2_with fail
                go_meet
                exact ⟨_, rfl, rfl, Lib.hid (by first | exact b5.out.alloc b5.out.size _ | exact (b5.out.alloc b5.out.size _).drew)⟩
              · go_simp
                refine hK.out _ _ (fun h => absurd h (by decide)) ?_
                try simp only [Act.put, List.setIfInBounds_toArray, List.set_cons_zero, List.set_cons_succ]
                clear hK
                refine wpAnyG_one (i := 13) (o := _) (by kernel_rfl) rfl (fun KK hK => ?_)
                go_simp
                refine hK.out _ _ (fun _ => RCA.out _) ?_
                try simp only [Act.put, List.setIfInBounds_toArray, List.set_cons_zero, List.set_cons_succ]
                clear hK
                refine wpAnyG_one (i := 16) (o := _) (by kernel_rfl) rfl (fun KK hK => ?_)
                go_simp
                refine hK.out _ _ (fun h => absurd h (by decide)) ?_
                try simp only [Act.put, List.setIfInBounds_toArray, List.set_cons_zero, List.set_cons_succ]
                clear hK
                refine wpAnyG_done (by kernel_rfl) ?_ _
                go_wp2_with fail
                go_meet
                exact ⟨_, rfl, rfl, Lib.hid (by first | exact b5.out.alloc b5.out.size _ | exact (b5.out.alloc b5.out.size _).drew)⟩
          · go_simp
            have RA := RC.below ((Below.refl _ wr).alloc (Nat.le_refl _) (Obj.cells #[.int .u8 0, .int .u8 0, .int .u8 0, .int .u8 0, .slice none 0 0, .int .i64 0, .int .i64 0, .int .i64 0] 38))
            refine hK.out _ _ (fun _ => RA) ?_
            try simp only [Act.put, List.setIfInBounds_toArray, List.set_cons_zero, List.set_cons_succ]
            clear hK
            refine wpAnyG_one (i := 10) (o := _) (by kernel_rfl) rfl (fun KK hK => ?_)
            go_simp
            refine (CL.out _ (by first | exact ((Below.refl _ _).alloc (Nat.le_refl _) _).drew | exact (Below.refl _ _).drew.alloc (Nat.le_refl _) _)).mono ?_
            rintro e w5 ⟨rfl, q6⟩
            have q7 : Below (wr.alloc (Obj.cells #[.int .u8 0, .int .u8 0, .int .u8 0, .int .u8 0, .slice none 0 0, .int .i64 0, .int .i64 0, .int .i64 0] 38)).heap.size (wr.alloc (Obj.cells #[.int .u8 0, .int .u8 0, .int .u8 0, .int .u8 0, .slice none 0 0, .int .i64 0, .int .i64 0, .int .i64 0] 38)) w5 := (Below.refl _ _).drew.trans q6
            have b5 := Lib.hid (show Below wr.heap.size wr w5 from ((Below.refl _ wr).alloc (Nat.le_refl _) _).trans (q7.mono (by simp)))
            have OZ := (obZ wr).below q7
            have RC5 := Lib.hid (RA.below q7)
            refine hK.out _ _ (fun _ => RC5.out) ?_
            try simp only [Act.put, List.setIfInBounds_toArray, List.set_cons_zero, List.set_cons_succ]
            clear hK q6
            have hS5 := RC5.out
            refine wpAnyG_take (i := 11) (oi := _) (v := .tuple #[lnZ, .bool false]) rfl (by kernel_rfl) (by kernel_rfl) (by kernel_rfl) (by kernel_rfl) (by kernel_rfl) (by decide) (fun _ _ _ h => h) (by rfl) (fun w' hw' => ?_) hS5 ?_
            · obtain ⟨h1, h2, h3, h4⟩ := hw'
              go_simp
            try simp only [Act.put, List.setIfInBounds_toArray, List.set_cons_zero, List.set_cons_succ]
            refine wpAnyG_take (i := 12) (oi := _) (v := lnZ) rfl (by kernel_rfl) (by kernel_rfl) (by kernel_rfl) (by kernel_rfl) (by kernel_rfl) (by decide) (fun _ _ _ h => h) (by rfl) (fun w' hw' => ?_) hS5 ?_
            · obtain ⟨h1, h2, h3, h4⟩ := hw'
              go_simp
            try simp only [Act.put, List.setIfInBounds_toArray, List.set_cons_zero, List.set_cons_succ]
            have v0 : w5.cell? ⟨wr.heap.size, 0, none⟩ = some (.int .u8 0) := OZ.cell (k := 0) (by decide)
            have y0 := OZ.frozen 0
            have v1 : w5.cell? ⟨wr.heap.size, 1, none⟩ = some (.int .u8 0) := OZ.cell (k := 1) (by decide)
            have y1 := OZ.frozen 1
            have v2 : w5.cell? ⟨wr.heap.size, 2, none⟩ = some (.int .u8 0) := OZ.cell (k := 2) (by decide)
            have y2 := OZ.frozen 2
            have v3 : w5.cell? ⟨wr.heap.size, 3, none⟩ = some (.int .u8 0) := OZ.cell (k := 3) (by decide)
            have y3 := OZ.frozen 3
            have v4 : w5.cell? ⟨wr.heap.size, 4, none⟩ = some (.slice none 0 0) := OZ.cell (k := 4) (by decide)
            have y4 := OZ.frozen 4
            have v5 : w5.cell? ⟨wr.heap.size, 5, none⟩ = some (.int .i64 0) := OZ.cell (k := 5) (by decide)
            have y5 := OZ.frozen 5
            have v6 : w5.cell? ⟨wr.heap.size, 6, none⟩ = some (.int .i64 0) := OZ.cell (k := 6) (by decide)
            have y6 := OZ.frozen 6
            have v7 : w5.cell? ⟨wr.heap.size, 7, none⟩ = some (.int .i64 0) := OZ.cell (k := 7) (by decide)
            have y7 := OZ.frozen 7
            have FS := fm_setL w5 wr.heap.size fl0 (.slice none 0 0) 0 0 0
            have RZ := rl_all OZ fl0 (.slice none 0 0) 0 0 0
            have BS := Lib.hid (fm_below b5.out FS (Nat.le_refl _) OZ.lt)
            have RCS := Lib.hid (show RdC z w.heap.size t l ls le sp (setL w5 wr.heap.size fl0 (.slice none 0 0) 0 0 0) from RC.below BS.out)
            unfold setL at BS RCS
            clear RZ FS
            unfold lnZ
            refine wpAnyG_two (i := 13) (j := 15) (o := _) (p := _) (by kernel_rfl) rfl rfl (fun KK hK => ?_) (fun KK hK => ?_)
            · go_simp
              refine hK.out _ _ (fun _ => RC5.out) ?_
              try simp only [Act.put, List.setIfInBounds_toArray, List.set_cons_zero, List.set_cons_succ]
              clear hK
              refine wpAnyG_one (i := 15) (o := _) (by kernel_rfl) rfl (fun KK hK => ?_)
              go_simp
              refine hK.out _ _ (fun h => absurd h (by decide)) ?_
              try simp only [Act.put, List.setIfInBounds_toArray, List.set_cons_zero, List.set_cons_succ]
              clear hK
              refine wpAnyG_one (i := 16) (o := _) (by kernel_rfl) rfl (fun KK hK => ?_)
              go_simp
              refine hK.out _ _ (fun h => absurd h (by decide)) ?_
              try simp only [Act.put, List.setIfInBounds_toArray, List.set_cons_zero, List.set_cons_succ]
              clear hK
              refine wpAnyG_done (by kernel_rfl) ?_ _
              go_wp2_with fail
              go_meet
              exact ⟨_, rfl, rfl, BS⟩
            · go_simp
              refine hK.out _ _ (fun h => absurd h (by decide)) ?_
              try simp only [Act.put, List.setIfInBounds_toArray, List.set_cons_zero, List.set_cons_succ]
              clear hK
              refine wpAnyG_one (i := 13) (o := _) (by kernel_rfl) rfl (fun KK hK => ?_)
              go_simp
              refine hK.out _ _ (fun _ => RCS.out) ?_
              try simp only [Act.put, List.setIfInBounds_toArray, List.set_cons_zero, List.set_cons_succ]
              clear hK
              refine wpAnyG_one (i := 16) (o := _) (by kernel_rfl) rfl (fun KK hK => ?_)
              go_simp
              refine hK.out _ _ (fun h => absurd h (by decide)) ?_
              try simp only [Act.put, List.setIfInBounds_toArray, List.set_cons_zero, List.set_cons_succ]
              clear hK
              refine wpAnyG_done (by kernel_rfl) ?_ _
              go_wp2_with fail
              go_meet
              exact ⟨_, rfl, rfl, BS⟩
        case rest =>
          obtain ⟨gz, rfl, rfl, BW⟩ := hcut
          have HH := Lib.hid (HB.out.trans ((HW.out.trans (BW.out.mono HW.out.size)).mono HB.out.size))
          clear BW HW s0 s1 s2 CL cz
          go_wp2_with fail
          go_ret2
          exact ⟨ret_2 (p := (0, 13)) E.out.symm, HH.out⟩
      obtain rfl : t = i := by omega
      have E := Lib.hid (coV_5 Z1.out Z2.out (Int.not_lt.2 Z3.out) HN.out)
      have HH := Lib.hid (HB.out.trans (HW.out.mono HB.out.size))
      generalize cst (cMat (inO F n) le sp) L t = v at *
      go_wp2_with fail
      go_ret2
      exact ⟨ret_2 (p := (v, 0)) E.out.symm, HH.out⟩
end Go.Proofs.Ytmdhmpfagekonaa

/- Classing's lines: the reference's Price. -/
namespace Go.Proofs.Ytmdhmpfagekonaa
open Go.RowKit Go.Proofs.Ytmdhmpfagekonaa.Ct Go.Proofs.Ytmdhmpfagekonaa.Ce Go.Proofs.Ytmdhmpfagekonaa.Stb
set_option linter.unusedVariables false
set_option linter.unusedSimpArgs false

theorem lfm_congr {c c' r : Nat → Int} (i : Nat) : ∀ m, (∀ j, i < j → j ≤ i + m → c j = c' j) → lfm c r i m = lfm c' r i m
  | 0, _ => rfl
  | m + 1, h => by
    show (if lss (both (c (i + m + 1)) (r (i + m + 1))) (lfm c r i m) then both (c (i + m + 1)) (r (i + m + 1)) else lfm c r i m) = (if lss (both (c' (i + m + 1)) (r (i + m + 1))) (lfm c' r i m) then both (c' (i + m + 1)) (r (i + m + 1)) else lfm c' r i m)
    rw [lfm_congr i m (fun j a b => h j a (by omega)), h (i + m + 1) (by omega) (by omega)]
/-- A price on each line, a price on the least. -/
theorem lfm_pr {A : Nat → Fl} {n i : Nat} {le sp p : Int} {R : Nat → Int} (ok : ∀ k, k < n → (A k).ok) (ln : n ≤ 140) (hi : i < n) (hp : 0 ≤ p) (hR : ∀ k, -1 ≤ R k) : lfm (fun j => both (lnc A le sp i j) p) R i (n - i) = both (lfm (cMat A le sp i) R i (n - i)) p := by
  let c0 : Nat → Int := fun j => if j ≤ n then cMat A le sp i j else 0
  have h0 : ∀ k, -1 ≤ c0 k := fun k => by
    show -1 ≤ (if k ≤ n then cMat A le sp i k else 0)
    by_cases h : k ≤ n
    · rw [if_pos h]; exact (cMat_bd ok ln h).1
    · rw [if_neg h]; omega
  rw [lfm_congr (c := cMat A le sp i) (c' := c0) i (n - i) (fun j a b => by show _ = (if j ≤ n then cMat A le sp i j else 0); rw [if_pos (by omega)])]
  rw [(lfm_price (c := c0) (rest := R) (p := p) i hp h0 hR (n - i)).2]
  refine lfm_congr i _ (fun j a b => ?_)
  show both (lnc A le sp i j) p = both (if j ≤ n then cMat A le sp i j else 0) p
  rw [if_pos (by omega)]
  unfold cMat
  rw [if_pos a]

set_option maxRecDepth 100000 in
set_option maxHeartbeats 16000000 in
theorem rPrice_any (p : Option Addr) (c n : Nat) (F : Nat → Fl) (ls le sp pr : Int) (w : World) (r : FlR w p n F) (ln : n ≤ 140) (kok : ∀ k, k < n → (F k).kok) :
    Calls Try.prog 23 #[.slice p n c, .agg #[.int .i64 ls, .int .i64 le, .int .i64 sp], .int .i64 pr] w fun e w' => e = .returned (.tuple #[.int .i64 (prV ls le sp F n pr).1, .int .i64 (prV ls le sp F n pr).2]) ∧ Below w.heap.size w w' := by
  obtain ⟨i0, hi, hz0, hz1, hz2⟩ := info_parts intInfo
  have R := Lib.hid r
  have KOK := Lib.hid kok
  have B1 := Lib.hid (show Below w.heap.size w (w.alloc (Obj.cells #[.int .i64 ls, .int .i64 le, .int .i64 sp] 24)) from (Below.refl _ _).alloc (Nat.le_refl _) _)
  have OS := Lib.hid (spBx w ls le sp)
  clear r kok
  go_enter Try.func23, Try.ntmps23
  go_upto_region 1 with fail
  generalize (w.alloc (Obj.cells #[.int .i64 ls, .int .i64 le, .int .i64 sp] 24)) = wa at *
  have s0 : wa.cell? ⟨w.heap.size, 0, none⟩ = some (.int .i64 ls) := OS.out.cell (k := 0) (by decide)
  have s1 : wa.cell? ⟨w.heap.size, 1, none⟩ = some (.int .i64 le) := OS.out.cell (k := 1) (by decide)
  have s2 : wa.cell? ⟨w.heap.size, 2, none⟩ = some (.int .i64 sp) := OS.out.cell (k := 2) (by decide)
  have C1 := Lib.hid (errors_any p c n F ls le sp wa (R.out.below B1.out) (by omega))
  go_wp2_with fail
  refine C1.out.mono ?_
  rintro e w1 ⟨rfl, b1⟩
  have HB := Lib.hid (B1.out.trans (b1.mono B1.out.size))
  have OS1 := Lib.hid (OS.out.below b1)
  clear b1 C1 s0 s1 s2 OS B1
  by_cases z1 : flE ls le sp F n = 0
  case neg =>
    have d1 : (flE ls le sp F n == 0) = false := by simpa using z1
    have E := Lib.hid (prV_1 (p := pr) z1)
    clear z1
    generalize flE ls le sp F n = x at *
    go_wp2_with fail
    go_ret2
    exact ⟨ret_2 (p := (0, x)) E.out.symm, HB.out⟩
  have Z1 := Lib.hid z1
  obtain ⟨n128, so, fok⟩ := flE_ok z1
  have FOK := Lib.hid fok
  have SO := Lib.hid so
  rw [z1]
  clear z1 fok so
  by_cases z2 : pr < 0
  case pos =>
    have d1 : decide (pr < 0) = true := decide_eq_true z2
    have E := Lib.hid (prV_2 (p := pr) Z1.out (fun h => by omega))
    clear z2
    go_wp2_with fail
    go_ret2
    exact ⟨ret_2 (p := (0, 2)) E.out.symm, HB.out⟩
  have d2 : decide (pr < 0) = false := decide_eq_false z2
  by_cases z3 : 1125899906842624 < pr
  case pos =>
    have d1 : decide (1125899906842624 < pr) = true := decide_eq_true z3
    have E := Lib.hid (prV_2 (p := pr) Z1.out (fun h => by omega))
    clear z2 z3
    go_wp2_with fail
    go_ret2
    exact ⟨ret_2 (p := (0, 2)) E.out.symm, HB.out⟩
  have d3 : decide (1125899906842624 < pr) = false := decide_eq_false z3
  have PO := Lib.hid (show 0 ≤ pr ∧ pr ≤ 1125899906842624 from by omega)
  have s0 : w1.cell? ⟨w.heap.size, 0, none⟩ = some (.int .i64 ls) := OS1.out.cell (k := 0) (by decide)
  have s1 : w1.cell? ⟨w.heap.size, 1, none⟩ = some (.int .i64 le) := OS1.out.cell (k := 1) (by decide)
  have s2 : w1.cell? ⟨w.heap.size, 2, none⟩ = some (.int .i64 sp) := OS1.out.cell (k := 2) (by decide)
  have C3 := Lib.hid (rcosts_any p c n F ls le sp w1 (R.out.below HB.out) ln FOK.out KOK.out SO.out.2.2)
  clear z2 z3
  go_wp2_with fail
  refine C3.out.mono ?_
  rintro e wb ⟨q, d, rfl, qc, b1⟩
  have QC := Lib.hid qc
  replace HB := Lib.hid (HB.out.trans (b1.mono HB.out.size))
  clear b1 C3 s0 s1 s2 OS1 d2 d3 qc
  have n0 : ¬ ((n : Int) + 1 < 0) := by omega
  have e0 : IntKind.i64.wrap ((n : Int) + 1) = ((n + 1 : Nat) : Int) := by rw [hwI (by omega) (by omega)]; omega
  have e1 : IntKind.i64.wrap ((n : Int) - 1) = (n : Int) - 1 := hwI (by omega) (by omega)
  go_upto_region 8 with (first
    | (at_make; refine wpList_make_full _ rfl _ _ 36 rfl wb.heap.size 3 i0 (.int .i64 0) 1 Try.underlying36 hi hz0 hz1 .i64 .i64 _ _ (n + 1) rfl rfl (by omega) (by omega) (by rw [hz2]; omega) (by unfold maxLen; omega) (Nat.le_refl _) ?_; intro wc hown hgrow))
  first | rw [made1] at hown | rw [made1'] at hown
  have OL := Lib.hid (show OB wc wb.heap.size 3 (n + 1) (fun k => .int .i64 (prc (cMat (inO F n) le sp) pr n 0 k)) from by
    have := OB.of hown
    rw [Nat.mul_one] at this
    exact this)
  have B3 := Lib.hid (show Below wb.heap.size wb wc from (Below.refl _ _).grown hgrow (Nat.le_refl _) (fun k e => by cases e))
  obtain ⟨gl, hgl⟩ : ∃ gl, gl = wb.heap.size := ⟨_, rfl⟩
  rw [← hgl] at OL ⊢
  have HGL := Lib.hid hgl
  clear hown hgrow hgl
  have PB := Lib.hid (fun (k : Nat) (h : k ≤ n) (j : Nat) => prc_bd (C := cMat (inO F n) le sp) (p := pr) (n := n) (M := 1503238553600000) (by omega) PO.out.1 (fun i j _ h => cMat_bd (inO_ok FOK.out) ln h) k h j)
  have LBD := Lib.hid (fun (a j : Nat) (h : j ≤ n) => lnc_bd (A := inO F n) (n := n) (i := a) (j := j) (le := le) (sp := sp) (inO_ok FOK.out) h)
  have LPR := Lib.hid (fun (i : Nat) (h : i < n) (R : Nat → Int) (hR : ∀ k, -1 ≤ R k) => lfm_pr (A := inO F n) (le := le) (sp := sp) (p := pr) (inO_ok FOK.out) ln h PO.out.1 hR)
  generalize hA : inO F n = A at *
  have HA := Lib.hid hA
  clear hA
  go_wp2_with fail
  go_loopw [11] (fun iv wr => ∃ i1 : Nat, i1 ≤ n ∧ iv = .int .i64 ((i1 : Int) - 1) ∧ Hid (OB wr gl 3 (n + 1) (fun k => .int .i64 (prc (cMat A le sp) pr n (n - i1) k))) ∧ Hid (Below wb.heap.size wb wr)) (fun iv _ => (intOf iv + 1).toNat)
  case atStart => exact ⟨n, Nat.le_refl _, rfl, by rw [Nat.sub_self]; exact OL, B3⟩
  case round =>
    clear OL B3
    obtain ⟨i1, hi1, ei, HO, HW⟩ := hrel
    by_cases t1 : i1 = 0
    case neg =>
      obtain ⟨i, rfl⟩ : ∃ i, i1 = i + 1 := ⟨i1 - 1, by omega⟩
      have ei2 : ((i + 1 : Nat) : Int) - 1 = (i : Int) := by omega
      rw [ei2] at ei
      subst ei
      have hin : i < n := by omega
      have LB := Lib.hid (show ∀ j, -1 ≤ prc (cMat A le sp) pr n (n - (i + 1)) j ∧ prc (cMat A le sp) pr n (n - (i + 1)) j ≤ 2629138480442624 * 140 from fun j => by
        have a := PB.out (n - (i + 1)) (by omega) j
        have pk : (1503238553600000 + pr) * ((n - (i + 1) : Nat) : Int) ≤ 2629138480442624 * 140 := by
          have := PO.out
          exact Int.mul_le_mul (by omega) (by omega) (by omega) (by omega)
        exact ⟨a.1, by omega⟩)
      have NX := Lib.hid (show prc (cMat A le sp) pr n (n - i) = upF (prc (cMat A le sp) pr n (n - (i + 1))) i (lfm (fun j => both (lnc A le sp i j) pr) (prc (cMat A le sp) pr n (n - (i + 1))) i (n - i)) from by
        rw [LPR.out i hin _ (fun k => (LB.out k).1)]
        obtain ⟨k, hk⟩ : ∃ k, n - (i + 1) = k := ⟨_, rfl⟩
        have h1 : n - i = k + 1 := by omega
        rw [hk, h1]
        show upF (prc (cMat A le sp) pr n k) (n - 1 - k) (both (lfm (cMat A le sp (n - 1 - k)) (prc (cMat A le sp) pr n k) (n - 1 - k) (k + 1)) pr) = _
        rw [show n - 1 - k = i by omega])
      clear PB LPR
      generalize prc (cMat A le sp) pr n (n - (i + 1)) = rest at *
      have j1 : (0 : Int) ≤ (i : Int) := by omega
      have j2 : (i : Int) < ((n + 1 : Nat) : Int) := by omega
      have j3 : (i : Int) < (n : Int) + 1 := by omega
      have ew : IntKind.i64.wrap ((i : Int) - 1) = (i : Int) - 1 := hwI (by omega) (by omega)
      have ew2 : IntKind.i64.wrap ((i : Int) + 1) = (i : Int) + 1 := hwI (by omega) (by omega)
      have ci := HO.out.cell (k := i) (by omega)
      have fi := HO.out.frozen i
      have HO2 := Lib.hid (show OB (wr.setCell ⟨gl, i, none⟩ (.int .i64 (-1))) gl 3 (n + 1) (fun k => .int .i64 (upF rest i (lfm (fun j => both (lnc A le sp i j) pr) rest i 0) k)) from HO.out.setI i (-1))
      have HW2 := Lib.hid (below_set HW.out (g := gl) (by rw [HGL.out]; exact Nat.le_refl _) i (.int .i64 (-1)))
      clear HO HW
      generalize rest i = ri at ci
      go_wp2_with fail
      go_loopw [12] (fun jv wq => ∃ (j : Nat), i + 1 ≤ j ∧ j ≤ n + 1 ∧ jv = .int .i64 (j : Int) ∧ Hid (OB wq gl 3 (n + 1) (fun k => .int .i64 (upF rest i (lfm (fun j => both (lnc A le sp i j) pr) rest i (j - (i + 1))) k))) ∧ Hid (Below wb.heap.size wb wq)) (fun jv _ => n + 1 - (intOf jv).toNat)
      case atStart => exact ⟨i + 1, Nat.le_refl _, by omega, by simp, by rw [Nat.sub_self]; exact HO2, HW2⟩
      case round =>
        clear HO2 HW2
        obtain ⟨j, hj1, hj2, rfl, HO, HW⟩ := hrel
        rename World => wq
        by_cases t2 : j ≤ n
        case pos =>
          have k1 : (0 : Int) ≤ (j : Int) := by omega
          have k2 : (j : Int) < ((n + 1 : Nat) : Int) := by omega
          have k3 : (j : Int) < (n : Int) + 1 := by omega
          have k4 : (j : Int) ≤ (n : Int) := by omega
          have i2 : (i : Int) < (n : Int) := by omega
          have ij : ¬ i = j := by omega
          have ji : ¬ j = i := by omega
          have ej : IntKind.i64.wrap ((j : Int) + 1) = (j : Int) + 1 := hwI (by omega) (by omega)
          obtain ⟨x, y, dd, rfl, kx, cx, hy⟩ := (QC.out.below HW.out) i hin
          obtain ⟨y, rfl, ky, cy⟩ := hy j (by omega)
          replace cy : wq.cell? (y.add j) = some (.int .i64 (lnc A le sp i j)) := cy
          have cr := HO.out.cell (k := i) (by omega)
          have fr := HO.out.frozen i
          have cj := HO.out.cell (k := j) (by omega)
          have u1 : upF rest i (lfm (fun j => both (lnc A le sp i j) pr) rest i (j - (i + 1))) i = lfm (fun j => both (lnc A le sp i j) pr) rest i (j - (i + 1)) := if_pos rfl
          have u2 : upF rest i (lfm (fun j => both (lnc A le sp i j) pr) rest i (j - (i + 1))) j = rest j := if_neg ji
          rw [u1] at cr
          rw [u2] at cj
          have SN := Lib.hid (show lfm (fun j => both (lnc A le sp i j) pr) rest i (j + 1 - (i + 1)) = if lss (both (both (lnc A le sp i j) pr) (rest j)) (lfm (fun j => both (lnc A le sp i j) pr) rest i (j - (i + 1))) then both (both (lnc A le sp i j) pr) (rest j) else lfm (fun j => both (lnc A le sp i j) pr) rest i (j - (i + 1)) from by
            obtain ⟨m, hm⟩ : ∃ m, j - (i + 1) = m := ⟨_, rfl⟩
            rw [show j + 1 - (i + 1) = m + 1 by omega, hm]
            show (if lss (both (both (lnc A le sp i (i + m + 1)) pr) (rest (i + m + 1))) (lfm (fun j => both (lnc A le sp i j) pr) rest i m) then both (both (lnc A le sp i (i + m + 1)) pr) (rest (i + m + 1)) else lfm (fun j => both (lnc A le sp i j) pr) rest i m) = _
            rw [show i + m + 1 = j by omega])
          have lb := LBD.out i j (by omega)
          have rb := LB.out j
          have po := PO.out
          clear u1 u2 kx ky hy
          generalize hcur : lfm (fun j => both (lnc A le sp i j) pr) rest i (j - (i + 1)) = cur at *
          have HCUR := Lib.hid hcur
          clear hcur
          generalize lnc A le sp i j = u at *
          generalize rest j = v at *
          have lb2 : u ≤ 1503238553600000 := by omega
          by_cases z1 : u = -1
          case pos =>
            have E := Lib.hid (show lfm (fun j => both (lnc A le sp i j) pr) rest i (j + 1 - (i + 1)) = cur from by rw [SN.out, both_n (a := both u pr) (.inl (both_n (.inl z1))), if_neg (fun h : lss (-1) cur => h.1 rfl)])
            subst z1
            clear SN lb rb po lb2
            go_wp2_with fail
            go_roundw
            case rel => exact ⟨j + 1, by omega, by omega, by go_num, by rw [E.out]; exact HO, HW⟩
            case measure => simp [intOf]; omega
          have d1 : (u == -1) = false := by simpa using z1
          by_cases z2 : v = -1
          case pos =>
            have E := Lib.hid (show lfm (fun j => both (lnc A le sp i j) pr) rest i (j + 1 - (i + 1)) = cur from by rw [SN.out, both_n (a := both u pr) (.inr z2), if_neg (fun h : lss (-1) cur => h.1 rfl)])
            subst z2
            clear SN lb rb po lb2 z1
            go_wp2_with fail
            go_roundw
            case rel => exact ⟨j + 1, by omega, by omega, by go_num, by rw [E.out]; exact HO, HW⟩
            case measure => simp [intOf]; omega
          have d2 : (v == -1) = false := by simpa using z2
          have BV : both (both u pr) v = u + pr + v := by rw [both_pos (a := u) z1 (by omega), both_pos (by omega) z2]
          rw [BV] at SN
          have w1 : IntKind.i64.wrap (u + pr) = u + pr := hwI (by omega) (by omega)
          have w2 : IntKind.i64.wrap (u + pr + v) = u + pr + v := hwI (by omega) (by omega)
          have nn : u + pr + v ≠ -1 := by omega
          have w3 : wrap64 (u + pr + v) = u + pr + v := IntWalk.wrap64_in _ (by omega)
          clear lb rb po lb2 z1 z2 BV
          go_upto_region 16 with fail
          go_quiet (fail)
          clear w2 w3
          generalize u + pr + v = cc at *
          have HO7 := Lib.hid (show OB (wq.drewN nq) gl 3 (n + 1) (fun k => .int .i64 (upF rest i cur k)) from HO.out)
          have HW7 := Lib.hid (below_drewN HW.out nq)
          replace cr : (wq.drewN nq).cell? ⟨gl, i, none⟩ = some (.int .i64 cur) := cr
          replace fr : (wq.drewN nq).frozen? ⟨gl, i, none⟩ = false := fr
          clear HO HW cx cy cj
          generalize wq.drewN nq = wz at *
          by_cases z4 : lss cc cur
          case pos =>
            have E := Lib.hid (show lfm (fun j => both (lnc A le sp i j) pr) rest i (j + 1 - (i + 1)) = cc from by rw [SN.out, if_pos z4])
            have HO8 := Lib.hid (show OB (wz.setCell ⟨gl, i, none⟩ (.int .i64 cc)) gl 3 (n + 1) (fun k => .int .i64 (upF rest i cc k)) from by
              rw [← upF_up rest i cur cc]
              exact HO7.out.setI i cc)
            have HW8 := Lib.hid (below_set HW7.out (g := gl) (by rw [HGL.out]; exact Nat.le_refl _) i (.int .i64 cc))
            rcases z4.2 with zc | zc
            · subst zc
              clear HO7 HW7 SN z4 nn
              go_wp2_with fail
              go_roundw
              case rel => exact ⟨j + 1, by omega, by omega, by go_num, by rw [E.out]; exact HO8, HW8⟩
              case measure => simp [intOf]; omega
            · have d5 : decide (cc < cur) = true := decide_eq_true zc
              by_cases zn : cur = -1
              · subst zn
                clear HO7 HW7 SN z4 nn zc d5
                go_wp2_with fail
                go_roundw
                case rel => exact ⟨j + 1, by omega, by omega, by go_num, by rw [E.out]; exact HO8, HW8⟩
                case measure => simp [intOf]; omega
              · have d6 : (cur == -1) = false := by simpa using zn
                clear HO7 HW7 SN z4 nn zc zn
                go_wp2_with fail
                go_roundw
                case rel => exact ⟨j + 1, by omega, by omega, by go_num, by rw [E.out]; exact HO8, HW8⟩
                case measure => simp [intOf]; omega
          have E := Lib.hid (show lfm (fun j => both (lnc A le sp i j) pr) rest i (j + 1 - (i + 1)) = cur from by rw [SN.out, if_neg z4])
          have zn : cur ≠ -1 := fun h => z4 ⟨nn, .inl h⟩
          have zc : ¬ cc < cur := fun h => z4 ⟨nn, .inr h⟩
          have d5 : decide (cc < cur) = false := decide_eq_false zc
          have d6 : (cur == -1) = false := by simpa using zn
          clear SN z4 nn zc zn
          go_wp2_with fail
          go_roundw
          case rel => exact ⟨j + 1, by omega, by omega, by go_num, by rw [E.out]; exact HO7, HW7⟩
          case measure => simp [intOf]; omega
        obtain rfl : j = n + 1 := by omega
        have d4 : decide (((n + 1 : Nat) : Int) ≤ (n : Int)) = false := decide_eq_false (by omega)
        have d5 : decide ((n : Int) + 1 ≤ (n : Int)) = false := decide_eq_false (by omega)
        have HO9 := Lib.hid (show OB wq gl 3 (n + 1) (fun k => .int .i64 (prc (cMat A le sp) pr n (n - i) k)) from by
          rw [NX.out]
          have := HO.out
          rw [show n + 1 - (i + 1) = n - i by omega] at this
          exact this)
        clear HO NX
        go_wp2_with fail
        go_roundw
        case rel => exact ⟨i, by omega, by go_num, HO9, HW⟩
        case measure => simp [intOf] <;> omega
    subst t1
    have HH := Lib.hid (HB.out.trans (HW.out.mono HB.out.size))
    have ei2 : ((0 : Nat) : Int) - 1 = -1 := rfl
    rw [ei2] at ei
    subst ei
    have cz := HO.out.cell (k := 0) (by omega)
    rw [Nat.sub_zero] at cz
    have E3 := Lib.hid (fun h => prV_3 (p := pr) Z1.out PO.out (by rw [HA.out]; exact h))
    have E4 := Lib.hid (show prc (cMat A le sp) pr n n 0 ≠ -1 → prV ls le sp F n pr = (prc (cMat A le sp) pr n n 0, 0) from fun h => by rw [← HA.out] at h ⊢; exact prV_4 (p := pr) Z1.out PO.out h)
    generalize prc (cMat A le sp) pr n n 0 = v at *
    by_cases z4 : v = -1
    · have E := Lib.hid (E3.out z4)
      subst z4
      clear E3 E4
      go_wp2_with fail
      go_ret2
      exact ⟨ret_2 (p := (0, 13)) E.out.symm, HH.out⟩
    · have E := Lib.hid (E4.out z4)
      have d4 : (v == -1) = false := by simpa using z4
      clear E3 E4 z4
      go_wp2_with fail
      go_ret2
      exact ⟨ret_2 (p := (v, 0)) E.out.symm, HH.out⟩
end Go.Proofs.Ytmdhmpfagekonaa
