/- The law ClassingLines: Lines, Curve, the reference's costs, rests, Lines and Curve, the walk. -/
import Derived.Test.YtmdhmpfagekonaaLM
import Derived.Test.YtmdhmpfagekonaaCJ4
import Derived.Test.YtmdhmpfagekonaaLK
import Derived.Test.YtmdhmpfagekonaaLF
import Derived.Maps.AppendAt
import Derived.Test.YtmdhmpfagekonaaLJ
import Derived.Test.YtmdhmpfagekonaaCAA
/- Classing's lines: Lines. -/
namespace Go.Proofs.Ytmdhmpfagekonaa
open Go.RowKit Go.Proofs.Ytmdhmpfagekonaa.Ct Go.Proofs.Ytmdhmpfagekonaa.Ce Go.Proofs.Ytmdhmpfagekonaa.Stb
set_option linter.unusedVariables false
set_option linter.unusedSimpArgs false

/-- The number of lines of the plan, where there is one. -/
noncomputable def liK (K : Nat) (le sp : Int) (F : Nat → Fl) (n : Nat) : Nat := bst (fun k => rowK (cMat (inO F n) le sp) n k 0) K
/-- What Lines answers. -/
def LiQ (K : Nat) (ls le sp : Int) (F : Nat → Fl) (n : Nat) (w : World) (e : Ending) (w' : World) : Prop := ∃ v, e = .returned (.tuple #[v, .int .i64 (liV K ls le sp F n).1, .int .i64 (liV K ls le sp F n).2]) ∧ Below w.heap.size w w' ∧
  ((v = .slice none 0 0 ∧ ((liV K ls le sp F n).2 ≠ 0 ∨ n = 0)) ∨ ((liV K ls le sp F n).2 = 0 ∧ n ≠ 0 ∧ flE ls le sp F n = 0 ∧ liK K le sp F n ≠ 0 ∧ PlR w.heap.size (inO F n) (gi (ordK (fun k => (F k).key) n)) (cMat (inO F n) le sp) (pos (cMat (inO F n) le sp) n (liK K le sp F n)) (liK K le sp F n) v w'))
theorem CoR.at {w : World} {p : Option Addr} {n m : Nat} {C : Nat → Nat → Int} (h : CoR w p n m C) {i j : Nat} (hi : i < n) (hj : j < m) {g : Nat} (e : p = some ⟨g, 0, none⟩) : ∃ (y : Addr) (d : Nat), w.cell? ⟨g, i, none⟩ = some (.slice (some y) m d) ∧ w.cell? (y.add j) = some (.int .i64 (C i j)) := by
  obtain ⟨x, q, d, e', -, c, r⟩ := h i hi
  rw [e] at e'
  cases e'
  rw [add0] at c
  obtain ⟨y, rfl, -, cy⟩ := r j hj
  exact ⟨y, d, c, cy⟩

set_option maxRecDepth 100000 in
set_option maxHeartbeats 16000000 in
theorem Lines_any (p : Option Addr) (c n K : Nat) (F : Nat → Fl) (ls le sp : Int) (w : World) (r : FlR w p n F) (ln : n ≤ 140) (kok : ∀ k, k < n → (F k).kok) (hp : ∀ x, p = some x → 0 < n → x.block < w.heap.size) (hK : K = ls.toNat) :
    Calls Try.prog 14 #[.slice p n c, .agg #[.int .i64 ls, .int .i64 le, .int .i64 sp]] w (LiQ K ls le sp F n w) := by
  have R := Lib.hid r
  have KOK := Lib.hid kok
  have HP := Lib.hid hp
  have HKK := Lib.hid hK
  have B1 := Lib.hid (show Below w.heap.size w (w.alloc (Obj.cells #[.int .i64 ls, .int .i64 le, .int .i64 sp] 24)) from (Below.refl _ _).alloc (Nat.le_refl _) _)
  have OS := Lib.hid (spBx w ls le sp)
  clear r kok hp hK
  go_enter Try.func14, Try.ntmps14
  go_upto_region 1 with fail
  generalize (w.alloc (Obj.cells #[.int .i64 ls, .int .i64 le, .int .i64 sp] 24)) = wa at *
  have s0 : wa.cell? ⟨w.heap.size, 0, none⟩ = some (.int .i64 ls) := OS.out.cell (k := 0) (by decide)
  have s1 : wa.cell? ⟨w.heap.size, 1, none⟩ = some (.int .i64 le) := OS.out.cell (k := 1) (by decide)
  have s2 : wa.cell? ⟨w.heap.size, 2, none⟩ = some (.int .i64 sp) := OS.out.cell (k := 2) (by decide)
  have C1 := Lib.hid (check_any p c n F ls le sp wa (R.out.below B1.out) (by omega))
  go_wp2_with fail
  refine C1.out.mono ?_
  rintro e w1 ⟨rfl, b1⟩
  have HB := Lib.hid (B1.out.trans (b1.mono B1.out.size))
  have OS1 := Lib.hid (OS.out.below b1)
  clear b1 C1 s0 s1 s2 OS B1
  by_cases z1 : flE ls le sp F n = 0
  case neg =>
    have d1 : (flE ls le sp F n == 0) = false := by simpa using z1
    have E := Lib.hid (liV_1 (K := K) z1)
    have FN := Lib.hid (show LiQ K ls le sp F n w (.returned (.tuple #[.slice none 0 0, .int .i64 0, .int .i64 (flE ls le sp F n)])) w1 from by
      refine ⟨_, by rw [E.out], HB.out, .inl ⟨rfl, .inl (by rw [E.out]; exact z1)⟩⟩)
    clear z1
    generalize flE ls le sp F n = x at *
    go_wp2_with fail
    go_ret3
    exact FN.out
  have Z1 := Lib.hid z1
  obtain ⟨n128, so, fok⟩ := flE_ok z1
  have FOK := Lib.hid fok
  have SO := Lib.hid so
  rw [z1]
  clear z1 fok so
  by_cases z2 : n = 0
  case pos =>
    subst z2
    have E := Lib.hid (liV_2 (K := K) Z1.out rfl)
    have FN := Lib.hid (show LiQ K ls le sp F 0 w (.returned (.tuple #[.slice none 0 0, .int .i64 0, .int .i64 0])) w1 from ⟨_, by rw [E.out], HB.out, .inl ⟨rfl, .inr rfl⟩⟩)
    go_wp2_with fail
    go_ret3
    exact FN.out
  have Z2 := Lib.hid z2
  have d2 : ((n : Int) == 0) = false := by simp; omega
  have s0 : w1.cell? ⟨w.heap.size, 0, none⟩ = some (.int .i64 ls) := OS1.out.cell (k := 0) (by decide)
  have s1 : w1.cell? ⟨w.heap.size, 1, none⟩ = some (.int .i64 le) := OS1.out.cell (k := 1) (by decide)
  have s2 : w1.cell? ⟨w.heap.size, 2, none⟩ = some (.int .i64 sp) := OS1.out.cell (k := 2) (by decide)
  have C3 := Lib.hid (sorted_any p c n F ls le sp w1 (R.out.below HB.out) ln FOK.out KOK.out (fun x hx => Nat.lt_of_lt_of_le (HP.out x hx (by omega)) HB.out.size))
  have np : 1 ≤ n := by omega
  clear z2
  go_wp2_with fail
  refine C3.out.mono ?_
  rintro e w3 ⟨gp, gf, gc, rfl, qp, qf, qc, b1, -⟩
  replace HB := Lib.hid (HB.out.trans (b1.mono HB.out.size))
  replace OS1 := Lib.hid (OS1.out.below b1)
  clear b1 C3 s0 s1 s2 d2
  have OC := Lib.hid (ob_cl w3 ls le sp (.slice (some ⟨gp, 0, none⟩) n n) (.slice (some ⟨gf, 0, none⟩) n n) (.slice (some ⟨gc, 0, none⟩) n n) 67)
  have B2 : Below w3.heap.size w3 (w3.alloc (Obj.cells #[.int .i64 ls, .int .i64 le, .int .i64 sp, .slice (some ⟨gp, 0, none⟩) n n, .slice (some ⟨gf, 0, none⟩) n n, .slice (some ⟨gc, 0, none⟩) n n] 67)) := (Below.refl _ _).alloc (Nat.le_refl _) _
  have QP := Lib.hid (qp.below B2)
  have QF := Lib.hid (qf.below B2)
  have QC := Lib.hid (qc.below B2)
  replace OS1 := Lib.hid (OS1.out.below B2)
  replace HB := Lib.hid (HB.out.trans (B2.mono HB.out.size))
  clear qp qf qc B2
  unfold clV
  go_upto_region 7 with fail
  generalize (w3.alloc (Obj.cells #[.int .i64 ls, .int .i64 le, .int .i64 sp, .slice (some ⟨gp, 0, none⟩) n n, .slice (some ⟨gf, 0, none⟩) n n, .slice (some ⟨gc, 0, none⟩) n n] 67)) = wb at *
  have k0 : wb.cell? ⟨w3.heap.size, 0, none⟩ = some (.int .i64 ls) := OC.out.cell (k := 0) (by decide)
  have k1 : wb.cell? ⟨w3.heap.size, 1, none⟩ = some (.int .i64 le) := OC.out.cell (k := 1) (by decide)
  have k2 : wb.cell? ⟨w3.heap.size, 2, none⟩ = some (.int .i64 sp) := OC.out.cell (k := 2) (by decide)
  have k3 : wb.cell? ⟨w3.heap.size, 3, none⟩ = some (.slice (some ⟨gp, 0, none⟩) n n) := OC.out.cell (k := 3) (by decide)
  have k4 : wb.cell? ⟨w3.heap.size, 4, none⟩ = some (.slice (some ⟨gf, 0, none⟩) n n) := OC.out.cell (k := 4) (by decide)
  have k5 : wb.cell? ⟨w3.heap.size, 5, none⟩ = some (.slice (some ⟨gc, 0, none⟩) n n) := OC.out.cell (k := 5) (by decide)
  generalize w3.heap.size = gb at *
  have so := SO.out.1
  have eK : ls = (K : Int) := by have := HKK.out; omega
  have KB := Lib.hid (show 1 ≤ K ∧ K ≤ 16 from by omega)
  have HLS := Lib.hid eK
  clear so
  have BD := Lib.hid (fun (a j : Nat) (h : j ≤ n) => cMat_bd (A := inO F n) (n := n) (i := a) (j := j) (le := le) (sp := sp) (inO_ok FOK.out) ln h)
  have CLc := Lib.hid (leastCosts_any le sp (some ⟨gp, 0, none⟩) (some ⟨gf, 0, none⟩) (some ⟨gc, 0, none⟩) n n n n n K (cMat (inO F n) le sp) wb QC.out ln KB.out 1503238553600000 (by omega) BD.out)
  rw [← eK] at CLc
  clear eK
  unfold clV at CLc
  go_wp2_with fail
  refine CLc.out.mono ?_
  rintro e w4 ⟨gR, rfl, qr, b1, -⟩
  have QR := Lib.hid qr
  replace HB := Lib.hid (HB.out.trans (b1.mono HB.out.size))
  replace OS1 := Lib.hid (OS1.out.below b1)
  replace OC := Lib.hid (OC.out.below b1)
  replace QP := Lib.hid (QP.out.below b1)
  replace QF := Lib.hid (QF.out.below b1)
  replace QC := Lib.hid (QC.out.below b1)
  clear b1 CLc k0 k1 k2 k3 k4 k5 qr
  have RB := Lib.hid (rowK_bd (C := cMat (inO F n) le sp) (n := n) (M := 1503238553600000) (by omega) (fun i j _ h => BD.out i j h))
  go_wp2_with fail
  go_loopw [10, 11] (fun bv kv wr => ∃ k : Nat, k ≤ K ∧ kv = .int .i64 ((k : Int) + 1) ∧ bv = .int .i64 ((bst (fun k => rowK (cMat (inO F n) le sp) n k 0) k : Nat) : Int) ∧ Hid (Below w4.heap.size w4 wr)) (fun _ kv _ => K + 1 - (intOf kv).toNat)
  case atStart => exact ⟨0, Nat.zero_le _, by simp, rfl, Lib.hid (Below.refl _ _)⟩
  case round =>
    obtain ⟨k, hk, rfl, rfl, HW⟩ := hrel
    have s0 : wr.cell? ⟨w.heap.size, 0, none⟩ = some (.int .i64 ls) := (OS1.out.below HW.out).cell (k := 0) (by decide)
    by_cases t1 : k < K
    case pos =>
      have kb := KB.out
      have kls : (k : Int) + 1 ≤ ls := by have := HLS.out; omega
      have bl := bst_le (fun k => rowK (cMat (inO F n) le sp) n k 0) k
      have BS := Lib.hid (show bst (fun k => rowK (cMat (inO F n) le sp) n k 0) (k + 1) = if lss (rowK (cMat (inO F n) le sp) n (k + 1) 0) (rowK (cMat (inO F n) le sp) n (bst (fun k => rowK (cMat (inO F n) le sp) n k 0) k) 0) then k + 1 else bst (fun k => rowK (cMat (inO F n) le sp) n k 0) k from rfl)
      generalize bst (fun k => rowK (cMat (inO F n) le sp) n k 0) k = b at *
      obtain ⟨y1, d1, r1, v1⟩ := (QR.out.below HW.out).at (i := k + 1) (j := 0) (by omega) (by omega) rfl
      obtain ⟨y2, d2, r2, v2⟩ := (QR.out.below HW.out).at (i := b) (j := 0) (by omega) (by omega) rfl
      have y1z : y1.add 0 = y1 := rfl
      have y2z : y2.add 0 = y2 := rfl
      rw [y1z] at v1
      rw [y2z] at v2
      have i1 : (0 : Int) ≤ (k : Int) + 1 := by omega
      have i2 : (k : Int) + 1 < (K : Int) + 1 := by omega
      have i2' : (k : Int) + 1 < ((K + 1 : Nat) : Int) := by omega
      have i2'' : (k : Int) < (K : Int) := by omega
      have i3 : (0 : Int) ≤ (b : Int) := by omega
      have i4 : (b : Int) < (K : Int) + 1 := by omega
      have i4' : (b : Int) < ((K + 1 : Nat) : Int) := by omega
      have i5 : (0 : Int) < (n : Int) + 1 := by omega
      have i5' : (0 : Int) < ((n + 1 : Nat) : Int) := by omega
      have ek : IntKind.i64.wrap ((k : Int) + 1 + 1) = (k : Int) + 1 + 1 := hwI (by omega) (by omega)
      generalize rowK (cMat (inO F n) le sp) n (k + 1) 0 = u at *
      generalize rowK (cMat (inO F n) le sp) n b 0 = v at *
      have IL := Lib.hid (fun W => isLess_any u v W)
      clear y1z y2z
      go_upto_region 12 with fail
      go_region_held3 (fun w' => w'.cell? ⟨gR, k + 1, none⟩ = some (.slice (some y1) (n + 1) d1) ∧ w'.cell? y1 = some (.int .i64 u) ∧ w'.cell? ⟨gR, b, none⟩ = some (.slice (some y2) (n + 1) d2) ∧ w'.cell? y2 = some (.int .i64 v)) (first | exact ⟨r1, v1, r2, v2⟩ | exact ⟨cellDr r1, cellDr v1, cellDr r2, cellDr v2⟩) (first
        | ((go_at_call 35; (with_reducible refine (IL.out _).mono ?_); rintro e w5 ⟨rfl, rfl⟩)))
      have HW5 := Lib.hid (HW.out.drew)
      clear r1 v1 r2 v2 s0
      by_cases lz : lss u v
      · rw [decide_eq_true lz]
        rw [if_pos lz] at BS
        go_wp2_with fail
        go_roundw
        case rel => exact ⟨k + 1, by omega, by go_num, by rw [BS.out]; go_num, HW5⟩
        case measure => simp [intOf] <;> omega
      · rw [decide_eq_false lz]
        rw [if_neg lz] at BS
        go_wp2_with fail
        go_roundw
        case rel => exact ⟨k + 1, by omega, by go_num, by rw [BS.out], HW5⟩
        case measure => simp [intOf] <;> omega
    obtain rfl : k = K := by omega
    have kb := KB.out
    have kls : ¬ ((k : Int) + 1 ≤ ls) := by have := HLS.out; omega
    have dk : decide ((k : Int) + 1 ≤ ls) = false := decide_eq_false kls
    have bl := bst_le (fun k => rowK (cMat (inO F n) le sp) n k 0) k
    have E3 := Lib.hid (fun h => liV_3 (K := k) Z1.out Z2.out h)
    have E4 := Lib.hid (fun h => liV_4 (K := k) Z1.out Z2.out h)
    have BH := Lib.hid (fun h => bst_hit (f := fun k => rowK (cMat (inO F n) le sp) n k 0) (k := k) h)
    have LK := Lib.hid (show liK k le sp F n = bst (fun k => rowK (cMat (inO F n) le sp) n k 0) k from rfl)
    generalize bst (fun k => rowK (cMat (inO F n) le sp) n k 0) k = b at *
    have HH := Lib.hid (HB.out.trans (HW.out.mono HB.out.size))
    clear kls
    by_cases bz : b = 0
    case pos =>
      subst bz
      have FN := Lib.hid (show LiQ k ls le sp F n w (.returned (.tuple #[.slice none 0 0, .int .i64 0, .int .i64 13])) wr from ⟨_, by rw [E3.out rfl], HH.out, .inl ⟨rfl, .inl (by rw [E3.out rfl]; decide)⟩⟩)
      go_wp2_with fail
      go_ret3
      exact FN.out
    have db : ((b : Int) == 0) = false := by simp; omega
    obtain ⟨y2, d2, r2, v2⟩ := (QR.out.below HW.out).at (i := b) (j := 0) (by omega) (by omega) rfl
    have y2z : y2.add 0 = y2 := rfl
    rw [y2z] at v2
    clear y2z
    have OCr := OC.out.below HW.out
    have k0 : wr.cell? ⟨gb, 0, none⟩ = some (.int .i64 ls) := OCr.cell (k := 0) (by decide)
    have k1 : wr.cell? ⟨gb, 1, none⟩ = some (.int .i64 le) := OCr.cell (k := 1) (by decide)
    have k2 : wr.cell? ⟨gb, 2, none⟩ = some (.int .i64 sp) := OCr.cell (k := 2) (by decide)
    have k3 : wr.cell? ⟨gb, 3, none⟩ = some (.slice (some ⟨gp, 0, none⟩) n n) := OCr.cell (k := 3) (by decide)
    have k4 : wr.cell? ⟨gb, 4, none⟩ = some (.slice (some ⟨gf, 0, none⟩) n n) := OCr.cell (k := 4) (by decide)
    have k5 : wr.cell? ⟨gb, 5, none⟩ = some (.slice (some ⟨gc, 0, none⟩) n n) := OCr.cell (k := 5) (by decide)
    clear OCr
    have CP := Lib.hid (show ∀ W, Below wr.heap.size wr W → Calls Try.prog 36 #[.agg #[.int .i64 ls, .int .i64 le, .int .i64 sp, .slice (some ⟨gp, 0, none⟩) n n, .slice (some ⟨gf, 0, none⟩) n n, .slice (some ⟨gc, 0, none⟩) n n], .slice (some ⟨gR, 0, none⟩) (b + 1) (k + 1)] W fun e w' => ∃ v, e = .returned v ∧ PlR W.heap.size (inO F n) (gi (ordK (fun k => (F k).key) n)) (cMat (inO F n) le sp) (pos (cMat (inO F n) le sp) n b) b v w' ∧ Below W.heap.size W w' from fun W bw =>
      plan_any ls le sp gp gf gc gR (k + 1) n b (inO F n) (gi (ordK (fun k => (F k).key) n)) (cMat (inO F n) le sp) W ((QP.out.below HW.out).below bw) ((QF.out.below HW.out).below bw) ((QC.out.below HW.out).below bw) (fun i hi => ((QR.out.below HW.out).below bw) i (by omega)) ln (by omega) (inO_ok FOK.out) 1503238553600000 (by omega) BD.out (BH.out bz))
    have i3 : (0 : Int) ≤ (b : Int) := by omega
    have i4 : (b : Int) < (k : Int) + 1 := by omega
    have i4' : (b : Int) < ((k + 1 : Nat) : Int) := by omega
    have i6 : (b : Int) + 1 ≤ (k : Int) + 1 := by omega
    have i6' : (b : Int) + 1 ≤ ((k + 1 : Nat) : Int) := by omega
    have i7 : (0 : Int) ≤ (b : Int) + 1 := by omega
    have i5 : (0 : Int) < (n : Int) + 1 := by omega
    have i5' : (0 : Int) < ((n + 1 : Nat) : Int) := by omega
    have eb : IntKind.i64.wrap ((b : Int) + 1) = (b : Int) + 1 := hwI (by omega) (by omega)
    have E5 := Lib.hid (E4.out bz)
    have BN := Lib.hid bz
    clear E3 E4 BH bz
    generalize rowK (cMat (inO F n) le sp) n b 0 = v at *
    go_wp2_with fail
    go_upto_region 16 with fail
    go_region_held3 (fun w' => w'.cell? ⟨gR, b, none⟩ = some (.slice (some y2) (n + 1) d2) ∧ w'.cell? y2 = some (.int .i64 v) ∧ w'.cell? ⟨gb, 0, none⟩ = some (.int .i64 ls) ∧ w'.cell? ⟨gb, 1, none⟩ = some (.int .i64 le) ∧ w'.cell? ⟨gb, 2, none⟩ = some (.int .i64 sp) ∧ w'.cell? ⟨gb, 3, none⟩ = some (.slice (some ⟨gp, 0, none⟩) n n) ∧ w'.cell? ⟨gb, 4, none⟩ = some (.slice (some ⟨gf, 0, none⟩) n n) ∧ w'.cell? ⟨gb, 5, none⟩ = some (.slice (some ⟨gc, 0, none⟩) n n)) (first | exact ⟨r2, v2, k0, k1, k2, k3, k4, k5⟩ | exact ⟨cellDr r2, cellDr v2, cellDr k0, cellDr k1, cellDr k2, cellDr k3, cellDr k4, cellDr k5⟩) (first
      | ((go_at_call 36; (refine (CP.out _ (by first | exact Below.refl _ _ | exact (Below.refl _ _).drew)).mono ?_); rintro e w5 ⟨pv, rfl, pl, q5⟩; have st : Below wr.heap.size wr w5 := (by first | exact q5 | exact (Below.refl _ _).drew.trans q5); have r2 := cellGr st r2; have v2 := cellGr st v2; have k0 := cellGr st k0; have k1 := cellGr st k1; have k2 := cellGr st k2; have k3 := cellGr st k3; have k4 := cellGr st k4; have k5 := cellGr st k5; have PL := Lib.hid pl; have ST := Lib.hid st; clear q5 st pl)))
    have FN := Lib.hid (show LiQ k ls le sp F n w (.returned (.tuple #[pv, .int .i64 v, .int .i64 0])) w5 from by
      have hz := Nat.le_trans HB.out.size HW.out.size
      refine ⟨pv, by rw [E5.out], HH.out.trans (ST.out.mono HH.out.size), .inr ⟨by rw [E5.out], Z2.out, Z1.out, by rw [LK.out]; exact BN.out, ?_⟩⟩
      rw [LK.out]
      obtain ⟨q, d, x1, x2⟩ := PL.out
      exact ⟨q, d, ownBase' hz x1, fun x hx => ownBase' hz (x2 x hx)⟩)
    clear r2 v2 k0 k1 k2 k3 k4 k5
    go_wp2_with fail
    go_ret3
    exact FN.out
end Go.Proofs.Ytmdhmpfagekonaa

/- Classing's totals, plain: the mass of the fleeces of a kind, before and behind the cut. -/
namespace Go.Proofs.Ytmdhmpfagekonaa
open Go.RowKit Go.Proofs.Ytmdhmpfagekonaa.Ct Go.Proofs.Ytmdhmpfagekonaa.Ce Go.Proofs.Ytmdhmpfagekonaa.Stb
set_option linter.unusedVariables false
set_option linter.unusedSimpArgs false

namespace Ce
/-- The mass of those of the first fleeces that P takes. -/
def smK (A : Nat → Fl) (P : Fl → Bool) : Nat → Int
  | 0 => 0
  | k + 1 => smK A P k + (if P (A k) = true then (A k).gr else 0)
theorem smK_sum (A : Nat → Fl) (P : Fl → Bool) : ∀ n, smK A P n = ((List.range n).map fun k => if P (A k) = true then (A k).gr else 0).sum
  | 0 => rfl
  | n + 1 => by
    rw [List.range_succ, List.map_append, List.sum_append, ← smK_sum A P n]
    simp [smK]
theorem insK_sum (q : Nat → Int) (x : Int) (h : Int → Int) : ∀ l : List Int, ((insK q x l).map h).sum = h x + (l.map h).sum
  | [] => by simp [insK]
  | y :: l => by
    unfold insK
    split
    · simp
    · simp only [List.map_cons, List.sum_cons, insK_sum q x h l]
      omega
theorem ordK_sum (q : Nat → Int) (h : Int → Int) : ∀ n, ((ordK q n).map h).sum = ((List.range n).map fun k : Nat => h (k : Int)).sum
  | 0 => rfl
  | n + 1 => by
    rw [ordK, insK_sum, ordK_sum q h n, List.range_succ, List.map_append, List.sum_append]
    simp
    omega
theorem gi_map (O : List Int) : (List.range O.length).map (fun k => gi O k) = O := by
  apply List.ext_getElem (by simp)
  intro k h1 h2
  simp [gi, h2]
/-- In order there is as much as there was. -/
theorem smK_inO (F : Nat → Fl) (P : Fl → Bool) (n : Nat) : smK (inO F n) P n = smK F P n := by
  have e := ordK_sum (fun k => (F k).key) (fun z => if P (F z.toNat) = true then (F z.toNat).gr else 0) n
  have g := gi_map (ordK (fun k => (F k).key) n)
  rw [ordK_len] at g
  rw [smK_sum, smK_sum]
  rw [← g, List.map_map] at e
  exact e
/-- A run on which P is the same. -/
theorem smK_run (A : Nat → Fl) (P : Fl → Bool) (i : Nat) : ∀ m, (∀ k, i ≤ k → k < i + m → P (A k) = P (A i)) → smK A P (i + m) = smK A P i + (if P (A i) = true then mas A i (i + m) else 0)
  | 0, _ => by rw [Nat.add_zero, mas_eq A i (Nat.le_refl _)]; split <;> omega
  | m + 1, h => by
    have ih := smK_run A P i m (fun k a b => h k a (by omega))
    have e := h (i + m) (by omega) (by omega)
    show smK A P (i + m) + (if P (A (i + m)) = true then (A (i + m)).gr else 0) = _
    rw [ih, e, show mas A i (i + (m + 1)) = mas A i (i + m) + (if i ≤ i + m then (A (i + m)).gr else 0) from rfl, if_pos (Nat.le_add_right _ _)]
    split <;> omega
theorem smK_bd {A : Nat → Fl} {P : Fl → Bool} {n : Nat} (ok : ∀ k, k < n → (A k).ok) : ∀ {k}, k ≤ n → 0 ≤ smK A P k ∧ smK A P k ≤ 1073741824 * k
  | 0, _ => by simp [smK]
  | k + 1, h => by
    have ih := smK_bd (P := P) ok (k := k) (by omega)
    have o := ok k (by omega)
    unfold Fl.ok at o
    show 0 ≤ smK A P k + _ ∧ smK A P k + _ ≤ _
    split <;> omega
/-- Is it of this kind? -/
def isK (a b c d : Int) (f : Fl) : Bool := decide (f.ka = a ∧ f.kb = b ∧ f.kc = c ∧ f.kd = d)
theorem isK_kk {a b c d : Int} {f g : Fl} (hf : f.kok) (hg : g.kok) (h : f.kk = g.kk) : isK a b c d f = isK a b c d g := by
  have := (kk_eq hf hg).1 h
  unfold isK
  rw [this.1, this.2.1, this.2.2.1, this.2.2.2]
/-- Past a line. -/
theorem smK_line {A : Nat → Fl} {n i j : Nat} {le sp : Int} (ok : ∀ k, k < n → (A k).ok) (kok : ∀ k, k < n → (A k).kok) (up : ∀ x y, x ≤ y → y < n → (A x).key ≤ (A y).key) (ij : i < j) (jn : j ≤ n) (h : cMat A le sp i j ≠ -1) (a b c d : Int) :
    smK A (isK a b c d) j = smK A (isK a b c d) i + (if isK a b c d (A i) = true then mas A i j else 0) ∧ smK A (fun _ => true) j = smK A (fun _ => true) i + mas A i j := by
  have hl : isLine A le sp i j := by
    apply Classical.byContradiction
    intro g
    apply h
    unfold cMat lnc
    rw [if_pos ij, if_neg g]
  have s : ∀ k, i ≤ k → k < i + (j - i) → (A k).kk = (A i).kk := fun k h1 h2 => kk_btw ok up h1 (show k ≤ j - 1 by omega) (by omega) hl.2.1
  have r1 := smK_run A (isK a b c d) i (j - i) (fun k h1 h2 => isK_kk (kok k (by omega)) (kok i (by omega)) (s k h1 h2))
  have r2 := smK_run A (fun _ => true) i (j - i) (fun k h1 h2 => rfl)
  rw [show i + (j - i) = j by omega] at r1 r2
  exact ⟨r1, by simpa using r2⟩
end Ce

/-- A line at x. -/
structure LnAt (w : World) (x : Addr) (s : Fl) (v : Value) (gr ce co : Int) : Prop where
  blk : x.block < w.heap.size
  c0 : w.cell? x = some (.int .u8 s.ka)
  c1 : w.cell? ⟨x.block, x.off + 1, none⟩ = some (.int .u8 s.kb)
  c2 : w.cell? ⟨x.block, x.off + 2, none⟩ = some (.int .u8 s.kc)
  c3 : w.cell? ⟨x.block, x.off + 3, none⟩ = some (.int .u8 s.kd)
  c4 : w.cell? ⟨x.block, x.off + 4, none⟩ = some v
  c5 : w.cell? ⟨x.block, x.off + 5, none⟩ = some (.int .i64 gr)
  c6 : w.cell? ⟨x.block, x.off + 6, none⟩ = some (.int .i64 ce)
  c7 : w.cell? ⟨x.block, x.off + 7, none⟩ = some (.int .i64 co)
theorem LnAt.below {w w' : World} {x : Addr} {s : Fl} {v : Value} {gr ce co : Int} (h : LnAt w x s v gr ce co) (b : Below w.heap.size w w') : LnAt w' x s v gr ce co := by
  have c : ∀ p : Addr, p.block = x.block → w'.cell? p = w.cell? p := fun p hp => by
    unfold World.cell?; rw [hp, b.block _ h.blk]
  exact ⟨Nat.lt_of_lt_of_le h.blk b.size, (c x rfl).trans h.c0, (c ⟨x.block, x.off + 1, none⟩ rfl).trans h.c1, (c ⟨x.block, x.off + 2, none⟩ rfl).trans h.c2, (c ⟨x.block, x.off + 3, none⟩ rfl).trans h.c3, (c ⟨x.block, x.off + 4, none⟩ rfl).trans h.c4, (c ⟨x.block, x.off + 5, none⟩ rfl).trans h.c5, (c ⟨x.block, x.off + 6, none⟩ rfl).trans h.c6, (c ⟨x.block, x.off + 7, none⟩ rfl).trans h.c7⟩
/-- A plan that is read: its lines, and the places in each. -/
def PlS (w : World) (p : Option Addr) (m : Nat) (A : Nat → Fl) (o : Nat → Int) (C : Nat → Nat → Int) (ps : Nat → Nat) : Prop :=
  ∀ t, t < m → ∃ (x : Addr) (q : Option Addr) (d : Nat), p = some x ∧ LnAt w (x.add (t * 8)) (A (ps t)) (.slice q (ps (t + 1) - ps t) d) (mas A (ps t) (ps (t + 1))) (cen A (ps t) (ps (t + 1))) (C (ps t) (ps (t + 1))) ∧ NmR w q (ps (t + 1) - ps t) (fun z => o (ps t + z))
theorem PlS.below {w w' : World} {p : Option Addr} {m : Nat} {A : Nat → Fl} {o : Nat → Int} {C : Nat → Nat → Int} {ps : Nat → Nat} (h : PlS w p m A o C ps) (b : Below w.heap.size w w') : PlS w' p m A o C ps := fun t ht => by
  obtain ⟨x, q, d, e, l, r⟩ := h t ht
  exact ⟨x, q, d, e, l.below b, r.below b⟩
theorem plL_at (A : Nat → Fl) (C : Nat → Nat → Int) (ps : Nat → Nat) (q d : Nat → Nat) : ∀ {t x k : Nat}, x < t → k < 8 → (plL A C ps q d t)[x * 8 + k]? = (lnL (A (ps x)) (.slice (some ⟨q x, 0, none⟩) (ps (x + 1) - ps x) (d x)) (mas A (ps x) (ps (x + 1))) (cen A (ps x) (ps (x + 1))) (C (ps x) (ps (x + 1))))[k]? := by
  have len : ∀ t, (plL A C ps q d t).length = t * 8 := fun t => by
    induction t with
    | zero => rfl
    | succ t ih =>
      have e : plL A C ps q d (t + 1) = plL A C ps q d t ++ lnL (A (ps t)) (.slice (some ⟨q t, 0, none⟩) (ps (t + 1) - ps t) (d t)) (mas A (ps t) (ps (t + 1))) (cen A (ps t) (ps (t + 1))) (C (ps t) (ps (t + 1))) := by
        unfold plL; rw [List.range_succ, List.flatMap_append]; simp
      rw [e, List.length_append, ih]
      simp [lnL]; omega
  intro t
  induction t with
  | zero => intro x k h; omega
  | succ t ih =>
    intro x k h hk
    have e : plL A C ps q d (t + 1) = plL A C ps q d t ++ lnL (A (ps t)) (.slice (some ⟨q t, 0, none⟩) (ps (t + 1) - ps t) (d t)) (mas A (ps t) (ps (t + 1))) (cen A (ps t) (ps (t + 1))) (C (ps t) (ps (t + 1))) := by
      unfold plL; rw [List.range_succ, List.flatMap_append]; simp
    rw [e]
    rcases Nat.lt_or_ge x t with g | g
    · rw [List.getElem?_append_left (by rw [len]; omega)]
      exact ih g hk
    · obtain rfl : x = t := by omega
      rw [List.getElem?_append_right (by rw [len]; omega), len, show x * 8 + k - x * 8 = k by omega]
theorem row_some {w : World} {base : Nat} {e : TypeId} {size : Nat} {v : Value} {n : Nat} {xs : List Value} (h : w.ownsRow base e size v n xs) (hn : 0 < n) : ∃ g c, v = .slice (some ⟨g, 0, none⟩) n c ∧ g < w.heap.size := by
  rcases h.2 with ⟨rfl, h0⟩ | ⟨q, cap, cur, rfl, hb, hq, r⟩
  · omega
  · exact ⟨q, cap, rfl, (Array.getElem?_eq_some_iff.1 hq).1⟩
theorem plS_of {base : Nat} {A : Nat → Fl} {o : Nat → Int} {C : Nat → Nat → Int} {ps : Nat → Nat} {t : Nat} {v : Value} {W : World} (h : PlR base A o C ps t v W) (h0 : 0 < t) (pos : ∀ x, x < t → ps x < ps (x + 1)) : ∃ (g c : Nat), v = .slice (some ⟨g, 0, none⟩) t c ∧ PlS W (some ⟨g, 0, none⟩) t A o C ps := by
  obtain ⟨q, d, a, r⟩ := h
  obtain ⟨g, c, rfl, gl⟩ := row_some a h0
  refine ⟨g, c, rfl, fun x hx => ⟨_, some ⟨q x, 0, none⟩, d x, rfl, ?_, ?_⟩⟩
  · have e : ∀ k, k < 8 → W.cell? ⟨g, x * 8 + k, none⟩ = (lnL (A (ps x)) (.slice (some ⟨q x, 0, none⟩) (ps (x + 1) - ps x) (d x)) (mas A (ps x) (ps (x + 1))) (cen A (ps x) (ps (x + 1))) (C (ps x) (ps (x + 1))))[k]? := fun k hk => by
      rw [a.cellAt (x * 8 + k) (by omega), plL_at A C ps q d hx hk]
    have ea : (⟨g, 0, none⟩ : Addr).add (x * 8) = ⟨g, x * 8, none⟩ := by
      unfold Addr.add; split
      · next z => rw [z]
      · simp
    rw [ea]
    exact ⟨gl, e 0 (by omega), e 1 (by omega), e 2 (by omega), e 3 (by omega), e 4 (by omega), e 5 (by omega), e 6 (by omega), e 7 (by omega)⟩
  · have rx := r x hx
    have := pos x hx
    obtain ⟨g', c', e', gl'⟩ := row_some rx (by omega)
    cases e'
    intro z hz
    have cz := rx.cellAt z (by omega)
    refine ⟨⟨q x, 0, none⟩, rfl, gl', ?_⟩
    rw [add0, cz]
    simp [hz]
end Go.Proofs.Ytmdhmpfagekonaa

/- Classing's lines: the reference's costs of all lines. -/
namespace Go.Proofs.Ytmdhmpfagekonaa
open Go.RowKit Go.Proofs.Ytmdhmpfagekonaa.Ct Go.Proofs.Ytmdhmpfagekonaa.Ce Go.Proofs.Ytmdhmpfagekonaa.Stb
set_option linter.unusedVariables false
set_option linter.unusedSimpArgs false

theorem made1J (n : Nat) : (madeCells (Value.int .i64 0).cells ((n + 1) * 1)).toList = (List.range ((n + 1) * 1)).map fun k => Value.int .i64 ((fun _ => 0) k) := by
  rw [madeInts]
theorem made1J' (n : Nat) : (madeCells (Value.int .i64 0).cells (n + 1)).toList = (List.range ((n + 1) * 1)).map fun k => Value.int .i64 ((fun _ => 0) k) := by
  rw [madeInts, Nat.mul_one]
theorem OB.setJ {W : World} {g n : Nat} {t : TypeId} {f : Nat → Int} (h : OB W g t n (fun k => .int .i64 (f k))) (i : Nat) (v : Int) : OB (W.setCell ⟨g, i, none⟩ (.int .i64 v)) g t n (fun k => .int .i64 (upF f i v k)) :=
  (h.set i (.int .i64 v)).ext fun k _ => by
    unfold updV upF
    by_cases e : k = i
    · rw [if_pos e, if_pos e]
    · rw [if_neg e, if_neg e]
theorem below_setJ {b : Nat} {w W : World} (h : Below b w W) {g : Nat} (hg : b ≤ g) (k : Nat) (v : Value) : Below b w (W.setCell ⟨g, k, none⟩ v) := h.setCell hg _
theorem ob_grown {W w' : World} {o : Obj} {g n b s k : Nat} {t e : TypeId} {c : Nat → Value} {v : Value} {xs : List Value} (h : OB W g t n c) (row : W.ownsRow b e s v k xs) (ne : t ≠ e) (gr : (W.alloc o).grownBy w' v.ownBlock) : OB w' g t n c := by
  refine (h.below ((Below.refl _ W).alloc (Nat.le_refl _) o)).keep (gr.block g (by have := h.lt; simp; omega) fun e1 => ?_)
  rcases row.2 with ⟨rfl, _⟩ | ⟨q, cap, cur, rfl, _, hq, _⟩
  · cases e1
  · have e2 : g = q := Option.some.inj e1
    subst e2
    unfold OB at h
    rw [h] at hq
    cases hq
    exact ne rfl
theorem slice_one {w : World} (x : Value) (hx : x.cells = #[x]) (t : TypeId) : ∀ j u, ([x])[j]? = some u → (w.alloc (Obj.cells #[x] t)).cell? ((⟨w.heap.size, 0, none⟩ : Addr).add j) = some u := by
  intro j u h
  rcases j with _ | j
  · simp at h; subst h; rw [add0]; simp [go_sem]
  · simp at h
theorem one_sl {q : Option Addr} {n c : Nat} : ∀ u ∈ [Value.slice q n c], u.oneCell' = true := by intro u hu; simp at hu; subst hu; rfl
theorem int_ne_row : (3 : TypeId) ≠ 36 := by decide
/-- The rows that are there. -/
def RowsI (W : World) (n i : Nat) (gr : Nat → Nat) (C : Nat → Nat → Int) : Prop := ∀ r, r < i → OB W (gr r) 3 (n + 1) (fun j => .int .i64 (C r j))
theorem RowsI.below {W W' : World} {n i : Nat} {gr : Nat → Nat} {C : Nat → Nat → Int} (h : RowsI W n i gr C) (b : Below W.heap.size W W') : RowsI W' n i gr C := fun r hr => (h r hr).below b
theorem RowsI.coR {W : World} {n b : Nat} {v : Value} {gr : Nat → Nat} {C : Nat → Nat → Int} (h : RowsI W n n gr C) (row : W.ownsRow b 36 1 v n ((List.range n).map fun r => Value.slice (some ⟨gr r, 0, none⟩) (n + 1) (n + 1))) : ∃ p c, v = .slice p n c ∧ CoR W p n (n + 1) C := by
  rcases row.2 with ⟨rfl, h0⟩ | ⟨g, cap, cur, rfl, hb, hg, hn, _, hs, ht⟩
  · exact ⟨none, 0, by rw [h0], fun i hi => by omega⟩
  · refine ⟨_, _, rfl, fun i hi => ⟨⟨g, 0, none⟩, some ⟨gr i, 0, none⟩, n + 1, rfl, (Array.getElem?_eq_some_iff.1 hg).1, ?_, (h i hi).nm⟩⟩
    rw [add0]
    have e : ((List.range n).map fun r => Value.slice (some ⟨gr r, 0, none⟩) (n + 1) (n + 1))[i]? = some (.slice (some ⟨gr i, 0, none⟩) (n + 1) (n + 1)) := by simp [hi]
    rw [show W.cell? ⟨g, i, none⟩ = cur[i]? from by simp [World.cell?, hg]]
    rw [← e, ← ht, List.getElem?_take_of_lt (by omega)]; simp
theorem rowsV_snoc {n i g : Nat} {gr : Nat → Nat} : ((List.range i).map fun r => Value.slice (some ⟨gr r, 0, none⟩) (n + 1) (n + 1)) ++ [.slice (some ⟨g, 0, none⟩) (n + 1) (n + 1)] = (List.range (i + 1)).map fun r => Value.slice (some ⟨upN gr i g r, 0, none⟩) (n + 1) (n + 1) := by
  rw [List.range_succ, List.map_append]
  congr 1
  · refine List.map_congr_left fun r hr => ?_
    have := List.mem_range.1 hr
    unfold upN
    rw [if_neg (by omega)]
  · simp [upN]

set_option maxRecDepth 100000 in
set_option maxHeartbeats 16000000 in
theorem rcosts_any (p : Option Addr) (c n : Nat) (F : Nat → Fl) (ls le sp : Int) (w : World) (r : FlR w p n F) (ln : n ≤ 140) (ok : ∀ k, k < n → (F k).ok) (kok : ∀ k, k < n → (F k).kok) (spb : 0 ≤ sp ∧ sp ≤ 10000) :
    Calls Try.prog 28 #[.slice p n c, .agg #[.int .i64 ls, .int .i64 le, .int .i64 sp]] w fun e w' => ∃ q d, e = .returned (.slice q n d) ∧ CoR w' q n (n + 1) (fun i j => lnc (inO F n) le sp i j) ∧ Below w.heap.size w w' := by
  obtain ⟨i0, hi, hz0, hz1, hz2⟩ := info_parts intInfo
  obtain ⟨i2, hi2, hx0, hx1, hx2⟩ := info_parts rowInfo
  have R := Lib.hid r
  have OK := Lib.hid ok
  have KOK := Lib.hid kok
  have B1 := Lib.hid (show Below w.heap.size w (w.alloc (Obj.cells #[.int .i64 ls, .int .i64 le, .int .i64 sp] 24)) from (Below.refl _ _).alloc (Nat.le_refl _) _)
  have OS := Lib.hid (show OB (w.alloc (Obj.cells #[.int .i64 ls, .int .i64 le, .int .i64 sp] 24)) w.heap.size 24 3 (spC ls le sp) from by unfold OB; rw [heap_alloc_new]; rfl)
  clear r ok kok
  go_enter Try.func28, Try.ntmps28
  go_upto_region 1 with fail
  generalize w.alloc (Obj.cells #[.int .i64 ls, .int .i64 le, .int .i64 sp] 24) = wa at *
  have C1 := Lib.hid (rOrder_any p c n F wa (R.out.below B1.out) ln OK.out KOK.out)
  go_wp2_with fail
  refine C1.out.mono ?_
  rintro e wo ⟨q, d, rfl, RO, b1, -⟩
  have HB := Lib.hid (B1.out.trans (b1.mono B1.out.size))
  have OS1 := Lib.hid (OS.out.below b1)
  replace RO := Lib.hid RO
  clear b1 C1 OS B1
  have LC := Lib.hid (fun W (b : Below wo.heap.size wo W) (i j : Nat) (hj : j ≤ n) => rline_any p c n F q d i j ls le sp W ((R.out.below HB.out).below b) (RO.out.below b) ln hj OK.out KOK.out)
  have OKA := Lib.hid (inO_ok OK.out)
  have KOA := Lib.hid (inO_kok KOK.out)
  have UP := Lib.hid (fun x y (h : x ≤ y) (g : y < n) => inO_le F n h g)
  have OB2 := Lib.hid ((ordK_ord (q := fun k => (F k).key) n).2.1)
  have AE := Lib.hid (inO_def F n)
  have G := Lib.hid (fun W (b : Below wo.heap.size wo W) m (hm : m < n) => show ∃ v x y, v < n ∧ gi (ordK (fun k => (F k).key) n) m = (v : Int) ∧ OrdF W p q m v x y (inO F n m) from by rw [AE.out m]; exact OrdF.of ((R.out.below HB.out).below b) (RO.out.below b) hm (OB2.out m hm))
  clear R RO OK KOK AE OB2
  generalize ordK (fun k => (F k).key) n = O at *
  generalize hA : inO F n = A at *
  have HA := Lib.hid hA
  clear hA
  have e0 : IntKind.i64.wrap ((n : Int) + 1) = (n : Int) + 1 := hwI (by omega) (by omega)
  have n0 : ¬ ((n : Int) + 1 < 0) := by omega
  go_wp2_with fail
  go_loopw [6, 7] (fun ov iv wr => ∃ (i : Nat) (gr : Nat → Nat), i ≤ n ∧ iv = .int .i64 i ∧ Hid (RowsI wr n i gr (fun i j => lnc A le sp i j)) ∧ Hid (wr.ownsRow wo.heap.size 36 1 ov i ((List.range i).map fun r => Value.slice (some ⟨gr r, 0, none⟩) (n + 1) (n + 1))) ∧ Hid (Below wo.heap.size wo wr)) (fun _ iv _ => n - (intOf iv).toNat)
  case atStart => exact ⟨0, fun _ => 0, Nat.zero_le _, rfl, Lib.hid (fun r h => absurd h (by omega)), Lib.hid (World.ownsRow_nil _ _ _ _), Lib.hid (Below.refl _ _)⟩
  case round =>
    obtain ⟨i, gr, hi1, rfl, HR, HO, HW⟩ := hrel
    by_cases t1 : i < n
    case pos =>
      have i1 : (0 : Int) ≤ (i : Int) := by omega
      have i3 : (i : Int) < (n : Int) := by omega
      go_upto_region 7 with (first
        | (at_make; refine wpList_make_full _ rfl _ _ 36 rfl wr.heap.size 3 i0 (.int .i64 0) 1 Try.underlying36 hi hz0 hz1 .i64 .i64 _ _ (n + 1) rfl rfl (by omega) (by omega) (by rw [hz2]; omega) (by unfold maxLen; omega) (Nat.le_refl _) ?_; intro wc hown hgrow))
      first | rw [made1J] at hown | rw [made1J'] at hown
      have OL := Lib.hid (show OB wc wr.heap.size 3 (n + 1) (fun k => .int .i64 ((fun _ => 0) k)) from by
        have := OB.of hown
        rw [Nat.mul_one] at this
        exact this)
      have B3 := Lib.hid (show Below wr.heap.size wr wc from (Below.refl _ _).grown hgrow (Nat.le_refl _) (fun k e => by cases e))
      clear hown hgrow
      obtain ⟨gl, hgl⟩ : ∃ gl, gl = wr.heap.size := ⟨_, rfl⟩
      rw [← hgl] at OL ⊢
      have HGL := Lib.hid hgl
      clear hgl
      go_wp2_with fail
      go_loopw [9] (fun jv wq => ∃ (j : Nat) (f : Nat → Int), j ≤ n + 2 ∧ jv = .int .i64 (j : Int) ∧ Hid (OB wq gl 3 (n + 1) (fun k => .int .i64 (f k))) ∧ Hid (∀ m, m < j → m < n + 1 → f m = lnc A le sp i m) ∧ Hid (Below wr.heap.size wr wq)) (fun jv _ => n + 2 - (intOf jv).toNat)
      case atStart => exact ⟨0, _, Nat.zero_le _, rfl, OL, Lib.hid (fun m h => absurd h (by omega)), B3⟩
      case round =>
        clear OL B3
        obtain ⟨j, f, hj2, rfl, HG, HV, HW6⟩ := hrel
        rename World => wq
        by_cases t3 : j ≤ n
        case pos =>
          have j1 : (0 : Int) ≤ (j : Int) := by omega
          have j2 : (j : Int) < ((n + 1 : Nat) : Int) := by omega
          have j3 : (j : Int) < (n : Int) + 1 := by omega
          have j4 : (j : Int) ≤ (n : Int) := by omega
          have ej : IntKind.i64.wrap ((j : Int) + 1) = (j : Int) + 1 := hwI (by omega) (by omega)
          have cj := HG.out.cell (k := j) (by omega)
          have fj := HG.out.frozen j
          have HG2 := Lib.hid (HG.out.setJ j (-1))
          have HW7 := Lib.hid (below_setJ HW6.out (g := gl) (by rw [HGL.out]; exact Nat.le_refl _) j (.int .i64 (-1)))
          have HV0 := Lib.hid (show lnc A le sp i j = -1 → ∀ m, m < j + 1 → m < n + 1 → upF f j (-1) m = lnc A le sp i m from fun h m h1 h2 => by
            unfold upF
            by_cases e : m = j
            · rw [if_pos e, e, h]
            · rw [if_neg e]; exact HV.out m (by omega) h2)
          have HV1 := Lib.hid (show ∀ z, lnc A le sp i j = z → ∀ m, m < j + 1 → m < n + 1 → upF (upF f j (-1)) j z m = lnc A le sp i m from fun z h m h1 h2 => by
            unfold upF
            by_cases e : m = j
            · rw [if_pos e, e, h]
            · rw [if_neg e, if_neg e]; exact HV.out m (by omega) h2)
          clear HG HW6 HV
          generalize f j = fjv at cj
          generalize hwq1 : wq.setCell ⟨gl, j, none⟩ (.int .i64 (-1)) = wq1 at *
          by_cases t4 : j ≤ i
          case pos =>
            have d4 : decide ((j : Int) ≤ (i : Int)) = true := decide_eq_true (by omega)
            have HV2 := Lib.hid (HV0.out (if_neg fun h => by have := h.1; omega))
            clear HV0 HV1
            go_wp2_with fail
            go_roundw
            case rel => exact ⟨j + 1, _, by omega, by go_num, HG2, HV2, HW7⟩
            case measure => simp [intOf]; omega
          have d4 : decide ((j : Int) ≤ (i : Int)) = false := decide_eq_false (by omega)
          have CL := Lib.hid (LC.out wq1 (HW.out.trans (HW7.out.mono HW.out.size)) i j t3)
          obtain ⟨jj, hjj⟩ : ∃ jj, j = jj + 1 := ⟨j - 1, by omega⟩
          have eJ : IntKind.i64.wrap ((j : Int) - 1) = (jj : Int) := by rw [hwI (by omega) (by omega)]; omega
          have jj1 : (0 : Int) ≤ (jj : Int) := by omega
          have jj2 : (jj : Int) < (n : Int) := by omega
          have STP := Lib.hid (show ((A jj).kk ≠ (A i).kk ∨ sp < (A jj).mic - (A i).mic) → ∀ t, j ≤ t → t ≤ n → lnc A le sp i t = -1 from fun h => lnc_stop OKA.out UP.out (by omega) t3 (by rw [hjj, Nat.add_sub_cancel]; exact h))
          have ISL := Lib.hid (show isLine A le sp i j → (A jj).kk = (A i).kk ∧ ¬ sp < (A jj).mic - (A i).mic from fun h => by
            have h2 := h.2.1
            have h3 := h.2.2.1
            rw [hjj, Nat.add_sub_cancel] at h2 h3
            exact ⟨h2.symm, by omega⟩)
          have HJJ := Lib.hid hjj
          clear hjj
          have OSq := OS1.out.below (HW.out.trans (HW7.out.mono HW.out.size))
          have q0 : wq1.cell? ⟨w.heap.size, 0, none⟩ = some (.int .i64 ls) := OSq.cell (k := 0) (by decide)
          have q1 : wq1.cell? ⟨w.heap.size, 1, none⟩ = some (.int .i64 le) := OSq.cell (k := 1) (by decide)
          have q2 : wq1.cell? ⟨w.heap.size, 2, none⟩ = some (.int .i64 sp) := OSq.cell (k := 2) (by decide)
          clear OSq
          go_wp2_with fail
          refine CL.out.mono ?_
          rintro e w5 h
          clear cj fj hwq1 CL q0 q1 q2
          rcases h with ⟨il, ⟨pp, dd, rfl, -, -⟩, b5⟩ | ⟨il, rfl, b5⟩
          · have HV2 := Lib.hid (HV1.out (offs A (cen A i j) i j) (if_pos il))
            obtain ⟨ik, is⟩ := ISL.out il
            clear HV0 HV1 ISL il
            replace HG2 := Lib.hid ((HG2.out.below b5).below ((Below.refl _ w5).alloc (Nat.le_refl _) (Obj.cells #[.int .u8 (A i).ka, .int .u8 (A i).kb, .int .u8 (A i).kc, .int .u8 (A i).kd, .slice pp (j - i) dd, .int .i64 (mas A i j), .int .i64 (cen A i j), .int .i64 (offs A (cen A i j) i j)] 38)))
            replace HW7 := Lib.hid ((HW7.out.trans (b5.mono HW7.out.size)).alloc (Nat.le_trans HW7.out.size b5.size) (Obj.cells #[.int .u8 (A i).ka, .int .u8 (A i).kb, .int .u8 (A i).kc, .int .u8 (A i).kd, .slice pp (j - i) dd, .int .i64 (mas A i j), .int .i64 (cen A i j), .int .i64 (offs A (cen A i j) i j)] 38))
            have c7 : (w5.alloc (Obj.cells #[.int .u8 (A i).ka, .int .u8 (A i).kb, .int .u8 (A i).kc, .int .u8 (A i).kd, .slice pp (j - i) dd, .int .i64 (mas A i j), .int .i64 (cen A i j), .int .i64 (offs A (cen A i j) i j)] 38)).cell? ⟨w5.heap.size, 7, none⟩ = some (.int .i64 (offs A (cen A i j) i j)) := by simp [go_sem]
            unfold lnV
            go_upto_region 13 with fail
            generalize w5.alloc (Obj.cells #[.int .u8 (A i).ka, .int .u8 (A i).kb, .int .u8 (A i).kc, .int .u8 (A i).kd, .slice pp (j - i) dd, .int .i64 (mas A i j), .int .i64 (cen A i j), .int .i64 (offs A (cen A i j) i j)] 38) = wz at *
            generalize w5.heap.size = gz at *
            generalize offs A (cen A i j) i j = ov at *
            have cj := HG2.out.cell (k := j) (by omega)
            have fj := HG2.out.frozen j
            have HG := Lib.hid (HG2.out.setJ j ov)
            have HW6 := Lib.hid (below_setJ HW7.out (g := gl) (by rw [HGL.out]; exact Nat.le_refl _) j (.int .i64 ov))
            have HV := HV2
            generalize upF f j (-1) j = z1 at cj
            generalize upF (upF f j (-1)) j ov = g at *
            clear HG2 HW7 HV2
            go_upto_region 15 with fail
            generalize wz.setCell ⟨gl, j, none⟩ (.int .i64 ov) = w6 at *
            clear cj fj c7
            obtain ⟨v, x', y', vn, hv, ex, ey, cy, fl⟩ := G.out w6 (HW.out.trans (HW6.out.mono HW.out.size)) jj (by have := HJJ.out; omega)
            have HX := Lib.hid (show p = some x' ∧ q = some y' from ⟨ex, ey⟩)
            subst ex
            subst ey
            obtain ⟨-, a0, a1, a2, a3, a4, a5⟩ := fl
            obtain ⟨u, x2, y2, un, hu, ex, ey, cy2, fl⟩ := G.out w6 (HW.out.trans (HW6.out.mono HW.out.size)) i (by omega)
            cases ex
            cases ey
            obtain ⟨-, b0, b1, b2, b3, b4, b5⟩ := fl
            have v1 : (0 : Int) ≤ (v : Int) := by omega
            have v2 : (v : Int) < (n : Int) := by omega
            have u1 : (0 : Int) ≤ (u : Int) := by omega
            have u2 : (u : Int) < (n : Int) := by omega
            have s2 : w6.cell? ⟨w.heap.size, 2, none⟩ = some (.int .i64 sp) := (OS1.out.below ((HW.out.trans (HW6.out.mono HW.out.size)))).cell (k := 2) (by decide)
            obtain ⟨t, ht⟩ : ∃ t, t = A jj := ⟨_, rfl⟩
            obtain ⟨s, hs⟩ : ∃ s, s = A i := ⟨_, rfl⟩
            rw [← ht] at a0 a1 a2 a3 a4 a5
            rw [← hs] at b0 b1 b2 b3 b4 b5
            have KE := Lib.hid (kk_eq (show t.kok from by rw [ht]; exact KOA.out jj (by have := HJJ.out; omega)) (show s.kok from by rw [hs]; exact KOA.out i (by omega)))
            have o1 := OKA.out jj (by have := HJJ.out; omega)
            have o2 := OKA.out i (by omega)
            rw [← ht] at o1
            rw [← hs] at o2
            unfold Fl.ok at o1 o2
            have eS : IntKind.i64.wrap (t.mic - s.mic) = t.mic - s.mic := hwI (by omega) (by omega)
            have HTS := Lib.hid (show t = A jj ∧ s = A i from ⟨ht, hs⟩)
            clear ht hs o1 o2 hv hu
            have EK := fun W => eq_kind t.ka t.kb t.kc t.kd s.ka s.kb s.kc s.kd W
            have hk2 := KE.out.1 (by rw [HTS.out.1, HTS.out.2]; exact ik)
            simp only [decide_eq_true hk2] at EK
            have ds : decide (sp < t.mic - s.mic) = false := decide_eq_false (by rw [HTS.out.1, HTS.out.2]; exact Int.not_lt.2 is)
            clear ik is hk2 HTS
            go_wp2_with fail
            go_upto_region 15 with fail
            go_quiet (fail)
            have HG2 := Lib.hid (show OB (w6.drewN nq) gl 3 (n + 1) (fun k => .int .i64 (g k)) from HG.out)
            have HW7 := Lib.hid (below_drewN HW6.out nq)
            clear HG HW6 a0 a1 a2 a3 a4 a5 b0 b1 b2 b3 b4 b5 cy cy2 s2 EK KE eS
            generalize w6.drewN nq = w7 at *
            go_wp2_with fail
            go_roundw
            case rel => exact ⟨j + 1, g, by omega, by go_num, HG2, Lib.hid (fun m h1 h2 => HV.out m h1 h2), HW7⟩
            case measure => simp [intOf]; omega
          · have HV := Lib.hid (HV0.out (if_neg il))
            clear HV0 HV1 ISL il
            have HG := Lib.hid ((HG2.out.below b5).below ((Below.refl _ w5).alloc (Nat.le_refl _) (Obj.cells #[.int .u8 0, .int .u8 0, .int .u8 0, .int .u8 0, .slice none 0 0, .int .i64 0, .int .i64 0, .int .i64 0] 38)))
            have HW6 := Lib.hid ((HW7.out.trans (b5.mono HW7.out.size)).alloc (Nat.le_trans HW7.out.size b5.size) (Obj.cells #[.int .u8 0, .int .u8 0, .int .u8 0, .int .u8 0, .slice none 0 0, .int .i64 0, .int .i64 0, .int .i64 0] 38))
            clear HG2 HW7
            unfold lnZ
            go_upto_region 15 with fail
            generalize w5.alloc (Obj.cells #[.int .u8 0, .int .u8 0, .int .u8 0, .int .u8 0, .slice none 0 0, .int .i64 0, .int .i64 0, .int .i64 0] 38) = w6 at *
            generalize w5.heap.size = gz at *
            generalize upF f j (-1) = g at *
            obtain ⟨v, x', y', vn, hv, ex, ey, cy, fl⟩ := G.out w6 (HW.out.trans (HW6.out.mono HW.out.size)) jj (by have := HJJ.out; omega)
            have HX := Lib.hid (show p = some x' ∧ q = some y' from ⟨ex, ey⟩)
            subst ex
            subst ey
            obtain ⟨-, a0, a1, a2, a3, a4, a5⟩ := fl
            obtain ⟨u, x2, y2, un, hu, ex, ey, cy2, fl⟩ := G.out w6 (HW.out.trans (HW6.out.mono HW.out.size)) i (by omega)
            cases ex
            cases ey
            obtain ⟨-, b0, b1, b2, b3, b4, b5⟩ := fl
            have v1 : (0 : Int) ≤ (v : Int) := by omega
            have v2 : (v : Int) < (n : Int) := by omega
            have u1 : (0 : Int) ≤ (u : Int) := by omega
            have u2 : (u : Int) < (n : Int) := by omega
            have s2 : w6.cell? ⟨w.heap.size, 2, none⟩ = some (.int .i64 sp) := (OS1.out.below ((HW.out.trans (HW6.out.mono HW.out.size)))).cell (k := 2) (by decide)
            obtain ⟨t, ht⟩ : ∃ t, t = A jj := ⟨_, rfl⟩
            obtain ⟨s, hs⟩ : ∃ s, s = A i := ⟨_, rfl⟩
            rw [← ht] at a0 a1 a2 a3 a4 a5
            rw [← hs] at b0 b1 b2 b3 b4 b5
            have KE := Lib.hid (kk_eq (show t.kok from by rw [ht]; exact KOA.out jj (by have := HJJ.out; omega)) (show s.kok from by rw [hs]; exact KOA.out i (by omega)))
            have o1 := OKA.out jj (by have := HJJ.out; omega)
            have o2 := OKA.out i (by omega)
            rw [← ht] at o1
            rw [← hs] at o2
            unfold Fl.ok at o1 o2
            have eS : IntKind.i64.wrap (t.mic - s.mic) = t.mic - s.mic := hwI (by omega) (by omega)
            have HTS := Lib.hid (show t = A jj ∧ s = A i from ⟨ht, hs⟩)
            clear ht hs o1 o2 hv hu
            have EK := fun W => eq_kind t.ka t.kb t.kc t.kd s.ka s.kb s.kc s.kd W
            by_cases hk : t.kk = s.kk
            case neg =>
              have hk2 : ¬ (t.ka = s.ka ∧ t.kb = s.kb ∧ t.kc = s.kc ∧ t.kd = s.kd) := fun h => hk (KE.out.2 h)
              simp only [decide_eq_false hk2] at EK
              have STOP := Lib.hid (STP.out (.inl (by rw [← HTS.out.1, ← HTS.out.2]; exact hk)))
              clear hk hk2 HTS STP
              go_wp2_with fail
              go_upto_region 15 with fail
              go_quiet (fail)
              have HG2 := Lib.hid (show OB (w6.drewN nq) gl 3 (n + 1) (fun k => .int .i64 (g k)) from HG.out)
              have HW7 := Lib.hid (below_drewN HW6.out nq)
              clear HG HW6 a0 a1 a2 a3 a4 a5 b0 b1 b2 b3 b4 b5 cy cy2 s2 EK KE eS
              generalize w6.drewN nq = w7 at *
              go_wp2_with fail
              go_loopw [9] (fun kv wz => ∃ (k : Nat) (f : Nat → Int), j + 1 ≤ k ∧ k ≤ n + 1 ∧ kv = .int .i64 (k : Int) ∧ Hid (OB wz gl 3 (n + 1) (fun k => .int .i64 (f k))) ∧ Hid (∀ m, m < k → m < n + 1 → f m = lnc A le sp i m) ∧ Hid (Below wr.heap.size wr wz)) (fun kv _ => n + 1 - (intOf kv).toNat)
              case atStart => exact ⟨j + 1, g, Nat.le_refl _, by omega, by simp, HG2, HV, HW7⟩
              case round =>
                clear HG2 HV HW7
                obtain ⟨k, f, hk1, hk2, rfl, HG, HV, HW7⟩ := hrel
                rename World => wz
                by_cases t4 : k ≤ n
                case pos =>
                  have k1 : (0 : Int) ≤ (k : Int) := by omega
                  have k2 : (k : Int) < ((n + 1 : Nat) : Int) := by omega
                  have k3 : (k : Int) < (n : Int) + 1 := by omega
                  have k4 : (k : Int) ≤ (n : Int) := by omega
                  have ck := HG.out.cell (k := k) (by omega)
                  have fk := HG.out.frozen k
                  have HG2 := Lib.hid (HG.out.setJ k (-1))
                  have HW8 := Lib.hid (below_setJ HW7.out (g := gl) (by rw [HGL.out]; exact Nat.le_refl _) k (.int .i64 (-1)))
                  have HV2 := Lib.hid (show ∀ m, m < k + 1 → m < n + 1 → upF f k (-1) m = lnc A le sp i m from fun m h1 h2 => by
                    unfold upF
                    by_cases e : m = k
                    · rw [if_pos e, e]; exact (STOP.out k (by omega) (by omega)).symm
                    · rw [if_neg e]; exact HV.out m (by omega) h2)
                  have ek : IntKind.i64.wrap ((k : Int) + 1) = (k : Int) + 1 := hwI (by omega) (by omega)
                  clear HG HV HW7
                  generalize f k = fkv at ck
                  go_wp2_with fail
                  go_roundw
                  case rel => exact ⟨k + 1, _, by omega, by omega, by go_num, HG2, HV2, HW8⟩
                  case measure => simp [intOf]; omega
                obtain rfl : k = n + 1 := by omega
                have d4 : decide (((n + 1 : Nat) : Int) ≤ (n : Int)) = false := decide_eq_false (by omega)
                have d5 : decide ((n : Int) + 1 ≤ (n : Int)) = false := decide_eq_false (by omega)
                have d6 : ¬ ((n : Int) + 1 ≤ (n : Int)) := by omega
                go_wp2_with fail
                go_roundw
                case rel => exact ⟨n + 2, f, by omega, by go_num, HG, Lib.hid (fun m h1 h2 => HV.out m (by omega) h2), HW7⟩
                case measure => simp [intOf]; omega
            have hk2 := KE.out.1 hk
            simp only [decide_eq_true hk2] at EK
            by_cases hs : sp < t.mic - s.mic
            case pos =>
              have ds : decide (sp < t.mic - s.mic) = true := decide_eq_true hs
              have STOP := Lib.hid (STP.out (.inr (by rw [← HTS.out.1, ← HTS.out.2]; exact hs)))
              clear hk hk2 hs HTS STP
              go_wp2_with fail
              go_upto_region 15 with fail
              go_quiet (fail)
              have HG2 := Lib.hid (show OB (w6.drewN nq) gl 3 (n + 1) (fun k => .int .i64 (g k)) from HG.out)
              have HW7 := Lib.hid (below_drewN HW6.out nq)
              clear HG HW6 a0 a1 a2 a3 a4 a5 b0 b1 b2 b3 b4 b5 cy cy2 s2 EK KE eS
              generalize w6.drewN nq = w7 at *
              go_wp2_with fail
              go_loopw [9] (fun kv wz => ∃ (k : Nat) (f : Nat → Int), j + 1 ≤ k ∧ k ≤ n + 1 ∧ kv = .int .i64 (k : Int) ∧ Hid (OB wz gl 3 (n + 1) (fun k => .int .i64 (f k))) ∧ Hid (∀ m, m < k → m < n + 1 → f m = lnc A le sp i m) ∧ Hid (Below wr.heap.size wr wz)) (fun kv _ => n + 1 - (intOf kv).toNat)
              case atStart => exact ⟨j + 1, g, Nat.le_refl _, by omega, by simp, HG2, HV, HW7⟩
              case round =>
                clear HG2 HV HW7
                obtain ⟨k, f, hk1, hk2, rfl, HG, HV, HW7⟩ := hrel
                rename World => wz
                by_cases t4 : k ≤ n
                case pos =>
                  have k1 : (0 : Int) ≤ (k : Int) := by omega
                  have k2 : (k : Int) < ((n + 1 : Nat) : Int) := by omega
                  have k3 : (k : Int) < (n : Int) + 1 := by omega
                  have k4 : (k : Int) ≤ (n : Int) := by omega
                  have ck := HG.out.cell (k := k) (by omega)
                  have fk := HG.out.frozen k
                  have HG2 := Lib.hid (HG.out.setJ k (-1))
                  have HW8 := Lib.hid (below_setJ HW7.out (g := gl) (by rw [HGL.out]; exact Nat.le_refl _) k (.int .i64 (-1)))
                  have HV2 := Lib.hid (show ∀ m, m < k + 1 → m < n + 1 → upF f k (-1) m = lnc A le sp i m from fun m h1 h2 => by
                    unfold upF
                    by_cases e : m = k
                    · rw [if_pos e, e]; exact (STOP.out k (by omega) (by omega)).symm
                    · rw [if_neg e]; exact HV.out m (by omega) h2)
                  have ek : IntKind.i64.wrap ((k : Int) + 1) = (k : Int) + 1 := hwI (by omega) (by omega)
                  clear HG HV HW7
                  generalize f k = fkv at ck
                  go_wp2_with fail
                  go_roundw
                  case rel => exact ⟨k + 1, _, by omega, by omega, by go_num, HG2, HV2, HW8⟩
                  case measure => simp [intOf]; omega
                obtain rfl : k = n + 1 := by omega
                have d4 : decide (((n + 1 : Nat) : Int) ≤ (n : Int)) = false := decide_eq_false (by omega)
                have d5 : decide ((n : Int) + 1 ≤ (n : Int)) = false := decide_eq_false (by omega)
                have d6 : ¬ ((n : Int) + 1 ≤ (n : Int)) := by omega
                go_wp2_with fail
                go_roundw
                case rel => exact ⟨n + 2, f, by omega, by go_num, HG, Lib.hid (fun m h1 h2 => HV.out m (by omega) h2), HW7⟩
                case measure => simp [intOf]; omega
            have ds : decide (sp < t.mic - s.mic) = false := decide_eq_false hs
            clear hk hk2 hs HTS STP
            go_wp2_with fail
            go_upto_region 15 with fail
            go_quiet (fail)
            have HG2 := Lib.hid (show OB (w6.drewN nq) gl 3 (n + 1) (fun k => .int .i64 (g k)) from HG.out)
            have HW7 := Lib.hid (below_drewN HW6.out nq)
            clear HG HW6 a0 a1 a2 a3 a4 a5 b0 b1 b2 b3 b4 b5 cy cy2 s2 EK KE eS
            generalize w6.drewN nq = w7 at *
            go_wp2_with fail
            go_roundw
            case rel => exact ⟨j + 1, g, by omega, by go_num, HG2, Lib.hid (fun m h1 h2 => HV.out m h1 h2), HW7⟩
            case measure => simp [intOf]; omega
        have jn : n < j := by omega
        have d4 : decide ((j : Int) ≤ (n : Int)) = false := decide_eq_false (by omega)
        have HR2 := Lib.hid (HR.out.below HW6.out)
        have HO2 := Lib.hid (own_belowD HO.out HW6.out)
        have HW2 := Lib.hid (HW.out.trans (HW6.out.mono HW.out.size))
        have RI := Lib.hid (show ∀ r, r < i + 1 → OB wq (upN gr i gl r) 3 (n + 1) (fun j => .int .i64 (lnc A le sp r j)) from fun r hr => by
          unfold upN
          by_cases e : r = i
          · rw [if_pos e, e]; exact HG.out.ext fun m hm => by rw [HV.out m (by omega) hm]
          · rw [if_neg e]; exact HR2.out r (by omega))
        clear HG HV HW6 HR HO HW HR2
        go_wp2_with (first
          | (at_builtin; refine wpList_append_own _ rfl _ _ 60 rfl wo.heap.size 36 i2 (.slice none 0 0) 1 24 Try.underlying60 hi2 hx0 hx1 hx2 rfl (by decide) _ _ _ rfl (HO2.out.alloc _) ⟨wq.heap.size, 0, none⟩ 1 1 [.slice (some ⟨gl, 0, none⟩) (n + 1) (n + 1)] rfl rfl (slice_one _ rfl _) one_sl (by unfold maxLen; omega) (by omega) (by have := HW2.out.size; simp; omega) ?_))
        intro v' w1 hown' hgrow _
        have HR3 := Lib.hid (show RowsI w1 n (i + 1) (upN gr i gl) (fun i j => lnc A le sp i j) from fun r hr => ob_grown (RI.out r hr) HO2.out int_ne_row hgrow)
        have HO3 := Lib.hid (show w1.ownsRow wo.heap.size 36 1 v' (i + 1) ((List.range (i + 1)).map fun r => Value.slice (some ⟨upN gr i gl r, 0, none⟩) (n + 1) (n + 1)) from by rw [← rowsV_snoc]; exact hown')
        have HW3 := Lib.hid (show Below wo.heap.size wo w1 from (HW2.out.alloc HW2.out.size _).grown hgrow (by have := HW2.out.size; simp; omega) (own_ltD HO2.out))
        clear hown' hgrow RI HO2 HW2
        go_wp2_with fail
        go_roundw
        case rel => exact ⟨i + 1, _, by omega, by go_num, HR3, HO3, HW3⟩
        case measure => simp [intOf]; omega
    obtain rfl : i = n := by omega
    have FIN := Lib.hid (HR.out.coR HO.out)
    have HH := Lib.hid (HB.out.trans (HW.out.mono HB.out.size))
    go_wp2_with fail
    go_ret
    obtain ⟨pp, cc, rfl, h2⟩ := FIN.out
    exact ⟨pp, cc, rfl, by rw [HA.out]; exact h2, HH.out⟩
end Go.Proofs.Ytmdhmpfagekonaa

/- Classing's shuffle, plain: fleeces in another order give the same lines, where kind and diameter tell the mass. -/
namespace Go.Proofs.Ytmdhmpfagekonaa
open Go.RowKit Go.Proofs.Ytmdhmpfagekonaa.Ct Go.Proofs.Ytmdhmpfagekonaa.Ce Go.Proofs.Ytmdhmpfagekonaa.Stb
set_option linter.unusedVariables false
set_option linter.unusedSimpArgs false

namespace Ce
section
variable {A B : Nat → Fl} {n : Nat}
theorem mas_cg (h : ∀ k, k < n → A k = B k) (i : Nat) : ∀ {j}, j ≤ n → mas A i j = mas B i j
  | 0, _ => rfl
  | j + 1, hj => by unfold mas; rw [mas_cg h i (by omega), h j (by omega)]
theorem offs_cg (h : ∀ k, k < n → A k = B k) (c : Int) (i : Nat) : ∀ {j}, j ≤ n → offs A c i j = offs B c i j
  | 0, _ => rfl
  | j + 1, hj => by unfold offs; rw [offs_cg h c i (by omega), h j (by omega)]
theorem cenF_cg (h : ∀ k, k < n → A k = B k) (all : Int) (i : Nat) : ∀ {k p}, p + k ≤ n → cenF A all i k p = cenF B all i k p
  | 0, p, _ => rfl
  | k + 1, p, hk => by unfold cenF; rw [mas_cg h i (show p + 1 ≤ n by omega), cenF_cg h all i (by omega)]
theorem cen_cg (h : ∀ k, k < n → A k = B k) (ok : ∀ k, k < n → (A k).ok) {i j : Nat} (ij : i < j) (hj : j ≤ n) : cen A i j = cen B i j := by
  have ce := cenF_lt (A := A) (i := i) (k := j - i) (p := i) (j := j) (by omega) (by omega) (mas_bd ok hj).1
  have e : cenP A i j = cenP B i j := by unfold cenP; rw [mas_cg h i hj]; exact cenF_cg h _ i (by omega)
  unfold cen
  rw [← e, h _ (by unfold cenP; omega)]
theorem cMat_cg (h : ∀ k, k < n → A k = B k) (ok : ∀ k, k < n → (A k).ok) (le sp : Int) {i j : Nat} (hj : j ≤ n) : cMat A le sp i j = cMat B le sp i j := by
  unfold cMat
  by_cases ij : i < j
  · rw [if_pos ij, if_pos ij]
    unfold lnc
    have e : isLine A le sp i j ↔ isLine B le sp i j := by unfold isLine; rw [h i (by omega), h (j - 1) (by omega), mas_cg h i hj]
    by_cases q : isLine A le sp i j
    · rw [if_pos q, if_pos (e.1 q), cen_cg h ok ij hj, offs_cg h _ i hj]
    · rw [if_neg q, if_neg (fun g => q (e.2 g))]
  · rw [if_neg ij, if_neg ij]
end
theorem lfm_cg {c c' r : Nat → Int} (i : Nat) : ∀ m, (∀ j, i < j → j ≤ i + m → c j = c' j) → lfm c r i m = lfm c' r i m
  | 0, _ => rfl
  | m + 1, h => by unfold lfm; rw [lfm_cg i m (fun j a b => h j a (by omega)), h (i + m + 1) (by omega) (by omega)]
section
variable {C D : Nat → Nat → Int} {n : Nat}
theorem rowK_cg (h : ∀ i j, i < j → j ≤ n → C i j = D i j) : ∀ k i, rowK C n k i = rowK D n k i
  | 0, i => rfl
  | k + 1, i => by
    show lfm (C i) (rowK C n k) i (n - i) = lfm (D i) (rowK D n k) i (n - i)
    rw [lfm_cg i (n - i) (fun j a b => h i j a (by omega)), funext (rowK_cg h k)]
theorem nxt_cg (h : ∀ i j, i < j → j ≤ n → C i j = D i j) {k i : Nat} (e : rowK C n (k + 1) i ≠ -1) : nxt C n k i = nxt D n k i := by
  have r := rowK_cg h
  obtain ⟨a1, a2, a3⟩ := nxt_ok e
  obtain ⟨b1, b2, b3⟩ := nxt_ok (C := D) (n := n) (k := k) (i := i) (by rw [← r]; exact e)
  rcases Nat.lt_trichotomy (nxt C n k i) (nxt D n k i) with l | l | l
  · have := nxt_min (C := D) a1 l
    rw [← r, ← r, ← h i _ a1 a2] at this
    exact absurd a3 this
  · exact l
  · have := nxt_min (C := C) b1 l
    rw [r, r, h i _ b1 b2] at this
    exact absurd b3 this
theorem pos_cg (h : ∀ i j, i < j → j ≤ n → C i j = D i j) {m : Nat} (e : rowK C n m 0 ≠ -1) : ∀ t, t ≤ m → pos C n m t = pos D n m t
  | 0, _ => rfl
  | t + 1, ht => by
    have ih := pos_cg h e t (by omega)
    have p := (pos_ok (C := C) (n := n) e (t := t) (by omega)).1
    show nxt C n (m - 1 - t) (pos C n m t) = nxt D n (m - 1 - t) (pos D n m t)
    rw [← ih]
    exact nxt_cg h (by rw [show m - 1 - t + 1 = m - t by omega]; exact p)
end
theorem insK_perm (q : Nat → Int) (x : Int) : ∀ l : List Int, (insK q x l).Perm (x :: l)
  | [] => by simp [insK]
  | y :: l => by
    unfold insK
    split
    · exact .refl _
    · exact ((insK_perm q x l).cons y).trans (List.Perm.swap x y l)
theorem ordK_perm (q : Nat → Int) : ∀ n, (ordK q n).Perm ((List.range n).map fun k : Nat => (k : Int))
  | 0 => .refl _
  | n + 1 => by
    rw [ordK, List.range_succ, List.map_append]
    exact (insK_perm q n _).trans (((ordK_perm q n).cons _).trans (List.perm_append_singleton _ _).symm)
theorem inO_perm (F : Nat → Fl) (n : Nat) : ((List.range n).map (inO F n)).Perm ((List.range n).map F) := by
  have e := (ordK_perm (fun k => (F k).key) n).map (fun z : Int => F z.toNat)
  have g := gi_map (ordK (fun k => (F k).key) n)
  rw [ordK_len] at g
  rw [← g, List.map_map, List.map_map] at e
  exact e
theorem mem_rm {F : Nat → Fl} {n : Nat} {a : Fl} : a ∈ (List.range n).map F ↔ ∃ k, k < n ∧ F k = a := by
  rw [List.mem_map]
  exact ⟨fun ⟨k, h, e⟩ => ⟨k, List.mem_range.1 h, e⟩, fun ⟨k, h, e⟩ => ⟨k, List.mem_range.2 h, e⟩⟩
/-- Of two fleeces of one kind and diameter the masses are the same. -/
def TellM (F : Nat → Fl) (n : Nat) : Prop := ∀ i j, i < n → j < n → (F i).ka = (F j).ka ∧ (F i).kb = (F j).kb ∧ (F i).kc = (F j).kc ∧ (F i).kd = (F j).kd → (F i).mic = (F j).mic → (F i).gr = (F j).gr
section
variable {F F' : Nat → Fl} {n : Nat}
theorem inO_up (F : Nat → Fl) (n : Nat) : ((List.range n).map (inO F n)).Pairwise fun a b => a.key ≤ b.key := by
  rw [List.pairwise_iff_getElem]
  intro i j hi hj ij
  simp only [List.length_map, List.length_range] at hi hj
  simp only [List.getElem_map, List.getElem_range]
  exact inO_le F n (by omega) hj
theorem inO_same (ok : ∀ k, k < n → (F k).ok) (kok : ∀ k, k < n → (F k).kok) (p : ((List.range n).map F').Perm ((List.range n).map F)) (c : TellM F n) : ∀ k, k < n → inO F n k = inO F' n k := by
  have P := ((inO_perm F' n).trans p).trans (inO_perm F n).symm
  have E := List.Perm.eq_of_pairwise (le := fun a b : Fl => a.key ≤ b.key) (fun a b ha hb h1 h2 => by
    obtain ⟨i, hi, rfl⟩ := mem_rm.1 (((inO_perm F' n).trans p).mem_iff.1 ha)
    obtain ⟨j, hj, rfl⟩ := mem_rm.1 ((inO_perm F n).mem_iff.1 hb)
    have e := (key_eq (ok i hi) (ok j hj)).1 (by omega)
    have k := (kk_eq (kok i hi) (kok j hj)).1 e.1
    have g := c i j hi hj k e.2
    have m := e.2
    revert k g m
    generalize F i = x
    generalize F j = y
    intro k g m
    cases x
    cases y
    simp_all) (inO_up F' n) (inO_up F n) P
  intro k hk
  have := congrArg (fun l => l[k]?) E
  simp [hk] at this
  exact this.symm
theorem ok_perm (p : ((List.range n).map F').Perm ((List.range n).map F)) (q : Fl → Prop) : (∀ k, k < n → q (F' k)) ↔ ∀ k, k < n → q (F k) := by
  constructor
  · intro h k hk
    obtain ⟨j, hj, e⟩ := mem_rm.1 (p.mem_iff.2 (mem_rm.2 ⟨k, hk, rfl⟩))
    rw [← e]; exact h j hj
  · intro h k hk
    obtain ⟨j, hj, e⟩ := mem_rm.1 (p.mem_iff.1 (mem_rm.2 ⟨k, hk, rfl⟩))
    rw [← e]; exact h j hj
theorem flE_perm (p : ((List.range n).map F').Perm ((List.range n).map F)) (ls le sp : Int) : flE ls le sp F' n = flE ls le sp F n := by
  have e := ok_perm p Fl.ok
  unfold flE
  by_cases a : 128 < n
  · rw [if_pos a, if_pos a]
  · rw [if_neg a, if_neg a]
    by_cases h : spOk ls le sp ∧ ∀ k, k < n → (F k).ok
    · rw [if_pos h, if_pos ⟨h.1, e.2 h.2⟩]
    · rw [if_neg h, if_neg (fun g => h ⟨g.1, e.1 g.2⟩)]
theorem liV_same (kok : ∀ k, k < n → (F k).kok) (p : ((List.range n).map F').Perm ((List.range n).map F)) (c : TellM F n) (K : Nat) (ls le sp : Int) : liV K ls le sp F' n = liV K ls le sp F n := by
  by_cases fe : flE ls le sp F n = 0
  · have fe' : flE ls le sp F' n = 0 := by rw [flE_perm p]; exact fe
    by_cases n0 : n = 0
    · rw [liV_2 fe n0, liV_2 fe' n0]
    · have ok := inO_ok (flE_ok fe).2.2
      have sm := inO_same (flE_ok fe).2.2 kok p c
      have r : (fun k => rowK (cMat (inO F' n) le sp) n k 0) = fun k => rowK (cMat (inO F n) le sp) n k 0 := funext fun k => (rowK_cg (fun i j _ hj => cMat_cg sm ok le sp hj) k 0).symm
      by_cases b : bst (fun k => rowK (cMat (inO F n) le sp) n k 0) K = 0
      · rw [liV_3 fe n0 b, liV_3 fe' n0 (by rw [r]; exact b)]
      · rw [liV_4 fe n0 b, liV_4 fe' n0 (by rw [r]; exact b)]
        rw [r, ← rowK_cg (fun i j _ hj => cMat_cg sm ok le sp hj)]
  · rw [liV_1 fe, liV_1 (by rw [flE_perm p]; exact fe), flE_perm p]
end
end Ce
/-- The lines of a plan that is read, by what the shuffle looks at. -/
def PlN (w : World) (p : Option Addr) (m : Nat) (S : Nat → Fl) (k : Nat → Nat) (gr ce co : Nat → Int) : Prop := ∀ t, t < m → ∃ (x : Addr) (q : Option Addr) (d : Nat), p = some x ∧ LnAt w (x.add (t * 8)) (S t) (.slice q (k t) d) (gr t) (ce t) (co t)
theorem PlN.below {w w' : World} {p : Option Addr} {m : Nat} {S : Nat → Fl} {k : Nat → Nat} {gr ce co : Nat → Int} (h : PlN w p m S k gr ce co) (b : Below w.heap.size w w') : PlN w' p m S k gr ce co := fun t ht => by
  obtain ⟨x, q, d, e, l⟩ := h t ht
  exact ⟨x, q, d, e, l.below b⟩
def LiA (K : Nat) (ls le sp : Int) (F : Nat → Fl) (n : Nat) (base : Nat) (v : Value) (w' : World) : Prop :=
  (v = .slice none 0 0 ∧ ((liV K ls le sp F n).2 ≠ 0 ∨ n = 0)) ∨ ((liV K ls le sp F n).2 = 0 ∧ n ≠ 0 ∧ flE ls le sp F n = 0 ∧ liK K le sp F n ≠ 0 ∧ PlR base (inO F n) (gi (ordK (fun k => (F k).key) n)) (cMat (inO F n) le sp) (pos (cMat (inO F n) le sp) n (liK K le sp F n)) (liK K le sp F n) v w')
theorem shu_of {K n : Nat} {ls le sp : Int} {F F' : Nat → Fl} {b b' : Nat} {w w' : World} {v v' : Value} (h : LiA K ls le sp F n b v w) (h' : LiA K ls le sp F' n b' v' w')
    (hK : K = ls.toNat) (kok : ∀ k, k < n → (F k).kok) (p : ((List.range n).map F').Perm ((List.range n).map F)) (c : TellM F n) :
    ∃ (m : Nat) (pl : Option Addr) (cl : Nat) (pl' : Option Addr) (cl' : Nat) (S : Nat → Fl) (k : Nat → Nat) (gr ce co : Nat → Int), v = .slice pl m cl ∧ v' = .slice pl' m cl' ∧ m ≤ 16 ∧ PlN w pl m S k gr ce co ∧ PlN w' pl' m S k gr ce co := by
  have lsm := liV_same kok p c K ls le sp
  unfold LiA at h h'
  rw [lsm] at h'
  rcases h with ⟨rfl, h⟩ | ⟨e0, n0, fe, k0, pr⟩
  · rcases h' with ⟨rfl, -⟩ | ⟨a, b, -⟩
    · exact ⟨0, none, 0, none, 0, F, fun _ => 0, fun _ => 0, fun _ => 0, fun _ => 0, rfl, rfl, Nat.zero_le _, fun t ht => absurd ht (by omega), fun t ht => absurd ht (by omega)⟩
    · rcases h with h | h
      · exact absurd a h
      · exact absurd h b
  · rcases h' with ⟨-, h'⟩ | ⟨-, -, fe', k0', pr'⟩
    · rcases h' with h' | h'
      · exact absurd e0 h'
      · exact absurd h' n0
    · obtain ⟨-, so, fok⟩ := flE_ok fe
      have so1 := so.1
      have ok := inO_ok fok
      have sm := inO_same fok kok p c
      have cg : ∀ i j, i < j → j ≤ n → cMat (inO F n) le sp i j = cMat (inO F' n) le sp i j := fun i j _ hj => cMat_cg sm ok le sp hj
      have r : (fun k => rowK (cMat (inO F' n) le sp) n k 0) = fun k => rowK (cMat (inO F n) le sp) n k 0 := funext fun k => (rowK_cg cg k 0).symm
      have lk : liK K le sp F' n = liK K le sp F n := by unfold liK; rw [r]
      rw [lk] at pr' k0'
      have h0 : rowK (cMat (inO F n) le sp) n (liK K le sp F n) 0 ≠ -1 := bst_hit (f := fun k => rowK (cMat (inO F n) le sp) n k 0) k0
      have h0' : rowK (cMat (inO F' n) le sp) n (liK K le sp F n) 0 ≠ -1 := by rw [← rowK_cg cg]; exact h0
      have ln := fun {t} (ht : t < liK K le sp F n) => pos_line (C := cMat (inO F n) le sp) (n := n) h0 ht
      have ln' := fun {t} (ht : t < liK K le sp F n) => pos_line (C := cMat (inO F' n) le sp) (n := n) h0' ht
      have pc := pos_cg cg h0
      obtain ⟨g, cl, rfl, ps⟩ := plS_of pr (by omega) (fun x hx => (ln hx).1)
      obtain ⟨g', cl', rfl, ps'⟩ := plS_of pr' (by omega) (fun x hx => (ln' hx).1)
      refine ⟨_, _, cl, _, cl', fun t => inO F n (pos (cMat (inO F n) le sp) n (liK K le sp F n) t), fun t => pos (cMat (inO F n) le sp) n (liK K le sp F n) (t + 1) - pos (cMat (inO F n) le sp) n (liK K le sp F n) t, fun t => mas (inO F n) (pos (cMat (inO F n) le sp) n (liK K le sp F n) t) (pos (cMat (inO F n) le sp) n (liK K le sp F n) (t + 1)), fun t => cen (inO F n) (pos (cMat (inO F n) le sp) n (liK K le sp F n) t) (pos (cMat (inO F n) le sp) n (liK K le sp F n) (t + 1)), fun t => cMat (inO F n) le sp (pos (cMat (inO F n) le sp) n (liK K le sp F n) t) (pos (cMat (inO F n) le sp) n (liK K le sp F n) (t + 1)), rfl, rfl, Nat.le_trans (bst_le _ _) (by omega), fun t ht => ?_, fun t ht => ?_⟩
      · obtain ⟨x, q, d, e, l, -⟩ := ps t ht
        exact ⟨x, q, d, e, l⟩
      · obtain ⟨x, q, d, e, l, -⟩ := ps' t ht
        refine ⟨x, q, d, e, ?_⟩
        rw [← pc t (by omega), ← pc (t + 1) (by omega)] at l
        have a := ln ht
        rw [← sm _ (by omega), ← mas_cg sm _ a.2.1, ← cen_cg sm ok a.1 a.2.1, ← cg _ _ a.1 a.2.1] at l
        exact l
end Go.Proofs.Ytmdhmpfagekonaa

/- Classing's lines: Curve. -/
namespace Go.Proofs.Ytmdhmpfagekonaa
open Go.RowKit Go.Proofs.Ytmdhmpfagekonaa.Ct Go.Proofs.Ytmdhmpfagekonaa.Ce Go.Proofs.Ytmdhmpfagekonaa.Stb
set_option linter.unusedVariables false
set_option linter.unusedSimpArgs false

/-- What Curve answers. -/
def CuQ (K : Nat) (ls le sp : Int) (F : Nat → Fl) (n : Nat) (w : World) (e : Ending) (w' : World) : Prop := ∃ v, e = .returned (.tuple #[v, .int .i64 (flE ls le sp F n)]) ∧ Below w.heap.size w w' ∧
  ((flE ls le sp F n ≠ 0 ∧ v = .slice none 0 0) ∨ (flE ls le sp F n = 0 ∧ ls = (K : Int) ∧ ∃ g, v = .slice (some ⟨g, 0, none⟩) K K ∧ w.heap.size ≤ g ∧ OB w' g 3 K (fun k => .int .i64 (rowK (cMat (inO F n) le sp) n (k + 1) 0))))

set_option maxRecDepth 100000 in
set_option maxHeartbeats 16000000 in
theorem Curve_any (p : Option Addr) (c n K : Nat) (F : Nat → Fl) (ls le sp : Int) (w : World) (r : FlR w p n F) (ln : n ≤ 140) (kok : ∀ k, k < n → (F k).kok) (hp : ∀ x, p = some x → x.block < w.heap.size) (hK : K = ls.toNat) :
    Calls Try.prog 17 #[.slice p n c, .agg #[.int .i64 ls, .int .i64 le, .int .i64 sp]] w (CuQ K ls le sp F n w) := by
  obtain ⟨i0, hi, hz0, hz1, hz2⟩ := info_parts intInfo
  have R := Lib.hid r
  have KOK := Lib.hid kok
  have HP := Lib.hid hp
  have HKK := Lib.hid hK
  have B1 := Lib.hid (show Below w.heap.size w (w.alloc (Obj.cells #[.int .i64 ls, .int .i64 le, .int .i64 sp] 24)) from (Below.refl _ _).alloc (Nat.le_refl _) _)
  have OS := Lib.hid (spBx w ls le sp)
  clear r kok hp hK
  go_enter Try.func17, Try.ntmps17
  go_upto_region 1 with fail
  generalize (w.alloc (Obj.cells #[.int .i64 ls, .int .i64 le, .int .i64 sp] 24)) = wa at *
  have s0 : wa.cell? ⟨w.heap.size, 0, none⟩ = some (.int .i64 ls) := OS.out.cell (k := 0) (by decide)
  have s1 : wa.cell? ⟨w.heap.size, 1, none⟩ = some (.int .i64 le) := OS.out.cell (k := 1) (by decide)
  have s2 : wa.cell? ⟨w.heap.size, 2, none⟩ = some (.int .i64 sp) := OS.out.cell (k := 2) (by decide)
  have C1 := Lib.hid (check_any p c n F ls le sp wa (R.out.below B1.out) (by omega))
  go_wp2_with fail
  refine C1.out.mono ?_
  rintro e w1 ⟨rfl, b1⟩
  have HB := Lib.hid (B1.out.trans (b1.mono B1.out.size))
  have OS1 := Lib.hid (OS.out.below b1)
  clear b1 C1 s0 s1 s2 OS B1
  by_cases z1 : flE ls le sp F n = 0
  case neg =>
    have d1 : (flE ls le sp F n == 0) = false := by simpa using z1
    have FN := Lib.hid (show CuQ K ls le sp F n w (.returned (.tuple #[.slice none 0 0, .int .i64 (flE ls le sp F n)])) w1 from ⟨_, rfl, HB.out, .inl ⟨z1, rfl⟩⟩)
    clear z1
    generalize flE ls le sp F n = x at *
    go_wp2_with fail
    go_ret2
    exact FN.out
  have Z1 := Lib.hid z1
  obtain ⟨n128, so, fok⟩ := flE_ok z1
  have FOK := Lib.hid fok
  have SO := Lib.hid so
  rw [z1]
  have eK : ls = (K : Int) := by have := HKK.out; have := so.1; omega
  have KB := Lib.hid (show 1 ≤ K ∧ K ≤ 16 from by have := so.1; omega)
  clear z1 fok so
  clear HKK SO
  subst eK
  have s0 : w1.cell? ⟨w.heap.size, 0, none⟩ = some (.int .i64 (K : Int)) := OS1.out.cell (k := 0) (by decide)
  have s1 : w1.cell? ⟨w.heap.size, 1, none⟩ = some (.int .i64 le) := OS1.out.cell (k := 1) (by decide)
  have s2 : w1.cell? ⟨w.heap.size, 2, none⟩ = some (.int .i64 sp) := OS1.out.cell (k := 2) (by decide)
  have C3 := Lib.hid (sorted_any p c n F (K : Int) le sp w1 (R.out.below HB.out) ln FOK.out KOK.out (fun x hx => Nat.lt_of_lt_of_le (HP.out x hx) HB.out.size))
  go_wp2_with fail
  refine C3.out.mono ?_
  rintro e w3 ⟨gp, gf, gc, rfl, qp, qf, qc, b1, -⟩
  replace HB := Lib.hid (HB.out.trans (b1.mono HB.out.size))
  replace OS1 := Lib.hid (OS1.out.below b1)
  clear b1 C3 s0 s1 s2
  have OC := Lib.hid (ob_cl w3 (K : Int) le sp (.slice (some ⟨gp, 0, none⟩) n n) (.slice (some ⟨gf, 0, none⟩) n n) (.slice (some ⟨gc, 0, none⟩) n n) 67)
  have B2 : Below w3.heap.size w3 (w3.alloc (Obj.cells #[.int .i64 (K : Int), .int .i64 le, .int .i64 sp, .slice (some ⟨gp, 0, none⟩) n n, .slice (some ⟨gf, 0, none⟩) n n, .slice (some ⟨gc, 0, none⟩) n n] 67)) := (Below.refl _ _).alloc (Nat.le_refl _) _
  have QP := Lib.hid (qp.below B2)
  have QF := Lib.hid (qf.below B2)
  have QC := Lib.hid (qc.below B2)
  replace OS1 := Lib.hid (OS1.out.below B2)
  replace HB := Lib.hid (HB.out.trans (B2.mono HB.out.size))
  clear qp qf qc B2
  unfold clV
  go_upto_region 5 with fail
  generalize (w3.alloc (Obj.cells #[.int .i64 (K : Int), .int .i64 le, .int .i64 sp, .slice (some ⟨gp, 0, none⟩) n n, .slice (some ⟨gf, 0, none⟩) n n, .slice (some ⟨gc, 0, none⟩) n n] 67)) = wb at *
  have s0 : wb.cell? ⟨w.heap.size, 0, none⟩ = some (.int .i64 (K : Int)) := OS1.out.cell (k := 0) (by decide)
  have kb := KB.out
  go_upto_region 6 with (first
    | (at_make; refine wpList_make_full _ rfl _ _ 36 rfl wb.heap.size 3 i0 (.int .i64 0) 1 Try.underlying36 hi hz0 hz1 .i64 .i64 _ _ K rfl rfl (by omega) (by omega) (by rw [hz2]; omega) (by unfold maxLen; omega) (Nat.le_refl _) ?_; intro wc hown hgrow))
  have OL := Lib.hid (show OB wc wb.heap.size 3 K (fun z => .int .i64 (if z < 0 then rowK (cMat (inO F n) le sp) n (z + 1) 0 else 0)) from by
    have h3 := hown
    have h2 : (madeCells (Value.int .i64 0).cells (K * 1)).toList = (List.range (K * 1)).map fun _ => Value.int .i64 0 := by rw [Nat.mul_one, madeInts]
    rw [h2] at h3
    have := OB.of (m := 1) (c := fun _ => Value.int .i64 0) h3
    rw [Nat.mul_one] at this
    exact this.ext fun k _ => by rw [if_neg (by omega)])
  have B3 := Lib.hid (show Below wb.heap.size wb wc from (Below.refl _ _).grown hgrow (Nat.le_refl _) (fun k e => by cases e))
  clear hown hgrow s0 hi hz0 hz1 hz2 i0 kb
  replace HB := Lib.hid (HB.out.trans (B3.out.mono HB.out.size))
  replace OC := Lib.hid (OC.out.below B3.out)
  replace QC := Lib.hid (QC.out.below B3.out)
  have GL := Lib.hid (show w.heap.size ≤ wb.heap.size from by have := OS1.out.lt; omega)
  obtain ⟨gC, hgC⟩ : ∃ g, g = wb.heap.size := ⟨_, rfl⟩
  rw [← hgC] at OL GL ⊢
  clear B3 OS1 QP QF hgC
  have k0 : wc.cell? ⟨w3.heap.size, 0, none⟩ = some (.int .i64 (K : Int)) := OC.out.cell (k := 0) (by decide)
  have k1 : wc.cell? ⟨w3.heap.size, 1, none⟩ = some (.int .i64 le) := OC.out.cell (k := 1) (by decide)
  have k2 : wc.cell? ⟨w3.heap.size, 2, none⟩ = some (.int .i64 sp) := OC.out.cell (k := 2) (by decide)
  have k3 : wc.cell? ⟨w3.heap.size, 3, none⟩ = some (.slice (some ⟨gp, 0, none⟩) n n) := OC.out.cell (k := 3) (by decide)
  have k4 : wc.cell? ⟨w3.heap.size, 4, none⟩ = some (.slice (some ⟨gf, 0, none⟩) n n) := OC.out.cell (k := 4) (by decide)
  have k5 : wc.cell? ⟨w3.heap.size, 5, none⟩ = some (.slice (some ⟨gc, 0, none⟩) n n) := OC.out.cell (k := 5) (by decide)
  generalize w3.heap.size = gb at *
  have BD := Lib.hid (fun (a j : Nat) (h : j ≤ n) => cMat_bd (A := inO F n) (n := n) (i := a) (j := j) (le := le) (sp := sp) (inO_ok FOK.out) ln h)
  have CLc := Lib.hid (leastCosts_any le sp (some ⟨gp, 0, none⟩) (some ⟨gf, 0, none⟩) (some ⟨gc, 0, none⟩) n n n n n K (cMat (inO F n) le sp) wc QC.out ln KB.out 1503238553600000 (by omega) BD.out)
  unfold clV at CLc
  go_upto_region 6 with fail
  go_wp2_with fail
  refine CLc.out.mono ?_
  rintro e w4 ⟨gR, rfl, qr, b1, nr, ng⟩
  have QR := Lib.hid qr
  replace HB := Lib.hid (HB.out.trans (b1.mono HB.out.size))
  have OL4 := Lib.hid (OL.out.below b1)
  have GC := Lib.hid (OL.out.lt)
  have NR := Lib.hid nr
  have NG := Lib.hid ng
  clear b1 CLc k0 k1 k2 k3 k4 k5 qr nr ng QC OC BD
  have kb := KB.out
  have i1 : decide ((1 : Int) < 0) = false := by decide
  go_wp2_with fail
  have RB := Lib.hid (rowK_bd (C := cMat (inO F n) le sp) (n := n) (M := 1503238553600000) (by omega) (fun i j _ h => cMat_bd (inO_ok FOK.out) ln h))
  go_loopw [9, 10, 27] (fun _ _ kv wr => ∃ k : Nat, k ≤ K ∧ kv = .int .i64 (k : Int) ∧ Hid (OB wr gC 3 K (fun z => .int .i64 (if z < k then rowK (cMat (inO F n) le sp) n (z + 1) 0 else 0))) ∧ Hid (Fm (fun y => y = gC) w4 wr)) (fun _ _ kv _ => K - (intOf kv).toNat)
  case atStart => exact ⟨0, Nat.zero_le _, rfl, OL4, Lib.hid (Fm.refl _ _)⟩
  case round =>
    obtain ⟨k, hk, rfl, OW, FW⟩ := hrel
    by_cases t1 : k < K
    case pos =>
      have k1 : (0 : Int) ≤ (k : Int) := by omega
      have k2 : (k : Int) < (K : Int) := by omega
      obtain ⟨gi, cg, lg⟩ := NG.out (k + 1) (by omega)
      obtain ⟨y1, d1, r1, v1⟩ := QR.out.at (i := k + 1) (j := 0) (by omega) (by omega) rfl
      rw [cg] at r1
      cases r1
      have gne : ¬ gi = gC := by have := GC.out; omega
      have gRe : ¬ gR = gC := by have := GC.out; have := NR.out; omega
      have fk : ∀ a : Addr, ¬ a.block = gC → a.block < w4.heap.size → wr.cell? a = w4.cell? a := fun a h1 h2 => by
        unfold World.cell?; rw [FW.out.block _ h2 h1]
      have hlt : ∀ {a : Addr} {v : Value}, w4.cell? a = some v → a.block < w4.heap.size := fun {a v} h => by
        unfold World.cell? at h
        by_cases q : a.block < w4.heap.size
        · exact q
        · rw [Array.getElem?_eq_none (by omega)] at h; simp at h
      have c1 : wr.cell? ⟨gR, k + 1, none⟩ = some (.slice (some ⟨gi, 0, none⟩) (n + 1) (n + 1)) := (fk _ gRe (hlt cg)).trans cg
      have v1 : w4.cell? ⟨gi, 0, none⟩ = some (.int .i64 (rowK (cMat (inO F n) le sp) n (k + 1) 0)) := v1
      have c2 : wr.cell? ⟨gi, 0, none⟩ = some (.int .i64 (rowK (cMat (inO F n) le sp) n (k + 1) 0)) := (fk _ gne (hlt v1)).trans v1
      have c1' : wr.cell? ⟨gR, 1 + k, none⟩ = some (.slice (some ⟨gi, 0, none⟩) (n + 1) (n + 1)) := by rw [Nat.add_comm]; exact c1
      have fz := OW.out.frozen k
      obtain ⟨vz, cz⟩ : ∃ v, wr.cell? ⟨gC, k, none⟩ = some v := ⟨_, OW.out.cell t1⟩
      have OW2 := Lib.hid (show OB (wr.setCell ⟨gC, k, none⟩ (.int .i64 (rowK (cMat (inO F n) le sp) n (k + 1) 0))) gC 3 K (fun z => .int .i64 (if z < k + 1 then rowK (cMat (inO F n) le sp) n (z + 1) 0 else 0)) from by
        refine (OW.out.set k _).ext fun z _ => ?_
        unfold updV
        by_cases e : z = k
        · rw [if_pos e, e, if_pos (by omega)]
        · rw [if_neg e]
          show Value.int .i64 (if z < k then _ else 0) = _
          by_cases g : z < k
          · rw [if_pos g, if_pos (by omega)]
          · rw [if_neg g, if_neg (by omega)])
      have FW2 := Lib.hid (FW.out.trans (Fm.set (M := fun y => y = gC) ⟨gC, k, none⟩ (.int .i64 (rowK (cMat (inO F n) le sp) n (k + 1) 0)) rfl))
      have i5 : (0 : Int) < (n : Int) + 1 := by omega
      have i5' : (0 : Int) < ((n + 1 : Nat) : Int) := by omega
      clear fk hlt cg
      generalize rowK (cMat (inO F n) le sp) n (k + 1) 0 = u at *
      go_wp2_with fail
      go_roundw
      case rel => exact ⟨k + 1, by omega, by go_num, OW2, FW2⟩
      case measure => simp [intOf]; omega
    obtain rfl : k = K := by omega
    have k3 : ¬ ((k : Int) < (k : Int)) := by omega
    have FN := Lib.hid (show CuQ k (k : Int) le sp F n w (.returned (.tuple #[.slice (some ⟨gC, 0, none⟩) k k, .int .i64 0])) wr from by
      refine ⟨_, by rw [Z1.out], HB.out.trans (FW.out.below (fun y hy e => by have := GL.out; omega) HB.out.size), .inr ⟨Z1.out, rfl, gC, rfl, GL.out, OW.out.ext fun z hz => by rw [if_pos hz]⟩⟩)
    go_wp2_with fail
    go_ret2
    exact FN.out
end Go.Proofs.Ytmdhmpfagekonaa

/- Classing's lines: the reference's rests: the least cost of k lines from i on. -/
namespace Go.Proofs.Ytmdhmpfagekonaa
open Go.RowKit Go.Proofs.Ytmdhmpfagekonaa.Ct Go.Proofs.Ytmdhmpfagekonaa.Ce Go.Proofs.Ytmdhmpfagekonaa.Stb
set_option linter.unusedVariables false
set_option linter.unusedSimpArgs false

def upD (D : Nat → Nat → Int) (i k : Nat) (v : Int) : Nat → Nat → Int := fun a b => if a = i ∧ b = k then v else D a b
theorem upD_hit (D : Nat → Nat → Int) (i k : Nat) (v : Int) : upD D i k v i k = v := if_pos ⟨rfl, rfl⟩
theorem upD_far {D : Nat → Nat → Int} {i k a b : Nat} {v : Int} (h : ¬ (a = i ∧ b = k)) : upD D i k v a b = D a b := if_neg h
/-- The rests in memory: the header at gH, the rows at gr. -/
structure RsM (w : World) (gH n K : Nat) (gr : Nat → Nat) (D : Nat → Nat → Int) (W : World) : Prop where
  hd : ∀ r, r ≤ n → W.cell? ⟨gH, r, none⟩ = some (.slice (some ⟨gr r, 0, none⟩) (K + 1) (K + 1))
  hb : gH < W.heap.size
  rr : ∀ r, r ≤ n → OB W (gr r) 3 (K + 1) (fun k => .int .i64 (D r k))
  bl : Below w.heap.size w W
  l1 : w.heap.size ≤ gH
  l2 : ∀ r, r ≤ n → gr r ≠ gH ∧ w.heap.size ≤ gr r
  l3 : ∀ a b, a ≤ n → b ≤ n → gr a = gr b → a = b
section
variable {w W W' : World} {gH n K : Nat} {gr : Nat → Nat} {D : Nat → Nat → Int}
theorem RsM.call (h : RsM w gH n K gr D W) (b : Below W.heap.size W W') : RsM w gH n K gr D W' :=
  ⟨fun r hr => by unfold World.cell?; rw [b.block _ h.hb]; exact h.hd r hr, Nat.lt_of_lt_of_le h.hb b.size, fun r hr => (h.rr r hr).below b, h.bl.trans (b.mono h.bl.size), h.l1, h.l2, h.l3⟩
theorem RsM.set (h : RsM w gH n K gr D W) {i k : Nat} (hi : i ≤ n) (v : Int) : RsM w gH n K gr (upD D i k v) (W.setCell ⟨gr i, k, none⟩ (.int .i64 v)) := by
  have f : Fm (fun y => y = gr i) W (W.setCell ⟨gr i, k, none⟩ (.int .i64 v)) := Fm.set _ _ rfl
  refine ⟨fun r hr => ?_, ?_, fun r hr => ?_, ?_, h.l1, h.l2, h.l3⟩
  · unfold World.cell?
    rw [f.block _ h.hb (fun e => (h.l2 i hi).1 e.symm)]
    exact h.hd r hr
  · exact Nat.lt_of_lt_of_le h.hb f.size
  · by_cases e : r = i
    · subst e
      refine ((h.rr r hr).set k (.int .i64 v)).ext fun m _ => ?_
      unfold updV upD
      by_cases q : m = k
      · rw [if_pos q, if_pos ⟨rfl, q⟩]
      · rw [if_neg q, if_neg (fun g => q g.2)]
    · refine ((h.rr r hr).fm f (fun q => e (h.l3 r i hr hi q))).ext fun m _ => ?_
      rw [upD_far (fun g => e g.1)]
  · exact h.bl.setCell (h.l2 i hi).2 _
theorem RsM.cells (h : RsM w gH n K gr D W) {r k : Nat} (hr : r ≤ n) (hk : k ≤ K) : W.cell? ⟨gH, r, none⟩ = some (.slice (some ⟨gr r, 0, none⟩) (K + 1) (K + 1)) ∧ W.cell? ⟨gr r, k, none⟩ = some (.int .i64 (D r k)) ∧ W.frozen? ⟨gr r, k, none⟩ = false :=
  ⟨h.hd r hr, (h.rr r hr).cell (by omega), (h.rr r hr).frozen k⟩
theorem RsM.ext (h : RsM w gH n K gr D W) {D' : Nat → Nat → Int} (e : ∀ r k, r ≤ n → k ≤ K → D r k = D' r k) : RsM w gH n K gr D' W :=
  ⟨h.hd, h.hb, fun r hr => (h.rr r hr).ext fun k hk => by rw [e r k hr (by omega)], h.bl, h.l1, h.l2, h.l3⟩
theorem RsM.coR (h : RsM w gH n K gr D W) : CoR W (some ⟨gH, 0, none⟩) (n + 1) (K + 1) D := fun i hi =>
  ⟨⟨gH, 0, none⟩, some ⟨gr i, 0, none⟩, K + 1, rfl, h.hb, by rw [add0]; exact h.hd i (by omega), (h.rr i (by omega)).nm⟩
end
theorem rsM_of {w W : World} {n K : Nat} {v : Value} {gr : Nat → Nat} {D : Nat → Nat → Int} (h : RowsI W K (n + 1) gr D) (row : W.ownsRow w.heap.size 36 1 v (n + 1) ((List.range (n + 1)).map fun r => Value.slice (some ⟨gr r, 0, none⟩) (K + 1) (K + 1)))
    (bl : Below w.heap.size w W) (l2 : ∀ r, r < n + 1 → w.heap.size ≤ gr r) (l3 : ∀ a b, a < b → b < n + 1 → gr a ≠ gr b) : ∃ g c, v = .slice (some ⟨g, 0, none⟩) (n + 1) c ∧ RsM w g n K gr D W := by
  rcases row.2 with ⟨-, h0⟩ | ⟨g, cap, cur, rfl, hb, hg, hn, _, hs, ht⟩
  · omega
  · refine ⟨g, cap, rfl, fun r hr => ?_, (Array.getElem?_eq_some_iff.1 hg).1, fun r hr => h r (by omega), bl, hb, fun r hr => ⟨fun e => ?_, l2 r (by omega)⟩, fun a b ha hb' e => ?_⟩
    · have e : ((List.range (n + 1)).map fun r => Value.slice (some ⟨gr r, 0, none⟩) (K + 1) (K + 1))[r]? = some (.slice (some ⟨gr r, 0, none⟩) (K + 1) (K + 1)) := by simp [show r < n + 1 by omega]
      rw [show W.cell? ⟨g, r, none⟩ = cur[r]? from by simp [World.cell?, hg]]
      rw [← e, ← ht, List.getElem?_take_of_lt (by omega)]; simp
    · have o := h r (by omega)
      unfold OB at o
      rw [e] at o
      rw [hg] at o
      cases o
    · rcases Nat.lt_trichotomy a b with l | l | l
      · exact absurd e (l3 a b l (by omega))
      · exact l
      · exact absurd e.symm (l3 b a l (by omega))
/-- The least of the first m lines from i on, as the row of k lines is filled. -/
def rsX (C : Nat → Nat → Int) (n k i m : Nat) : Int := if k = 0 then rowK C n 0 i else lfm (C i) (rowK C n (k - 1)) i m
theorem rsX_0 (C : Nat → Nat → Int) (n k i : Nat) : rsX C n k i 0 = if i = n ∧ k = 0 then 0 else -1 := by
  unfold rsX rowK lfm
  by_cases h : k = 0
  · rw [if_pos h]
    by_cases g : i = n
    · rw [if_pos g, if_pos ⟨g, h⟩]
    · rw [if_neg g, if_neg (fun q => g q.1)]
  · rw [if_neg h, if_neg (fun q => h q.2)]
theorem rsX_end (C : Nat → Nat → Int) (n k i : Nat) : rsX C n k i (n - i) = rowK C n k i := by
  unfold rsX
  by_cases h : k = 0
  · rw [if_pos h, h]
  · rw [if_neg h]
    obtain ⟨q, rfl⟩ : ∃ q, k = q + 1 := ⟨k - 1, by omega⟩
    rfl
theorem rsX_k0 {C : Nat → Nat → Int} {n k i : Nat} (h : k = 0) (m : Nat) : rsX C n k i m = rowK C n k i := by
  unfold rsX
  rw [if_pos h, h]
theorem rsX_up {C : Nat → Nat → Int} {n k i m : Nat} (h : k ≠ 0) : rsX C n k i (m + 1) = if lss (both (C i (i + m + 1)) (rowK C n (k - 1) (i + m + 1))) (rsX C n k i m) then both (C i (i + m + 1)) (rowK C n (k - 1) (i + m + 1)) else rsX C n k i m := by
  unfold rsX
  rw [if_neg h, if_neg h]
  rfl

set_option maxRecDepth 100000 in
set_option maxHeartbeats 16000000 in
theorem rests_any (q : Option Addr) (d n K : Nat) (C : Nat → Nat → Int) (w : World) (hC : CoR w q n (n + 1) C) (ln : n ≤ 140) (hK : K ≤ 16) (M : Int) (hM : 0 ≤ M ∧ M ≤ 1503238553600000) (b1 : ∀ a j, a < j → j ≤ n → -1 ≤ C a j ∧ C a j ≤ M) :
    Calls Try.prog 29 #[.slice q n d, .int .i64 (K : Int)] w fun e w' => ∃ g c, e = .returned (.slice (some ⟨g, 0, none⟩) (n + 1) c) ∧ CoR w' (some ⟨g, 0, none⟩) (n + 1) (K + 1) (fun i k => rowK C n k i) ∧ Below w.heap.size w w' := by
  obtain ⟨i0, hi, hz0, hz1, hz2⟩ := info_parts intInfo
  obtain ⟨i2, hi2, hx0, hx1, hx2⟩ := info_parts rowInfo
  have HC := Lib.hid hC
  have BD := Lib.hid b1
  have RB := Lib.hid (rowK_bd (C := C) (n := n) (M := M) hM.1 b1)
  clear hC b1
  have eK : IntKind.i64.wrap ((K : Int) + 1) = (K : Int) + 1 := hwI (by omega) (by omega)
  have n0 : ¬ ((K : Int) + 1 < 0) := by omega
  go_enter Try.func29, Try.ntmps29
  go_wp2_with fail
  go_loopw [6, 7] (fun ov iv wr => ∃ (i : Nat) (gr : Nat → Nat), i ≤ n + 1 ∧ iv = .int .i64 i ∧ Hid (RowsI wr K i gr (fun _ _ => 0)) ∧ Hid (wr.ownsRow w.heap.size 36 1 ov i ((List.range i).map fun r => Value.slice (some ⟨gr r, 0, none⟩) (K + 1) (K + 1))) ∧ Hid (Below w.heap.size w wr) ∧ Hid ((∀ r, r < i → w.heap.size ≤ gr r) ∧ ∀ a b, a < b → b < i → gr a ≠ gr b)) (fun _ iv _ => n + 1 - (intOf iv).toNat)
  case atStart => exact ⟨0, fun _ => 0, Nat.zero_le _, rfl, Lib.hid (fun r h => absurd h (by omega)), Lib.hid (World.ownsRow_nil _ _ _ _), Lib.hid (Below.refl _ _), Lib.hid ⟨fun r h => absurd h (by omega), fun a b _ h => absurd h (by omega)⟩⟩
  case round =>
  obtain ⟨i, gr, hi1, rfl, HR, HO, HW, HD⟩ := hrel
  by_cases t1 : i ≤ n
  case pos =>
    have i1 : (0 : Int) ≤ (i : Int) := by omega
    have i3 : (i : Int) ≤ (n : Int) := by omega
    go_wp2_with (first
      | (at_make; refine wpList_make_full _ rfl _ _ 36 rfl wr.heap.size 3 i0 (.int .i64 0) 1 Try.underlying36 hi hz0 hz1 .i64 .i64 _ _ (K + 1) rfl rfl (by omega) (by omega) (by rw [hz2]; omega) (by unfold maxLen; omega) (Nat.le_refl _) ?_))
    intro wc hown hgrow
    have OL := Lib.hid (show OB wc wr.heap.size 3 (K + 1) (fun _ => .int .i64 0) from by
      have h3 := hown
      rw [show (madeCells #[Value.int .i64 0] (K + 1)).toList = (List.range ((K + 1) * 1)).map fun _ => Value.int .i64 0 from made1J' K] at h3
      have := OB.of h3
      rw [Nat.mul_one] at this
      exact this)
    have B3 := Lib.hid (show Below wr.heap.size wr wc from (Below.refl _ _).grown hgrow (Nat.le_refl _) (fun k e => by cases e))
    clear hown hgrow
    obtain ⟨gl, hgl⟩ : ∃ gl, gl = wr.heap.size := ⟨_, rfl⟩
    rw [← hgl] at OL ⊢
    have HGL := Lib.hid hgl
    clear hgl
    have HO2 := Lib.hid (show wc.ownsRow w.heap.size 36 1 u6 i ((List.range i).map fun r => Value.slice (some ⟨gr r, 0, none⟩) (K + 1) (K + 1)) from own_belowD HO.out B3.out)
    have HW2 := Lib.hid (HW.out.trans (B3.out.mono HW.out.size))
    have ND := Lib.hid (show (∀ r, r < i + 1 → w.heap.size ≤ upN gr i gl r) ∧ ∀ a b, a < b → b < i + 1 → upN gr i gl a ≠ upN gr i gl b from by
      have hs := HW.out.size
      have hg := HGL.out
      refine ⟨fun r hr => ?_, fun a b ab hb => ?_⟩
      · unfold upN
        by_cases e : r = i
        · rw [if_pos e]; omega
        · rw [if_neg e]; exact HD.out.1 r (by omega)
      · unfold upN
        rw [if_neg (show ¬ a = i by omega)]
        have la := (HR.out a (by omega)).lt
        by_cases e : b = i
        · rw [if_pos e]; omega
        · rw [if_neg e]; exact HD.out.2 a b ab (by omega))
    have RI := Lib.hid (show ∀ r, r < i + 1 → OB wc (upN gr i gl r) 3 (K + 1) (fun _ => .int .i64 0) from fun r hr => by
      unfold upN
      by_cases e : r = i
      · rw [if_pos e]; exact OL.out
      · rw [if_neg e]; exact (HR.out r (by omega)).below B3.out)
    clear HR HO HW HD OL B3 HGL
    go_wp2_with (first
      | (at_builtin; refine wpList_append_own _ rfl _ _ 60 rfl w.heap.size 36 i2 (.slice none 0 0) 1 24 Try.underlying60 hi2 hx0 hx1 hx2 rfl (by decide) _ _ _ rfl (HO2.out.alloc _) ⟨wc.heap.size, 0, none⟩ 1 1 [.slice (some ⟨gl, 0, none⟩) (K + 1) (K + 1)] rfl rfl (slice_one _ rfl _) one_sl (by unfold maxLen; omega) (by omega) (by have := HW2.out.size; simp; omega) ?_))
    intro v' w1 hown' hgrow _
    have HR3 := Lib.hid (show RowsI w1 K (i + 1) (upN gr i gl) (fun _ _ => 0) from fun r hr => ob_grown (RI.out r hr) HO2.out int_ne_row hgrow)
    have HO3 := Lib.hid (show w1.ownsRow w.heap.size 36 1 v' (i + 1) ((List.range (i + 1)).map fun r => Value.slice (some ⟨upN gr i gl r, 0, none⟩) (K + 1) (K + 1)) from by rw [← rowsV_snoc]; exact hown')
    have HW3 := Lib.hid (show Below w.heap.size w w1 from (HW2.out.alloc HW2.out.size _).grown hgrow (by have := HW2.out.size; simp; omega) (own_ltD HO2.out))
    clear hown' hgrow RI HO2 HW2
    go_wp2_with fail
    go_roundw
    case rel => exact ⟨i + 1, _, by omega, by go_num, HR3, HO3, HW3, ND⟩
    case measure => simp [intOf]; omega
  obtain rfl : i = n + 1 := by omega
  obtain ⟨gH, cH, rfl, rs⟩ := rsM_of HR.out HO.out HW.out HD.out.1 HD.out.2
  have RS := Lib.hid rs
  clear rs HR HO HW HD hi hz0 hz1 hz2 hi2 hx0 hx1 hx2 eK n0 hi1 t1
  have j1 : ¬ (((n + 1 : Nat) : Int) ≤ (n : Int)) := by omega
  have j2 : ¬ ((n : Int) + 1 ≤ (n : Int)) := by omega
  go_wp2_with fail
  go_loopw [8, 9, 10, 11] (fun iv _ _ _ wr => ∃ (i1 : Nat) (D : Nat → Nat → Int), i1 ≤ n + 1 ∧ iv = .int .i64 ((i1 : Int) - 1) ∧ Hid (RsM w gH n K gr D wr) ∧ Hid (∀ a b, i1 ≤ a → a ≤ n → b ≤ K → D a b = rowK C n b a)) (fun iv _ _ _ _ => (intOf iv + 1).toNat)
  case atStart => exact ⟨n + 1, _, Nat.le_refl _, by go_num, RS, Lib.hid (fun a b h1 h2 => absurd h2 (by omega))⟩
  case round =>
  clear RS
  obtain ⟨i1, D, hi1, rfl, RS, DN⟩ := hrel
  cases i1 with
  | zero =>
    have FIN := Lib.hid (show CoR wr (some ⟨gH, 0, none⟩) (n + 1) (K + 1) (fun i k => rowK C n k i) from (RS.out.ext fun r k hr hk => DN.out r k (Nat.zero_le _) hr hk).coR)
    have BF := Lib.hid RS.out.bl
    go_wp2_with fail
    go_ret
    exact ⟨gH, cH, rfl, FIN.out, BF.out⟩
  | succ i =>
    have ei : (((i + 1 : Nat) : Int) - 1) = (i : Int) := by omega
    rw [ei]
    clear ei
    have i0' : (0 : Int) ≤ (i : Int) := by omega
    have i2' : (i : Int) < ((n + 1 : Nat) : Int) := by omega
    have i3' : (i : Int) < (n : Int) + 1 := by omega
    go_wp2_with fail
    go_loopw [9, 10, 11] (fun kv _ _ wq => ∃ (k : Nat) (D2 : Nat → Nat → Int), k ≤ K + 1 ∧ kv = .int .i64 (k : Int) ∧ Hid (RsM w gH n K gr D2 wq) ∧ Hid (∀ a b, i + 1 ≤ a → a ≤ n → b ≤ K → D2 a b = rowK C n b a) ∧ Hid (∀ b, b < k → b ≤ K → D2 i b = rowK C n b i)) (fun kv _ _ _ => K + 1 - (intOf kv).toNat)
    case atStart => exact ⟨0, D, Nat.zero_le _, rfl, RS, DN, Lib.hid (fun b h => absurd h (by omega))⟩
    case round =>
    clear RS DN
    obtain ⟨k, D2, hk, rfl, RQ, DQ, DK⟩ := hrel
    rename World => wq
    have hn : i ≤ n := by omega
    by_cases t2 : k ≤ K
    case neg =>
      obtain rfl : k = K + 1 := by omega
      have kn : ¬ (((K + 1 : Nat) : Int) ≤ (K : Int)) := by omega
      have kn2 : ¬ ((K : Int) + 1 ≤ (K : Int)) := by omega
      have DF := Lib.hid (show ∀ a b, i ≤ a → a ≤ n → b ≤ K → D2 a b = rowK C n b a from fun a b h1 h2 h3 => by
        by_cases e : a = i
        · rw [e]; exact DK.out b (by omega) h3
        · exact DQ.out a b (by omega) h2 h3)
      go_wp2_with fail
      go_roundw
      case rel => exact ⟨i, D2, by omega, by go_num, RQ, DF⟩
      case measure => simp [intOf]
    have k1 : (0 : Int) ≤ (k : Int) := by omega
    have k2 : (k : Int) ≤ (K : Int) := by omega
    have k3 : (k : Int) < (K : Int) + 1 := by omega
    have k4 : (k : Int) < ((K + 1 : Nat) : Int) := by omega
    have ei : IntKind.i64.wrap ((i : Int) + 1) = (i : Int) + 1 := hwI (by omega) (by omega)
    have ek : IntKind.i64.wrap ((k : Int) + 1) = (k : Int) + 1 := hwI (by omega) (by omega)
    obtain ⟨c1, c2, c3⟩ := RQ.out.cells hn t2
    have RA := Lib.hid (RQ.out.set (k := k) hn (-1))
    have AA := Lib.hid (show ∀ v a b, ¬ (a = i ∧ b = k) → a ≤ n → b ≤ K → upD (upD D2 i k (-1)) i k v a b = D2 a b from fun v a b h h1 h2 => by rw [upD_far h, upD_far h])
    generalize D2 i k = z0 at c2
    go_upto_region 14 with fail
    generalize wq.setCell ⟨gr i, k, none⟩ (.int .i64 (-1)) = wa at *
    clear c1 c2 c3
    obtain ⟨c1, c2, c3⟩ := RA.out.cells hn t2
    rw [upD_hit] at c2
    go_cut [47] from 41 to 47 (fun t wx => t = .bool (decide (i = n ∧ k = 0)) ∧ wx = wa)
    case first =>
      by_cases e1 : i = n
      · by_cases e2 : k = 0
        · have g : decide (i = n ∧ k = 0) = true := decide_eq_true ⟨e1, e2⟩
          have d1 : ((i : Int) == (n : Int)) = true := by simp [e1]
          have d2 : ((k : Int) == 0) = true := by simp [e2]
          have G := Lib.hid g
          clear e1 e2 g
          go_wp2_with fail
          go_meet
          exact ⟨congrArg Value.bool G.out.symm, rfl⟩
        · have g : decide (i = n ∧ k = 0) = false := decide_eq_false fun h => e2 h.2
          have d1 : ((i : Int) == (n : Int)) = true := by simp [e1]
          have d2 : ((k : Int) == 0) = false := by simp; omega
          have G := Lib.hid g
          clear e1 e2 g
          go_wp2_with fail
          go_meet
          exact ⟨congrArg Value.bool G.out.symm, rfl⟩
      · have g : decide (i = n ∧ k = 0) = false := decide_eq_false fun h => e1 h.1
        have d1 : ((i : Int) == (n : Int)) = false := by simp; omega
        have G := Lib.hid g
        clear e1 g
        go_wp2_with fail
        go_meet
        exact ⟨congrArg Value.bool G.out.symm, rfl⟩
    case rest =>
    obtain ⟨rfl, hw⟩ := hcut
    subst hw
    rename World => wa
    go_upto_if 47 with fail
    go_cut [48] from 47 to 53 (fun _ wx => Hid (RsM w gH n K gr (upD (upD D2 i k (-1)) i k (rsX C n k i 0)) wx))
    case first =>
      by_cases e : i = n ∧ k = 0
      · have g : decide (i = n ∧ k = 0) = true := decide_eq_true e
        have RB2 := Lib.hid (RA.out.set (k := k) hn 0)
        have E0 := Lib.hid (show rsX C n k i 0 = 0 from by rw [rsX_0, if_pos e])
        rw [g]
        clear e g
        go_wp2_with fail
        go_meet
        rw [E0.out]
        exact RB2
      · have g : decide (i = n ∧ k = 0) = false := decide_eq_false e
        have E0 := Lib.hid (show rsX C n k i 0 = -1 from by rw [rsX_0, if_neg e])
        rw [g]
        clear e g
        go_wp2_with fail
        go_meet
        rw [E0.out]
        exact Lib.hid (RA.out.ext fun a b ha hb => by
          by_cases h : a = i ∧ b = k
          · rw [h.1, h.2, upD_hit, upD_hit]
          · exact (upD_far h).symm)
    case rest =>
    have R0 := hcut
    rename World => wx
    clear RA c1 c2 c3 hcut
    go_wp2_with fail
    go_loopw [10, 11] (fun jv _ wz => ∃ (m : Nat) (D3 : Nat → Nat → Int), i + m ≤ n ∧ jv = .int .i64 ((i : Int) + 1 + (m : Int)) ∧ Hid (RsM w gH n K gr D3 wz) ∧ Hid (D3 i k = rsX C n k i m) ∧ Hid (∀ a b, ¬ (a = i ∧ b = k) → a ≤ n → b ≤ K → D3 a b = D2 a b)) (fun jv _ _ => n + 1 - (intOf jv).toNat)
    case atStart => exact ⟨0, _, by omega, by simp, R0, Lib.hid (upD_hit _ _ _ _), Lib.hid (AA.out _)⟩
    case round =>
    obtain ⟨m, D3, hm, rfl, RZ, XZ, AZ⟩ := hrel
    rename World => wz
    clear R0 AA
    have EX := Lib.hid (show (k = 0 ∨ i + m = n) → (∀ a b, i + 1 ≤ a → a ≤ n → b ≤ K → D3 a b = rowK C n b a) ∧ ∀ b, b < k + 1 → b ≤ K → D3 i b = rowK C n b i from fun h => by
      refine ⟨fun a b h1 h2 h3 => ?_, fun b h1 h2 => ?_⟩
      · rw [AZ.out a b (fun g => by have := g.1; omega) h2 h3]; exact DQ.out a b h1 h2 h3
      · by_cases e : b = k
        · rw [e, XZ.out]
          rcases h with h | h
          · exact rsX_k0 h m
          · rw [← rsX_end, show n - i = m by omega]
        · rw [AZ.out i b (fun g => e g.2) hn h2]; exact DK.out b (by omega) h2)
    by_cases t4 : i + m = n
    case pos =>
      have j1 : ¬ ((i : Int) + 1 + (m : Int) ≤ (n : Int)) := by omega
      have d1 : decide ((i : Int) + 1 + (m : Int) ≤ (n : Int)) = false := decide_eq_false j1
      have FX := Lib.hid (EX.out (.inr t4))
      clear t4 EX
      go_wp2_with fail
      go_roundw
      case rel => exact ⟨k + 1, D3, by omega, by go_num, RZ, Lib.hid FX.out.1, Lib.hid FX.out.2⟩
      case measure => simp [intOf]; omega
    have d1 : decide ((i : Int) + 1 + (m : Int) ≤ (n : Int)) = true := decide_eq_true (by omega)
    by_cases t5 : k = 0
    case pos =>
      have d2 : decide ((0 : Int) < (k : Int)) = false := decide_eq_false (by omega)
      have FX := Lib.hid (EX.out (.inl t5))
      subst t5
      clear t4 EX
      go_wp2_with fail
      go_roundw
      case rel => exact ⟨0 + 1, D3, by omega, by go_num, RZ, Lib.hid FX.out.1, Lib.hid FX.out.2⟩
      case measure => simp [intOf] <;> omega
    have d2 : decide ((0 : Int) < (k : Int)) = true := decide_eq_true (by omega)
    have BZ := Lib.hid RZ.out.bl
    obtain ⟨x, qq, dd, ex, -, cx, nr⟩ := (HC.out.below BZ.out) i (by omega)
    obtain ⟨y, ey, -, cy⟩ := nr (i + m + 1) (by omega)
    subst ex
    subst ey
    obtain ⟨h1, h2, -⟩ := RZ.out.cells (r := i + m + 1) (k := k - 1) (by omega) (by omega)
    rw [AZ.out (i + m + 1) (k - 1) (fun g => by have := g.1; omega) (by omega) (by omega), DQ.out (i + m + 1) (k - 1) (by omega) (by omega) (by omega)] at h2
    obtain ⟨g1, g2, g3⟩ := RZ.out.cells hn t2
    rw [XZ.out] at g2
    have NX := Lib.hid (rsX_up (C := C) (n := n) (i := i) (m := m) t5)
    have cb := BD.out i (i + m + 1) (by omega) (by omega)
    have rb := RB.out (k - 1) (i + m + 1)
    have mk : M * ((k - 1 : Nat) : Int) ≤ 1503238553600000 * 16 := Int.mul_le_mul hM.2 (by omega) (by omega) (by omega)
    have RW := Lib.hid (fun v => RZ.out.set (k := k) hn v)
    have AW := Lib.hid (show ∀ v a b, ¬ (a = i ∧ b = k) → a ≤ n → b ≤ K → upD D3 i k v a b = D2 a b from fun v a b h q1 q2 => by rw [upD_far h]; exact AZ.out a b h q1 q2)
    obtain ⟨j, hj⟩ : ∃ j, j = i + m + 1 := ⟨_, rfl⟩
    have ej : (i : Int) + 1 + (m : Int) = (j : Int) := by omega
    have ej2 : IntKind.i64.wrap ((j : Int) + 1) = (j : Int) + 1 := hwI (by omega) (by omega)
    have HJ := Lib.hid (show (j : Int) + 1 = (i : Int) + 1 + ((m + 1 : Nat) : Int) from by omega)
    rw [ej] at d1 ⊢
    rw [← hj] at cy h1 h2 NX cb rb
    have j1 : (0 : Int) ≤ (j : Int) := by omega
    have j2 : (j : Int) < (n : Int) + 1 := by omega
    have j3 : (j : Int) < ((n + 1 : Nat) : Int) := by omega
    have i5 : (i : Int) < (n : Int) := by omega
    have k5 : (0 : Int) ≤ (k : Int) - 1 := by omega
    have k6 : (k : Int) - 1 < (K : Int) + 1 := by omega
    have k7 : (k : Int) - 1 < ((K + 1 : Nat) : Int) := by omega
    have ek1 : IntKind.i64.wrap ((k : Int) - 1) = (k : Int) - 1 := hwI (by omega) (by omega)
    have HM1 := Lib.hid (show i + (m + 1) ≤ n from by omega)
    have HMS := Lib.hid (show (n : Int) + 1 - ((j : Int) + 1) < (n : Int) + 1 - (j : Int) ∧ j ≤ n from ⟨by omega, by omega⟩)
    clear hj ej EX t4 hm
    generalize C i j = cv at *
    generalize rowK C n (k - 1) j = rv at *
    generalize rsX C n k i m = xv at *
    by_cases a1 : cv = -1
    case pos =>
      have e1 : (cv == -1) = true := by simp [a1]
      have X2 := Lib.hid (show D3 i k = rsX C n k i (m + 1) from by rw [XZ.out, NX.out]; exact (if_neg (fun g => g.1 (both_n (.inl a1)))).symm)
      clear a1 cb rb mk NX
      go_wp2_with fail
      go_roundw
      case rel => exact ⟨m + 1, D3, HM1.out, by rw [← HJ.out], RZ, X2, AZ⟩
      case measure => have := HMS.out; simp [intOf] <;> omega
    have e1 : (cv == -1) = false := by simpa using a1
    by_cases a2 : rv = -1
    case pos =>
      have e2 : (rv == -1) = true := by simp [a2]
      have X2 := Lib.hid (show D3 i k = rsX C n k i (m + 1) from by rw [XZ.out, NX.out]; exact (if_neg (fun g => g.1 (both_n (.inr a2)))).symm)
      clear a1 a2 cb rb mk NX
      go_wp2_with fail
      go_roundw
      case rel => exact ⟨m + 1, D3, HM1.out, by rw [← HJ.out], RZ, X2, AZ⟩
      case measure => have := HMS.out; simp [intOf] <;> omega
    have e2 : (rv == -1) = false := by simpa using a2
    have e3 : IntKind.i64.wrap (cv + rv) = cv + rv := hwI (by omega) (by omega)
    have bp := both_pos a1 a2
    rw [bp] at NX
    have cp : cv + rv ≠ -1 := by omega
    go_upto_region 20 with fail
    go_quiet (fail)
    have RD := Lib.hid (RZ.out.call (below_drewN (Below.refl _ _) nq))
    have PD := Lib.hid (show D3 i k = xv from XZ.out)
    go_upto_region 21 with fail
    generalize wz.drewN nq = wd at *
    clear cx cy h1 h2 g1 g2 g3 RZ BZ RW nr
    obtain ⟨g1, g2, g3⟩ := RD.out.cells hn t2
    rw [PD.out] at g2
    by_cases a3 : xv = -1
    · have e4 : (xv == -1) = true := by simp [a3]
      have RW2 := Lib.hid (RD.out.set (k := k) hn (cv + rv))
      have X2 := Lib.hid (show upD D3 i k (cv + rv) i k = rsX C n k i (m + 1) from by rw [upD_hit, NX.out]; exact (if_pos (show cv + rv ≠ -1 ∧ (xv = -1 ∨ cv + rv < xv) by omega)).symm)
      clear a1 a2 a3 cb rb mk NX bp cp
      go_wp2_with fail
      go_roundw
      case rel => exact ⟨m + 1, _, HM1.out, by rw [← HJ.out], RW2, X2, Lib.hid (AW.out _)⟩
      case measure => have := HMS.out; simp [intOf] <;> omega
    · have e4 : (xv == -1) = false := by simpa using a3
      by_cases a4 : cv + rv < xv
      · have e5 : decide (cv + rv < xv) = true := decide_eq_true a4
        have RW2 := Lib.hid (RD.out.set (k := k) hn (cv + rv))
        have X2 := Lib.hid (show upD D3 i k (cv + rv) i k = rsX C n k i (m + 1) from by rw [upD_hit, NX.out]; exact (if_pos (show cv + rv ≠ -1 ∧ (xv = -1 ∨ cv + rv < xv) by omega)).symm)
        clear a1 a2 a3 a4 cb rb mk NX bp cp
        go_wp2_with fail
        go_roundw
        case rel => exact ⟨m + 1, _, HM1.out, by rw [← HJ.out], RW2, X2, Lib.hid (AW.out _)⟩
        case measure => have := HMS.out; simp [intOf] <;> omega
      · have e5 : decide (cv + rv < xv) = false := decide_eq_false a4
        have X2 := Lib.hid (show D3 i k = rsX C n k i (m + 1) from by rw [PD.out, NX.out]; exact (if_neg (show ¬ (cv + rv ≠ -1 ∧ (xv = -1 ∨ cv + rv < xv)) by omega)).symm)
        clear a1 a2 a3 a4 cb rb mk NX bp cp
        go_wp2_with fail
        go_roundw
        case rel => exact ⟨m + 1, D3, HM1.out, by rw [← HJ.out], RD, X2, AZ⟩
        case measure => have := HMS.out; simp [intOf] <;> omega
end Go.Proofs.Ytmdhmpfagekonaa

/- Classing's lines: the reference's Curve. -/
namespace Go.Proofs.Ytmdhmpfagekonaa
open Go.RowKit Go.Proofs.Ytmdhmpfagekonaa.Ct Go.Proofs.Ytmdhmpfagekonaa.Ce Go.Proofs.Ytmdhmpfagekonaa.Stb
set_option linter.unusedVariables false
set_option linter.unusedSimpArgs false

theorem lnc_cM (A : Nat → Fl) (le sp : Int) {i j : Nat} (h : i < j) : lnc A le sp i j = cMat A le sp i j := by unfold cMat; rw [if_pos h]
theorem rowK_ln (A : Nat → Fl) (le sp : Int) (n : Nat) : rowK (fun i j => lnc A le sp i j) n = rowK (cMat A le sp) n := funext fun k => funext fun i => rowK_cg (fun i j h _ => lnc_cM A le sp h) k i
theorem lnc_bdM {A : Nat → Fl} {n : Nat} (ok : ∀ k, k < n → (A k).ok) (ln : n ≤ 140) (le sp : Int) : ∀ a j, a < j → j ≤ n → -1 ≤ lnc A le sp a j ∧ lnc A le sp a j ≤ 1503238553600000 := fun a j h hj => by
  rw [lnc_cM A le sp h]
  exact cMat_bd ok ln hj
def crL (f : Nat → Int) (t : Nat) : List Int := (List.range t).map fun k => f (k + 1)
theorem crL_len (f : Nat → Int) (t : Nat) : (crL f t).length = t := by unfold crL; rw [List.length_map, List.length_range]
theorem crL_up (f : Nat → Int) (t : Nat) : crL f (t + 1) = crL f t ++ [f (t + 1)] := by unfold crL; rw [List.range_succ, List.map_append]; rfl
theorem crL_gi (f : Nat → Int) {t k : Nat} (h : k < t) : gi (crL f t) k = f (k + 1) := by simp [gi, crL, h]
/-- What the reference's Curve answers. -/
def rCuQ (K : Nat) (ls le sp : Int) (F : Nat → Fl) (n : Nat) (w : World) (e : Ending) (w' : World) : Prop := ∃ v, e = .returned (.tuple #[v, .int .i64 (flE ls le sp F n)]) ∧ Below w.heap.size w w' ∧
  ((flE ls le sp F n ≠ 0 ∧ v = .slice none 0 0) ∨ (flE ls le sp F n = 0 ∧ ls = (K : Int) ∧ ∃ q c, v = .slice q K c ∧ NmR w' q K (fun k => rowK (cMat (inO F n) le sp) n (k + 1) 0)))

set_option maxRecDepth 100000 in
set_option maxHeartbeats 16000000 in
theorem rCurve_any (p : Option Addr) (c n K : Nat) (F : Nat → Fl) (ls le sp : Int) (w : World) (r : FlR w p n F) (ln : n ≤ 140) (kok : ∀ k, k < n → (F k).kok) (hK : K = ls.toNat) :
    Calls Try.prog 18 #[.slice p n c, .agg #[.int .i64 ls, .int .i64 le, .int .i64 sp]] w (rCuQ K ls le sp F n w) := by
  obtain ⟨i0, hi, hz0, hz1, hz2⟩ := info_parts intInfo
  have R := Lib.hid r
  have KOK := Lib.hid kok
  have HKK := Lib.hid hK
  have B1 := Lib.hid (show Below w.heap.size w (w.alloc (Obj.cells #[.int .i64 ls, .int .i64 le, .int .i64 sp] 24)) from (Below.refl _ _).alloc (Nat.le_refl _) _)
  have OS := Lib.hid (spBx w ls le sp)
  clear r kok hK
  go_enter Try.func18, Try.ntmps18
  go_upto_region 1 with fail
  generalize (w.alloc (Obj.cells #[.int .i64 ls, .int .i64 le, .int .i64 sp] 24)) = wa at *
  have s0 : wa.cell? ⟨w.heap.size, 0, none⟩ = some (.int .i64 ls) := OS.out.cell (k := 0) (by decide)
  have s1 : wa.cell? ⟨w.heap.size, 1, none⟩ = some (.int .i64 le) := OS.out.cell (k := 1) (by decide)
  have s2 : wa.cell? ⟨w.heap.size, 2, none⟩ = some (.int .i64 sp) := OS.out.cell (k := 2) (by decide)
  have C1 := Lib.hid (errors_any p c n F ls le sp wa (R.out.below B1.out) (by omega))
  go_wp2_with fail
  refine C1.out.mono ?_
  rintro e w1 ⟨rfl, b1⟩
  have HB := Lib.hid (B1.out.trans (b1.mono B1.out.size))
  have OS1 := Lib.hid (OS.out.below b1)
  clear b1 C1 s0 s1 s2 OS B1
  by_cases z1 : flE ls le sp F n = 0
  case neg =>
    have d1 : (flE ls le sp F n == 0) = false := by simpa using z1
    have FN := Lib.hid (show rCuQ K ls le sp F n w (.returned (.tuple #[.slice none 0 0, .int .i64 (flE ls le sp F n)])) w1 from ⟨_, rfl, HB.out, .inl ⟨z1, rfl⟩⟩)
    clear z1
    generalize flE ls le sp F n = x at *
    go_wp2_with fail
    go_ret2
    exact FN.out
  have Z1 := Lib.hid z1
  obtain ⟨n128, so, fok⟩ := flE_ok z1
  have FOK := Lib.hid fok
  have SP := Lib.hid so.2.2
  rw [z1]
  have eK : ls = (K : Int) := by have := HKK.out; have := so.1; omega
  have KB := Lib.hid (show 1 ≤ K ∧ K ≤ 16 from by have := so.1; omega)
  clear z1 fok so
  clear HKK
  subst eK
  have SS := Lib.hid (fun W (b : Below w1.heap.size w1 W) => show W.cell? ⟨w.heap.size, 0, none⟩ = some (.int .i64 (K : Int)) ∧ W.cell? ⟨w.heap.size, 1, none⟩ = some (.int .i64 le) ∧ W.cell? ⟨w.heap.size, 2, none⟩ = some (.int .i64 sp) from ⟨(OS1.out.below b).cell (k := 0) (by decide), (OS1.out.below b).cell (k := 1) (by decide), (OS1.out.below b).cell (k := 2) (by decide)⟩)
  obtain ⟨s0, s1, s2⟩ := SS.out _ (Below.refl _ _)
  have C3 := Lib.hid (fun W (b : Below w1.heap.size w1 W) => rcosts_any p c n F (K : Int) le sp W (R.out.below (HB.out.trans (b.mono HB.out.size))) ln FOK.out KOK.out SP.out)
  have C4 := Lib.hid (fun q d W (hC : CoR W q n (n + 1) (fun i j => lnc (inO F n) le sp i j)) => rests_any q d n K (fun i j => lnc (inO F n) le sp i j) W hC ln KB.out.2 1503238553600000 (by omega) (lnc_bdM (inO_ok FOK.out) ln le sp))
  simp only [rowK_ln] at C4
  go_upto_region 4 with fail
  go_region_held3 (fun w' => w'.cell? ⟨w.heap.size, 0, none⟩ = some (.int .i64 (K : Int)) ∧ w'.cell? ⟨w.heap.size, 1, none⟩ = some (.int .i64 le) ∧ w'.cell? ⟨w.heap.size, 2, none⟩ = some (.int .i64 sp)) (first | exact SS.out _ (Below.refl _ _) | exact SS.out _ ((Below.refl _ _).drew) | exact SS.out _ F3.out | exact SS.out _ F4.out) (first
    | (go_at_call 28; (with_reducible refine (C3.out _ ((Below.refl _ _).drew)).mono ?_); rintro e w3 ⟨q3, d3, rfl, qc, f3⟩; have QC := Lib.hid qc; have F3 := Lib.hid (((Below.refl _ _).drew).trans f3 : Below w1.heap.size w1 w3); clear qc f3)
    | (go_at_call 29; (with_reducible refine (C4.out _ _ _ QC.out).mono ?_); rintro e w4 ⟨g4, d4, rfl, qr, f4⟩; have QR := Lib.hid qr; have F4 := Lib.hid (F3.out.trans (f4.mono F3.out.size) : Below w1.heap.size w1 w4); clear qr f4))
  all_goals
    have HB4 := Lib.hid (HB.out.trans (F4.out.mono HB.out.size))
    have OS4 := Lib.hid (OS1.out.below F4.out)
    have kb := KB.out
    obtain ⟨f, hf⟩ : ∃ f : Nat → Int, ∀ k, rowK (cMat (inO F n) le sp) n k 0 = f k := ⟨_, fun _ => rfl⟩
    have HF := Lib.hid hf
    clear s0 s1 s2 C3 C4 SS QC F3 OS1 hf
    go_wp2_with fail
    go_loopw [8, 9] (fun ov kv wr => ∃ (t : Nat), t ≤ K ∧ kv = .int .i64 ((t : Int) + 1) ∧ Hid (wr.ownsRow w4.heap.size 3 1 ov t ((crL f t).map (Value.int .i64))) ∧ Hid (Below w4.heap.size w4 wr)) (fun _ kv _ => K + 1 - (intOf kv).toNat)
    case atStart => exact ⟨0, Nat.zero_le _, by simp, Lib.hid (World.ownsRow_nil _ _ _ _), Lib.hid (Below.refl _ _)⟩
    case round =>
    obtain ⟨t, ht, rfl, HO, BW⟩ := hrel
    have u0 : wr.cell? ⟨w.heap.size, 0, none⟩ = some (.int .i64 (K : Int)) := (OS4.out.below BW.out).cell (k := 0) (by decide)
    by_cases t1 : t < K
    case pos =>
      have kls : (t : Int) + 1 ≤ (K : Int) := by omega
      obtain ⟨y, dy, r1, v1⟩ := (QR.out.below BW.out).at (i := 0) (j := t + 1) (by omega) (by omega) rfl
      have v1 : wr.cell? (y.add (t + 1)) = some (.int .i64 (f (t + 1))) := by rw [← HF.out]; exact v1
      have v2 := v1
      rw [show y.add (t + 1) = ⟨y.block, y.off + (t + 1), none⟩ from by unfold Addr.add; rw [if_neg (by omega)]] at v2
      have i1 : (0 : Int) ≤ (t : Int) + 1 := by omega
      have i2 : (t : Int) + 1 < (K : Int) + 1 := by omega
      have i3 : (t : Int) + 1 < ((K + 1 : Nat) : Int) := by omega
      have i4 : (0 : Int) < (n : Int) + 1 := by omega
      have i5 : (0 : Int) < ((n + 1 : Nat) : Int) := by omega
      have ek : IntKind.i64.wrap ((t : Int) + 1 + 1) = (t : Int) + 1 + 1 := hwI (by omega) (by omega)
      have RS := Lib.hid (crL_up f t)
      have hbs : ∀ (W : World) o, Below w4.heap.size w4 W → w4.heap.size ≤ (W.alloc o).heap.size := fun W o B => by have := B.size; simp; omega
      generalize f (t + 1) = u at *
      clear v1
      go_wp2_with (first
        | (at_builtin; refine wpList_append_own _ rfl _ _ 36 rfl w4.heap.size 3 i0 (.int .i64 0) 1 8 Try.underlying36 hi hz0 hz1 hz2 rfl (by decide) _ _ _ rfl (HO.out.alloc _) ⟨wr.heap.size, 0, none⟩ 1 1 [.int .i64 u] rfl rfl (one_cell _) one_one (by unfold maxLen; omega) (by omega) (hbs _ _ BW.out) ?_))
      intro v' w5 hown' hgrow _
      obtain ⟨O1, B5⟩ := own_snocD _ BW.out HO.out hown' hgrow
      clear hown' hgrow hbs
      go_wp2_with fail
      go_roundw
      case rel => exact ⟨t + 1, by omega, by go_num, Lib.hid (by rw [RS.out]; exact O1), Lib.hid B5⟩
      case measure => simp [intOf] <;> omega
    obtain rfl : t = K := by omega
    have k3 : ¬ ((t : Int) + 1 ≤ (t : Int)) := by omega
    obtain ⟨q', d', rfl, nr⟩ := ownNums (M := crL f t) (by rw [crL_len]; exact HO.out)
    rw [crL_len] at nr ⊢
    have FN := Lib.hid (show rCuQ t (t : Int) le sp F n w (.returned (.tuple #[.slice q' t d', .int .i64 0])) wr from by
      refine ⟨_, by rw [Z1.out], HB4.out.trans (BW.out.mono HB4.out.size), .inr ⟨Z1.out, rfl, q', d', rfl, fun k hk => ?_⟩⟩
      have := nr k hk
      rw [crL_gi f hk] at this
      show ∃ x, q' = some x ∧ x.block < wr.heap.size ∧ wr.cell? (x.add k) = some (.int .i64 (rowK (cMat (inO F n) le sp) n (k + 1) 0))
      rw [HF.out]
      exact this)
    clear nr HO
    go_wp2_with fail
    go_ret2
    exact FN.out
end Go.Proofs.Ytmdhmpfagekonaa

/- Classing's lines: the reference's Lines. -/
namespace Go.Proofs.Ytmdhmpfagekonaa
open Go.RowKit Go.Proofs.Ytmdhmpfagekonaa.Ct Go.Proofs.Ytmdhmpfagekonaa.Ce Go.Proofs.Ytmdhmpfagekonaa.Stb
set_option linter.unusedVariables false
set_option linter.unusedSimpArgs false

namespace Ce
/-- The best of the first m, as the reference looks for it: -1 where there is none. -/
def bsr (f : Nat → Int) : Nat → Int
  | 0 => -1
  | m + 1 => if f m ≠ -1 ∧ (bsr f m = -1 ∨ f m < f (bsr f m).toNat) then (m : Int) else bsr f m
theorem bsr_bst (f : Nat → Int) : ∀ m, bsr f (m + 1) = if f (bst f m) = -1 then -1 else (bst f m : Int)
  | 0 => by
    unfold bsr bst
    by_cases h : f 0 = -1
    · rw [if_neg (fun g => g.1 h), if_pos h]; rfl
    · rw [if_pos ⟨h, .inl rfl⟩, if_neg h]
  | m + 1 => by
    have ih := bsr_bst f m
    unfold bsr bst
    rw [ih]
    by_cases b : f (bst f m) = -1
    · rw [if_pos b]
      by_cases h : f (m + 1) = -1
      · rw [if_neg (fun g => g.1 h), if_neg (show ¬ lss (f (m + 1)) (f (bst f m)) from fun g => g.1 h), if_pos b]
      · rw [if_pos ⟨h, .inl rfl⟩, if_pos (show lss (f (m + 1)) (f (bst f m)) from ⟨h, .inl b⟩), if_neg h]
    · rw [if_neg b, Int.toNat_natCast]
      by_cases h : lss (f (m + 1)) (f (bst f m))
      · rw [if_pos ⟨h.1, .inr (h.2.resolve_left b)⟩, if_pos h, if_neg h.1]
      · rw [if_neg (fun g => h ⟨g.1, .inr (g.2.resolve_left (by omega))⟩), if_neg h, if_neg b]
theorem bsr_lt (f : Nat → Int) : ∀ m, bsr f m = -1 ∨ ∃ b : Nat, bsr f m = (b : Int) ∧ b < m
  | 0 => .inl rfl
  | m + 1 => by
    unfold bsr
    split
    · exact .inr ⟨m, rfl, by omega⟩
    · rcases bsr_lt f m with h | ⟨b, h, l⟩
      · exact .inl h
      · exact .inr ⟨b, h, by omega⟩
end Ce
/-- What the reference's Lines answers. -/
def rLiQ (K : Nat) (ls le sp : Int) (F : Nat → Fl) (n : Nat) (w : World) (e : Ending) (w' : World) : Prop := ∃ v, e = .returned (.tuple #[v, .int .i64 (liV K ls le sp F n).1, .int .i64 (liV K ls le sp F n).2]) ∧ Below w.heap.size w w' ∧
  ((v = .slice none 0 0 ∧ ((liV K ls le sp F n).2 ≠ 0 ∨ n = 0)) ∨ ((liV K ls le sp F n).2 = 0 ∧ n ≠ 0 ∧ flE ls le sp F n = 0 ∧ liK K le sp F n ≠ 0 ∧ ∃ g c, v = .slice (some ⟨g, 0, none⟩) (liK K le sp F n) c ∧ PlS w' (some ⟨g, 0, none⟩) (liK K le sp F n) (inO F n) (gi (ordK (fun k => (F k).key) n)) (cMat (inO F n) le sp) (pos (cMat (inO F n) le sp) n (liK K le sp F n))))

/-- The cells of the lines that the reference has laid. -/
def rlL (A : Nat → Fl) (C : Nat → Nat → Int) (ps : Nat → Nat) (qf : Nat → Option Addr) (df : Nat → Nat) (t : Nat) : List Value := (List.range t).flatMap fun x => lnL (A (ps x)) (.slice (qf x) (ps (x + 1) - ps x) (df x)) (mas A (ps x) (ps (x + 1))) (cen A (ps x) (ps (x + 1))) (C (ps x) (ps (x + 1)))
theorem rlL_up (A : Nat → Fl) (C : Nat → Nat → Int) (ps : Nat → Nat) (qf : Nat → Option Addr) (df : Nat → Nat) (t : Nat) : rlL A C ps qf df (t + 1) = rlL A C ps qf df t ++ lnL (A (ps t)) (.slice (qf t) (ps (t + 1) - ps t) (df t)) (mas A (ps t) (ps (t + 1))) (cen A (ps t) (ps (t + 1))) (C (ps t) (ps (t + 1))) := by
  unfold rlL; rw [List.range_succ, List.flatMap_append]; simp
theorem rlL_len (A : Nat → Fl) (C : Nat → Nat → Int) (ps : Nat → Nat) (qf : Nat → Option Addr) (df : Nat → Nat) : ∀ t, (rlL A C ps qf df t).length = t * 8
  | 0 => rfl
  | t + 1 => by rw [rlL_up, List.length_append, rlL_len A C ps qf df t]; simp [lnL]; omega
theorem rlL_at (A : Nat → Fl) (C : Nat → Nat → Int) (ps : Nat → Nat) (qf : Nat → Option Addr) (df : Nat → Nat) : ∀ {t x k : Nat}, x < t → k < 8 → (rlL A C ps qf df t)[x * 8 + k]? = (lnL (A (ps x)) (.slice (qf x) (ps (x + 1) - ps x) (df x)) (mas A (ps x) (ps (x + 1))) (cen A (ps x) (ps (x + 1))) (C (ps x) (ps (x + 1))))[k]?
  | 0, x, k, h, _ => by omega
  | t + 1, x, k, h, hk => by
    rw [rlL_up]
    rcases Nat.lt_or_ge x t with g | g
    · rw [List.getElem?_append_left (by rw [rlL_len]; omega)]
      exact rlL_at A C ps qf df g hk
    · obtain rfl : x = t := by omega
      rw [List.getElem?_append_right (by rw [rlL_len]; omega), rlL_len, show x * 8 + k - x * 8 = k by omega]
theorem rlL_cg (A : Nat → Fl) (C : Nat → Nat → Int) (ps : Nat → Nat) {qf qf' : Nat → Option Addr} {df df' : Nat → Nat} : ∀ {t : Nat}, (∀ x, x < t → qf x = qf' x ∧ df x = df' x) → rlL A C ps qf df t = rlL A C ps qf' df' t
  | 0, _ => rfl
  | t + 1, h => by rw [rlL_up, rlL_up, rlL_cg A C ps (fun x hx => h x (by omega)), (h t (by omega)).1, (h t (by omega)).2]
/-- The reference's plan as it grows. -/
def RlR (base : Nat) (A : Nat → Fl) (o : Nat → Int) (C : Nat → Nat → Int) (ps : Nat → Nat) (t : Nat) (v : Value) (W : World) : Prop := ∃ (qf : Nat → Option Addr) (df : Nat → Nat), W.ownsRow base 38 8 v t (rlL A C ps qf df t) ∧ (∀ x, x < t → NmR W (qf x) (ps (x + 1) - ps x) (fun z => o (ps x + z))) ∧ ∀ x, x < t → ∀ a, qf x = some a → v.ownBlock ≠ some a.block
theorem RlR.below {base : Nat} {A : Nat → Fl} {o : Nat → Int} {C : Nat → Nat → Int} {ps : Nat → Nat} {t : Nat} {v : Value} {W W' : World} (h : RlR base A o C ps t v W) (b : Below W.heap.size W W') : RlR base A o C ps t v W' := by
  obtain ⟨qf, df, a, r, s⟩ := h
  exact ⟨qf, df, own_belowD a b, fun x hx => (r x hx).below b, s⟩
theorem RlR.snoc {base : Nat} {A : Nat → Fl} {o : Nat → Int} {C : Nat → Nat → Int} {ps : Nat → Nat} {t : Nat} {v v' : Value} {W W1 W' : World} (h : RlR base A o C ps t v W) (ob : Below W.heap.size W W1) {q : Option Addr} {d : Nat} {qf : Nat → Option Addr} {df : Nat → Nat}
    (hq : NmR W q (ps (t + 1) - ps t) (fun z => o (ps t + z))) (up : ∀ x, x < t + 1 → 0 < ps (x + 1) - ps x) (hs : ∀ a, q = some a → v.ownBlock ≠ some a.block)
    (own : W'.ownsRow base 38 8 v' (t + 1) (rlL A C ps qf df t ++ lnL (A (ps t)) (.slice q (ps (t + 1) - ps t) d) (mas A (ps t) (ps (t + 1))) (cen A (ps t) (ps (t + 1))) (C (ps t) (ps (t + 1)))))
    (hr : ∀ x, x < t → NmR W (qf x) (ps (x + 1) - ps x) (fun z => o (ps x + z))) (sp : ∀ x, x < t → ∀ a, qf x = some a → v.ownBlock ≠ some a.block)
    (g : W1.grownBy W' v.ownBlock) (hat : v'.ownBlock = v.ownBlock ∨ v'.ownBlock = some W1.heap.size) : RlR base A o C ps (t + 1) v' W' := by
  have lt : ∀ {q : Option Addr} {m : Nat} {f : Nat → Int}, NmR W q m f → 0 < m → ∀ a, q = some a → a.block < W.heap.size := fun {q m f} h h0 a ha => by
    obtain ⟨y, e, l, -⟩ := h 0 h0
    rw [ha] at e; cases e; exact l
  have kp : ∀ {q : Option Addr} {m : Nat} {f : Nat → Int}, NmR W q m f → (∀ a, q = some a → v.ownBlock ≠ some a.block) → NmR W' q m f := fun {q m f} h s i hi => by
    obtain ⟨y, e, l, c⟩ := (h.below ob) i hi
    refine ⟨y, e, Nat.lt_of_lt_of_le l g.size, g.cell c ?_⟩
    rw [addB]
    exact fun z => s y e z.symm
  refine ⟨fun x => if x = t then q else qf x, fun x => if x = t then d else df x, ?_, fun x hx => ?_, fun x hx a ha => ?_⟩
  · rw [rlL_up]
    simp only [if_pos rfl]
    rw [rlL_cg A C ps (qf := fun x => if x = t then q else qf x) (qf' := qf) (df := fun x => if x = t then d else df x) (df' := df) (fun x hx => by simp [show ¬ x = t by omega])]
    exact own
  · by_cases e : x = t
    · subst e
      simp only [if_pos rfl]
      exact kp hq hs
    · simp only [if_neg e]
      exact kp (hr x (by omega)) (sp x (by omega))
  · have s1 : v.ownBlock ≠ some a.block ∧ a.block < W.heap.size := by
      by_cases e : x = t
      · subst e
        simp only [if_pos rfl] at ha
        exact ⟨hs a ha, lt hq (up x (by omega)) a ha⟩
      · simp only [if_neg e] at ha
        exact ⟨sp x (by omega) a ha, lt (hr x (by omega)) (up x (by omega)) a ha⟩
    rcases hat with h | h
    · rw [h]; exact s1.1
    · rw [h]
      intro z
      have := Option.some.inj z
      have := ob.size
      omega
theorem RlR.plS {base : Nat} {A : Nat → Fl} {o : Nat → Int} {C : Nat → Nat → Int} {ps : Nat → Nat} {t : Nat} {v : Value} {W : World} (h : RlR base A o C ps t v W) (h0 : 0 < t) : ∃ (g c : Nat), v = .slice (some ⟨g, 0, none⟩) t c ∧ PlS W (some ⟨g, 0, none⟩) t A o C ps := by
  obtain ⟨qf, df, a, r, -⟩ := h
  obtain ⟨g, c, rfl, gl⟩ := row_some a h0
  refine ⟨g, c, rfl, fun x hx => ⟨_, qf x, df x, rfl, ?_, r x hx⟩⟩
  have e : ∀ k, k < 8 → W.cell? ⟨g, x * 8 + k, none⟩ = (lnL (A (ps x)) (.slice (qf x) (ps (x + 1) - ps x) (df x)) (mas A (ps x) (ps (x + 1))) (cen A (ps x) (ps (x + 1))) (C (ps x) (ps (x + 1))))[k]? := fun k hk => by
    rw [a.cellAt (x * 8 + k) (by omega), rlL_at A C ps qf df hx hk]
  have ea : (⟨g, 0, none⟩ : Addr).add (x * 8) = ⟨g, x * 8, none⟩ := by
    unfold Addr.add; split
    · next z => rw [z]
    · simp
  rw [ea]
  exact ⟨gl, e 0 (by omega), e 1 (by omega), e 2 (by omega), e 3 (by omega), e 4 (by omega), e 5 (by omega), e 6 (by omega), e 7 (by omega)⟩

set_option maxRecDepth 100000 in
set_option maxHeartbeats 16000000 in
theorem rLines_any (p : Option Addr) (c n K : Nat) (F : Nat → Fl) (ls le sp : Int) (w : World) (r : FlR w p n F) (ln : n ≤ 140) (kok : ∀ k, k < n → (F k).kok) (hK : K = ls.toNat) :
    Calls Try.prog 13 #[.slice p n c, .agg #[.int .i64 ls, .int .i64 le, .int .i64 sp]] w (rLiQ K ls le sp F n w) := by
  obtain ⟨i3, hi3, hw0, hw1, hw2⟩ := info_parts lnInfo
  have R := Lib.hid r
  have KOK := Lib.hid kok
  have HKK := Lib.hid hK
  have B1 := Lib.hid (show Below w.heap.size w (w.alloc (Obj.cells #[.int .i64 ls, .int .i64 le, .int .i64 sp] 24)) from (Below.refl _ _).alloc (Nat.le_refl _) _)
  have OS := Lib.hid (spBx w ls le sp)
  clear r kok hK
  go_enter Try.func13, Try.ntmps13
  go_upto_region 1 with fail
  generalize (w.alloc (Obj.cells #[.int .i64 ls, .int .i64 le, .int .i64 sp] 24)) = wa at *
  have s0 : wa.cell? ⟨w.heap.size, 0, none⟩ = some (.int .i64 ls) := OS.out.cell (k := 0) (by decide)
  have s1 : wa.cell? ⟨w.heap.size, 1, none⟩ = some (.int .i64 le) := OS.out.cell (k := 1) (by decide)
  have s2 : wa.cell? ⟨w.heap.size, 2, none⟩ = some (.int .i64 sp) := OS.out.cell (k := 2) (by decide)
  have C1 := Lib.hid (errors_any p c n F ls le sp wa (R.out.below B1.out) (by omega))
  go_wp2_with fail
  refine C1.out.mono ?_
  rintro e w1 ⟨rfl, b1⟩
  have HB := Lib.hid (B1.out.trans (b1.mono B1.out.size))
  have OS1 := Lib.hid (OS.out.below b1)
  clear b1 C1 s0 s1 s2 OS B1
  by_cases z1 : flE ls le sp F n = 0
  case neg =>
    have d1 : (flE ls le sp F n == 0) = false := by simpa using z1
    have E := Lib.hid (liV_1 (K := K) z1)
    have FN := Lib.hid (show rLiQ K ls le sp F n w (.returned (.tuple #[.slice none 0 0, .int .i64 0, .int .i64 (flE ls le sp F n)])) w1 from ⟨_, by rw [E.out], HB.out, .inl ⟨rfl, .inl (by rw [E.out]; exact z1)⟩⟩)
    clear z1
    generalize flE ls le sp F n = x at *
    go_wp2_with fail
    go_ret3
    exact FN.out
  have Z1 := Lib.hid z1
  obtain ⟨n128, so, fok⟩ := flE_ok z1
  have FOK := Lib.hid fok
  have SP := Lib.hid so.2.2
  rw [z1]
  have eK : ls = (K : Int) := by have := HKK.out; have := so.1; omega
  have KB := Lib.hid (show 1 ≤ K ∧ K ≤ 16 from by have := so.1; omega)
  clear z1 fok so
  clear HKK
  subst eK
  have SS := Lib.hid (fun W (b : Below w1.heap.size w1 W) => show W.cell? ⟨w.heap.size, 0, none⟩ = some (.int .i64 (K : Int)) ∧ W.cell? ⟨w.heap.size, 1, none⟩ = some (.int .i64 le) ∧ W.cell? ⟨w.heap.size, 2, none⟩ = some (.int .i64 sp) from ⟨(OS1.out.below b).cell (k := 0) (by decide), (OS1.out.below b).cell (k := 1) (by decide), (OS1.out.below b).cell (k := 2) (by decide)⟩)
  obtain ⟨s0, s1, s2⟩ := SS.out _ (Below.refl _ _)
  have C3 := Lib.hid (rcosts_any p c n F (K : Int) le sp w1 (R.out.below HB.out) ln FOK.out KOK.out SP.out)
  go_wp2_with fail
  refine C3.out.mono ?_
  rintro e w3 ⟨q3, d3, rfl, qc, f3⟩
  have QC3 := Lib.hid qc
  replace HB := Lib.hid (HB.out.trans (f3.mono HB.out.size))
  have OS3 := Lib.hid (OS1.out.below f3)
  clear s0 s1 s2 C3 qc f3 SS OS1
  have s0 : w3.cell? ⟨w.heap.size, 0, none⟩ = some (.int .i64 (K : Int)) := OS3.out.cell (k := 0) (by decide)
  have C4 := Lib.hid (rests_any q3 d3 n K (fun i j => lnc (inO F n) le sp i j) w3 QC3.out ln KB.out.2 1503238553600000 (by omega) (lnc_bdM (inO_ok FOK.out) ln le sp))
  simp only [rowK_ln] at C4
  go_wp2_with fail
  refine C4.out.mono ?_
  rintro e w4 ⟨g4, d4, rfl, qr, f4⟩
  have QR := Lib.hid qr
  have QC := Lib.hid (QC3.out.below f4)
  replace HB := Lib.hid (HB.out.trans (f4.mono HB.out.size))
  have OS4 := Lib.hid (OS3.out.below f4)
  have kb := KB.out
  clear s0 C4 qr f4 QC3 OS3
  obtain ⟨x0, qq, dq, ex0, lx0, cx0, nr0⟩ := QR.out 0 (by omega)
  cases ex0
  have G4 := Lib.hid (show g4 < w4.heap.size from lx0)
  clear lx0
  have CX := Lib.hid (show w4.cell? ⟨g4, 0, none⟩ = some (.slice qq (K + 1) dq) from cx0)
  have NR := Lib.hid (show NmR w4 qq (K + 1) (fun k => rowK (cMat (inO F n) le sp) n k 0) from nr0)
  obtain ⟨f, hf⟩ : ∃ f : Nat → Int, f = fun k => rowK (cMat (inO F n) le sp) n k 0 := ⟨_, rfl⟩
  rw [← hf] at NR
  have HF := Lib.hid hf
  clear cx0 nr0 hf
  go_wp2_with fail
  go_loopw [10, 11, 12] (fun bv kv _ wr => ∃ k : Nat, k ≤ K + 1 ∧ kv = .int .i64 (k : Int) ∧ bv = .int .i64 (bsr f k) ∧ wr = w4) (fun _ kv _ _ => K + 1 - (intOf kv).toNat)
  case atStart => exact ⟨0, Nat.zero_le _, rfl, rfl, rfl⟩
  case round =>
  obtain ⟨k, hk, rfl, rfl, rfl⟩ := hrel
  rename World => w4
  have s0 : w4.cell? ⟨w.heap.size, 0, none⟩ = some (.int .i64 (K : Int)) := OS4.out.cell (k := 0) (by decide)
  by_cases t1 : k ≤ K
  case pos =>
    have k1 : (0 : Int) ≤ (k : Int) := by omega
    have k2 : (k : Int) ≤ (K : Int) := by omega
    have k3 : (k : Int) < (K : Int) + 1 := by omega
    have k4 : (k : Int) < ((K + 1 : Nat) : Int) := by omega
    have n1 : (0 : Int) < (n : Int) + 1 := by omega
    have n2 : (0 : Int) < ((n + 1 : Nat) : Int) := by omega
    have ek : IntKind.i64.wrap ((k : Int) + 1) = (k : Int) + 1 := hwI (by omega) (by omega)
    have cx := CX.out
    obtain ⟨y, hy, -, cu⟩ := NR.out k (by omega)
    subst hy
    have NX := Lib.hid (show bsr f (k + 1) = if f k ≠ -1 ∧ (bsr f k = -1 ∨ f k < f (bsr f k).toNat) then (k : Int) else bsr f k from rfl)
    by_cases a1 : f k = -1
    · have e1 : (f k != -1) = false := by simp [a1]
      have NY := Lib.hid (show bsr f (k + 1) = bsr f k from by rw [NX.out]; exact if_neg (fun g => g.1 a1))
      clear a1 NX
      generalize f k = u at *
      generalize bsr f k = b at *
      go_wp2_with fail
      go_roundw
      case rel => exact ⟨k + 1, by omega, by go_num, by rw [NY.out], by first | rfl | trivial⟩
      case measure => simp [intOf] <;> omega
    have e1 : (f k != -1) = true := by simp [a1]
    rcases bsr_lt f k with hb | ⟨b, hb, hbk⟩
    · have NY := Lib.hid (show bsr f (k + 1) = (k : Int) from by rw [NX.out]; exact if_pos ⟨a1, .inl hb⟩)
      rw [hb]
      clear a1 NX hb
      generalize f k = u at *
      go_wp2_with fail
      go_roundw
      case rel => exact ⟨k + 1, by omega, by go_num, by rw [NY.out], by first | rfl | trivial⟩
      case measure => simp [intOf] <;> omega
    · obtain ⟨y', hy, -, cb⟩ := NR.out b (by omega)
      cases hy
      have b1 : (0 : Int) ≤ (b : Int) := by omega
      have b3 : (b : Int) < (K : Int) + 1 := by omega
      have b4 : (b : Int) < ((K + 1 : Nat) : Int) := by omega
      have e2 : ((b : Int) == -1) = false := by simp <;> omega
      by_cases a2 : f k < f b
      · have e3 : decide (f k < f b) = true := decide_eq_true a2
        have NY := Lib.hid (show bsr f (k + 1) = (k : Int) from by rw [NX.out]; exact if_pos ⟨a1, .inr (by rw [hb]; exact a2)⟩)
        rw [hb]
        clear a1 NX hb a2
        generalize f k = u at *
        generalize f b = u2 at *
        go_wp2_with fail
        go_roundw
        case rel => exact ⟨k + 1, by omega, by go_num, by rw [NY.out], by first | rfl | trivial⟩
        case measure => simp [intOf] <;> omega
      · have e3 : decide (f k < f b) = false := decide_eq_false a2
        have NY := Lib.hid (show bsr f (k + 1) = (b : Int) from by rw [NX.out, hb]; exact if_neg (fun g => by rcases g.2 with h | h; omega; exact a2 (by simpa using h)))
        rw [hb]
        clear a1 NX hb a2
        generalize f k = u at *
        generalize f b = u2 at *
        go_wp2_with fail
        go_roundw
        case rel => exact ⟨k + 1, by omega, by go_num, by rw [NY.out], by first | rfl | trivial⟩
        case measure => simp [intOf] <;> omega
  obtain rfl : k = K + 1 := by omega
  have k5 : ¬ (((K + 1 : Nat) : Int) ≤ (K : Int)) := by omega
  have k6 : ¬ ((K : Int) + 1 ≤ (K : Int)) := by omega
  have BB := Lib.hid (bsr_bst f K)
  by_cases z3 : f (bst f K) = -1
  case pos =>
    rw [BB.out, if_pos z3]
    have E := Lib.hid (show liV K (K : Int) le sp F n = (0, 13) from by
      have hn : n ≠ 0 := fun h => by
        have a := bst_all (f := f) (K := K) (k := 0) (Nat.zero_le _) (by rw [HF.out]; show (if 0 = n then 0 else -1) ≠ (-1 : Int); rw [if_pos h.symm]; decide)
        exact a.1 z3
      have hb : bst f K = 0 := by
        apply Classical.byContradiction
        intro h
        exact bst_hit h z3
      rw [HF.out] at hb
      exact liV_3 Z1.out hn hb)
    have FN := Lib.hid (show rLiQ K (K : Int) le sp F n w (.returned (.tuple #[.slice none 0 0, .int .i64 0, .int .i64 13])) w4 from ⟨_, by rw [E.out], HB.out, .inl ⟨rfl, .inl (by rw [E.out]; decide)⟩⟩)
    clear z3
    go_wp2_with fail
    go_ret3
    exact FN.out
  rw [BB.out, if_neg z3]
  have Z3 := Lib.hid z3
  obtain ⟨m, hm⟩ : ∃ m, m = bst f K := ⟨_, rfl⟩
  have HM := Lib.hid hm
  rw [← hm] at Z3 ⊢
  have m16 : m ≤ 16 := by have := bst_le f K; have := KB.out; omega
  have hmK : m ≤ K := by have := bst_le f K; omega
  have e3 : ((m : Int) == -1) = false := by simp <;> omega
  have H0 := Lib.hid (show rowK (cMat (inO F n) le sp) n m 0 ≠ -1 from by have := Z3.out; rw [HF.out] at this; exact this)
  clear z3 BB hm
  have C5 := Lib.hid (rOrder_any p c n F w4 (R.out.below HB.out) ln FOK.out KOK.out)
  go_wp2_with fail
  refine C5.out.mono ?_
  rintro e w5 ⟨q5, d5, rfl, ro, f5, -⟩
  have RO := Lib.hid ro
  have CX5 := Lib.hid ((f5.cell (p := ⟨g4, 0, none⟩) G4.out).trans CX.out)
  have NR5 := Lib.hid (NR.out.below f5)
  have QR5 := Lib.hid (QR.out.below f5)
  have QC5 := Lib.hid (QC.out.below f5)
  replace HB := Lib.hid (HB.out.trans (f5.mono HB.out.size))
  have OS5 := Lib.hid (OS4.out.below f5)
  clear C5 f5 ro OS4 QR QC NR CX
  have BD := Lib.hid (fun i j (h : i < j) (hj : j ≤ n) => (cMat_bd (A := inO F n) (n := n) (i := i) (j := j) (le := le) (sp := sp) (inO_ok FOK.out) ln hj))
  have RB := Lib.hid (rowK_bd (C := cMat (inO F n) le sp) (n := n) (M := 1503238553600000) (by omega) BD.out)
  have PO := Lib.hid (fun t (h : t ≤ m) => pos_ok (C := cMat (inO F n) le sp) (n := n) (m := m) H0.out h)
  have RA := Lib.hid (fun W (b : Below w5.heap.size w5 W) i j (hj : j ≤ n) => rline_any p c n F q5 d5 i j (K : Int) le sp W (R.out.below (HB.out.trans (b.mono HB.out.size))) (RO.out.below b) ln hj FOK.out KOK.out)
  obtain ⟨C, hC⟩ : ∃ C, C = cMat (inO F n) le sp := ⟨_, rfl⟩
  have HCC := Lib.hid hC
  rw [← hC] at BD RB PO QR5 H0
  clear hC
  go_wp2_with fail
  go_loopw [14, 15, 16, 17, 18, 19] (fun lv iv kv _ _ _ wr => ∃ (t : Nat), t ≤ m ∧ kv = .int .i64 ((m - t : Nat) : Int) ∧ iv = .int .i64 ((pos C n m t : Nat) : Int) ∧ Hid (RlR w5.heap.size (inO F n) (gi (ordK (fun k => (F k).key) n)) C (pos C n m) t lv wr) ∧ Hid (Below w5.heap.size w5 wr) ∧ Hid (t = 0 → lv = .slice none 0 0)) (fun _ _ kv _ _ _ _ => (intOf kv).toNat)
  case atStart => exact ⟨0, Nat.zero_le _, by simp, rfl, Lib.hid ⟨fun _ => none, fun _ => 0, World.ownsRow_nil _ _ _ _, fun x hx => absurd hx (by omega), fun x hx => absurd hx (by omega)⟩, Lib.hid (Below.refl _ _), Lib.hid (fun _ => rfl)⟩
  case round =>
  obtain ⟨t, ht, ek, ei, HP, HW, T0⟩ := hrel
  by_cases t1 : t < m
  case pos =>
    obtain ⟨kk, hkk⟩ : ∃ kk, m - t = kk + 1 := ⟨m - t - 1, by omega⟩
    have PT := Lib.hid (PO.out t ht)
    rw [hkk] at PT
    have NT := Lib.hid (nxt_ok PT.out.1)
    have PS := Lib.hid (show pos C n m (t + 1) = nxt C n kk (pos C n m t) from by
      show nxt C n (m - 1 - t) (pos C n m t) = _
      rw [show m - 1 - t = kk by omega])
    have KM := Lib.hid (show kk + 1 ≤ m ∧ m - (t + 1) = kk from by omega)
    rw [hkk] at ek
    obtain ⟨i, hi⟩ : ∃ i, i = pos C n m t := ⟨_, rfl⟩
    rw [← hi] at ei PT NT PS
    have HI := Lib.hid hi
    rw [show (((kk + 1 : Nat)) : Int) = (kk : Int) + 1 by omega] at ek
    subst ek
    subst ei
    clear hkk hi
    have ein := NT.out.1
    have inn := NT.out.2.1
    have kkm := KM.out.1
    have k1 : (0 : Int) < (kk : Int) + 1 := by omega
    have k2 : (0 : Int) ≤ (kk : Int) := by omega
    have k3 : (kk : Int) < (K : Int) + 1 := by omega
    have k4 : (kk : Int) < ((K + 1 : Nat) : Int) := by omega
    have k5 : (0 : Int) ≤ (kk : Int) + 1 := by omega
    have k6 : (kk : Int) + 1 < (K : Int) + 1 := by omega
    have k7 : (kk : Int) + 1 < ((K + 1 : Nat) : Int) := by omega
    have k8 : (kk : Int) < (K : Int) := by omega
    have i1 : (0 : Int) ≤ (i : Int) := by omega
    have i2 : (i : Int) < (n : Int) + 1 := by omega
    have i3' : (i : Int) < ((n + 1 : Nat) : Int) := by omega
    have i4 : (i : Int) < (n : Int) := by omega
    have ekk : IntKind.i64.wrap ((kk : Int) + 1 - 1) = (kk : Int) := by rw [hwI (by omega) (by omega)]; omega
    have ekk3 : IntKind.i64.wrap (kk : Int) = (kk : Int) := hwI (by omega) (by omega)
    have eii : IntKind.i64.wrap ((i : Int) + 1) = (i : Int) + 1 := hwI (by omega) (by omega)
    go_wp2_with fail
    go_loopw [17] (fun jv wq => ∃ (j : Nat), i + 1 ≤ j ∧ j ≤ nxt C n kk i ∧ jv = .int .i64 (j : Int) ∧ Hid (RlR w5.heap.size (inO F n) (gi (ordK (fun k => (F k).key) n)) C (pos C n m) t u14 wq) ∧ Hid (Below w5.heap.size w5 wq)) (fun jv _ => n + 1 - (intOf jv).toNat)
    case atStart => exact ⟨i + 1, Nat.le_refl _, ein, by simp, HP, HW⟩
    case round =>
    clear HP HW
    obtain ⟨j, hj1, hj2, rfl, HP, HW⟩ := hrel
    rename World => wq
    have j1 : (0 : Int) ≤ (j : Int) := by omega
    have j2 : (j : Int) < (n : Int) + 1 := by omega
    have j3 : (j : Int) < ((n + 1 : Nat) : Int) := by omega
    have ej : IntKind.i64.wrap ((j : Int) + 1) = (j : Int) + 1 := hwI (by omega) (by omega)
    have jn : j ≤ n := by omega
    obtain ⟨x1, qc, dc, exq, -, cx1, nr1⟩ := (QC5.out.below HW.out) i (by omega)
    obtain ⟨y1, ey, -, cy1⟩ := nr1 j (by omega)
    subst exq
    subst ey
    replace cy1 : wq.cell? (y1.add j) = some (.int .i64 (C i j)) := by rw [HCC.out, ← lnc_cM _ _ _ (show i < j by omega)]; exact cy1
    obtain ⟨y2, d2, r2, v2⟩ := (QR5.out.below HW.out).at (i := j) (j := kk) (by omega) (by omega) rfl
    replace v2 : wq.cell? (y2.add kk) = some (.int .i64 (rowK C n kk j)) := v2
    obtain ⟨y3, d3', r3, v3⟩ := (QR5.out.below HW.out).at (i := i) (j := kk + 1) (by omega) (by omega) rfl
    replace v3 : wq.cell? ⟨y3.block, y3.off + (kk + 1), none⟩ = some (.int .i64 (rowK C n (kk + 1) i)) := by
      rw [show (⟨y3.block, y3.off + (kk + 1), none⟩ : Addr) = y3.add (kk + 1) from by unfold Addr.add; rw [if_neg (by omega)]]
      exact v3
    have EQN := Lib.hid (show j = n → both (C i j) (rowK C n kk j) = rowK C n (kk + 1) i from fun h => by
      have e : j = nxt C n kk i := by omega
      rw [e]; exact NT.out.2.2)
    have XNE := Lib.hid (show rowK C n (kk + 1) i ≠ -1 from PT.out.1)
    have cb := BD.out i j (by omega) jn
    have rb := RB.out kk j
    have mk : (1503238553600000 : Int) * (kk : Int) ≤ 1503238553600000 * 16 := by omega
    go_upto_region 22 with fail
    go_cut [123] from 73 to 123 (fun t wx => t = .bool (decide (¬ both (C i j) (rowK C n kk j) = rowK C n (kk + 1) i)) ∧ Hid (Below wq.heap.size wq wx))
    case first =>
      by_cases t2 : j = n
      · have d1 : decide ((j : Int) < (n : Int)) = false := decide_eq_false (by omega)
        have tn : ¬ ((j : Int) < (n : Int)) := by omega
        have G := Lib.hid (show decide (¬ both (C i j) (rowK C n kk j) = rowK C n (kk + 1) i) = false from decide_eq_false (fun h => h (EQN.out t2)))
        clear t2 cb rb mk
        go_quiet (fail)
        go_wp2_with fail
        go_meet
        exact ⟨congrArg Value.bool G.out.symm, Lib.hid (below_drewN (Below.refl _ _) _)⟩
      · have d1 : decide ((j : Int) < (n : Int)) = true := decide_eq_true (by omega)
        have tn : (j : Int) < (n : Int) := by omega
        by_cases a1 : C i j = -1
        · have e1 : (C i j == -1) = true := by simp [a1]
          have G := Lib.hid (show decide (¬ both (C i j) (rowK C n kk j) = rowK C n (kk + 1) i) = true from decide_eq_true (fun h => XNE.out (by rw [← h]; exact both_n (.inl a1))))
          rw [a1] at cy1
          clear t2 cb rb mk a1 e1
          go_quiet (fail)
          go_wp2_with fail
          go_meet
          exact ⟨congrArg Value.bool G.out.symm, Lib.hid (below_drewN (Below.refl _ _) _)⟩
        · have e1 : (C i j == -1) = false := by simpa using a1
          by_cases a2 : rowK C n kk j = -1
          · have e2 : (rowK C n kk j == -1) = true := by simp [a2]
            have G := Lib.hid (show decide (¬ both (C i j) (rowK C n kk j) = rowK C n (kk + 1) i) = true from decide_eq_true (fun h => XNE.out (by rw [← h]; exact both_n (.inr a2))))
            rw [a2] at v2
            clear t2 cb rb mk a2 e2
            generalize C i j = cv at cy1 e1 a1
            have e1b : (cv == Int.negSucc 0) = false := e1
            have e1c : decide (cv = -1) = false := decide_eq_false a1
            go_quiet (fail)
            go_wp2_with fail
            go_meet
            exact ⟨congrArg Value.bool G.out.symm, Lib.hid (below_drewN (Below.refl _ _) _)⟩
          · have e2 : (rowK C n kk j == -1) = false := by simpa using a2
            have e5 : IntKind.i64.wrap (C i j + rowK C n kk j) = C i j + rowK C n kk j := hwI (by omega) (by omega)
            have G := Lib.hid (show decide (¬ both (C i j) (rowK C n kk j) = rowK C n (kk + 1) i) = (C i j + rowK C n kk j != rowK C n (kk + 1) i) from by
              rw [both_pos a1 a2]
              by_cases q : C i j + rowK C n kk j = rowK C n (kk + 1) i
              · simp [q]
              · simp [q])
            clear t2 cb rb mk
            obtain ⟨cv, hcv⟩ : ∃ cv, cv = C i j := ⟨_, rfl⟩
            obtain ⟨rv, hrv⟩ : ∃ rv, rv = rowK C n kk j := ⟨_, rfl⟩
            obtain ⟨xv, hxv⟩ : ∃ xv, xv = rowK C n (kk + 1) i := ⟨_, rfl⟩
            have HCV := Lib.hid hcv
            have HRV := Lib.hid hrv
            have HXV := Lib.hid hxv
            rw [← hcv] at cy1 e1 e5 a1
            rw [← hrv] at v2 e2 e5 a2
            rw [← hxv] at v3
            clear hcv hrv hxv
            have e1c : decide (cv = -1) = false := decide_eq_false a1
            have e2c : decide (rv = -1) = false := decide_eq_false a2
            go_quiet (fail)
            go_wp2_with fail
            go_meet
            exact ⟨by rw [HCV.out, HRV.out, HXV.out]; exact congrArg Value.bool G.out.symm, Lib.hid (below_drewN (Below.refl _ _) _)⟩
    case rest =>
    obtain ⟨rfl, BQ⟩ := hcut
    rename World => wx
    clear cx1 nr1 cy1 r2 v2 r3 v3 EQN cb rb mk
    have HPx := Lib.hid (HP.out.below BQ.out)
    have HWx := Lib.hid (HW.out.trans (BQ.out.mono HW.out.size))
    clear HP HW BQ
    by_cases hit : both (C i j) (rowK C n kk j) = rowK C n (kk + 1) i
    case neg =>
      have jlt : j + 1 ≤ nxt C n kk i := by
        rcases Nat.lt_or_ge j (nxt C n kk i) with h | h
        · omega
        · have e : j = nxt C n kk i := by omega
          rw [e] at hit
          exact absurd NT.out.2.2 hit
      rw [decide_eq_true hit]
      clear hit
      go_wp2_with fail
      go_roundw
      case rel => exact ⟨j + 1, by omega, jlt, by go_num, HPx, HWx⟩
      case measure => simp [intOf] <;> omega
    have jnx : j = nxt C n kk i := by
      rcases Nat.lt_or_ge j (nxt C n kk i) with h | h
      · exact absurd hit (nxt_min (by omega) h)
      · omega
    have PJ := Lib.hid (PS.out.trans jnx.symm)
    have CNE := Lib.hid (show C i j ≠ -1 from (both_ne (show both (C i j) (rowK C n kk j) ≠ -1 from by rw [hit]; exact XNE.out)).1)
    rw [decide_eq_false (fun h => h hit)]
    have ISL := Lib.hid (show isLine (inO F n) le sp i j from by
      apply Classical.byContradiction
      intro g
      apply CNE.out
      rw [HCC.out]
      unfold cMat lnc
      rw [if_pos (by omega), if_neg g])
    have COS := Lib.hid (show offs (inO F n) (cen (inO F n) i j) i j = C i j from by
      rw [HCC.out]
      unfold cMat lnc
      rw [if_pos (by omega), if_pos ISL.out])
    have RL := Lib.hid (RA.out wx HWx.out i j jn)
    have OSx := OS5.out.below HWx.out
    have s0 : wx.cell? ⟨w.heap.size, 0, none⟩ = some (.int .i64 (K : Int)) := OSx.cell (k := 0) (by decide)
    have s1 : wx.cell? ⟨w.heap.size, 1, none⟩ = some (.int .i64 le) := OSx.cell (k := 1) (by decide)
    have s2 : wx.cell? ⟨w.heap.size, 2, none⟩ = some (.int .i64 sp) := OSx.cell (k := 2) (by decide)
    clear hit jnx OSx
    go_wp2_with fail
    refine RL.out.mono ?_
    rintro e w6 h
    clear RL s0 s1 s2
    rcases h with ⟨-, ⟨q6, d6, rfl, nr6, new6⟩, b6⟩ | ⟨il, -, -⟩
    case inr => exact absurd ISL.out il
    rw [COS.out]
    have SEP := Lib.hid (show ∀ a, q6 = some a → u14.ownBlock ≠ some a.block from fun a ha z => by
      obtain ⟨qf, df, oL, -⟩ := HPx.out
      have l := (World.ownsRow.lt oL a.block z).2
      have := new6 a ha
      omega)
    have HP6 := Lib.hid (HPx.out.below b6)
    have HW6 := Lib.hid (HWx.out.trans (b6.mono HWx.out.size))
    have UPS := Lib.hid (show ∀ x, x < t + 1 → 0 < pos C n m (x + 1) - pos C n m x from fun x hx => by
      have := (pos_line (C := C) (n := n) H0.out (show x < m by omega)).1
      omega)
    have NR6 := Lib.hid (show NmR w6 q6 (pos C n m (t + 1) - pos C n m t) (fun z => gi (ordK (fun k => (F k).key) n) (pos C n m t + z)) from by rw [PJ.out, ← HI.out]; exact nr6)
    obtain ⟨qf, df, oL, oR, oS⟩ := HP6.out
    have OL := Lib.hid oL
    have OR := Lib.hid oR
    have OSS := Lib.hid oS
    clear HPx HWx b6 nr6 new6 oL oR oS
    have t16 : t ≤ 16 := by omega
    unfold lnV
    have OB := Lib.hid (show OB (w6.alloc (Obj.cells #[.int .u8 (inO F n i).ka, .int .u8 (inO F n i).kb, .int .u8 (inO F n i).kc, .int .u8 (inO F n i).kd, .slice q6 (j - i) d6, .int .i64 (mas (inO F n) i j), .int .i64 (cen (inO F n) i j), .int .i64 (C i j)] 38)) w6.heap.size 38 8 (fun k => if k = 0 then .int .u8 (inO F n i).ka else if k = 1 then .int .u8 (inO F n i).kb else if k = 2 then .int .u8 (inO F n i).kc else if k = 3 then .int .u8 (inO F n i).kd else if k = 4 then .slice q6 (j - i) d6 else if k = 5 then .int .i64 (mas (inO F n) i j) else if k = 6 then .int .i64 (cen (inO F n) i j) else .int .i64 (C i j)) from by
      unfold OB
      rw [heap_alloc_new]
      rfl)
    have BZ := Lib.hid (show Below w6.heap.size w6 (w6.alloc (Obj.cells #[.int .u8 (inO F n i).ka, .int .u8 (inO F n i).kb, .int .u8 (inO F n i).kc, .int .u8 (inO F n i).kd, .slice q6 (j - i) d6, .int .i64 (mas (inO F n) i j), .int .i64 (cen (inO F n) i j), .int .i64 (C i j)] 38)) from (Below.refl _ _).alloc (Nat.le_refl _) _)
    go_upto_region 25 with fail
    generalize w6.alloc (Obj.cells #[.int .u8 (inO F n i).ka, .int .u8 (inO F n i).kb, .int .u8 (inO F n i).kc, .int .u8 (inO F n i).kd, .slice q6 (j - i) d6, .int .i64 (mas (inO F n) i j), .int .i64 (cen (inO F n) i j), .int .i64 (C i j)] 38) = wz at *
    have z0 : wz.cell? ⟨w6.heap.size, 0, none⟩ = some (.int .u8 (inO F n i).ka) := OB.out.cell (k := 0) (by decide)
    have z1 : wz.cell? ⟨w6.heap.size, 1, none⟩ = some (.int .u8 (inO F n i).kb) := OB.out.cell (k := 1) (by decide)
    have z2 : wz.cell? ⟨w6.heap.size, 2, none⟩ = some (.int .u8 (inO F n i).kc) := OB.out.cell (k := 2) (by decide)
    have z3 : wz.cell? ⟨w6.heap.size, 3, none⟩ = some (.int .u8 (inO F n i).kd) := OB.out.cell (k := 3) (by decide)
    have z4 : wz.cell? ⟨w6.heap.size, 4, none⟩ = some (.slice q6 (j - i) d6) := OB.out.cell (k := 4) (by decide)
    have z5 : wz.cell? ⟨w6.heap.size, 5, none⟩ = some (.int .i64 (mas (inO F n) i j)) := OB.out.cell (k := 5) (by decide)
    have z6 : wz.cell? ⟨w6.heap.size, 6, none⟩ = some (.int .i64 (cen (inO F n) i j)) := OB.out.cell (k := 6) (by decide)
    have z7 : wz.cell? ⟨w6.heap.size, 7, none⟩ = some (.int .i64 (C i j)) := OB.out.cell (k := 7) (by decide)
    have OLz := Lib.hid (own_belowD OL.out BZ.out)
    have HWz := Lib.hid (HW6.out.trans (BZ.out.mono HW6.out.size))
    go_wp2_with (first
      | (at_builtin; refine wpList_append_own_at _ rfl _ _ 28 rfl w5.heap.size 38 i3 (.agg #[.int .u8 0, .int .u8 0, .int .u8 0, .int .u8 0, .slice none 0 0, .int .i64 0, .int .i64 0, .int .i64 0]) 8 56 Try.underlying28 hi3 hw0 hw1 hw2 rfl (by decide) _ _ _ rfl (OLz.out.alloc _) ⟨wz.heap.size, 0, none⟩ 1 1 (lnL (inO F n i) (.slice q6 (j - i) d6) (mas (inO F n) i j) (cen (inO F n) i j) (C i j)) rfl rfl (ln_cells _ _ _ _ _ rfl) (ln_one _ _ _ _ _ _ _) (by unfold maxLen; omega) (by omega) (by have := HWz.out.size; simp; omega) ?_))
    intro v' w8 hown' hgrow _ hat
    have PR := Lib.hid (show RlR w5.heap.size (inO F n) (gi (ordK (fun k => (F k).key) n)) C (pos C n m) (t + 1) v' w8 from
      RlR.snoc HP6.out (BZ.out.alloc BZ.out.size _) (qf := qf) (df := df) NR6.out UPS.out SEP.out (by rw [PJ.out, ← HI.out]; exact hown') OR.out OSS.out hgrow (by simpa using hat))
    have HW8 := Lib.hid (show Below w5.heap.size w5 w8 from (HWz.out.alloc HWz.out.size _).grown hgrow (by have := HWz.out.size; simp; omega) (own_ltD OLz.out))
    clear hown' hgrow hat OL OR OSS OLz HWz HP6 NR6 z0 z1 z2 z3 z4 z5 z6 z7
    go_wp2_with fail
    go_roundw
    case rel => exact ⟨t + 1, by omega, by rw [KM.out.2], by rw [PJ.out], PR, HW8, Lib.hid (fun h => absurd h (by omega))⟩
    case measure => simp [intOf] <;> omega
  obtain rfl : t = m := by omega
  rw [Nat.sub_self] at ek
  subst ek
  subst ei
  have HH := Lib.hid (HB.out.trans (HW.out.mono HB.out.size))
  obtain ⟨y, dy, r1, v1⟩ := (QR5.out.below HW.out).at (i := 0) (j := t) (by omega) (by omega) rfl
  replace v1 : wr.cell? (y.add t) = some (.int .i64 (rowK C n t 0)) := v1
  have FN := Lib.hid (show ∀ W, Below wr.heap.size wr W → rLiQ K (K : Int) le sp F n w (.returned (.tuple #[u14, .int .i64 (rowK C n t 0), .int .i64 0])) W from fun W bw => by
    have h0 := H0.out
    have hh := HH.out.trans (bw.mono HH.out.size)
    by_cases n0 : n = 0
    · have t00 : t = 0 := by
        apply Classical.byContradiction
        intro g
        obtain ⟨t', rfl⟩ : ∃ t', t = t' + 1 := ⟨t - 1, by omega⟩
        apply h0
        show lfm (C 0) (rowK C n t') 0 (n - 0) = -1
        rw [n0]; rfl
      have E := liV_2 (K := K) Z1.out n0
      have r0 : rowK C n t 0 = 0 := by rw [t00]; show (if 0 = n then 0 else -1) = (0 : Int); rw [if_pos n0.symm]
      exact ⟨u14, by rw [E, r0], hh, .inl ⟨T0.out t00, .inr n0⟩⟩
    · have t00 : t ≠ 0 := fun g => h0 (by rw [g]; show (if 0 = n then 0 else -1) = (-1 : Int); rw [if_neg (by omega)])
      have lk : liK K le sp F n = t := by unfold liK; rw [HM.out, HF.out]
      have E := liV_4 (K := K) (le := le) (sp := sp) Z1.out n0 (show bst (fun k => rowK (cMat (inO F n) le sp) n k 0) K ≠ 0 from by have := lk; unfold liK at this; rw [this]; exact t00)
      have lk2 : bst (fun k => rowK (cMat (inO F n) le sp) n k 0) K = t := lk
      rw [lk2, ← HCC.out] at E
      obtain ⟨g, c', hv, pls⟩ := (HP.out.below bw).plS (by omega)
      refine ⟨u14, by rw [E], hh, .inr ⟨by rw [E], n0, Z1.out, by rw [lk]; exact t00, g, c', by rw [lk]; exact hv, ?_⟩⟩
      rw [lk, ← HCC.out]
      exact pls)
  have kk1 : (0 : Int) ≤ (t : Int) := by omega
  have kk2 : (t : Int) < (K : Int) + 1 := by omega
  have kk3 : (t : Int) < ((K + 1 : Nat) : Int) := by omega
  have kk4 : ¬ ((0 : Int) < 0) := by omega
  have n1 : (0 : Int) < (n : Int) + 1 := by omega
  have n2 : (0 : Int) < ((n + 1 : Nat) : Int) := by omega
  go_upto_region 27 with fail
  go_quiet (fail)
  have FF := Lib.hid (FN.out _ (below_drewN (Below.refl _ _) nq))
  go_wp2_with fail
  go_ret3
  exact FF.out
end Go.Proofs.Ytmdhmpfagekonaa

/- Classing's lines, the law: rows of numbers that are the same. -/
namespace Go.Proofs.Ytmdhmpfagekonaa
open Go.RowKit Go.Proofs.Ytmdhmpfagekonaa.Ct Go.Proofs.Ytmdhmpfagekonaa.Ce Go.Proofs.Ytmdhmpfagekonaa.Stb
set_option linter.unusedVariables false
set_option linter.unusedSimpArgs false

set_option maxRecDepth 100000 in
set_option maxHeartbeats 4000000 in
theorem sameN_any (p q : Option Addr) (c d n : Nat) (A : Nat → Int) (w : World) (rp : NmR w p n A) (rq : NmR w q n A) (hn : n ≤ 1000) :
    Calls Try.prog 19 #[.slice p n c, .slice q n d] w fun e w' => e = .returned (.bool true) ∧ Below w.heap.size w w' := by
  have RP := Lib.hid rp
  have RQ := Lib.hid rq
  clear rp rq
  go_enter Try.func19, Try.ntmps19
  go_wp2_with fail
  go_loopw [5] (fun kv wr => ∃ i : Nat, i ≤ n ∧ kv = .int .i64 i ∧ Hid (Below w.heap.size w wr)) (fun kv _ => n - (intOf kv).toNat)
  case atStart => exact ⟨0, Nat.zero_le _, rfl, Lib.hid (Below.refl _ _)⟩
  case round =>
    obtain ⟨i, hi, rfl, BW⟩ := hrel
    by_cases t1 : i < n
    case pos =>
      have k1 : (0 : Int) ≤ (i : Int) := by omega
      have k2 : (i : Int) < (n : Int) := by omega
      obtain ⟨x, rfl, -, cx⟩ := (RP.out.below BW.out) i t1
      obtain ⟨y, rfl, -, cy⟩ := (RQ.out.below BW.out) i t1
      generalize A i = u at *
      go_upto_region 6 with fail
      go_quiet (fail)
      go_wp2_with fail
      go_roundw
      case rel => exact ⟨i + 1, by omega, by go_num, Lib.hid (below_drewN BW.out _)⟩
      case measure => simp [intOf]; omega
    obtain rfl : i = n := by omega
    have k3 : ¬ ((i : Int) < (i : Int)) := by omega
    have BB := Lib.hid BW.out
    go_wp2_with fail
    go_ret
    exact ⟨rfl, BB.out⟩
end Go.Proofs.Ytmdhmpfagekonaa

/- Classing's lines, the law: plans that are the same. -/
namespace Go.Proofs.Ytmdhmpfagekonaa
open Go.RowKit Go.Proofs.Ytmdhmpfagekonaa.Ct Go.Proofs.Ytmdhmpfagekonaa.Ce Go.Proofs.Ytmdhmpfagekonaa.Stb
set_option linter.unusedVariables false
set_option linter.unusedSimpArgs false

def lnF (s : Fl) (v : Value) (gr ce co : Int) (k : Nat) : Value := if k = 0 then .int .u8 s.ka else if k = 1 then .int .u8 s.kb else if k = 2 then .int .u8 s.kc else if k = 3 then .int .u8 s.kd else if k = 4 then v else if k = 5 then .int .i64 gr else if k = 6 then .int .i64 ce else .int .i64 co
theorem ob_lnF (w : World) (s : Fl) (v : Value) (gr ce co : Int) : OB (w.alloc (Obj.cells #[.int .u8 s.ka, .int .u8 s.kb, .int .u8 s.kc, .int .u8 s.kd, v, .int .i64 gr, .int .i64 ce, .int .i64 co] 38)) w.heap.size 38 8 (lnF s v gr ce co) := by
  unfold OB
  rw [heap_alloc_new]
  rfl
theorem ob_lnF' (w : World) (o : Obj) (s : Fl) (v : Value) (gr ce co : Int) : OB ((w.alloc o).alloc (Obj.cells #[.int .u8 s.ka, .int .u8 s.kb, .int .u8 s.kc, .int .u8 s.kd, v, .int .i64 gr, .int .i64 ce, .int .i64 co] 38)) (w.heap.size + 1) 38 8 (lnF s v gr ce co) := by
  have := ob_lnF (w.alloc o) s v gr ce co
  simpa using this
/-- Two lines' boxes. -/
def TwL (w0 W : World) (g h : Nat) (s : Fl) (v v' : Value) (gr ce co : Int) : Prop := OB W g 38 8 (lnF s v gr ce co) ∧ OB W h 38 8 (lnF s v' gr ce co) ∧ Below w0.heap.size w0 W
theorem twl_a (w0 W : World) (s : Fl) (v v' : Value) (gr ce co : Int) (h : Below w0.heap.size w0 W) : TwL w0 ((W.alloc (Obj.cells #[.int .u8 s.ka, .int .u8 s.kb, .int .u8 s.kc, .int .u8 s.kd, v, .int .i64 gr, .int .i64 ce, .int .i64 co] 38)).alloc (Obj.cells #[.int .u8 s.ka, .int .u8 s.kb, .int .u8 s.kc, .int .u8 s.kd, v', .int .i64 gr, .int .i64 ce, .int .i64 co] 38)) W.heap.size (W.heap.size + 1) s v v' gr ce co :=
  ⟨ob_old' (ob_lnF W s v gr ce co) _, ob_lnF' W _ s v' gr ce co, (h.alloc h.size _).alloc (by have := h.size; simp; omega) _⟩
theorem twl_b (w0 W : World) (s : Fl) (v v' : Value) (gr ce co : Int) (h : Below w0.heap.size w0 W) : TwL w0 ((W.alloc (Obj.cells #[.int .u8 s.ka, .int .u8 s.kb, .int .u8 s.kc, .int .u8 s.kd, v', .int .i64 gr, .int .i64 ce, .int .i64 co] 38)).alloc (Obj.cells #[.int .u8 s.ka, .int .u8 s.kb, .int .u8 s.kc, .int .u8 s.kd, v, .int .i64 gr, .int .i64 ce, .int .i64 co] 38)) (W.heap.size + 1) W.heap.size s v v' gr ce co :=
  ⟨ob_lnF' W _ s v gr ce co, ob_old' (ob_lnF W s v' gr ce co) _, (h.alloc h.size _).alloc (by have := h.size; simp; omega) _⟩
theorem TwL.dr {w0 W : World} {g h : Nat} {s : Fl} {v v' : Value} {gr ce co : Int} (k : TwL w0 W g h s v v' gr ce co) : TwL w0 W.drew g h s v v' gr ce co := ⟨k.1.below (Below.refl _ _).drew, k.2.1.below (Below.refl _ _).drew, k.2.2.drew⟩
/-- The cells of a line at p. -/
def LnC (p : Addr) (s : Fl) (v : Value) (gr ce co : Int) (w' : World) : Prop := w'.cell? p = some (.int .u8 s.ka) ∧ w'.cell? ⟨p.block, p.off + 1, none⟩ = some (.int .u8 s.kb) ∧ w'.cell? ⟨p.block, p.off + 2, none⟩ = some (.int .u8 s.kc) ∧ w'.cell? ⟨p.block, p.off + 3, none⟩ = some (.int .u8 s.kd) ∧ w'.cell? ⟨p.block, p.off + 4, none⟩ = some v ∧ w'.cell? ⟨p.block, p.off + 5, none⟩ = some (.int .i64 gr) ∧ w'.cell? ⟨p.block, p.off + 6, none⟩ = some (.int .i64 ce) ∧ w'.cell? ⟨p.block, p.off + 7, none⟩ = some (.int .i64 co)
/-- Two lines that are read. -/
def LnD (p p' : Addr) (s : Fl) (v v' : Value) (gr ce co : Int) (w' : World) : Prop := LnAt w' p s v gr ce co ∧ LnAt w' p' s v' gr ce co

set_option maxRecDepth 100000 in
set_option maxHeartbeats 16000000 in
theorem linesS_any (p p' : Option Addr) (c c' m n : Nat) (A : Nat → Fl) (o : Nat → Int) (C : Nat → Nat → Int) (ps : Nat → Nat) (w : World) (rp : PlS w p m A o C ps) (rq : PlS w p' m A o C ps) (hm : m ≤ 16) (hn : ∀ t, t ≤ m → ps t ≤ n) (ln : n ≤ 140) :
    Calls Try.prog 15 #[.slice p m c, .slice p' m c'] w fun e w' => e = .returned (.bool true) ∧ Below w.heap.size w w' := by
  have RP := Lib.hid rp
  have RQ := Lib.hid rq
  have HN := Lib.hid hn
  clear rp rq hn
  go_enter Try.func15, Try.ntmps15
  go_wp2_with fail
  go_loopw [5, 6, 7] (fun kv _ _ wr => ∃ i : Nat, i ≤ m ∧ kv = .int .i64 i ∧ Hid (Below w.heap.size w wr)) (fun kv _ _ _ => m - (intOf kv).toNat)
  case atStart => exact ⟨0, Nat.zero_le _, rfl, Lib.hid (Below.refl _ _)⟩
  case round =>
    obtain ⟨i, hi, rfl, BW⟩ := hrel
    by_cases t1 : i < m
    case pos =>
      have k1 : (0 : Int) ≤ (i : Int) := by omega
      have k2 : (i : Int) < (m : Int) := by omega
      obtain ⟨x, q, d, rfl, l, nr⟩ := (RP.out.below BW.out) i t1
      obtain ⟨y, q', d', rfl, l', nr'⟩ := (RQ.out.below BW.out) i t1
      have h1 := HN.out (i + 1) (by omega)
      have SN := Lib.hid (fun W (b : Below wr.heap.size wr W) => sameN_any q q' d d' (ps (i + 1) - ps i) (fun z => o (ps i + z)) W (nr.below b) (nr'.below b) (by omega))
      have EK := fun W => eq_kind (A (ps i)).ka (A (ps i)).kb (A (ps i)).kc (A (ps i)).kd (A (ps i)).ka (A (ps i)).kb (A (ps i)).kc (A (ps i)).kd W
      simp only [decide_eq_true (⟨rfl, rfl, rfl, rfl⟩ : (A (ps i)).ka = (A (ps i)).ka ∧ (A (ps i)).kb = (A (ps i)).kb ∧ (A (ps i)).kc = (A (ps i)).kc ∧ (A (ps i)).kd = (A (ps i)).kd)] at EK
      clear nr nr' h1
      generalize A (ps i) = s at *
      generalize mas A (ps i) (ps (i + 1)) = gr at *
      generalize cen A (ps i) (ps (i + 1)) = ce at *
      generalize C (ps i) (ps (i + 1)) = co at *
      generalize ps (i + 1) - ps i = k at *
      have L1 := Lib.hid (fun W (b : Below wr.heap.size wr W) => (⟨l.below b, l'.below b⟩ : LnD (x.add (i * 8)) (y.add (i * 8)) s (.slice q k d) (.slice q' k d') gr ce co W))
      have SC := Lib.hid (fun W (b : Below wr.heap.size wr W) => (by obtain ⟨⟨-, a0, a1, a2, a3, a4, a5, a6, a7⟩, ⟨-, b0, b1, b2, b3, b4, b5, b6, b7⟩⟩ := L1.out W b; exact ⟨a0, a1, a2, a3, a4, a5, a6, a7, b0, b1, b2, b3, b4, b5, b6, b7⟩ : (fun w' : World => w'.cell? (x.add (i * 8)) = some (.int .u8 s.ka) ∧ w'.cell? ⟨(x.add (i * 8)).block, (x.add (i * 8)).off + 1, none⟩ = some (.int .u8 s.kb) ∧ w'.cell? ⟨(x.add (i * 8)).block, (x.add (i * 8)).off + 2, none⟩ = some (.int .u8 s.kc) ∧ w'.cell? ⟨(x.add (i * 8)).block, (x.add (i * 8)).off + 3, none⟩ = some (.int .u8 s.kd) ∧ w'.cell? ⟨(x.add (i * 8)).block, (x.add (i * 8)).off + 4, none⟩ = some (.slice q k d) ∧ w'.cell? ⟨(x.add (i * 8)).block, (x.add (i * 8)).off + 5, none⟩ = some (.int .i64 gr) ∧ w'.cell? ⟨(x.add (i * 8)).block, (x.add (i * 8)).off + 6, none⟩ = some (.int .i64 ce) ∧ w'.cell? ⟨(x.add (i * 8)).block, (x.add (i * 8)).off + 7, none⟩ = some (.int .i64 co) ∧ w'.cell? (y.add (i * 8)) = some (.int .u8 s.ka) ∧ w'.cell? ⟨(y.add (i * 8)).block, (y.add (i * 8)).off + 1, none⟩ = some (.int .u8 s.kb) ∧ w'.cell? ⟨(y.add (i * 8)).block, (y.add (i * 8)).off + 2, none⟩ = some (.int .u8 s.kc) ∧ w'.cell? ⟨(y.add (i * 8)).block, (y.add (i * 8)).off + 3, none⟩ = some (.int .u8 s.kd) ∧ w'.cell? ⟨(y.add (i * 8)).block, (y.add (i * 8)).off + 4, none⟩ = some (.slice q' k d') ∧ w'.cell? ⟨(y.add (i * 8)).block, (y.add (i * 8)).off + 5, none⟩ = some (.int .i64 gr) ∧ w'.cell? ⟨(y.add (i * 8)).block, (y.add (i * 8)).off + 6, none⟩ = some (.int .i64 ce) ∧ w'.cell? ⟨(y.add (i * 8)).block, (y.add (i * 8)).off + 7, none⟩ = some (.int .i64 co)) W))
      obtain ⟨-, a0, a1, a2, a3, a4, a5, a6, a7⟩ := l
      obtain ⟨-, b0, b1, b2, b3, b4, b5, b6, b7⟩ := l'
      go_upto_region 6 with fail
      go_cut [6, 7] from 19 to 26 (fun v6 v7 wx => ∃ g6 g7, v6 = .pointer (some ⟨g6, 0, none⟩) ∧ v7 = .pointer (some ⟨g7, 0, none⟩) ∧ Hid (TwL wr wx g6 g7 s (.slice q k d) (.slice q' k d') gr ce co))
      case first =>
        go_region_held3 (fun w' => w'.cell? (x.add (i * 8)) = some (.int .u8 s.ka) ∧ w'.cell? ⟨(x.add (i * 8)).block, (x.add (i * 8)).off + 1, none⟩ = some (.int .u8 s.kb) ∧ w'.cell? ⟨(x.add (i * 8)).block, (x.add (i * 8)).off + 2, none⟩ = some (.int .u8 s.kc) ∧ w'.cell? ⟨(x.add (i * 8)).block, (x.add (i * 8)).off + 3, none⟩ = some (.int .u8 s.kd) ∧ w'.cell? ⟨(x.add (i * 8)).block, (x.add (i * 8)).off + 4, none⟩ = some (.slice q k d) ∧ w'.cell? ⟨(x.add (i * 8)).block, (x.add (i * 8)).off + 5, none⟩ = some (.int .i64 gr) ∧ w'.cell? ⟨(x.add (i * 8)).block, (x.add (i * 8)).off + 6, none⟩ = some (.int .i64 ce) ∧ w'.cell? ⟨(x.add (i * 8)).block, (x.add (i * 8)).off + 7, none⟩ = some (.int .i64 co) ∧ w'.cell? (y.add (i * 8)) = some (.int .u8 s.ka) ∧ w'.cell? ⟨(y.add (i * 8)).block, (y.add (i * 8)).off + 1, none⟩ = some (.int .u8 s.kb) ∧ w'.cell? ⟨(y.add (i * 8)).block, (y.add (i * 8)).off + 2, none⟩ = some (.int .u8 s.kc) ∧ w'.cell? ⟨(y.add (i * 8)).block, (y.add (i * 8)).off + 3, none⟩ = some (.int .u8 s.kd) ∧ w'.cell? ⟨(y.add (i * 8)).block, (y.add (i * 8)).off + 4, none⟩ = some (.slice q' k d') ∧ w'.cell? ⟨(y.add (i * 8)).block, (y.add (i * 8)).off + 5, none⟩ = some (.int .i64 gr) ∧ w'.cell? ⟨(y.add (i * 8)).block, (y.add (i * 8)).off + 6, none⟩ = some (.int .i64 ce) ∧ w'.cell? ⟨(y.add (i * 8)).block, (y.add (i * 8)).off + 7, none⟩ = some (.int .i64 co)) (first | exact SC.out _ (Below.refl _ _) | exact SC.out _ ((Below.refl _ _).drew) | exact SC.out _ ((Below.refl _ _).alloc (Nat.le_refl _) _) | exact SC.out _ (((Below.refl _ _).drew).alloc (by simp [go_sem]) _) | exact SC.out _ (((Below.refl _ _).alloc (Nat.le_refl _) _).alloc (by simp) _) | exact SC.out _ ((((Below.refl _ _).drew).alloc (by simp [go_sem]) _).alloc (by simp [go_sem]) _) | exact SC.out _ (((Below.refl _ _).alloc (Nat.le_refl _) _).drew)) (first | fail)
        all_goals
          go_wp2_with fail
          go_meet
          first
            | exact ⟨_, _, rfl, rfl, Lib.hid (TwL.dr (twl_a _ _ _ _ _ _ _ _ (Below.refl _ _)))⟩
            | exact ⟨_, _, rfl, rfl, Lib.hid (TwL.dr (twl_b _ _ _ _ _ _ _ _ (Below.refl _ _)))⟩
            | exact ⟨_, _, rfl, rfl, Lib.hid (twl_a _ _ _ _ _ _ _ _ (Below.refl _ _).drew)⟩
            | exact ⟨_, _, rfl, rfl, Lib.hid (twl_b _ _ _ _ _ _ _ _ (Below.refl _ _).drew)⟩
      case rest =>
        obtain ⟨g6, g7, rfl, rfl, TW⟩ := hcut
        rename World => wx
        have o6 := TW.out.1
        have o7 := TW.out.2.1
        have c0 : wx.cell? ⟨g6, 0, none⟩ = some (.int .u8 s.ka) := o6.cell (k := 0) (by decide)
        have c1 : wx.cell? ⟨g6, 1, none⟩ = some (.int .u8 s.kb) := o6.cell (k := 1) (by decide)
        have c2 : wx.cell? ⟨g6, 2, none⟩ = some (.int .u8 s.kc) := o6.cell (k := 2) (by decide)
        have c3 : wx.cell? ⟨g6, 3, none⟩ = some (.int .u8 s.kd) := o6.cell (k := 3) (by decide)
        have c4 : wx.cell? ⟨g6, 4, none⟩ = some (.slice q k d) := o6.cell (k := 4) (by decide)
        have e0 : wx.cell? ⟨g7, 0, none⟩ = some (.int .u8 s.ka) := o7.cell (k := 0) (by decide)
        have e1 : wx.cell? ⟨g7, 1, none⟩ = some (.int .u8 s.kb) := o7.cell (k := 1) (by decide)
        have e2 : wx.cell? ⟨g7, 2, none⟩ = some (.int .u8 s.kc) := o7.cell (k := 2) (by decide)
        have e3 : wx.cell? ⟨g7, 3, none⟩ = some (.int .u8 s.kd) := o7.cell (k := 3) (by decide)
        have e4 : wx.cell? ⟨g7, 4, none⟩ = some (.slice q' k d') := o7.cell (k := 4) (by decide)
        have S2 := Lib.hid (SN.out wx TW.out.2.2)
        clear a0 a1 a2 a3 a4 a5 a6 a7 b0 b1 b2 b3 b4 b5 b6 b7 o6 o7
        go_wp2_with fail
        refine S2.out.mono ?_
        rintro e w5 ⟨rfl, f5⟩
        have o6 := TW.out.1.below f5
        have o7 := TW.out.2.1.below f5
        have B5 := Lib.hid (BW.out.trans ((TW.out.2.2.trans (f5.mono TW.out.2.2.size)).mono BW.out.size))
        clear c0 c1 c2 c3 c4 e0 e1 e2 e3 e4 f5 S2
        have c5 : w5.cell? ⟨g6, 5, none⟩ = some (.int .i64 gr) := o6.cell (k := 5) (by decide)
        have c6 : w5.cell? ⟨g6, 6, none⟩ = some (.int .i64 ce) := o6.cell (k := 6) (by decide)
        have c7 : w5.cell? ⟨g6, 7, none⟩ = some (.int .i64 co) := o6.cell (k := 7) (by decide)
        have e5 : w5.cell? ⟨g7, 5, none⟩ = some (.int .i64 gr) := o7.cell (k := 5) (by decide)
        have e6 : w5.cell? ⟨g7, 6, none⟩ = some (.int .i64 ce) := o7.cell (k := 6) (by decide)
        have e7 : w5.cell? ⟨g7, 7, none⟩ = some (.int .i64 co) := o7.cell (k := 7) (by decide)
        clear o6 o7
        go_wp2_with fail
        go_roundw
        case rel => exact ⟨i + 1, by omega, by go_num, B5⟩
        case measure => simp [intOf]; omega
    obtain rfl : i = m := by omega
    have k3 : ¬ ((i : Int) < (i : Int)) := by omega
    have BB := Lib.hid BW.out
    go_wp2_with fail
    go_ret
    exact ⟨rfl, BB.out⟩
end Go.Proofs.Ytmdhmpfagekonaa

/- Classing's lines, the law: what the two answers of Lines say, and a plan whose places are overwritten. -/
namespace Go.Proofs.Ytmdhmpfagekonaa
open Go.RowKit Go.Proofs.Ytmdhmpfagekonaa.Ct Go.Proofs.Ytmdhmpfagekonaa.Ce Go.Proofs.Ytmdhmpfagekonaa.Stb
set_option linter.unusedVariables false
set_option linter.unusedSimpArgs false

/-- A plan that may be overwritten: its lines lie at g, their places in rows of their own. -/
structure WrR (base g m : Nat) (q : Nat → Nat) (len d : Nat → Nat) (W : World) : Prop where
  hd : ∀ t, t < m → W.cell? ⟨g, t * 8 + 4, none⟩ = some (.slice (some ⟨q t, 0, none⟩) (len t) (d t))
  row : ∀ t, t < m → ∃ n c, OB W (q t) 3 n c ∧ len t ≤ n
  ne : ∀ t, t < m → q t ≠ g ∧ base ≤ q t
  gl : 0 < m → g < W.heap.size
section
variable {base g m : Nat} {q : Nat → Nat} {len d : Nat → Nat} {W W' : World}
theorem WrR.below (h : WrR base g m q len d W) (b : Below W.heap.size W W') : WrR base g m q len d W' := by
  refine ⟨fun t ht => ?_, fun t ht => ?_, h.ne, fun h0 => Nat.lt_of_lt_of_le (h.gl h0) b.size⟩
  · unfold World.cell?; rw [b.block _ (h.gl (by omega))]; exact h.hd t ht
  · obtain ⟨n, c, o, l⟩ := h.row t ht
    exact ⟨n, c, o.below b, l⟩
theorem WrR.set (h : WrR base g m q len d W) {t k : Nat} (ht : t < m) (v : Value) : WrR base g m q len d (W.setCell ⟨q t, k, none⟩ v) := by
  have f : Fm (fun y => y = q t) W (W.setCell ⟨q t, k, none⟩ v) := Fm.set _ _ rfl
  refine ⟨fun x hx => ?_, fun x hx => ?_, h.ne, fun h0 => Nat.lt_of_lt_of_le (h.gl h0) f.size⟩
  · unfold World.cell?
    rw [f.block _ (h.gl (by omega)) (fun e => (h.ne t ht).1 e.symm)]
    exact h.hd x hx
  · obtain ⟨n, c, o, l⟩ := h.row x hx
    by_cases e : q x = q t
    · rw [e] at o ⊢
      exact ⟨n, _, o.set k v, l⟩
    · exact ⟨n, c, o.fm f e, l⟩
theorem WrR.cell (h : WrR base g m q len d W) {t k : Nat} (ht : t < m) (hk : k < len t) : (∃ v, W.cell? ⟨q t, k, none⟩ = some v) ∧ W.frozen? ⟨q t, k, none⟩ = false := by
  obtain ⟨n, c, o, l⟩ := h.row t ht
  exact ⟨⟨_, o.cell (by omega)⟩, o.frozen k⟩
end
theorem own_OB {W : World} {b : Nat} {t : TypeId} {g n c : Nat} {xs : List Value} (h : W.ownsRow b t 1 (.slice (some ⟨g, 0, none⟩) n c) n xs) : ∃ n' c', OB W g t n' c' ∧ n ≤ n' := by
  rcases h.2 with ⟨e, -⟩ | ⟨g', cap, cur, e, -, hg, hn, _, hs, -⟩
  · cases e
  · cases e
    refine ⟨cur.size, fun k => cur.getD k undef, ?_, by omega⟩
    unfold OB
    rw [hg]
    congr 2
    apply Array.ext
    · simp
    · intro i h1 h2
      simp [Array.getD, h1]
theorem wrR_of {base : Nat} {A : Nat → Fl} {o : Nat → Int} {C : Nat → Nat → Int} {ps : Nat → Nat} {t : Nat} {v : Value} {W : World} (h : PlR base A o C ps t v W) (h0 : 0 < t) (pos : ∀ x, x < t → ps x < ps (x + 1)) : ∃ (g c : Nat) (q d : Nat → Nat), v = .slice (some ⟨g, 0, none⟩) t c ∧ WrR base g t q (fun x => ps (x + 1) - ps x) d W := by
  obtain ⟨q, d, a, r⟩ := h
  obtain ⟨g, c, rfl, gl⟩ := row_some a h0
  refine ⟨g, c, q, d, rfl, fun x hx => ?_, fun x hx => own_OB (r x hx), fun x hx => ⟨fun e => ?_, ?_⟩, fun _ => gl⟩
  · rw [a.cellAt (x * 8 + 4) (by omega), plL_at A C ps q d hx (by omega)]
    rfl
  · obtain ⟨n, c', ob, -⟩ := own_OB (r x hx)
    rcases a.2 with ⟨e', -⟩ | ⟨g', cap, cur, e', -, hg, -⟩
    · cases e'
    · cases e'
      unfold OB at ob
      rw [e, hg] at ob
      cases ob
  · exact (World.ownsRow.lt (r x hx) (q x) rfl).1
/-- What an answer of the program's Lines and one of the reference's say together. -/
theorem lns_of {K n : Nat} {ls le sp : Int} {F : Nat → Fl} {w w1 w2 : World} {v v' : Value} (hK : K = ls.toNat) (ln : n ≤ 140)
    (h : (v = .slice none 0 0 ∧ ((liV K ls le sp F n).2 ≠ 0 ∨ n = 0)) ∨ ((liV K ls le sp F n).2 = 0 ∧ n ≠ 0 ∧ flE ls le sp F n = 0 ∧ liK K le sp F n ≠ 0 ∧ PlR w.heap.size (inO F n) (gi (ordK (fun k => (F k).key) n)) (cMat (inO F n) le sp) (pos (cMat (inO F n) le sp) n (liK K le sp F n)) (liK K le sp F n) v w1))
    (h' : (v' = .slice none 0 0 ∧ ((liV K ls le sp F n).2 ≠ 0 ∨ n = 0)) ∨ ((liV K ls le sp F n).2 = 0 ∧ n ≠ 0 ∧ flE ls le sp F n = 0 ∧ liK K le sp F n ≠ 0 ∧ ∃ g c, v' = .slice (some ⟨g, 0, none⟩) (liK K le sp F n) c ∧ PlS w2 (some ⟨g, 0, none⟩) (liK K le sp F n) (inO F n) (gi (ordK (fun k => (F k).key) n)) (cMat (inO F n) le sp) (pos (cMat (inO F n) le sp) n (liK K le sp F n)))) :
    ∃ (m : Nat) (pl : Option Addr) (cl : Nat) (pl' : Option Addr) (cl' : Nat) (A : Nat → Fl) (o : Nat → Int) (C : Nat → Nat → Int) (ps : Nat → Nat), v = .slice pl m cl ∧ v' = .slice pl' m cl' ∧ m ≤ 16 ∧ PlS w1 pl m A o C ps ∧ PlS w2 pl' m A o C ps ∧ (∀ t, t ≤ m → ps t ≤ n) ∧ ∃ (g : Nat) (q d : Nat → Nat), (0 < m → pl = some ⟨g, 0, none⟩) ∧ WrR w.heap.size g m q (fun x => ps (x + 1) - ps x) d w1 := by
  rcases h with ⟨rfl, h⟩ | ⟨e0, n0, fe, k0, pr⟩
  · rcases h' with ⟨rfl, -⟩ | ⟨a, b, -⟩
    · exact ⟨0, none, 0, none, 0, F, fun _ => 0, fun _ _ => 0, fun _ => 0, rfl, rfl, by omega, fun t ht => absurd ht (by omega), fun t ht => absurd ht (by omega), fun t ht => Nat.zero_le _, 0, fun _ => 0, fun _ => 0, fun h => absurd h (by omega), ⟨fun t ht => absurd ht (by omega), fun t ht => absurd ht (by omega), fun t ht => absurd ht (by omega), fun h => absurd h (by omega)⟩⟩
    · rcases h with h | h
      · exact absurd a h
      · exact absurd h b
  · rcases h' with ⟨-, h'⟩ | ⟨-, -, -, -, g', c', rfl, ps'⟩
    · rcases h' with h' | h'
      · exact absurd e0 h'
      · exact absurd h' n0
    · have so1 := (flE_ok fe).2.1.1
      have h0 : rowK (cMat (inO F n) le sp) n (liK K le sp F n) 0 ≠ -1 := bst_hit (f := fun k => rowK (cMat (inO F n) le sp) n k 0) k0
      have ln' := fun {t} (ht : t < liK K le sp F n) => pos_line (C := cMat (inO F n) le sp) (n := n) h0 ht
      obtain ⟨g, cl, rfl, ps⟩ := plS_of pr (by omega) (fun x hx => (ln' hx).1)
      obtain ⟨g2, cl2, q, d, hv, wr⟩ := wrR_of pr (by omega) (fun x hx => (ln' hx).1)
      cases hv
      exact ⟨_, _, cl, _, c', _, _, _, _, rfl, rfl, Nat.le_trans (bst_le (fun k => rowK (cMat (inO F n) le sp) n k 0) K) (by omega), ps, ps', fun t ht => (pos_ok (C := cMat (inO F n) le sp) (n := n) h0 ht).2, g, q, d, fun _ => rfl, wr⟩
end Go.Proofs.Ytmdhmpfagekonaa

/- The law ClassingLines: its walk. -/
namespace Go.Proofs.Ytmdhmpfagekonaa
open Go.RowKit Go.Proofs.Ytmdhmpfagekonaa.Ct Go.Proofs.Ytmdhmpfagekonaa.Ce Go.Proofs.Ytmdhmpfagekonaa.Stb
set_option linter.unusedVariables false
set_option linter.unusedSimpArgs false

theorem own_fl {W : World} {b n : Nat} {F : Nat → Fl} (h : OB W b 55 ((n + 1) * 6) (rowF (mkd F n))) : FlR W (some ⟨b, 0, none⟩) n F := fun i hi => by
  obtain ⟨x, e, k⟩ := (h.fl (n := n) (by omega)) i hi
  rw [show mkd F n i = F i from if_pos hi] at k
  exact ⟨x, e, k⟩

set_option maxRecDepth 100000 in
set_option maxHeartbeats 16000000 in
theorem classingLines_walk (p : Option Addr) (c n : Nat) (F : Nat → Fl) (w : World) (r : FlR w p n F) (z : n ≤ 9223372036854775807) (kok : ∀ k, k < n → (F k).kok) (ls le sp : Int) :
    Calls Try.prog 3 #[.slice p n c, .agg #[.int .i64 ls, .int .i64 le, .int .i64 sp]] w fun e w' => e = .returned (.bool true) ∧ Below w.heap.size w w' := by
  have AL := Lib.hid alive_any
  have R := Lib.hid r
  have KOK := Lib.hid kok
  have B1 := Lib.hid (show Below w.heap.size w (w.alloc (Obj.cells #[.int .i64 ls, .int .i64 le, .int .i64 sp] 24)) from (Below.refl _ _).alloc (Nat.le_refl _) _)
  have OS := Lib.hid (spBx w ls le sp)
  have FW := Lib.hid (fun W => few_any p c n W)
  clear r kok
  obtain ⟨K, hK⟩ : ∃ K, K = ls.toNat := ⟨_, rfl⟩
  have HK := Lib.hid hK
  clear hK
  go_enter Try.func3, Try.ntmps3
  go_upto_region 1 with fail
  generalize (w.alloc (Obj.cells #[.int .i64 ls, .int .i64 le, .int .i64 sp] 24)) = wa at *
  by_cases t0 : n ≤ 140
  case neg =>
    rw [decide_eq_false t0] at FW
    go_wp2_with fail
    refine (FW.out _).mono ?_
    rintro e w1 ⟨rfl, rfl⟩
    go_wp2_with fail
    refine (AL.out _).mono ?_
    rintro e w2 ⟨rfl, st⟩
    have BB := Lib.hid (B1.out.trans (st.mono B1.out.size))
    go_wp2_with fail
    go_ret
    exact ⟨rfl, BB.out⟩
  rw [decide_eq_true t0] at FW
  have OW := Lib.hid (own_any p c n F wa (R.out.below B1.out) t0)
  go_wp2_with fail
  refine (FW.out _).mono ?_
  rintro e w1 ⟨rfl, rfl⟩
  go_wp2_with fail
  refine OW.out.mono ?_
  rintro e w1 ⟨b, rfl, ob, b1, lb⟩
  have HB1 := Lib.hid (B1.out.trans (b1.mono B1.out.size))
  have OS1 := Lib.hid (OS.out.below b1)
  have OB1 := Lib.hid ob
  clear b1 B1 OS ob lb OW FW
  have s0 : w1.cell? ⟨w.heap.size, 0, none⟩ = some (.int .i64 ls) := OS1.out.cell (k := 0) (by decide)
  have s1 : w1.cell? ⟨w.heap.size, 1, none⟩ = some (.int .i64 le) := OS1.out.cell (k := 1) (by decide)
  have s2 : w1.cell? ⟨w.heap.size, 2, none⟩ = some (.int .i64 sp) := OS1.out.cell (k := 2) (by decide)
  have C1 := Lib.hid (rLines_any p c n K F ls le sp w1 (R.out.below HB1.out) t0 KOK.out HK.out)
  go_wp2_with fail
  refine C1.out.mono ?_
  rintro e w2 ⟨v', rfl, b1, hl'⟩
  have HB := Lib.hid (HB1.out.trans (b1.mono HB1.out.size))
  have OS2 := Lib.hid (OS1.out.below b1)
  have OB2 := Lib.hid (OB1.out.below b1)
  have R2 := Lib.hid (R.out.below HB.out)
  have HL' := Lib.hid hl'
  clear b1 C1 s0 s1 s2 OS1 OB1 HB1 hl'
  obtain ⟨y1, hy1⟩ : ∃ y, y = (liV K ls le sp F n).1 := ⟨_, rfl⟩
  obtain ⟨y2, hy2⟩ : ∃ y, y = (liV K ls le sp F n).2 := ⟨_, rfl⟩
  have HY1 := Lib.hid hy1
  have HY2 := Lib.hid hy2
  rw [← hy1, ← hy2]
  clear hy1 hy2
  go_wp2_with fail
  go_loopw [9, 10, 11, 12, 13, 14] (fun tv _ _ _ _ _ wr => ∃ τ : Nat, τ ≤ 2 ∧ tv = .int .i64 τ ∧ Hid (Below w2.heap.size w2 wr)) (fun tv _ _ _ _ _ _ => 2 - (intOf tv).toNat)
  case atStart => exact ⟨0, Nat.zero_le _, rfl, Lib.hid (Below.refl _ _)⟩
  case round =>
  obtain ⟨τ, hτ, rfl, BW⟩ := hrel
  have OSr := Lib.hid (OS2.out.below BW.out)
  have OBr := Lib.hid (OB2.out.below BW.out)
  have s0 : wr.cell? ⟨w.heap.size, 0, none⟩ = some (.int .i64 ls) := OSr.out.cell (k := 0) (by decide)
  have s1 : wr.cell? ⟨w.heap.size, 1, none⟩ = some (.int .i64 le) := OSr.out.cell (k := 1) (by decide)
  have s2 : wr.cell? ⟨w.heap.size, 2, none⟩ = some (.int .i64 sp) := OSr.out.cell (k := 2) (by decide)
  by_cases t1 : τ < 2
  case pos =>
    have k1 : (τ : Int) < 2 := by omega
    have C2 := Lib.hid (Lines_any (some ⟨b, 0, none⟩) (n + 1) n K F ls le sp wr (own_fl OBr.out) t0 KOK.out (fun x hx _ => by cases hx; exact OBr.out.lt) HK.out)
    go_wp2_with fail
    refine C2.out.mono ?_
    rintro e w3 ⟨v, rfl, b1, hl⟩
    rw [← HY1.out, ← HY2.out]
    obtain ⟨m, pl, cl, pl', cl', A, o, C, ps, rfl, hv', m16, P1, P2, up, g, q, d, gpl, wrr⟩ := lns_of (w1 := w3) (w2 := w2) HK.out t0 hl HL'.out
    subst hv'
    have BW3 := Lib.hid (BW.out.trans (b1.mono BW.out.size))
    have WR := Lib.hid wrr
    have GPL := Lib.hid gpl
    have WS := Lib.hid BW.out.size
    have UPN := Lib.hid up
    have SL := Lib.hid (linesS_any pl pl' cl cl' m n A o C ps w3 P1 (P2.below BW3.out) m16 up t0)
    have OB3 := Lib.hid (OBr.out.below b1)
    clear C2 s0 s1 s2 OSr OBr b1 hl P1 P2 up wrr gpl
    go_wp2_with fail
    refine SL.out.mono ?_
    rintro e w4 ⟨rfl, f4⟩
    replace BW3 := Lib.hid (BW3.out.trans (f4.mono BW3.out.size))
    replace WR := Lib.hid (WR.out.below f4)
    replace OB3 := Lib.hid (OB3.out.below f4)
    have C3 := Lib.hid (kept_any b p c n F w4 OB3.out (R2.out.below BW3.out) t0)
    clear f4 SL
    go_wp2_with fail
    refine C3.out.mono ?_
    rintro e w5 ⟨rfl, f5⟩
    replace BW3 := Lib.hid (BW3.out.trans (f5.mono BW3.out.size))
    replace WR := Lib.hid (WR.out.below f5)
    clear f5 C3 OB3
    go_wp2_with fail
    go_loopw [13, 14] (fun iv _ wx => ∃ i : Nat, i ≤ m ∧ iv = .int .i64 i ∧ Hid (WrR wr.heap.size g m q (fun x => ps (x + 1) - ps x) d wx) ∧ Hid (Below w2.heap.size w2 wx)) (fun iv _ _ => m - (intOf iv).toNat)
    case atStart => exact ⟨0, Nat.zero_le _, rfl, WR, BW3⟩
    case round =>
    clear WR BW3
    obtain ⟨i, hi, rfl, WR, BX⟩ := hrel
    rename World => wx
    by_cases t2 : i < m
    case pos =>
      have i1 : (0 : Int) ≤ (i : Int) := by omega
      have i2 : (i : Int) < (m : Int) := by omega
      have e := GPL.out (by omega)
      subst e
      obtain ⟨L, hL⟩ : ∃ L, L = ps (i + 1) - ps i := ⟨_, rfl⟩
      have HLL := Lib.hid hL
      have L140 : L ≤ 140 := by have := UPN.out (i + 1) (by omega); omega
      clear hL
      go_wp2_with fail
      go_loopw [14] (fun kv wy => ∃ k : Nat, k ≤ L ∧ kv = .int .i64 k ∧ Hid (WrR wr.heap.size g m q (fun x => ps (x + 1) - ps x) d wy) ∧ Hid (Below w2.heap.size w2 wy)) (fun kv _ => L - (intOf kv).toNat)
      case atStart => exact ⟨0, Nat.zero_le _, rfl, WR, BX⟩
      case round =>
      clear WR BX
      obtain ⟨k, hk, rfl, WR, BX⟩ := hrel
      rename World => wy
      have c4 : wy.cell? ⟨g, i * 8 + 4, none⟩ = some (.slice (some ⟨q i, 0, none⟩) L (d i)) := by rw [HLL.out]; exact WR.out.hd i t2
      by_cases t3 : k < L
      case pos =>
        have k1 : (0 : Int) ≤ (k : Int) := by omega
        have k2 : (k : Int) < (L : Int) := by omega
        obtain ⟨⟨vz, cz⟩, fz⟩ := WR.out.cell (k := k) t2 (show k < ps (i + 1) - ps i by have := HLL.out; omega)
        have W2 := Lib.hid (WR.out.set (k := k) t2 (.int .i64 (-1)))
        have B2 := Lib.hid (below_setJ BX.out (Nat.le_trans WS.out (WR.out.ne i t2).2) k (.int .i64 (-1)))
        go_wp2_with fail
        go_roundw
        case rel => exact ⟨k + 1, by omega, by go_num, W2, B2⟩
        case measure => simp [intOf]; omega
      obtain rfl : k = L := by omega
      have k3 : ¬ ((k : Int) < (k : Int)) := by omega
      go_wp2_with fail
      go_roundw
      case rel => exact ⟨i + 1, by omega, by go_num, WR, BX⟩
      case measure => simp [intOf]; omega
    obtain rfl : i = m := by omega
    have k3 : ¬ ((i : Int) < (i : Int)) := by omega
    go_wp2_with fail
    go_roundw
    case rel => exact ⟨τ + 1, by omega, by go_num, BX⟩
    case measure => simp [intOf]; omega
  obtain rfl : τ = 2 := by omega
  have C5 := Lib.hid (Curve_any (some ⟨b, 0, none⟩) (n + 1) n K F ls le sp wr (own_fl OBr.out) t0 KOK.out (fun x hx => by cases hx; exact OBr.out.lt) HK.out)
  go_wp2_with fail
  refine C5.out.mono ?_
  rintro e w3 ⟨v5, rfl, b5, h5⟩
  have BW3 := Lib.hid (BW.out.trans (b5.mono BW.out.size))
  have OB3 := Lib.hid (OBr.out.below b5)
  have OS3 := Lib.hid (OSr.out.below b5)
  have H5 := Lib.hid h5
  clear C5 s0 s1 s2 OSr OBr b5 h5
  have s0 : w3.cell? ⟨w.heap.size, 0, none⟩ = some (.int .i64 ls) := OS3.out.cell (k := 0) (by decide)
  have s1 : w3.cell? ⟨w.heap.size, 1, none⟩ = some (.int .i64 le) := OS3.out.cell (k := 1) (by decide)
  have s2 : w3.cell? ⟨w.heap.size, 2, none⟩ = some (.int .i64 sp) := OS3.out.cell (k := 2) (by decide)
  have C6 := Lib.hid (rCurve_any p c n K F ls le sp w3 (R2.out.below BW3.out) t0 KOK.out HK.out)
  obtain ⟨fe, hfe⟩ : ∃ y, y = flE ls le sp F n := ⟨_, rfl⟩
  have HFE := Lib.hid hfe
  rw [← hfe]
  clear hfe
  go_wp2_with fail
  refine C6.out.mono ?_
  rintro e w4 ⟨v6, rfl, b6, h6⟩
  rw [← HFE.out]
  replace BW3 := Lib.hid (BW3.out.trans (b6.mono BW3.out.size))
  replace OB3 := Lib.hid (OB3.out.below b6)
  obtain ⟨p5, c5, q6, c6, k, f, rfl, rfl, k1000, n5, n6⟩ : ∃ (p5 : Option Addr) (c5 : Nat) (q6 : Option Addr) (c6 k : Nat) (f : Nat → Int), v5 = .slice p5 k c5 ∧ v6 = .slice q6 k c6 ∧ k ≤ 1000 ∧ NmR w4 p5 k f ∧ NmR w4 q6 k f := by
    rcases H5.out with ⟨z1, h⟩ | ⟨z1, lsk, g5, h, -, o5⟩
    · rcases h6 with ⟨-, h'⟩ | ⟨z2, -⟩
      · exact ⟨none, 0, none, 0, 0, fun _ => 0, h, h', by omega, fun i hi => absurd hi (by omega), fun i hi => absurd hi (by omega)⟩
      · exact absurd z2 z1
    · rcases h6 with ⟨z2, -⟩ | ⟨-, -, q6, c6, h', n6⟩
      · exact absurd z1 z2
      · have so1 := (flE_ok z1).2.1.1
        exact ⟨some ⟨g5, 0, none⟩, K, q6, c6, K, _, h, h', by omega, (o5.below b6).nm, n6⟩
  have SN := Lib.hid (sameN_any p5 q6 c5 c6 k f w4 n5 n6 k1000)
  clear C6 s0 s1 s2 OS3 b6 h6 H5 n5 n6
  go_wp2_with fail
  refine SN.out.mono ?_
  rintro e w5 ⟨rfl, f5⟩
  replace BW3 := Lib.hid (BW3.out.trans (f5.mono BW3.out.size))
  replace OB3 := Lib.hid (OB3.out.below f5)
  have C7 := Lib.hid (kept_any b p c n F w5 OB3.out (R2.out.below BW3.out) t0)
  clear SN f5
  go_wp2_with fail
  refine C7.out.mono ?_
  rintro e w6 ⟨rfl, f6⟩
  have HX := Lib.hid (HB.out.trans ((BW3.out.trans (f6.mono BW3.out.size)).mono HB.out.size))
  clear C7 f6
  go_wp2_with fail
  refine (AL.out _).mono ?_
  rintro e w7 ⟨rfl, st⟩
  have BB := Lib.hid (HX.out.trans (st.mono HX.out.size))
  go_wp2_with fail
  go_ret
  exact ⟨rfl, BB.out⟩
end Go.Proofs.Ytmdhmpfagekonaa
