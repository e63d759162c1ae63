/- The law ClassingEases: Lines, its walk. -/
import Derived.Test.YtmdhmpfagekonaaLM
import Derived.Test.YtmdhmpfagekonaaLQ
import Derived.Test.YtmdhmpfagekonaaLJ
import Derived.Test.YtmdhmpfagekonaaCAA
/- Classing's lines: Lines. -/
namespace Go.Proofs.Ytmdhmpfagekonaa
open Go.RowKit Go.Proofs.Ytmdhmpfagekonaa.Ct Go.Proofs.Ytmdhmpfagekonaa.Ce Go.Proofs.Ytmdhmpfagekonaa.Stb
set_option linter.unusedVariables false
set_option linter.unusedSimpArgs false

/-- The number of lines of the plan, where there is one. -/
noncomputable def liK (K : Nat) (le sp : Int) (F : Nat → Fl) (n : Nat) : Nat := bst (fun k => rowK (cMat (inO F n) le sp) n k 0) K
/-- What Lines answers. -/
def LiQ (K : Nat) (ls le sp : Int) (F : Nat → Fl) (n : Nat) (w : World) (e : Ending) (w' : World) : Prop := ∃ v, e = .returned (.tuple #[v, .int .i64 (liV K ls le sp F n).1, .int .i64 (liV K ls le sp F n).2]) ∧ Below w.heap.size w w' ∧
  ((v = .slice none 0 0 ∧ ((liV K ls le sp F n).2 ≠ 0 ∨ n = 0)) ∨ ((liV K ls le sp F n).2 = 0 ∧ n ≠ 0 ∧ flE ls le sp F n = 0 ∧ liK K le sp F n ≠ 0 ∧ PlR w.heap.size (inO F n) (gi (ordK (fun k => (F k).key) n)) (cMat (inO F n) le sp) (pos (cMat (inO F n) le sp) n (liK K le sp F n)) (liK K le sp F n) v w'))
theorem CoR.at {w : World} {p : Option Addr} {n m : Nat} {C : Nat → Nat → Int} (h : CoR w p n m C) {i j : Nat} (hi : i < n) (hj : j < m) {g : Nat} (e : p = some ⟨g, 0, none⟩) : ∃ (y : Addr) (d : Nat), w.cell? ⟨g, i, none⟩ = some (.slice (some y) m d) ∧ w.cell? (y.add j) = some (.int .i64 (C i j)) := by
  obtain ⟨x, q, d, e', -, c, r⟩ := h i hi
  rw [e] at e'
  cases e'
  rw [add0] at c
  obtain ⟨y, rfl, -, cy⟩ := r j hj
  exact ⟨y, d, c, cy⟩

set_option maxRecDepth 100000 in
set_option maxHeartbeats 16000000 in
theorem Lines_any (p : Option Addr) (c n K : Nat) (F : Nat → Fl) (ls le sp : Int) (w : World) (r : FlR w p n F) (ln : n ≤ 140) (kok : ∀ k, k < n → (F k).kok) (hp : ∀ x, p = some x → 0 < n → x.block < w.heap.size) (hK : K = ls.toNat) :
    Calls Try.prog 14 #[.slice p n c, .agg #[.int .i64 ls, .int .i64 le, .int .i64 sp]] w (LiQ K ls le sp F n w) := by
  have R := Lib.hid r
  have KOK := Lib.hid kok
  have HP := Lib.hid hp
  have HKK := Lib.hid hK
  have B1 := Lib.hid (show Below w.heap.size w (w.alloc (Obj.cells #[.int .i64 ls, .int .i64 le, .int .i64 sp] 24)) from (Below.refl _ _).alloc (Nat.le_refl _) _)
  have OS := Lib.hid (spBx w ls le sp)
  clear r kok hp hK
  go_enter Try.func14, Try.ntmps14
  go_upto_region 1 with fail
  generalize (w.alloc (Obj.cells #[.int .i64 ls, .int .i64 le, .int .i64 sp] 24)) = wa at *
  have s0 : wa.cell? ⟨w.heap.size, 0, none⟩ = some (.int .i64 ls) := OS.out.cell (k := 0) (by decide)
  have s1 : wa.cell? ⟨w.heap.size, 1, none⟩ = some (.int .i64 le) := OS.out.cell (k := 1) (by decide)
  have s2 : wa.cell? ⟨w.heap.size, 2, none⟩ = some (.int .i64 sp) := OS.out.cell (k := 2) (by decide)
  have C1 := Lib.hid (check_any p c n F ls le sp wa (R.out.below B1.out) (by omega))
  go_wp2_with fail
  refine C1.out.mono ?_
  rintro e w1 ⟨rfl, b1⟩
  have HB := Lib.hid (B1.out.trans (b1.mono B1.out.size))
  have OS1 := Lib.hid (OS.out.below b1)
  clear b1 C1 s0 s1 s2 OS B1
  by_cases z1 : flE ls le sp F n = 0
  case neg =>
    have d1 : (flE ls le sp F n == 0) = false := by simpa using z1
    have E := Lib.hid (liV_1 (K := K) z1)
    have FN := Lib.hid (show LiQ K ls le sp F n w (.returned (.tuple #[.slice none 0 0, .int .i64 0, .int .i64 (flE ls le sp F n)])) w1 from by
      refine ⟨_, by rw [E.out], HB.out, .inl ⟨rfl, .inl (by rw [E.out]; exact z1)⟩⟩)
    clear z1
    generalize flE ls le sp F n = x at *
    go_wp2_with fail
    go_ret3
    exact FN.out
  have Z1 := Lib.hid z1
  obtain ⟨n128, so, fok⟩ := flE_ok z1
  have FOK := Lib.hid fok
  have SO := Lib.hid so
  rw [z1]
  clear z1 fok so
  by_cases z2 : n = 0
  case pos =>
    subst z2
    have E := Lib.hid (liV_2 (K := K) Z1.out rfl)
    have FN := Lib.hid (show LiQ K ls le sp F 0 w (.returned (.tuple #[.slice none 0 0, .int .i64 0, .int .i64 0])) w1 from ⟨_, by rw [E.out], HB.out, .inl ⟨rfl, .inr rfl⟩⟩)
    go_wp2_with fail
    go_ret3
    exact FN.out
  have Z2 := Lib.hid z2
  have d2 : ((n : Int) == 0) = false := by simp; omega
  have s0 : w1.cell? ⟨w.heap.size, 0, none⟩ = some (.int .i64 ls) := OS1.out.cell (k := 0) (by decide)
  have s1 : w1.cell? ⟨w.heap.size, 1, none⟩ = some (.int .i64 le) := OS1.out.cell (k := 1) (by decide)
  have s2 : w1.cell? ⟨w.heap.size, 2, none⟩ = some (.int .i64 sp) := OS1.out.cell (k := 2) (by decide)
  have C3 := Lib.hid (sorted_any p c n F ls le sp w1 (R.out.below HB.out) ln FOK.out KOK.out (fun x hx => Nat.lt_of_lt_of_le (HP.out x hx (by omega)) HB.out.size))
  have np : 1 ≤ n := by omega
  clear z2
  go_wp2_with fail
  refine C3.out.mono ?_
  rintro e w3 ⟨gp, gf, gc, rfl, qp, qf, qc, b1, -⟩
  replace HB := Lib.hid (HB.out.trans (b1.mono HB.out.size))
  replace OS1 := Lib.hid (OS1.out.below b1)
  clear b1 C3 s0 s1 s2 d2
  have OC := Lib.hid (ob_cl w3 ls le sp (.slice (some ⟨gp, 0, none⟩) n n) (.slice (some ⟨gf, 0, none⟩) n n) (.slice (some ⟨gc, 0, none⟩) n n) 67)
  have B2 : Below w3.heap.size w3 (w3.alloc (Obj.cells #[.int .i64 ls, .int .i64 le, .int .i64 sp, .slice (some ⟨gp, 0, none⟩) n n, .slice (some ⟨gf, 0, none⟩) n n, .slice (some ⟨gc, 0, none⟩) n n] 67)) := (Below.refl _ _).alloc (Nat.le_refl _) _
  have QP := Lib.hid (qp.below B2)
  have QF := Lib.hid (qf.below B2)
  have QC := Lib.hid (qc.below B2)
  replace OS1 := Lib.hid (OS1.out.below B2)
  replace HB := Lib.hid (HB.out.trans (B2.mono HB.out.size))
  clear qp qf qc B2
  unfold clV
  go_upto_region 7 with fail
  generalize (w3.alloc (Obj.cells #[.int .i64 ls, .int .i64 le, .int .i64 sp, .slice (some ⟨gp, 0, none⟩) n n, .slice (some ⟨gf, 0, none⟩) n n, .slice (some ⟨gc, 0, none⟩) n n] 67)) = wb at *
  have k0 : wb.cell? ⟨w3.heap.size, 0, none⟩ = some (.int .i64 ls) := OC.out.cell (k := 0) (by decide)
  have k1 : wb.cell? ⟨w3.heap.size, 1, none⟩ = some (.int .i64 le) := OC.out.cell (k := 1) (by decide)
  have k2 : wb.cell? ⟨w3.heap.size, 2, none⟩ = some (.int .i64 sp) := OC.out.cell (k := 2) (by decide)
  have k3 : wb.cell? ⟨w3.heap.size, 3, none⟩ = some (.slice (some ⟨gp, 0, none⟩) n n) := OC.out.cell (k := 3) (by decide)
  have k4 : wb.cell? ⟨w3.heap.size, 4, none⟩ = some (.slice (some ⟨gf, 0, none⟩) n n) := OC.out.cell (k := 4) (by decide)
  have k5 : wb.cell? ⟨w3.heap.size, 5, none⟩ = some (.slice (some ⟨gc, 0, none⟩) n n) := OC.out.cell (k := 5) (by decide)
  generalize w3.heap.size = gb at *
  have so := SO.out.1
  have eK : ls = (K : Int) := by have := HKK.out; omega
  have KB := Lib.hid (show 1 ≤ K ∧ K ≤ 16 from by omega)
  have HLS := Lib.hid eK
  clear so
  have BD := Lib.hid (fun (a j : Nat) (h : j ≤ n) => cMat_bd (A := inO F n) (n := n) (i := a) (j := j) (le := le) (sp := sp) (inO_ok FOK.out) ln h)
  have CLc := Lib.hid (leastCosts_any le sp (some ⟨gp, 0, none⟩) (some ⟨gf, 0, none⟩) (some ⟨gc, 0, none⟩) n n n n n K (cMat (inO F n) le sp) wb QC.out ln KB.out 1503238553600000 (by omega) BD.out)
  rw [← eK] at CLc
  clear eK
  unfold clV at CLc
  go_wp2_with fail
  refine CLc.out.mono ?_
  rintro e w4 ⟨gR, rfl, qr, b1, -⟩
  have QR := Lib.hid qr
  replace HB := Lib.hid (HB.out.trans (b1.mono HB.out.size))
  replace OS1 := Lib.hid (OS1.out.below b1)
  replace OC := Lib.hid (OC.out.below b1)
  replace QP := Lib.hid (QP.out.below b1)
  replace QF := Lib.hid (QF.out.below b1)
  replace QC := Lib.hid (QC.out.below b1)
  clear b1 CLc k0 k1 k2 k3 k4 k5 qr
  have RB := Lib.hid (rowK_bd (C := cMat (inO F n) le sp) (n := n) (M := 1503238553600000) (by omega) (fun i j _ h => BD.out i j h))
  go_wp2_with fail
  go_loopw [10, 11] (fun bv kv wr => ∃ k : Nat, k ≤ K ∧ kv = .int .i64 ((k : Int) + 1) ∧ bv = .int .i64 ((bst (fun k => rowK (cMat (inO F n) le sp) n k 0) k : Nat) : Int) ∧ Hid (Below w4.heap.size w4 wr)) (fun _ kv _ => K + 1 - (intOf kv).toNat)
  case atStart => exact ⟨0, Nat.zero_le _, by simp, rfl, Lib.hid (Below.refl _ _)⟩
  case round =>
    obtain ⟨k, hk, rfl, rfl, HW⟩ := hrel
    have s0 : wr.cell? ⟨w.heap.size, 0, none⟩ = some (.int .i64 ls) := (OS1.out.below HW.out).cell (k := 0) (by decide)
    by_cases t1 : k < K
    case pos =>
      have kb := KB.out
      have kls : (k : Int) + 1 ≤ ls := by have := HLS.out; omega
      have bl := bst_le (fun k => rowK (cMat (inO F n) le sp) n k 0) k
      have BS := Lib.hid (show bst (fun k => rowK (cMat (inO F n) le sp) n k 0) (k + 1) = if lss (rowK (cMat (inO F n) le sp) n (k + 1) 0) (rowK (cMat (inO F n) le sp) n (bst (fun k => rowK (cMat (inO F n) le sp) n k 0) k) 0) then k + 1 else bst (fun k => rowK (cMat (inO F n) le sp) n k 0) k from rfl)
      generalize bst (fun k => rowK (cMat (inO F n) le sp) n k 0) k = b at *
      obtain ⟨y1, d1, r1, v1⟩ := (QR.out.below HW.out).at (i := k + 1) (j := 0) (by omega) (by omega) rfl
      obtain ⟨y2, d2, r2, v2⟩ := (QR.out.below HW.out).at (i := b) (j := 0) (by omega) (by omega) rfl
      have y1z : y1.add 0 = y1 := rfl
      have y2z : y2.add 0 = y2 := rfl
      rw [y1z] at v1
      rw [y2z] at v2
      have i1 : (0 : Int) ≤ (k : Int) + 1 := by omega
      have i2 : (k : Int) + 1 < (K : Int) + 1 := by omega
      have i2' : (k : Int) + 1 < ((K + 1 : Nat) : Int) := by omega
      have i2'' : (k : Int) < (K : Int) := by omega
      have i3 : (0 : Int) ≤ (b : Int) := by omega
      have i4 : (b : Int) < (K : Int) + 1 := by omega
      have i4' : (b : Int) < ((K + 1 : Nat) : Int) := by omega
      have i5 : (0 : Int) < (n : Int) + 1 := by omega
      have i5' : (0 : Int) < ((n + 1 : Nat) : Int) := by omega
      have ek : IntKind.i64.wrap ((k : Int) + 1 + 1) = (k : Int) + 1 + 1 := hwI (by omega) (by omega)
      generalize rowK (cMat (inO F n) le sp) n (k + 1) 0 = u at *
      generalize rowK (cMat (inO F n) le sp) n b 0 = v at *
      have IL := Lib.hid (fun W => isLess_any u v W)
      clear y1z y2z
      go_upto_region 12 with fail
      go_region_held3 (fun w' => w'.cell? ⟨gR, k + 1, none⟩ = some (.slice (some y1) (n + 1) d1) ∧ w'.cell? y1 = some (.int .i64 u) ∧ w'.cell? ⟨gR, b, none⟩ = some (.slice (some y2) (n + 1) d2) ∧ w'.cell? y2 = some (.int .i64 v)) (first | exact ⟨r1, v1, r2, v2⟩ | exact ⟨cellDr r1, cellDr v1, cellDr r2, cellDr v2⟩) (first
        | ((go_at_call 35; (with_reducible refine (IL.out _).mono ?_); rintro e w5 ⟨rfl, rfl⟩)))
      have HW5 := Lib.hid (HW.out.drew)
      clear r1 v1 r2 v2 s0
      by_cases lz : lss u v
      · rw [decide_eq_true lz]
        rw [if_pos lz] at BS
        go_wp2_with fail
        go_roundw
        case rel => exact ⟨k + 1, by omega, by go_num, by rw [BS.out]; go_num, HW5⟩
        case measure => simp [intOf] <;> omega
      · rw [decide_eq_false lz]
        rw [if_neg lz] at BS
        go_wp2_with fail
        go_roundw
        case rel => exact ⟨k + 1, by omega, by go_num, by rw [BS.out], HW5⟩
        case measure => simp [intOf] <;> omega
    obtain rfl : k = K := by omega
    have kb := KB.out
    have kls : ¬ ((k : Int) + 1 ≤ ls) := by have := HLS.out; omega
    have dk : decide ((k : Int) + 1 ≤ ls) = false := decide_eq_false kls
    have bl := bst_le (fun k => rowK (cMat (inO F n) le sp) n k 0) k
    have E3 := Lib.hid (fun h => liV_3 (K := k) Z1.out Z2.out h)
    have E4 := Lib.hid (fun h => liV_4 (K := k) Z1.out Z2.out h)
    have BH := Lib.hid (fun h => bst_hit (f := fun k => rowK (cMat (inO F n) le sp) n k 0) (k := k) h)
    have LK := Lib.hid (show liK k le sp F n = bst (fun k => rowK (cMat (inO F n) le sp) n k 0) k from rfl)
    generalize bst (fun k => rowK (cMat (inO F n) le sp) n k 0) k = b at *
    have HH := Lib.hid (HB.out.trans (HW.out.mono HB.out.size))
    clear kls
    by_cases bz : b = 0
    case pos =>
      subst bz
      have FN := Lib.hid (show LiQ k ls le sp F n w (.returned (.tuple #[.slice none 0 0, .int .i64 0, .int .i64 13])) wr from ⟨_, by rw [E3.out rfl], HH.out, .inl ⟨rfl, .inl (by rw [E3.out rfl]; decide)⟩⟩)
      go_wp2_with fail
      go_ret3
      exact FN.out
    have db : ((b : Int) == 0) = false := by simp; omega
    obtain ⟨y2, d2, r2, v2⟩ := (QR.out.below HW.out).at (i := b) (j := 0) (by omega) (by omega) rfl
    have y2z : y2.add 0 = y2 := rfl
    rw [y2z] at v2
    clear y2z
    have OCr := OC.out.below HW.out
    have k0 : wr.cell? ⟨gb, 0, none⟩ = some (.int .i64 ls) := OCr.cell (k := 0) (by decide)
    have k1 : wr.cell? ⟨gb, 1, none⟩ = some (.int .i64 le) := OCr.cell (k := 1) (by decide)
    have k2 : wr.cell? ⟨gb, 2, none⟩ = some (.int .i64 sp) := OCr.cell (k := 2) (by decide)
    have k3 : wr.cell? ⟨gb, 3, none⟩ = some (.slice (some ⟨gp, 0, none⟩) n n) := OCr.cell (k := 3) (by decide)
    have k4 : wr.cell? ⟨gb, 4, none⟩ = some (.slice (some ⟨gf, 0, none⟩) n n) := OCr.cell (k := 4) (by decide)
    have k5 : wr.cell? ⟨gb, 5, none⟩ = some (.slice (some ⟨gc, 0, none⟩) n n) := OCr.cell (k := 5) (by decide)
    clear OCr
    have CP := Lib.hid (show ∀ W, Below wr.heap.size wr W → Calls Try.prog 36 #[.agg #[.int .i64 ls, .int .i64 le, .int .i64 sp, .slice (some ⟨gp, 0, none⟩) n n, .slice (some ⟨gf, 0, none⟩) n n, .slice (some ⟨gc, 0, none⟩) n n], .slice (some ⟨gR, 0, none⟩) (b + 1) (k + 1)] W fun e w' => ∃ v, e = .returned v ∧ PlR W.heap.size (inO F n) (gi (ordK (fun k => (F k).key) n)) (cMat (inO F n) le sp) (pos (cMat (inO F n) le sp) n b) b v w' ∧ Below W.heap.size W w' from fun W bw =>
      plan_any ls le sp gp gf gc gR (k + 1) n b (inO F n) (gi (ordK (fun k => (F k).key) n)) (cMat (inO F n) le sp) W ((QP.out.below HW.out).below bw) ((QF.out.below HW.out).below bw) ((QC.out.below HW.out).below bw) (fun i hi => ((QR.out.below HW.out).below bw) i (by omega)) ln (by omega) (inO_ok FOK.out) 1503238553600000 (by omega) BD.out (BH.out bz))
    have i3 : (0 : Int) ≤ (b : Int) := by omega
    have i4 : (b : Int) < (k : Int) + 1 := by omega
    have i4' : (b : Int) < ((k + 1 : Nat) : Int) := by omega
    have i6 : (b : Int) + 1 ≤ (k : Int) + 1 := by omega
    have i6' : (b : Int) + 1 ≤ ((k + 1 : Nat) : Int) := by omega
    have i7 : (0 : Int) ≤ (b : Int) + 1 := by omega
    have i5 : (0 : Int) < (n : Int) + 1 := by omega
    have i5' : (0 : Int) < ((n + 1 : Nat) : Int) := by omega
    have eb : IntKind.i64.wrap ((b : Int) + 1) = (b : Int) + 1 := hwI (by omega) (by omega)
    have E5 := Lib.hid (E4.out bz)
    have BN := Lib.hid bz
    clear E3 E4 BH bz
    generalize rowK (cMat (inO F n) le sp) n b 0 = v at *
    go_wp2_with fail
    go_upto_region 16 with fail
    go_region_held3 (fun w' => w'.cell? ⟨gR, b, none⟩ = some (.slice (some y2) (n + 1) d2) ∧ w'.cell? y2 = some (.int .i64 v) ∧ w'.cell? ⟨gb, 0, none⟩ = some (.int .i64 ls) ∧ w'.cell? ⟨gb, 1, none⟩ = some (.int .i64 le) ∧ w'.cell? ⟨gb, 2, none⟩ = some (.int .i64 sp) ∧ w'.cell? ⟨gb, 3, none⟩ = some (.slice (some ⟨gp, 0, none⟩) n n) ∧ w'.cell? ⟨gb, 4, none⟩ = some (.slice (some ⟨gf, 0, none⟩) n n) ∧ w'.cell? ⟨gb, 5, none⟩ = some (.slice (some ⟨gc, 0, none⟩) n n)) (first | exact ⟨r2, v2, k0, k1, k2, k3, k4, k5⟩ | exact ⟨cellDr r2, cellDr v2, cellDr k0, cellDr k1, cellDr k2, cellDr k3, cellDr k4, cellDr k5⟩) (first
      | ((go_at_call 36; (refine (CP.out _ (by first | exact Below.refl _ _ | exact (Below.refl _ _).drew)).mono ?_); rintro e w5 ⟨pv, rfl, pl, q5⟩; have st : Below wr.heap.size wr w5 := (by first | exact q5 | exact (Below.refl _ _).drew.trans q5); have r2 := cellGr st r2; have v2 := cellGr st v2; have k0 := cellGr st k0; have k1 := cellGr st k1; have k2 := cellGr st k2; have k3 := cellGr st k3; have k4 := cellGr st k4; have k5 := cellGr st k5; have PL := Lib.hid pl; have ST := Lib.hid st; clear q5 st pl)))
    have FN := Lib.hid (show LiQ k ls le sp F n w (.returned (.tuple #[pv, .int .i64 v, .int .i64 0])) w5 from by
      have hz := Nat.le_trans HB.out.size HW.out.size
      refine ⟨pv, by rw [E5.out], HH.out.trans (ST.out.mono HH.out.size), .inr ⟨by rw [E5.out], Z2.out, Z1.out, by rw [LK.out]; exact BN.out, ?_⟩⟩
      rw [LK.out]
      obtain ⟨q, d, x1, x2⟩ := PL.out
      exact ⟨q, d, ownBase' hz x1, fun x hx => ownBase' hz (x2 x hx)⟩)
    clear r2 v2 k0 k1 k2 k3 k4 k5
    go_wp2_with fail
    go_ret3
    exact FN.out
end Go.Proofs.Ytmdhmpfagekonaa

/- The law ClassingEases: its walk. -/
namespace Go.Proofs.Ytmdhmpfagekonaa
open Go.RowKit Go.Proofs.Ytmdhmpfagekonaa.Ct Go.Proofs.Ytmdhmpfagekonaa.Ce Go.Proofs.Ytmdhmpfagekonaa.Stb
set_option linter.unusedVariables false
set_option linter.unusedSimpArgs false

theorem fl_hp {w : World} {p : Option Addr} {n : Nat} {F : Nat → Fl} (r : FlR w p n F) : ∀ x, p = some x → 0 < n → x.block < w.heap.size := fun x hx h0 => by
  obtain ⟨y, e, k⟩ := r 0 h0
  rw [hx] at e
  cases e
  have := k.blk
  rwa [addB] at this

set_option maxRecDepth 100000 in
set_option maxHeartbeats 16000000 in
theorem classingEases_walk (p : Option Addr) (c n : Nat) (F : Nat → Fl) (w : World) (r : FlR w p n F) (z : n ≤ 9223372036854775807) (kok : ∀ k, k < n → (F k).kok) (ls le sp : Int) (m0 m1 m2 : Int) (g0 : 0 ≤ m0 ∧ m0 ≤ 255) (g1 : 0 ≤ m1 ∧ m1 ≤ 255) (g2 : 0 ≤ m2 ∧ m2 ≤ 255) :
    Calls Try.prog 7 #[.slice p n c, .agg #[.int .i64 ls, .int .i64 le, .int .i64 sp], .agg #[.int .u8 m0, .int .u8 m1, .int .u8 m2]] w fun e w' => e = .returned (.bool true) ∧ Below w.heap.size w w' := by
  have AL := Lib.hid alive_any
  have R := Lib.hid r
  have KOK := Lib.hid kok
  have HP := Lib.hid (fl_hp r)
  have B1 := Lib.hid (show let wa := (w.alloc (Obj.cells #[.int .i64 ls, .int .i64 le, .int .i64 sp] 24)).alloc (Obj.cells #[.int .u8 m0, .int .u8 m1, .int .u8 m2] 51)
      Below w.heap.size w wa ∧ OB wa w.heap.size 24 3 (spC ls le sp) ∧ OB wa (w.heap.size + 1) 51 3 (fun k => if k = 0 then .int .u8 m0 else if k = 1 then .int .u8 m1 else .int .u8 m2) from by
    refine ⟨((Below.refl _ _).alloc (Nat.le_refl _) _).alloc (by simp) _, ob_old' (spBx w ls le sp) _, ?_⟩
    have := heap_alloc_new (w.alloc (Obj.cells #[.int .i64 ls, .int .i64 le, .int .i64 sp] 24)) (Obj.cells #[.int .u8 m0, .int .u8 m1, .int .u8 m2] 51)
    unfold OB
    simp only [World.size_alloc] at this
    rw [this]; rfl)
  have FW := Lib.hid (fun W => few_any p c n W)
  clear r kok
  go_enter Try.func7, Try.ntmps7
  go_upto_region 1 with fail
  generalize (w.alloc (Obj.cells #[.int .i64 ls, .int .i64 le, .int .i64 sp] 24)).alloc (Obj.cells #[.int .u8 m0, .int .u8 m1, .int .u8 m2] 51) = wa at *
  obtain ⟨b1, os, om⟩ := B1.out
  clear B1
  have B1 := Lib.hid b1
  have OS := Lib.hid os
  have OM := Lib.hid om
  clear b1 os om
  by_cases t0 : n ≤ 140
  case neg =>
    rw [decide_eq_false t0] at FW
    go_wp2_with fail
    refine (FW.out _).mono ?_
    rintro e w1 ⟨rfl, rfl⟩
    go_wp2_with fail
    refine (AL.out _).mono ?_
    rintro e w2 ⟨rfl, st⟩
    have BB := Lib.hid (B1.out.trans (st.mono B1.out.size))
    go_wp2_with fail
    go_ret
    exact ⟨rfl, BB.out⟩
  rw [decide_eq_true t0] at FW
  have s0 : wa.cell? ⟨w.heap.size, 0, none⟩ = some (.int .i64 ls) := OS.out.cell (k := 0) (by decide)
  have s1 : wa.cell? ⟨w.heap.size, 1, none⟩ = some (.int .i64 le) := OS.out.cell (k := 1) (by decide)
  have s2 : wa.cell? ⟨w.heap.size, 2, none⟩ = some (.int .i64 sp) := OS.out.cell (k := 2) (by decide)
  have C1 := Lib.hid (Lines_any p c n ls.toNat F ls le sp wa (R.out.below B1.out) t0 KOK.out (fun x hx h0 => Nat.lt_of_lt_of_le (HP.out x hx h0) B1.out.size) rfl)
  go_wp2_with fail
  refine (FW.out _).mono ?_
  rintro e w1 ⟨rfl, rfl⟩
  go_wp2_with fail
  refine C1.out.mono ?_
  rintro e w1 ⟨v, rfl, b1, -⟩
  have HB := Lib.hid (B1.out.trans (b1.mono B1.out.size))
  have OS1 := Lib.hid (OS.out.below b1)
  have OM1 := Lib.hid (OM.out.below b1)
  clear b1 C1 s0 s1 s2 OS OM B1 FW
  by_cases z1 : (liV ls.toNat ls le sp F n).2 = 0
  case neg =>
    have d1 : ((liV ls.toNat ls le sp F n).2 == 0) = false := by simpa using z1
    clear z1
    generalize (liV ls.toNat ls le sp F n).2 = x at *
    generalize (liV ls.toNat ls le sp F n).1 = y at *
    go_wp2_with fail
    refine (AL.out _).mono ?_
    rintro e w2 ⟨rfl, st⟩
    have BB := Lib.hid (HB.out.trans (st.mono HB.out.size))
    go_wp2_with fail
    go_ret
    exact ⟨rfl, BB.out⟩
  have Z0 : flE ls le sp F n = 0 := by
    apply Classical.byContradiction; intro h
    rw [liV_1 h] at z1
    exact h z1
  have Z1 := Lib.hid z1
  have FE := Lib.hid Z0
  obtain ⟨n128, so, fok⟩ := flE_ok Z0
  have FOK := Lib.hid fok
  rw [z1]
  clear z1 Z0 fok
  generalize hy : (liV ls.toNat ls le sp F n).1 = y at *
  have HY := Lib.hid hy
  clear hy
  have so1 := so.1
  have so2 := so.2.1
  have so3 := so.2.2
  clear so
  have c0 : w1.cell? ⟨w.heap.size + 1, 0, none⟩ = some (.int .u8 m0) := OM1.out.cell (k := 0) (by decide)
  have c1 : w1.cell? ⟨w.heap.size + 1, 1, none⟩ = some (.int .u8 m1) := OM1.out.cell (k := 1) (by decide)
  have c2 : w1.cell? ⟨w.heap.size + 1, 2, none⟩ = some (.int .u8 m2) := OM1.out.cell (k := 2) (by decide)
  have s0 : w1.cell? ⟨w.heap.size, 0, none⟩ = some (.int .i64 ls) := OS1.out.cell (k := 0) (by decide)
  have s1 : w1.cell? ⟨w.heap.size, 1, none⟩ = some (.int .i64 le) := OS1.out.cell (k := 1) (by decide)
  have s2 : w1.cell? ⟨w.heap.size, 2, none⟩ = some (.int .i64 sp) := OS1.out.cell (k := 2) (by decide)
  have em : Int.tmod m0 4 = m0 % 4 := Int.tmod_eq_emod_of_nonneg (by omega)
  have e0 : IntKind.i64.wrap m0 = m0 := hwI (by omega) (by omega)
  have e1 : IntKind.i64.wrap m1 = m1 := hwI (by omega) (by omega)
  have e2 : IntKind.i64.wrap m2 = m2 := hwI (by omega) (by omega)
  have e3 : IntKind.i64.wrap (m0 % 4) = m0 % 4 := hwI (by omega) (by omega)
  have e4 : IntKind.i64.wrap (ls + m0 % 4) = ls + m0 % 4 := hwI (by omega) (by omega)
  have e5 : IntKind.i64.wrap (le - m1) = le - m1 := hwI (by omega) (by omega)
  have e6 : IntKind.i64.wrap (sp + m2) = sp + m2 := hwI (by omega) (by omega)
  have B2 : Below w1.heap.size w1 (w1.alloc (Obj.cells #[.int .i64 ls, .int .i64 le, .int .i64 sp] 24)) := (Below.refl _ _).alloc (Nat.le_refl _) _
  have OE := Lib.hid (spBx w1 ls le sp)
  have HL := Lib.hid (show w.heap.size + 1 < w1.heap.size from OM1.out.lt)
  go_upto_region 7 with fail
  have c0 := cellGr B2 c0
  have c1 := cellGr B2 c1
  have c2 := cellGr B2 c2
  have s0 := cellGr B2 s0
  have s1 := cellGr B2 s1
  have s2 := cellGr B2 s2
  replace HB := Lib.hid (HB.out.trans (B2.mono HB.out.size))
  clear B2 OS1 OM1
  generalize w1.alloc (Obj.cells #[.int .i64 ls, .int .i64 le, .int .i64 sp] 24) = w2 at *
  have hl := HL.out
  obtain ⟨gE, hE⟩ : ∃ g, g = w1.heap.size := ⟨_, rfl⟩
  rw [← hE] at OE hl ⊢
  have n1 : ¬ w.heap.size = gE := by omega
  have n2 : ¬ gE = w.heap.size := by omega
  have n3 : ¬ w.heap.size + 1 = gE := by omega
  have n4 : ¬ gE = w.heap.size + 1 := by omega
  have LE := Lib.hid (show w.heap.size ≤ gE from by omega)
  clear hE hl HL
  have h0 : w2.cell? ⟨gE, 0, none⟩ = some (.int .i64 ls) := OE.out.cell (k := 0) (by decide)
  have h1 : w2.cell? ⟨gE, 1, none⟩ = some (.int .i64 le) := OE.out.cell (k := 1) (by decide)
  have h2 : w2.cell? ⟨gE, 2, none⟩ = some (.int .i64 sp) := OE.out.cell (k := 2) (by decide)
  have f0 := OE.out.frozen 0
  have f1 := OE.out.frozen 1
  have f2 := OE.out.frozen 2
  obtain ⟨ls', hls⟩ : ∃ x, x = min 16 (ls + m0 % 4) := ⟨_, rfl⟩
  obtain ⟨le', hle⟩ : ∃ x, x = max 0 (le - m1) := ⟨_, rfl⟩
  obtain ⟨sp', hsp⟩ : ∃ x, x = min 10000 (sp + m2) := ⟨_, rfl⟩
  have LS := Lib.hid hls
  have LEE := Lib.hid hle
  have SP := Lib.hid hsp
  have FE2 := Lib.hid (flE_0 (ls := ls') (le := le') (sp := sp') (F := F) (n := n) (by omega) (by unfold spOk; omega) FOK.out)
  have EA := Lib.hid (liV_ease (K := ls.toNat) (K' := ls'.toNat) (ls := ls) (le := le) (sp := sp) (by omega) (show le' ≤ le by omega) (show sp ≤ sp' by omega) t0 FE.out FE2.out Z1.out)
  have C2 := Lib.hid (fun W (bw : Below w.heap.size w W) => Lines_any p c n ls'.toNat F ls' le' sp' W (R.out.below bw) t0 KOK.out (fun x hx h0 => Nat.lt_of_lt_of_le (HP.out x hx h0) bw.size) rfl)
  have BW := Lib.hid (show ∀ a b d, Below w.heap.size w (((w2.setCell ⟨gE, 0, none⟩ a).setCell ⟨gE, 1, none⟩ b).setCell ⟨gE, 2, none⟩ d) from fun a b d => ((HB.out.setCell (show w.heap.size ≤ gE from LE.out) a).setCell (show w.heap.size ≤ gE from LE.out) b).setCell (show w.heap.size ≤ gE from LE.out) d)
  have Z2 := Lib.hid EA.out.1
  have Z3 := Lib.hid EA.out.2
  rw [HY.out] at Z3
  clear EA FE FE2 Z1 FOK hls hle hsp
  go_wp2_with fail
  rw [← LS.out, ← LEE.out, ← SP.out]
  refine (C2.out _ (BW.out _ _ _)).mono ?_
  rintro e w3 ⟨v', rfl, b3, -⟩
  have HB3 := Lib.hid ((BW.out _ _ _).trans (b3.mono (BW.out _ _ _).size))
  rw [Z2.out]
  generalize (liV ls'.toNat ls' le' sp' F n).1 = y' at *
  have z3 : y' ≤ y := Z3.out
  have dz : decide (y' ≤ y) = true := decide_eq_true z3
  clear b3 C2 z3 c0 c1 c2 s0 s1 s2 h0 h1 h2 f0 f1 f2
  go_wp2_with fail
  refine (AL.out _).mono ?_
  rintro e w4 ⟨rfl, st⟩
  have BB := Lib.hid (HB3.out.trans (st.mono HB3.out.size))
  go_wp2_with fail
  go_ret
  exact ⟨rfl, BB.out⟩
end Go.Proofs.Ytmdhmpfagekonaa
