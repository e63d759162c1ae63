/- The reference's rows: gcdD; Within. -/
import Derived.Test.YtblaakjldpcjlaaDoorR13
import Derived.Test.YtblaakjldpcjlaaDoorB1
namespace Go.Proofs.YtblaakjldpcjlaaDoor
open Go.RowKit
set_option linter.unusedVariables false
set_option linter.unusedSimpArgs false

/-- The digits that a slice reads as: for a loop's measure. -/
def rdRow (w : World) : Value → List Int
  | .slice p n _ => (List.range n).map fun i => match p with
    | some a => match w.cell? ⟨a.block, i, none⟩ with
      | some u => intOf u
      | none => 0
    | none => 0
  | _ => []
theorem rdRow_eq {w : World} {p : Option Addr} {l : List Int} (r : RowR w p l) (c : Nat) : rdRow w (.slice p l.length c) = l := by
  unfold rdRow
  refine List.ext_getElem (by simp) fun i h1 h2 => ?_
  obtain ⟨g, rfl, _, e⟩ := r i h2
  simp [e, intOf]

/-- A row that may be an argument's own. -/
def OldRow (x : Int) (n : Nat) (w : World) (e : Ending) (w' : World) : Prop :=
  ∃ t p c, e = .returned (.slice p t.length c) ∧ Can t x ∧ t.length ≤ n ∧ RowR w' p t ∧ Below w.heap.size w w'

set_option maxRecDepth 100000 in
set_option maxHeartbeats 1000000 in
theorem gcdD_any (L : Nat) (pa pb : Option Addr) (ca cb : Nat) (a b : List Int) (x y : Int) (w : World) (ha : Can a x) (hb : Can b y) (ra : RowR w pa a) (rb : RowR w pb b) (la : a.length ≤ L) (lb : b.length ≤ L) (hL : L ≤ 90000) :
    Calls Tryd.prog 88 #[.slice pa a.length ca, .slice pb b.length cb] w (OldRow (Int.gcd x y) L w) := by
  obtain ⟨g, hg⟩ : ∃ g : Nat, g = Int.gcd x y := ⟨_, rfl⟩
  rw [← hg]
  have HG := Lib.hid hg
  have Ra := Lib.hid ra; clear ra
  have Rb := Lib.hid rb; clear rb
  have Da := Lib.hid ha; clear ha
  have Db := Lib.hid hb; clear hb hg
  have LA := Lib.hid la
  have LB := Lib.hid lb
  clear la lb
  go_enter Tryd.func88, Tryd.ntmps88
  go_wp2
  go_loopw [0, 1] (fun va vb wr => ∃ (A B : List Int) (p q : Option Addr) (c d : Nat) (u v : Int), va = .slice p A.length c ∧ vb = .slice q B.length d ∧ Hid (Can A u) ∧ Hid (Can B v) ∧ Hid (A.length ≤ L) ∧ Hid (B.length ≤ L) ∧ Hid (RowR wr p A) ∧ Hid (RowR wr q B) ∧ Hid (Int.gcd u v = g) ∧ Below w.heap.size w wr) (fun _ vb wr => (dval (rdRow wr vb)).toNat)
  case atStart => exact ⟨a, b, pa, pb, ca, cb, x, y, rfl, rfl, Da, Db, LA, LB, Ra, Rb, HG.out.symm, Below.refl _ _⟩
  case round =>
    obtain ⟨A, B, p, q, c, d, u, v, rfl, rfl, cA, cB, lA, lB, rA, rB, hgg, hbel⟩ := hrel
    have V0 := cB.out.nonneg
    have U0 := cA.out.nonneg
    have LZ := cB.out.length_zero
    by_cases hv : 0 < v
    · have l0 : 0 < B.length := by
        rcases Nat.eq_zero_or_pos B.length with t | t
        · have := LZ.1 t; omega
        · exact t
      have DV := Lib.hid (by
        have := divD_any p q c d A B v wr cA.out.digs cB.out hv rA.out rB.out (by have := lA.out; omega) (by have := lB.out; omega)
        rwa [cA.out.val] at this)
      have GS := Lib.hid ((gcd_step u v U0 hv).trans hgg.out)
      have MS := Lib.hid (rdRow_eq rB.out d)
      have HV := Lib.hid hv
      clear hgg LZ hv
      have lB' : B.length ≤ L := lB.out
      go_wp2_with fail
      refine (DV.out).mono ?_
      rintro e w1 ⟨t1, p1, c1, t2, p2, c2, rfl, e1, e2, e3, e4, e5, e6, e7⟩
      have E4 := Lib.hid e4
      have E5 := Lib.hid (Nat.le_trans e5 lB')
      have E6 := Lib.hid e6
      have RB := Lib.hid (rB.out.below e7)
      have E7 := Lib.hid (hbel.trans (e7.mono hbel.size))
      have MS2 := Lib.hid (rdRow_eq e6 c2)
      clear e1 e2 e3 e4 e5 e6 e7 DV hbel
      go_wp2
      go_roundw
      case rel => exact ⟨B, t2, q, p2, d, c2, v, _, rfl, rfl, cB, E4, lB, E5, RB, E6, GS.out, E7.out⟩
      case measure =>
        rw [MS2.out, MS.out, E4.out.val, cB.out.val]
        have h1 := Int.emod_lt_of_pos u HV.out
        have h2 := Int.emod_nonneg u (show v ≠ 0 by have := HV.out; omega)
        omega
    · have hv0 : v = 0 := by omega
      have l0 : B.length = 0 := LZ.2 hv0
      have e : ((Int.gcd u v : Nat) : Int) = u := by rw [hv0]; simp only [Int.gcd, Int.natAbs_zero, Nat.gcd_zero_right]; omega
      rw [hgg.out] at e
      have HE := Lib.hid e
      have HB := Lib.hid hbel
      clear e hv hv0 hgg hbel LZ
      generalize B.length = n at *
      subst l0
      go_wp2
      go_ret
      exact ⟨A, p, c, rfl, by rw [HE.out]; exact cA.out, lA.out, rA.out, HB.out⟩

theorem dval_drop_le {l : List Int} (h : Digs l) (k : Nat) : dval (l.drop k) ≤ dval l := by
  have e := dval_app (l.take k) (l.drop k)
  rw [List.take_append_drop] at e
  have a := dval_nonneg (h.take k)
  have b := dval_nonneg (h.drop k)
  have c := Int.mul_le_mul_of_nonneg_right (pow_pos' (l.take k).length) b
  omega

/-- A number as an int, if it is within a bound. -/
def wiV (x m : Int) : Int := if (x.natAbs : Int) ≤ m then x else 0
def wiB (x m : Int) : Bool := decide ((x.natAbs : Int) ≤ m)
end Go.Proofs.YtblaakjldpcjlaaDoor
