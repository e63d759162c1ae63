/- Flow: the reference's search for a blend: a step; the whole. -/
import Derived.Test.YtapffmaihkimkaaFP7
namespace Go.Proofs.Ytapffmaihkimkaa
open Go.RowKit
set_option linter.unusedVariables false
set_option linter.unusedSimpArgs false

theorem dn_zero (g : Nat → Bl.Best → Bl.Best) (q : Nat) (s : Bl.Best) : dn g 0 (q + 1) s = Bl.down g q s := by
  rw [dn_down]
  exact Bl.downTo_eq (fun j hj => absurd hj (Nat.not_lt_zero j)) s
theorem RMod_not {bs br q : Nat} (lt : bs < br) (h : q < bs ∨ br < q) : ¬ RMod bs br q := by
  unfold RMod
  omega

set_option maxRecDepth 100000 in
set_option maxHeartbeats 8000000 in
theorem rbstep {bs br : Nat} (lt : bs < br) {p : Option Addr} {n c : Nat} {lo hi : Int} (n6 : n ≤ 6) (A : Nat → Pa) (ok : ∀ i, i < n → paOk (A i)) (hp : ∀ x, p = some x → 0 < n → x.block < bs) (ba : Nat → Int) (hba : ∀ j, j < n → ba j = (A j).ba)
    (k d : Nat) (kd : k + (d + 1) = n) (left : Int) (ys : List Int) (hy : ys.length = k) (l0 : 0 ≤ left) (l24 : left ≤ 24) (s : Bl.Best) (W : World) (v : Value) (L : Int) (O : Nat → Int) (x : RB bs br n W v L O) (hb : RBest W br n v L s) (pa : PaR W p n A) (hO : ∀ j, j < k → O j = nm ys j) (hO2 : ∀ j, j < k → 0 ≤ O j ∧ O j ≤ 24)
    (ih : ∀ (left : Int) (ys : List Int) (s : Bl.Best) (W : World) (v : Value) (L : Int) (O : Nat → Int), ys.length = k + 1 → 0 ≤ left → left ≤ 24 → RB bs br n W v L O → RBest W br n v L s → PaR W p n A → (∀ j, j < k + 1 → O j = nm ys j) → (∀ j, j < k + 1 → 0 ≤ O j ∧ O j ≤ 24) →
      Calls Try.prog 17 #[.pointer (some ⟨bs, 0, none⟩), .slice p n c, .slice (some ⟨br, 0, none⟩) n n, .int .i64 ((k : Int) + 1), .int .i64 left, .int .i64 lo, .int .i64 hi] W (RQ bs br n (k + 1) (Bl.sea ba (fun j => (A j).mi) (fun j => (A j).pr) lo hi d left ys s) O W)) :
    Calls Try.prog 17 #[.pointer (some ⟨bs, 0, none⟩), .slice p n c, .slice (some ⟨br, 0, none⟩) n n, .int .i64 k, .int .i64 left, .int .i64 lo, .int .i64 hi] W (RQ bs br n k (Bl.sea ba (fun j => (A j).mi) (fun j => (A j).pr) lo hi (d + 1) left ys s) O W) := by
  have kn : k < n := by omega
  obtain ⟨xa, rfl, -, a0, -⟩ := pa k kn
  have OK := ok k kn
  have BK := hba k kn
  have d2 : ((k : Int) == (n : Int)) = false := by simp; omega
  obtain ⟨K, hK⟩ : ∃ K, K = (min left (ba k)).toNat := ⟨_, rfl⟩
  obtain ⟨G, hG⟩ : ∃ G : Nat → Bl.Best → Bl.Best, G = fun (q : Nat) s => Bl.sea ba (fun j => (A j).mi) (fun j => (A j).pr) lo hi d (left - q) (ys ++ [(q : Int)]) s := ⟨_, rfl⟩
  have CUT := Lib.hid (show dn G 0 (K + 1) s = Bl.sea ba (fun j => (A j).mi) (fun j => (A j).pr) lo hi (d + 1) left ys s from by rw [dn_zero, hG, hK, ← hy]; rfl)
  have IH := Lib.hid (show ∀ (q : Nat), (q : Int) ≤ left → ∀ (s : Bl.Best) (W' : World) (v : Value) (L : Int) (O' : Nat → Int), RB bs br n W' v L O' → RBest W' br n v L s → Fm (RMod bs br) W W' → (∀ j, j < k → O' j = O j) → O' k = q →
      Calls Try.prog 17 #[.pointer (some ⟨bs, 0, none⟩), .slice (some xa) n c, .slice (some ⟨br, 0, none⟩) n n, .int .i64 ((k : Int) + 1), .int .i64 (left - q), .int .i64 lo, .int .i64 hi] W' (RQ bs br n (k + 1) (G q s) O' W') from fun q hq s W' v L O' hx hbi hfm h1 h2 => by
    have := ih (left - q) (ys ++ [(q : Int)]) s W' v L O' (by simp; omega) (by omega) (by omega) hx hbi (pa.fm hfm (fun x e => RMod_not lt (.inl (hp x e (by omega))))) (fun j hj => by
      unfold nm
      by_cases c : j = k
      · subst c; rw [h2, List.getD_eq_getElem?_getD, List.getElem?_append_right (by omega)]; simp [hy]
      · rw [h1 j (by omega), hO j (by omega)]
        unfold nm
        rw [List.getD_eq_getElem?_getD, List.getD_eq_getElem?_getD, List.getElem?_append_left (by omega)]) (fun j hj => by
      by_cases c : j = k
      · subst c; rw [h2]; omega
      · rw [h1 j (by omega)]; exact hO2 j (by omega))
    rw [hG]
    exact this)
  have v00 : 0 ≤ (A k).ba := OK.1.1
  rw [BK] at hK
  have QE := Lib.hid (show ∀ W' v' L' O' s', s' = dn G 0 (K + 1) s → RB bs br n W' v' L' O' → RBest W' br n v' L' s' → (∀ j, j < k → O' j = O j) → Fm (RMod bs br) W W' → RQ bs br n k (Bl.sea ba (fun j => (A j).mi) (fun j => (A j).pr) lo hi (d + 1) left ys s) O W (.returned (.tuple #[])) W' from fun W' v' L' O' s' es hx hb' ho hf' => ⟨rfl, v', L', O', hx, by rw [← CUT.out, ← es]; exact hb', ho, hf'⟩)
  have mn : (if (A k).ba < left then (A k).ba else left) = (K : Int) := by omega
  have LT := Lib.hid lt
  have KL := Lib.hid (show (K : Int) ≤ left from by omega)
  have X := Lib.hid x
  have HB := Lib.hid hb
  clear x hb pa hO hO2 ih lt ok hp hba kd hy hK hG CUT OK BK v00
  generalize RQ bs br n k (Bl.sea ba (fun j => (A j).mi) (fun j => (A j).pr) lo hi (d + 1) left ys s) O W = Q at *
  generalize (A k).ba = v0 at *
  have k1 : (0 : Int) ≤ (k : Int) := by omega
  have k2 : (k : Int) < (n : Int) := by omega
  go_enter Try.func17, Try.ntmps17
  go_wp2_with fail
  clear a0 d2
  go_loopw [18] (fun iv wr => ∃ (q : Nat) (z : Int) (w1 : Value) (L1 : Int) (O1 : Nat → Int) (s1 : Bl.Best), q ≤ K + 1 ∧ iv = .int .i64 z ∧ z = (q : Int) - 1 ∧ Hid (RB bs br n wr w1 L1 O1) ∧ Hid (RBest wr br n w1 L1 s1) ∧ Hid (∀ j, j < k → O1 j = O j) ∧ Hid (dn G 0 q s1 = dn G 0 (K + 1) s) ∧ Hid (Fm (RMod bs br) W wr)) (fun iv _ => (intOf iv + 1).toNat)
  case atStart => exact ⟨K + 1, _, v, L, O, s, Nat.le_refl _, rfl, by omega, X, HB, Lib.hid fun _ _ => rfl, Lib.hid rfl, Lib.hid (Fm.refl _ _)⟩
  case round =>
    clear X HB
    obtain ⟨q, z, w1, L1, O1, s1, hq, rfl, hz, X, HB, O1E, DN, FM⟩ := hrel
    have wk : IntKind.i64.wrap ((k : Int) + 1) = (k : Int) + 1 := hwI (by omega) (by omega)
    have co := X.out.row.cell (k := k) (by omega)
    have fo := X.out.row.frozen k
    by_cases t1 : 1 ≤ q
    · obtain ⟨j, rfl⟩ : ∃ j, q = j + 1 := ⟨q - 1, by omega⟩
      obtain rfl : z = (j : Int) := by omega
      clear hz
      have t2 : decide ((0 : Int) ≤ (j : Int)) = true := decide_eq_true (by omega)
      have jl : (j : Int) ≤ left := by have := KL.out; omega
      have ww5 : IntKind.i64.wrap (left - (j : Int)) = left - (j : Int) := hwI (by omega) (by omega)
      have X2 := Lib.hid (X.out.setO LT.out k j)
      have FS := Lib.hid (Fm.set (M := RMod bs br) (w := wr) ⟨br, k, none⟩ (.int .i64 (j : Int)) (.inr rfl))
      have HB2 := Lib.hid (HB.out.fm FS.out (fun g hg => RMod_not LT.out (.inr hg)))
      have F2 := Lib.hid (FM.out.trans FS.out)
      have OE := Lib.hid (show (∀ i, i < k → upd O1 k j i = O i) ∧ upd O1 k j k = j from ⟨fun i hi => by unfold upd; rw [if_neg (by omega)]; exact O1E.out i hi, if_pos rfl⟩)
      clear X FS HB FM O1E
      go_upto_region 15 with fail
      clear co fo
      generalize wr.setCell ⟨br, k, none⟩ (.int .i64 (j : Int)) = wb at *
      have CI := Lib.hid (IH.out j jl s1 wb w1 L1 _ X2.out HB2.out F2.out OE.out.1 OE.out.2)
      go_wp2_with fail
      refine CI.out.mono ?_
      rintro e1 wx ⟨rfl, v3', L3, O3, hx3, hb3, ho3, hf3⟩
      have X3 := Lib.hid hx3
      have HB3 := Lib.hid hb3
      have O3E := Lib.hid (show ∀ i, i < k → O3 i = O i from fun i hi => by rw [ho3 i (by omega)]; exact OE.out.1 i hi)
      have DN3 := Lib.hid (show dn G 0 j (G j s1) = dn G 0 (K + 1) s from by rw [← DN.out]; exact (if_pos (by omega)).symm)
      have F3 := Lib.hid (F2.out.trans hf3)
      clear hx3 hb3 ho3 hf3 CI X2 HB2 F2 OE DN
      go_wp2_with fail
      go_roundw
      case rel => exact ⟨j, _, v3', L3, O3, G j s1, by omega, rfl, by go_num, X3, HB3, O3E, DN3, F3⟩
      case measure => simp only [intOf]; omega
    · have t2 : decide ((0 : Int) ≤ z) = false := decide_eq_false (by omega)
      have FS := Lib.hid (Fm.set (M := RMod bs br) (w := wr) ⟨br, k, none⟩ (.int .i64 0) (.inr rfl))
      have FF := Lib.hid (QE.out (wr.setCell ⟨br, k, none⟩ (.int .i64 0)) w1 L1 _ s1 (by rw [← DN.out, show q = 0 by omega]; rfl) (X.out.setO LT.out k 0) (HB.out.fm FS.out (fun g hg => RMod_not LT.out (.inr hg))) (fun i hi => by unfold upd; rw [if_neg (by omega)]; exact O1E.out i hi) (FM.out.trans FS.out))
      clear X HB O1E DN FM QE IH FS
      go_wp2_with fail
      go_end0
      exact FF.out

theorem rbsea_any {bs br : Nat} (lt : bs < br) {p : Option Addr} {n c : Nat} {lo hi : Int} (n6 : n ≤ 6) (A : Nat → Pa) (ok : ∀ i, i < n → paOk (A i)) (hp : ∀ x, p = some x → 0 < n → x.block < bs) (ba : Nat → Int) (hba : ∀ j, j < n → ba j = (A j).ba) :
    ∀ (d k : Nat), k + d = n → ∀ (left : Int) (ys : List Int) (s : Bl.Best) (W : World) (v : Value) (L : Int) (O : Nat → Int), ys.length = k → 0 ≤ left → left ≤ 24 → (left = 0 → 1 ≤ n) → RB bs br n W v L O → RBest W br n v L s → PaR W p n A → (∀ j, j < k → O j = nm ys j) → (∀ j, j < k → 0 ≤ O j ∧ O j ≤ 24) →
      Calls Try.prog 17 #[.pointer (some ⟨bs, 0, none⟩), .slice p n c, .slice (some ⟨br, 0, none⟩) n n, .int .i64 k, .int .i64 left, .int .i64 lo, .int .i64 hi] W (RQ bs br n k (Bl.sea ba (fun j => (A j).mi) (fun j => (A j).pr) lo hi d left ys s) O W)
  | 0, k, kd, left, ys, s, W, v, L, O, hy, l0, l24, ln, x, hb, pa, hO, hO2 => by
    obtain rfl : k = n := by omega
    exact rbleaf lt ln n6 A ok ys hy s x hb pa hO hO2
  | d + 1, k, kd, left, ys, s, W, v, L, O, hy, l0, l24, ln, x, hb, pa, hO, hO2 => by
    refine rbstep lt n6 A ok hp ba hba k d kd left ys hy l0 l24 s W v L O x hb pa hO hO2 ?_
    intro left' ys' s' W' v' L' O' hy' l0' l24' x' hb' pa' hO' hO2'
    have := rbsea_any (c := c) (lo := lo) (hi := hi) lt n6 A ok hp ba hba d (k + 1) (by omega) left' ys' s' W' v' L' O' hy' l0' l24' (fun _ => by omega) x' hb' pa' hO' hO2'
    exact this
end Go.Proofs.Ytapffmaihkimkaa
