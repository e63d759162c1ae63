/- Flow: the program's search for a blend: a step; the whole. -/
import Derived.Test.YtapffmaihkimkaaFP4
namespace Go.Proofs.Ytapffmaihkimkaa
open Go.RowKit
set_option linter.unusedVariables false
set_option linter.unusedSimpArgs false

/-- What is left of the numbers below q, down to a. -/
def dn (g : Nat → Bl.Best → Bl.Best) (a : Nat) : Nat → Bl.Best → Bl.Best
  | 0, s => s
  | q + 1, s => if a ≤ q then dn g a q (g q s) else s
theorem dn_down {g : Nat → Bl.Best → Bl.Best} {a : Nat} : ∀ (q : Nat) (s : Bl.Best), dn g a (q + 1) s = Bl.downTo g a q s
  | 0, s => by
    unfold Bl.downTo dn
    by_cases c : a = 0
    · rw [if_pos c, if_pos (show a ≤ 0 from by omega)]; rfl
    · rw [if_neg c, if_neg (show ¬ a ≤ 0 from by omega)]
  | q + 1, s => by
    unfold Bl.downTo
    show (if a ≤ q + 1 then dn g a (q + 1) (g (q + 1) s) else s) = _
    rw [dn_down q]
theorem dn_stop {g : Nat → Bl.Best → Bl.Best} {a q : Nat} (h : q ≤ a) (s : Bl.Best) : dn g a q s = s := by
  cases q with
  | zero => rfl
  | succ q => exact if_neg (by omega)
theorem beh_pos {ba : Nat → Int} (b0 : ∀ j, 0 ≤ ba j) (n : Nat) : ∀ d, 0 ≤ Bl.beh ba n d
  | 0 => Int.le_refl _
  | d + 1 => Int.add_nonneg (beh_pos b0 n d) (b0 _)
theorem beh_most {ba : Nat → Int} (b1 : ∀ j, ba j ≤ 4096) (n : Nat) : ∀ d : Nat, Bl.beh ba n d ≤ d * 4096
  | 0 => by show (0 : Int) ≤ _; omega
  | d + 1 => by
    have h1 := beh_most b1 n d
    have h2 := b1 (n - (d + 1))
    show Bl.beh ba n d + ba (n - (d + 1)) ≤ _
    omega

set_option maxRecDepth 100000 in
set_option maxHeartbeats 8000000 in
theorem bstep {b1 b2 b3 b4 b5 b6 b7 b8 b9 b10 b11 : Nat} (xl : XL b1 b2 b3 b4 b5 b6 b7 b8 b9 b10 b11) {p : Option Addr} {n c : Nat} {b l h : Int} {f : Nat → Int} (n6 : n ≤ 6) (A : Nat → Pa) (ok : ∀ i, i < n → paOk (A i)) (hp : ∀ x, p = some x → 0 < n → x.block < b1) (ba : Nat → Int) (hba : ∀ j, j < n → ba j = (A j).ba) (b0 : ∀ j, 0 ≤ ba j) (b4k : ∀ j, ba j ≤ 4096) (lo hi : Int)
    (k d : Nat) (kd : k + (d + 1) = n) (hf : f (k + 1) = Bl.beh ba n d) (left : Int) (ys : List Int) (hy : ys.length = k) (l0 : 0 ≤ left) (l24 : left ≤ 24) (s : Bl.Best) (W : World) (v : Value) (L : Int) (O : Nat → Int) (x : XM b1 b2 b3 b4 b5 b6 b7 b8 b9 b10 b11 p n c b l h f W v L O) (hb : BestIs W b11 n v L s) (pa : PaR W p n A) (hO : ∀ j, j < k → O j = nm ys j)
    (hM : 0 ≤ Bl.dot (fun j => (A j).mi) 0 ys ∧ Bl.dot (fun j => (A j).mi) 0 ys + left * 10000 ≤ 240000) (hC : 0 ≤ Bl.dot (fun j => (A j).pr) 0 ys ∧ Bl.dot (fun j => (A j).pr) 0 ys + left * 16384 ≤ 393216)
    (ih : ∀ (left : Int) (ys : List Int) (s : Bl.Best) (W : World) (v : Value) (L : Int) (O : Nat → Int), ys.length = k + 1 → 0 ≤ left → left ≤ 24 → XM b1 b2 b3 b4 b5 b6 b7 b8 b9 b10 b11 p n c b l h f W v L O → BestIs W b11 n v L s → PaR W p n A → (∀ j, j < k + 1 → O j = nm ys j) →
      (0 ≤ Bl.dot (fun j => (A j).mi) 0 ys ∧ Bl.dot (fun j => (A j).mi) 0 ys + left * 10000 ≤ 240000) → (0 ≤ Bl.dot (fun j => (A j).pr) 0 ys ∧ Bl.dot (fun j => (A j).pr) 0 ys + left * 16384 ≤ 393216) →
      Calls Try.prog 13 #[.int .i64 ((k : Int) + 1), .int .i64 left, .int .i64 (Bl.dot (fun j => (A j).mi) 0 ys), .int .i64 (Bl.dot (fun j => (A j).pr) 0 ys), .pointer (some ⟨b1, 0, none⟩), .pointer (some ⟨b3, 0, none⟩), .pointer (some ⟨b2, 0, none⟩), .pointer (some ⟨b4, 0, none⟩), .pointer (some ⟨b7, 0, none⟩), .pointer (some ⟨b8, 0, none⟩), .pointer (some ⟨b10, 0, none⟩), .pointer (some ⟨b6, 0, none⟩), .pointer (some ⟨b11, 0, none⟩)] W (XQ b1 b2 b3 b4 b5 b6 b7 b8 b9 b10 b11 p n c b l h f (k + 1) (Bl.sea ba (fun j => (A j).mi) (fun j => (A j).pr) lo hi d left ys s) O W)) :
    Calls Try.prog 13 #[.int .i64 k, .int .i64 left, .int .i64 (Bl.dot (fun j => (A j).mi) 0 ys), .int .i64 (Bl.dot (fun j => (A j).pr) 0 ys), .pointer (some ⟨b1, 0, none⟩), .pointer (some ⟨b3, 0, none⟩), .pointer (some ⟨b2, 0, none⟩), .pointer (some ⟨b4, 0, none⟩), .pointer (some ⟨b7, 0, none⟩), .pointer (some ⟨b8, 0, none⟩), .pointer (some ⟨b10, 0, none⟩), .pointer (some ⟨b6, 0, none⟩), .pointer (some ⟨b11, 0, none⟩)] W (XQ b1 b2 b3 b4 b5 b6 b7 b8 b9 b10 b11 p n c b l h f k (Bl.sea ba (fun j => (A j).mi) (fun j => (A j).pr) lo hi (d + 1) left ys s) O W) := by
  have kn : k < n := by omega
  have c1 := x.x1.cell
  have c11 := x.x11.lt
  obtain ⟨xa, rfl, -, a0, a1, a2, a3, a4⟩ := pa k kn
  have OK := ok k kn
  have BK := hba k kn
  have d2 : ((k : Int) == (n : Int)) = false := by simp; omega
  obtain ⟨K, hK⟩ : ∃ K, K = (min left (ba k)).toNat := ⟨_, rfl⟩
  obtain ⟨e, he⟩ : ∃ e, e = Bl.beh ba n d := ⟨_, rfl⟩
  obtain ⟨a, ha⟩ : ∃ a, a = (max 0 (left - e)).toNat := ⟨_, rfl⟩
  have e0 : 0 ≤ e := by rw [he]; exact beh_pos b0 n d
  have e6 : e ≤ 24576 := by have := beh_most b4k n d; omega
  have bk0 := b0 k
  have CUT := Lib.hid (Bl.sea_cut (ba := ba) (mi := fun j => (A j).mi) (pr := fun j => (A j).pr) (lo := lo) (hi := hi) (n := n) (d := d) (left := left) (ys := ys) b0 (by omega) l0 s)
  rw [hy, ← hK, ← he, ← ha, ← dn_down] at CUT
  obtain ⟨G, hG⟩ : ∃ G : Nat → Bl.Best → Bl.Best, G = fun (q : Nat) s => Bl.sea ba (fun j => (A j).mi) (fun j => (A j).pr) lo hi d (left - q) (ys ++ [(q : Int)]) s := ⟨_, rfl⟩
  rw [← hG] at CUT
  have DM := fun j : Int => Bl.dot_snoc (fun j => (A j).mi) j 0 ys
  have DC := fun j : Int => Bl.dot_snoc (fun j => (A j).pr) j 0 ys
  rw [Nat.zero_add, hy] at DM DC
  have IH := Lib.hid (show ∀ (q : Nat), (q : Int) ≤ left → ∀ (s : Bl.Best) (W' : World) (v : Value) (L : Int) (O' : Nat → Int), XM b1 b2 b3 b4 b5 b6 b7 b8 b9 b10 b11 (some xa) n c b l h f W' v L O' → BestIs W' b11 n v L s → Fm (XMod b7 b8 b9) W W' → (∀ j, j < k → O' j = O j) → O' k = q →
      Calls Try.prog 13 #[.int .i64 ((k : Int) + 1), .int .i64 (left - q), .int .i64 (Bl.dot (fun j => (A j).mi) 0 ys + q * (A k).mi), .int .i64 (Bl.dot (fun j => (A j).pr) 0 ys + q * (A k).pr), .pointer (some ⟨b1, 0, none⟩), .pointer (some ⟨b3, 0, none⟩), .pointer (some ⟨b2, 0, none⟩), .pointer (some ⟨b4, 0, none⟩), .pointer (some ⟨b7, 0, none⟩), .pointer (some ⟨b8, 0, none⟩), .pointer (some ⟨b10, 0, none⟩), .pointer (some ⟨b6, 0, none⟩), .pointer (some ⟨b11, 0, none⟩)] W' (XQ b1 b2 b3 b4 b5 b6 b7 b8 b9 b10 b11 (some xa) n c b l h f (k + 1) (G q s) O' W') from fun q hq s W' v L O' hx hbi hfm h1 h2 => by
    have := ih (left - q) (ys ++ [(q : Int)]) s W' v L O' (by simp; omega) (by omega) (by omega) hx hbi (pa.fm hfm (fun x e => xl.mod (.inl (hp x e (by omega))))) (fun j hj => by
      unfold nm
      by_cases c : j = k
      · subst c; rw [h2, List.getD_eq_getElem?_getD, List.getElem?_append_right (by omega)]; simp [hy]
      · rw [h1 j (by omega), hO j (by omega)]
        unfold nm
        rw [List.getD_eq_getElem?_getD, List.getD_eq_getElem?_getD, List.getElem?_append_left (by omega)]) (by
      have m1 := Int.mul_nonneg (show (0 : Int) ≤ q by omega) OK.2.2.1.1
      have m2 := Int.mul_le_mul_of_nonneg_left OK.2.2.1.2 (show (0 : Int) ≤ q by omega)
      rw [DM]
      omega) (by
      have m1 := Int.mul_nonneg (show (0 : Int) ≤ q by omega) OK.2.1.1
      have m2 := Int.mul_le_mul_of_nonneg_left OK.2.1.2 (show (0 : Int) ≤ q by omega)
      rw [DC]
      omega)
    rw [DM, DC] at this
    rw [hG]
    exact this)
  have WQ := Lib.hid (show ∀ q : Nat, (q : Int) ≤ left → (0 ≤ (q : Int) * (A k).mi ∧ Bl.dot (fun j => (A j).mi) 0 ys + q * (A k).mi ≤ 240000) ∧ (0 ≤ (q : Int) * (A k).pr ∧ Bl.dot (fun j => (A j).pr) 0 ys + q * (A k).pr ≤ 393216) from fun q hq => by
    have m1 := Int.mul_nonneg (show (0 : Int) ≤ q by omega) OK.2.2.1.1
    have m2 := Int.mul_le_mul_of_nonneg_left OK.2.2.1.2 (show (0 : Int) ≤ q by omega)
    have m3 := Int.mul_nonneg (show (0 : Int) ≤ q by omega) OK.2.1.1
    have m4 := Int.mul_le_mul_of_nonneg_left OK.2.1.2 (show (0 : Int) ≤ q by omega)
    omega)
  have hM0 := hM.1
  have hC0 := hC.1
  have v00 : 0 ≤ (A k).ba := OK.1.1
  rw [BK] at hK bk0
  have QE := Lib.hid (show ∀ W' v' L' O' s', s' = dn G a (K + 1) s → XM b1 b2 b3 b4 b5 b6 b7 b8 b9 b10 b11 (some xa) n c b l h f W' v' L' O' → BestIs W' b11 n v' L' s' → (∀ j, j < k → O' j = O j) → Fm (XMod b7 b8 b9) W W' → XQ b1 b2 b3 b4 b5 b6 b7 b8 b9 b10 b11 (some xa) n c b l h f k (Bl.sea ba (fun j => (A j).mi) (fun j => (A j).pr) lo hi (d + 1) left ys s) O W (.returned (.tuple #[])) W' from fun W' v' L' O' s' es hx hb' ho hf' => ⟨rfl, v', L', O', hx, by rw [← CUT.out, ← es]; exact hb', ho, hf'⟩)
  have HF := Lib.hid (show f (k + 1) = e from hf.trans he.symm)
  have mn : (if (A k).ba < left then (A k).ba else left) = (K : Int) := by omega
  have mx : (if 0 < left - e then left - e else 0) = (a : Int) := by omega
  have XLh := Lib.hid xl
  have KL := Lib.hid (show (K : Int) ≤ left from by omega)
  have X := Lib.hid x
  have HB := Lib.hid hb
  clear x hb pa hO hM hC ih xl ok hp hba b0 b4k kd hf hy hK he ha hG DM DC CUT OK BK bk0 v00
  generalize XQ b1 b2 b3 b4 b5 b6 b7 b8 b9 b10 b11 (some xa) n c b l h f k (Bl.sea ba (fun j => (A j).mi) (fun j => (A j).pr) lo hi (d + 1) left ys s) O W = Q at *
  generalize Bl.dot (fun j => (A j).mi) 0 ys = M at *
  generalize Bl.dot (fun j => (A j).pr) 0 ys = C at *
  generalize (A k).ba = v0 at *
  generalize (A k).pr = v1 at *
  generalize (A k).mi = v2 at *
  generalize (A k).ve = v3 at *
  generalize (A k).st = v4 at *
  have PT := Lib.hid (paBox W v0 v1 v2 v3 v4)
  have PH := Lib.hid (show (W.alloc (Obj.cells #[Value.int .i64 v0, Value.int .i64 v1, Value.int .i64 v2, Value.int .i64 v3, Value.int .i64 v4] 44)).heap[W.heap.size]? = some (.cells #[Value.int .i64 v0, Value.int .i64 v1, Value.int .i64 v2, Value.int .i64 v3, Value.int .i64 v4] 44 (0, 0)) from by show (W.heap.push _)[W.heap.size]? = _; exact Array.getElem?_push_size)
  have PG := Lib.hid (show ∀ wr : World, wr.heap[W.heap.size]? = some (.cells #[Value.int .i64 v0, Value.int .i64 v1, Value.int .i64 v2, Value.int .i64 v3, Value.int .i64 v4] 44 (0, 0)) → wr.cell? ⟨W.heap.size, 1, none⟩ = some (.int .i64 v1) ∧ wr.cell? ⟨W.heap.size, 2, none⟩ = some (.int .i64 v2) from fun wr e => by constructor <;> simp [World.cell?, e])
  have k1 : (0 : Int) ≤ (k : Int) := by omega
  have k2 : (k : Int) < (n : Int) := by omega
  go_enter Try.func13, Try.ntmps13
  go_upto_region 5 with fail
  have WS := Lib.hid (show W.heap.size < (W.alloc (Obj.cells #[Value.int .i64 v0, Value.int .i64 v1, Value.int .i64 v2, Value.int .i64 v3, Value.int .i64 v4] 44)).heap.size from by show _ < (W.heap.push _).size; rw [Array.size_push]; exact Nat.lt_succ_self _)
  generalize W.alloc (Obj.cells #[Value.int .i64 v0, Value.int .i64 v1, Value.int .i64 v2, Value.int .i64 v3, Value.int .i64 v4] 44) = wa at *
  obtain ⟨p0, -, -, -, -, st⟩ := PT.out
  have F1 := Lib.hid (show Fm (XMod b7 b8 b9) W wa from Fm.call st)
  have X1 := Lib.hid (X.out.call st)
  have HB1 := Lib.hid (HB.out.fm (M := XMod b7 b8 b9) (Fm.call st) (fun g hg => XLh.out.mod (.inr hg)))
  have NQ := Lib.hid (show ¬ XMod b7 b8 b9 W.heap.size from XLh.out.mod (.inr c11))
  clear PT st a0 a1 a2 a3 a4 c1 X HB c11 d2
  generalize W.heap.size = bq at *
  go_wp2_with fail
  clear p0
  go_loopw [19] (fun iv wr => ∃ (q : Nat) (z : Int) (w1 : Value) (L1 : Int) (O1 : Nat → Int) (s1 : Bl.Best), q ≤ K + 1 ∧ iv = .int .i64 z ∧ z = (q : Int) - 1 ∧ Hid (XM b1 b2 b3 b4 b5 b6 b7 b8 b9 b10 b11 (some xa) n c b l h f wr w1 L1 O1) ∧ Hid (BestIs wr b11 n w1 L1 s1) ∧ Hid (∀ j, j < k → O1 j = O j) ∧ Hid (dn G a q s1 = dn G a (K + 1) s) ∧ Hid (Fm (XMod b7 b8 b9) W wr) ∧ Hid (wr.heap[bq]? = some (.cells #[Value.int .i64 v0, Value.int .i64 v1, Value.int .i64 v2, Value.int .i64 v3, Value.int .i64 v4] 44 (0, 0)) ∧ bq < wr.heap.size)) (fun iv _ => (intOf iv + 1).toNat)
  case atStart => exact ⟨K + 1, _, v, L, O, s, Nat.le_refl _, rfl, by omega, X1, HB1, Lib.hid fun _ _ => rfl, Lib.hid rfl, F1, Lib.hid ⟨PH.out, WS.out⟩⟩
  case round =>
    clear X1 HB1 F1 PH WS
    obtain ⟨q, z, w1, L1, O1, s1, hq, rfl, hz, X, HB, O1E, DN, FM, PQ⟩ := hrel
    have c11 := X.out.x11.cell
    have c6 := X.out.x6.cell
    have c5 := X.out.x5.cell (k := k + 1) (by omega)
    rw [HF.out] at c5
    have c10 := X.out.x10.cell
    have wk : IntKind.i64.wrap ((k : Int) + 1) = (k : Int) + 1 := hwI (by omega) (by omega)
    have we : IntKind.i64.wrap (left - e) = left - e := hwI (by omega) (by omega)
    have k3 : (0 : Int) ≤ (k : Int) + 1 := by omega
    have k4 : (k : Int) + 1 < (n : Int) + 1 := by omega
    have kt : ((k : Int) + 1).toNat = k + 1 := by omega
    by_cases t1 : a < q
    · obtain ⟨j, rfl⟩ : ∃ j, q = j + 1 := ⟨q - 1, by omega⟩
      obtain rfl : z = (j : Int) := by omega
      clear hz
      have t2 : decide ((a : Int) ≤ (j : Int)) = true := decide_eq_true (by omega)
      have jl : (j : Int) ≤ left := by have := KL.out; omega
      obtain ⟨⟨y1, y2⟩, y3, y4⟩ := WQ.out j jl
      have ww1 : IntKind.i64.wrap ((j : Int) * v2) = (j : Int) * v2 := hwI (by omega) (by omega)
      have ww2 : IntKind.i64.wrap (M + (j : Int) * v2) = M + (j : Int) * v2 := hwI (by omega) (by omega)
      have ww3 : IntKind.i64.wrap ((j : Int) * v1) = (j : Int) * v1 := hwI (by omega) (by omega)
      have ww4 : IntKind.i64.wrap (C + (j : Int) * v1) = C + (j : Int) * v1 := hwI (by omega) (by omega)
      have ww5 : IntKind.i64.wrap (left - (j : Int)) = left - (j : Int) := hwI (by omega) (by omega)
      have co := X.out.x9.cell (k := k) (by omega)
      have fo := X.out.x9.frozen k
      have X2 := Lib.hid (X.out.setO XLh.out k j)
      have FS := Lib.hid (Fm.set (M := XMod b7 b8 b9) (w := wr) ⟨b9, k, none⟩ (.int .i64 (j : Int)) (.inr (.inr rfl)))
      have HB2 := Lib.hid (HB.out.fm FS.out (fun g hg => XLh.out.mod (.inr hg)))
      have F2 := Lib.hid (FM.out.trans FS.out)
      have PQ2 := Lib.hid (show (wr.setCell ⟨b9, k, none⟩ (.int .i64 (j : Int))).heap[bq]? = some (.cells #[Value.int .i64 v0, Value.int .i64 v1, Value.int .i64 v2, Value.int .i64 v3, Value.int .i64 v4] 44 (0, 0)) ∧ bq < (wr.setCell ⟨b9, k, none⟩ (.int .i64 (j : Int))).heap.size from ⟨by rw [FS.out.block bq PQ.out.2 NQ.out]; exact PQ.out.1, Nat.lt_of_lt_of_le PQ.out.2 FS.out.size⟩)
      have OE := Lib.hid (show (∀ i, i < k → upd O1 k j i = O i) ∧ upd O1 k j k = j from ⟨fun i hi => by unfold upd; rw [if_neg (by omega)]; exact O1E.out i hi, if_pos rfl⟩)
      clear X FS HB FM PQ O1E WQ
      go_upto_region 9 with fail
      clear c11 c6 c5 c10 co fo
      generalize wr.setCell ⟨b9, k, none⟩ (.int .i64 (j : Int)) = wb at *
      have CI := Lib.hid (IH.out j jl s1 wb w1 L1 _ X2.out HB2.out F2.out OE.out.1 OE.out.2)
      have c11 := X2.out.x11.cell
      obtain ⟨q1, q2⟩ := PG.out wb PQ2.out.1
      clear y1 y2 y3 y4
      go_wp2_with fail
      refine CI.out.mono ?_
      rintro e1 wx ⟨rfl, v3', L3, O3, hx3, hb3, ho3, hf3⟩
      have X3 := Lib.hid hx3
      have HB3 := Lib.hid hb3
      have O3E := Lib.hid (show ∀ i, i < k → O3 i = O i from fun i hi => by rw [ho3 i (by omega)]; exact OE.out.1 i hi)
      have DN3 := Lib.hid (show dn G a j (G j s1) = dn G a (K + 1) s from by rw [← DN.out]; exact (if_pos (by omega)).symm)
      have F3 := Lib.hid (F2.out.trans hf3)
      have PQ3 := Lib.hid (show wx.heap[bq]? = some (.cells #[Value.int .i64 v0, Value.int .i64 v1, Value.int .i64 v2, Value.int .i64 v3, Value.int .i64 v4] 44 (0, 0)) ∧ bq < wx.heap.size from ⟨by rw [hf3.block bq PQ2.out.2 NQ.out]; exact PQ2.out.1, Nat.lt_of_lt_of_le PQ2.out.2 hf3.size⟩)
      clear hx3 hb3 ho3 hf3 CI c11 q1 q2 X2 HB2 F2 PQ2 OE DN
      go_wp2_with fail
      go_roundw
      case rel => exact ⟨j, _, v3', L3, O3, G j s1, by omega, rfl, by go_num, X3, HB3, O3E, DN3, F3, PQ3⟩
      case measure => simp only [intOf]; omega
    · have t2 : decide ((a : Int) ≤ z) = false := decide_eq_false (by omega)
      have FF := Lib.hid (QE.out wr w1 L1 O1 s1 (by rw [← DN.out]; exact (dn_stop (by omega) s1).symm) X.out HB.out O1E.out FM.out)
      clear X HB O1E DN FM PQ QE IH WQ
      go_wp2_with fail
      go_end0
      exact FF.out

theorem bsea_any {b1 b2 b3 b4 b5 b6 b7 b8 b9 b10 b11 : Nat} (xl : XL b1 b2 b3 b4 b5 b6 b7 b8 b9 b10 b11) {p : Option Addr} {n c : Nat} {b l h : Int} {f : Nat → Int} (n6 : n ≤ 6) (bb : 1 ≤ b ∧ b ≤ 24) (bl : 0 ≤ l ∧ l ≤ 10000) (bh : 0 ≤ h ∧ h ≤ 10000) (A : Nat → Pa) (ok : ∀ i, i < n → paOk (A i)) (hp : ∀ x, p = some x → 0 < n → x.block < b1) (ba : Nat → Int) (hba : ∀ j, j < n → ba j = (A j).ba) (b0 : ∀ j, 0 ≤ ba j) (b4k : ∀ j, ba j ≤ 4096) (hf : ∀ i d, i + d = n → f i = Bl.beh ba n d) :
    ∀ (d k : Nat), k + d = n → ∀ (left : Int) (ys : List Int) (s : Bl.Best) (W : World) (v : Value) (L : Int) (O : Nat → Int), ys.length = k → 0 ≤ left → left ≤ 24 → (left = 0 → 1 ≤ n) → XM b1 b2 b3 b4 b5 b6 b7 b8 b9 b10 b11 p n c b l h f W v L O → BestIs W b11 n v L s → PaR W p n A → (∀ j, j < k → O j = nm ys j) →
      (0 ≤ Bl.dot (fun j => (A j).mi) 0 ys ∧ Bl.dot (fun j => (A j).mi) 0 ys + left * 10000 ≤ 240000) → (0 ≤ Bl.dot (fun j => (A j).pr) 0 ys ∧ Bl.dot (fun j => (A j).pr) 0 ys + left * 16384 ≤ 393216) →
      Calls Try.prog 13 #[.int .i64 k, .int .i64 left, .int .i64 (Bl.dot (fun j => (A j).mi) 0 ys), .int .i64 (Bl.dot (fun j => (A j).pr) 0 ys), .pointer (some ⟨b1, 0, none⟩), .pointer (some ⟨b3, 0, none⟩), .pointer (some ⟨b2, 0, none⟩), .pointer (some ⟨b4, 0, none⟩), .pointer (some ⟨b7, 0, none⟩), .pointer (some ⟨b8, 0, none⟩), .pointer (some ⟨b10, 0, none⟩), .pointer (some ⟨b6, 0, none⟩), .pointer (some ⟨b11, 0, none⟩)] W (XQ b1 b2 b3 b4 b5 b6 b7 b8 b9 b10 b11 p n c b l h f k (Bl.sea ba (fun j => (A j).mi) (fun j => (A j).pr) (l * b) (h * b) d left ys s) O W)
  | 0, k, kd, left, ys, s, W, v, L, O, hy, l0, l24, ln, x, hb, pa, hO, hM, hC => by
    obtain rfl : k = n := by omega
    exact bleaf xl left ln n6 bb bl bh _ _ ys hy s x hb hO
  | d + 1, k, kd, left, ys, s, W, v, L, O, hy, l0, l24, ln, x, hb, pa, hO, hM, hC => by
    refine bstep xl n6 A ok hp ba hba b0 b4k (l * b) (h * b) k d kd (hf _ _ (by omega)) left ys hy l0 l24 s W v L O x hb pa hO hM hC ?_
    intro left' ys' s' W' v' L' O' hy' l0' l24' x' hb' pa' hO' hM' hC'
    have := bsea_any xl n6 bb bl bh A ok hp ba hba b0 b4k hf d (k + 1) (by omega) left' ys' s' W' v' L' O' hy' l0' l24' (fun _ => by omega) x' hb' pa' hO' hM' hC'
    exact this
end Go.Proofs.Ytapffmaihkimkaa
