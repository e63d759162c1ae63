/- Several texts in one: TW1 TW2 TW3 TW4 TW5 TW6 K2F TW7 TW8 TWB TWC TWE TWF I1 I2. -/
import Derived.Test.YtbphmcjjanchlaaP1
import Derived.Test.YtbphmcjjanchlaaK36
import Derived.Test.YtbphmcjjanchlaaK20
import Derived.Test.YtbphmcjjanchlaaK15
import Derived.Test.YtbphmcjjanchlaaK16
import Derived.Test.YtbphmcjjanchlaaK11
import Derived.Test.YtbphmcjjanchlaaB0
import Derived.Deep.AppendLies
import Derived.Orders
import Derived.RegionTactic
import Derived.OrdersHeld
import Derived.StillTail
import Derived.Deep.RegionHeld

/- The reference's lists, the plain part. -/
namespace Go.Proofs.Ytbphmcjjanchlaa
set_option linter.unusedVariables false
set_option linter.unusedSimpArgs false

section
variable {ν : Type}
/-- The reference's Put: what is still appended, of a rest of the list. -/
def putF (k : Int) (v : ν) : List (Int × ν) → Bool → List (Int × ν)
  | [], b => if b then [] else [(k, v)]
  | x :: r, b => (if b = false ∧ k ≤ x.1 then [(k, v)] else []) ++ ((if x.1 = k then [] else [x]) ++ putF k v r (b || decide (k ≤ x.1)))
theorem putF_true (k : Int) (v : ν) : ∀ (L : List (Int × ν)), (∀ x ∈ L, k < x.1) → putF k v L true = L
  | [], _ => rfl
  | x :: r, h => by
    have h1 := h x List.mem_cons_self
    have ih := putF_true k v r fun y hy => h y (List.mem_cons_of_mem _ hy)
    simp only [putF, Bool.true_or, Bool.true_eq_false, false_and, if_false, List.nil_append]
    rw [if_neg (by omega), ih]; rfl
theorem putF_T (k : Int) (v : ν) : ∀ (L : List (Int × ν)), Asc L → PutT L (putF k v L false) k v
  | [], _ => put_nil k v
  | x :: r, h => by
    have h' := asc_cons.1 h
    simp only [putF, Bool.false_or, true_and]
    by_cases c : k ≤ x.1
    · rw [if_pos c, decide_eq_true c]
      by_cases e : x.1 = k
      · rw [if_pos e, putF_true k v r (fun y hy => by have : x.1 < y.1 := h'.1 y hy; omega)]
        obtain ⟨xk, xv⟩ := x
        obtain rfl : xk = k := e
        exact put_eq (l := []) (m := r) (k := xk) (u := xv) (v := v) h
      · rw [if_neg e, putF_true k v r (fun y hy => by have : x.1 < y.1 := h'.1 y hy; omega)]
        exact put_lt (l := []) (m := r) (l' := [(k, v)]) (x := x) h (show k < x.1 by omega) (put_nil k v)
    · rw [if_neg c, decide_eq_false c, if_neg (by omega)]
      exact put_gt (l := []) (m := r) (x := x) h (show x.1 < k by omega) (putF_T k v r h'.2)
theorem putF_length (k : Int) (v : ν) : ∀ (L : List (Int × ν)) (b : Bool), (putF k v L b).length ≤ L.length + 1
  | [], b => by simp only [putF]; split <;> simp
  | x :: r, b => by
    have ih := putF_length k v r (b || decide (k ≤ x.1))
    simp only [putF, List.length_append, List.length_cons]
    by_cases c : b = false ∧ k ≤ x.1
    · rw [if_pos c]
      have ih2 := putF_len2 k v r
      rw [c.1, decide_eq_true c.2] at *
      simp only [Bool.false_or] at *
      split <;> simp <;> omega
    · rw [if_neg c]; split <;> simp <;> omega
where
  putF_len2 (k : Int) (v : ν) : ∀ (L : List (Int × ν)), (putF k v L true).length ≤ L.length
    | [] => by simp [putF]
    | x :: r => by
      have ih := putF_len2 k v r
      simp only [putF, Bool.true_or, Bool.true_eq_false, false_and, if_false, List.nil_append, List.length_append, List.length_cons]
      split <;> simp <;> omega

/-- Filters by the key. -/
def filL (p : Int → Bool) (L : List (Int × ν)) : List (Int × ν) := L.filter fun x => p x.1
theorem filL_asc {p : Int → Bool} {L : List (Int × ν)} (h : Asc L) : Asc (filL p L) := List.Pairwise.filter _ h
theorem filL_val (p : Int → Bool) (q : Int) : ∀ (L : List (Int × ν)), val (filL p L) q = if p q then val L q else none
  | [] => by simp [filL, val_nil]
  | x :: r => by
    have ih := filL_val p q r
    unfold filL at ih ⊢
    rw [List.filter_cons]
    by_cases c : p x.1 = true
    · rw [if_pos c, val_cons, val_cons, ih]
      by_cases e : x.1 = q
      · rw [if_pos e, if_pos e, ← e, if_pos c]
      · rw [if_neg e, if_neg e]
    · rw [if_neg c, ih, val_cons]
      by_cases e : x.1 = q
      · rw [if_pos e, ← e, if_neg c, if_neg c]
      · rw [if_neg e]
theorem filL_length (p : Int → Bool) (L : List (Int × ν)) : (filL p L).length ≤ L.length := List.length_filter_le _ _
theorem filL_snoc (p : Int → Bool) (L : List (Int × ν)) (x : Int × ν) : filL p (L ++ [x]) = filL p L ++ if p x.1 then [x] else [] := by
  unfold filL; rw [List.filter_append]; by_cases c : p x.1 = true <;> simp [c]
theorem del_fil {L : List (Int × ν)} (k : Int) (h : Asc L) : DelT L (filL (fun q => decide (q ≠ k)) L) k :=
  ⟨filL_asc h, fun q => by rw [filL_val]; by_cases e : q = k <;> simp [e]⟩
theorem lo_fil {L : List (Int × ν)} (k : Int) (h : Asc L) : LoT L (filL (fun q => decide (q < k)) L) k :=
  ⟨filL_asc h, fun q => by rw [filL_val]; simp [KO.lt]⟩
theorem hi_fil {L : List (Int × ν)} (k : Int) (h : Asc L) : HiT L (filL (fun q => decide (k < q)) L) k :=
  ⟨filL_asc h, fun q => by rw [filL_val]; simp [KO.lt]⟩
theorem rng_fil {L : List (Int × ν)} (a b : Int) (h : Asc L) : RngT L (filL (fun q => decide (a ≤ q ∧ q < b)) L) a b :=
  ⟨filL_asc h, fun q => by rw [filL_val]; simp [KO.lt]⟩
theorem int_fil {A B : List (Int × ν)} (h : Asc B) : IntT A B (filL (fun q => (val A q).isSome) B) :=
  ⟨filL_asc h, fun q => by rw [filL_val]; cases e : val A q <;> simp⟩
theorem sub_fil {A B : List (Int × ν)} (h : Asc A) : SubT A B (filL (fun q => (val B q).isNone) A) :=
  ⟨filL_asc h, fun q => by rw [filL_val]; cases e : val B q <;> simp⟩
/-- The reference's Union. -/
def uniF : List (Int × ν) → List (Int × ν) → List (Int × ν)
  | A, [] => A
  | A, x :: B => uniF (putF x.1 x.2 A false) B
theorem uniF_T : ∀ (B A : List (Int × ν)), Asc A → Asc B → UniT A B (uniF A B)
  | [], A, h, _ => uni_nil2 h
  | x :: B, A, h, g => by
    have g' := asc_cons.1 g
    have p := putF_T x.1 x.2 A h
    have ih := uniF_T B _ p.asc g'.2
    refine ⟨ih.asc, fun q => ?_⟩
    rw [show uniF A (x :: B) = uniF (putF x.1 x.2 A false) B from rfl, ih.v, p.v, val_cons]
    by_cases e : q = x.1
    · rw [if_pos e, if_pos e.symm, val_none.2 (fun y hy => e ▸ (KO.ne (g'.1 y hy)).symm)]; rfl
    · rw [if_neg e, if_neg (Ne.symm e)]
theorem uniF_take (B A : List (Int × ν)) (i : Nat) (h : i < B.length) : uniF A (B.take (i + 1)) = putF B[i].1 B[i].2 (uniF A (B.take i)) false := by
  induction B generalizing A i with
  | nil => simp at h
  | cons x B ih =>
    cases i with
    | zero => simp [uniF]
    | succ i =>
      have := ih (putF x.1 x.2 A false) i (by simpa using h)
      simpa [uniF] using this

/-- A strictly ascending list has no more rows than there are keys to choose from. -/
theorem asc_card : ∀ (S : List Int) (L : List (Int × ν)), Asc L → (∀ x ∈ L, x.1 ∈ S) → L.length ≤ S.length
  | S, [], _, _ => Nat.zero_le _
  | S, x :: L, h, g => by
    have h' := asc_cons.1 h
    have hx := g x List.mem_cons_self
    have ih := asc_card (S.erase x.1) L h'.2 fun y hy => (List.mem_erase_of_ne (KO.ne (h'.1 y hy)).symm).2 (g y (List.mem_cons_of_mem _ hy))
    rw [List.length_erase_of_mem hx] at ih
    have : 0 < S.length := List.length_pos_of_mem hx
    simp only [List.length_cons]; omega
theorem val_key {L : List (Int × ν)} {q : Int} (h : val L q ≠ none) : ∃ x ∈ L, x.1 = q := val_in.1 h
theorem key_val {L : List (Int × ν)} (h : Asc L) {x : Int × ν} (hx : x ∈ L) : val L x.1 ≠ none := by rw [val_some h hx]; simp

/-- The same by other values. -/
def mapV {μ : Type} (f : ν → μ) (L : List (Int × ν)) : List (Int × μ) := L.map fun x => (x.1, f x.2)
theorem mapV_val {μ : Type} (f : ν → μ) (q : Int) : ∀ (L : List (Int × ν)), val (mapV f L) q = (val L q).map f
  | [] => rfl
  | x :: r => by
    have ih := mapV_val f q r
    unfold mapV at *
    rw [List.map_cons, val_cons, val_cons, ih]
    by_cases e : x.1 = q <;> simp [e]
theorem mapV_asc {μ : Type} {f : ν → μ} {L : List (Int × ν)} (h : Asc L) : Asc (mapV f L) := List.pairwise_map.2 (h.imp fun h => h)
end
end Go.Proofs.Ytbphmcjjanchlaa

/- Lists of rows in memory; the reference's Find and Rank. -/
namespace Go.Proofs.Ytbphmcjjanchlaa
open Go.RowKit
set_option linter.unusedVariables false
set_option linter.unusedSimpArgs false

def kd (L : List (Int × Int)) (i : Nat) : Int := (L[i]?.getD (0, 0)).1
def vd (L : List (Int × Int)) (i : Nat) : Int := (L[i]?.getD (0, 0)).2
theorem kvd {L : List (Int × Int)} {i : Nat} (h : i < L.length) : (kd L i, vd L i) = L[i] := by simp [kd, vd, h]
/-- The slice, wherever it lies, reads as this list, two cells a row. -/
def RowsR (w : World) (p : Option Addr) (L : List (Int × Int)) : Prop := ∀ i, i < L.length → ∃ x : Addr, p = some x ∧ x.block < w.heap.size ∧ w.cell? (x.add (i * 2)) = some (.int .i64 (kd L i)) ∧ w.cell? ⟨(x.add (i * 2)).block, (x.add (i * 2)).off + 1, none⟩ = some (.int .i64 (vd L i))
theorem adb (x : Addr) (i : Nat) : (x.add i).block = x.block := by unfold Addr.add; split <;> rfl
theorem RowsR.below {w w' : World} {p : Option Addr} {L : List (Int × Int)} (r : RowsR w p L) (hb : Below w.heap.size w w') : RowsR w' p L := fun i h => by
  obtain ⟨x, e, k, c, d⟩ := r i h
  exact ⟨x, e, Nat.lt_of_lt_of_le k hb.size, by rw [hb.cell (p := x.add (i * 2)) (by rw [adb]; exact k)]; exact c, by rw [hb.cell (p := ⟨(x.add (i * 2)).block, (x.add (i * 2)).off + 1, none⟩) (by rw [adb]; exact k)]; exact d⟩
theorem val_take_succ {L : List (Int × Int)} {k : Int} {i : Nat} (h : i < L.length) : val (L.take (i + 1)) k = (val (L.take i) k).or (if kd L i = k then some (vd L i) else none) := by
  rw [List.take_succ_eq_append_getElem h, val_append, val_cons, val_nil, ← kvd h]
/-- What Find answers. -/
def FindQ (L : List (Int × Int)) (k x : Int) : Prop := (val L k = none ∧ x = -1) ∨ ∃ i : Nat, i < L.length ∧ x = i ∧ kd L i = k ∧ val L k = some (vd L i)
theorem find_here {L : List (Int × Int)} {k : Int} {i : Nat} (h : i < L.length) (n : val (L.take i) k = none) (e : kd L i = k) : FindQ L k i :=
  .inr ⟨i, h, rfl, e, by
    have e2 : val (L.take (i + 1) ++ L.drop (i + 1)) k = some (vd L i) := by rw [val_append, val_take_succ h, n, if_pos e]; rfl
    rwa [List.take_append_drop] at e2⟩

set_option maxRecDepth 100000 in
theorem Find_any (p : Option Addr) (c : Nat) (L : List (Int × Int)) (k : Int) (w : World) (r : RowsR w p L) (ln : L.length ≤ 1000000) :
    Calls Try.prog 55 #[.slice p L.length c, .int .i64 k] w fun e w' => (∃ x, e = .returned (.int .i64 x) ∧ FindQ L k x) ∧ ∃ n, w' = w.drewN n := by
  have R := Lib.hid r
  obtain ⟨x, hx⟩ : ∃ x, x = L.length := ⟨_, rfl⟩
  rw [← hx] at ln ⊢
  have HX := Lib.hid hx
  clear hx r
  go_enter Try.func55, Try.ntmps55
  go_wp2_with fail
  go_loopw [5] (fun kv wr => ∃ i : Nat, i ≤ x ∧ kv = .int .i64 i ∧ Hid (val (L.take i) k = none) ∧ wr = w) (fun kv _ => x - (intOf kv).toNat)
  case atStart => exact ⟨0, Nat.zero_le _, rfl, Lib.hid rfl, rfl⟩
  case round =>
    obtain ⟨i, hi, rfl, hn, rfl⟩ := hrel
    by_cases t1 : i < x
    · have l1 : i < L.length := by have := HX.out; omega
      obtain ⟨xa, rfl, kx, cx, _⟩ := R.out i l1
      have i1 : (0 : Int) ≤ (i : Int) := by omega
      have i2 : (i : Int) < (x : Int) := by omega
      have F1 := Lib.hid (fun e => find_here (k := k) l1 hn.out e)
      have F2 := Lib.hid (fun (e : ¬ kd L i = k) => (by rw [val_take_succ l1, hn.out, if_neg e]; rfl : val (L.take (i + 1)) k = none))
      generalize kd L i = v at *
      by_cases t2 : v = k
      · have F := F1.out t2
        go_wp2_with fail
        go_ret
        exact ⟨⟨_, rfl, F⟩, 0, rfl⟩
      · have G := Lib.hid (F2.out t2)
        go_wp2_with fail
        go_roundw
        case rel => exact ⟨i + 1, by omega, by go_num, G, trivial⟩
        case measure => simp [intOf]; omega
    · have F : FindQ L k (-1) := .inl ⟨by have := hn.out; rwa [List.take_of_length_le (by have := HX.out; omega)] at this, rfl⟩
      go_wp2_with fail
      go_ret
      exact ⟨⟨_, rfl, F⟩, 0, rfl⟩

theorem rnk_take_succ {L : List (Int × Int)} {k : Int} {i : Nat} (h : i < L.length) : rnk (L.take (i + 1)) k = rnk (L.take i) k + if kd L i < k then 1 else 0 := by
  rw [List.take_succ_eq_append_getElem h, ← kvd h]
  unfold rnk
  rw [List.countP_append, List.countP_cons, List.countP_nil]
  by_cases e : kd L i < k <;> simp [KO.lt, e]

set_option maxRecDepth 100000 in
theorem rRank_any (p : Option Addr) (c : Nat) (L : List (Int × Int)) (k : Int) (w : World) (r : RowsR w p L) (ln : L.length ≤ 1000000) :
    Calls Try.prog 54 #[.slice p L.length c, .int .i64 k] w fun e w' => e = .returned (.int .i64 (rnk L k : Int)) ∧ ∃ n, w' = w.drewN n := by
  have R := Lib.hid r
  obtain ⟨x, hx⟩ : ∃ x, x = L.length := ⟨_, rfl⟩
  rw [← hx] at ln ⊢
  have HX := Lib.hid hx
  clear hx r
  go_enter Try.func54, Try.ntmps54
  go_wp2_with fail
  go_loopw [5, 6] (fun nv kv wr => ∃ i m : Nat, i ≤ x ∧ m ≤ i ∧ nv = .int .i64 m ∧ kv = .int .i64 i ∧ Hid (rnk (L.take i) k = m) ∧ wr = w) (fun _ kv _ => x - (intOf kv).toNat)
  case atStart => exact ⟨0, 0, Nat.zero_le _, Nat.le_refl _, rfl, rfl, Lib.hid rfl, rfl⟩
  case round =>
    obtain ⟨i, m, hi, hm, rfl, rfl, hn, rfl⟩ := hrel
    by_cases t1 : i < x
    · have l1 : i < L.length := by have := HX.out; omega
      obtain ⟨xa, rfl, kx, cx, _⟩ := R.out i l1
      have i1 : (0 : Int) ≤ (i : Int) := by omega
      have i2 : (i : Int) < (x : Int) := by omega
      have F1 := Lib.hid (fun (e : kd L i < k) => (by rw [rnk_take_succ l1, hn.out, if_pos e] : rnk (L.take (i + 1)) k = m + 1))
      have F2 := Lib.hid (fun (e : ¬ kd L i < k) => (by rw [rnk_take_succ l1, hn.out, if_neg e]; rfl : rnk (L.take (i + 1)) k = m))
      generalize kd L i = v at *
      by_cases t2 : v < k
      · have G := Lib.hid (F1.out t2)
        go_wp2_with fail
        go_roundw
        case rel => exact ⟨i + 1, m + 1, by omega, by omega, by go_num, by go_num, G, trivial⟩
        case measure => simp [intOf]; omega
      · have G := Lib.hid (F2.out t2)
        go_wp2_with fail
        go_roundw
        case rel => exact ⟨i + 1, m, by omega, by omega, by go_num, by go_num, G, trivial⟩
        case measure => simp [intOf]; omega
    · have F : (m : Int) = (rnk L k : Int) := by have := hn.out; rw [List.take_of_length_le (by have := HX.out; omega)] at this; omega
      go_wp2_with fail
      go_ret
      exact ⟨ret_i F, 0, rfl⟩
end Go.Proofs.Ytbphmcjjanchlaa

/- The reference's filters: Delete, Below, Above, Range, Intersect, Subtract. -/
namespace Go.Proofs.Ytbphmcjjanchlaa
open Go.RowKit
set_option linter.unusedVariables false
set_option linter.unusedSimpArgs false
open Mii (rowsV rowsV_snoc)

theorem info_row : (Try.prog.info? 39).map (fun i => (i.zero, i.size, i.bytes)) = some (some (.agg #[.int .i64 0, .int .i64 0]), 2, 16) := by kernel_rfl
/-- A list of rows in memory of its own. -/
def RowsO (w : World) (M : List (Int × Int)) (W : World) (v : Value) : Prop := W.ownsRow w.heap.size 39 2 v M.length (rowsV M)
def RowsRes (w : World) (M : List (Int × Int)) (e : Ending) (w' : World) : Prop := ∃ v, e = .returned v ∧ RowsO w M w' v ∧ Below w.heap.size w w'
theorem rowsV_length (M : List (Int × Int)) : (rowsV M).length = M.length * 2 := by induction M with
  | nil => rfl
  | cons x M ih => simp [rowsV] at *; omega
theorem cellsRow (w : World) (x y : Int) : ∀ j u, [Value.int .i64 x, .int .i64 y][j]? = some u → (w.alloc (.cells #[.int .i64 x, .int .i64 y] 39)).cell? ((⟨w.heap.size, 0, none⟩ : Addr).add j) = some u := Mii.cellsTwo w _ _ _
theorem rowOnes (x y : Int) : ∀ u ∈ [Value.int .i64 x, .int .i64 y], u.oneCell' = true := by intro u hu; simp at hu; rcases hu with rfl | rfl <;> rfl
/-- What the append law says, put together. -/
theorem RowsO.snoc {w W w1 : World} {M : List (Int × Int)} {v v' : Value} {x y : Int} {tmp : Obj} (bel : Below w.heap.size w W) (h : RowsO w M W v) (hown' : w1.ownsRow w.heap.size 39 2 v' (M.length + 1) (rowsV M ++ [.int .i64 x, .int .i64 y])) (hg : (W.alloc tmp).grownBy w1 v.ownBlock) :
    RowsO w (M ++ [(x, y)]) w1 v' ∧ Below w.heap.size w w1 := by
  refine ⟨by unfold RowsO; rw [rowsV_snoc]; simpa using hown', (bel.alloc bel.size tmp).grown hg (by have := bel.size; simp; omega) fun k ek => ?_⟩
  exact (World.ownsRow.lt h k ek).1
theorem filL_take_succ {p : Int → Bool} {L : List (Int × Int)} {i : Nat} (h : i < L.length) : filL p (L.take (i + 1)) = filL p (L.take i) ++ if p (kd L i) then [(kd L i, vd L i)] else [] := by
  rw [List.take_succ_eq_append_getElem h, filL_snoc, ← kvd h]
def pNe (k q : Int) : Bool := decide (q ≠ k)
def pLt (k q : Int) : Bool := decide (q < k)
def pGt (k q : Int) : Bool := decide (k < q)
def pRng (a b q : Int) : Bool := decide (a ≤ q ∧ q < b)
def pIn (A : List (Int × Int)) (q : Int) : Bool := (val A q).isSome
def pOut (A : List (Int × Int)) (q : Int) : Bool := (val A q).isNone
theorem fil_len {p : Int → Bool} {L : List (Int × Int)} (i : Nat) : (filL p (L.take i)).length ≤ i := Nat.le_trans (filL_length _ _) (by simp; omega)

set_option maxRecDepth 100000 in
set_option maxHeartbeats 2000000 in
theorem rDelete_any (p : Option Addr) (c : Nat) (L : List (Int × Int)) (k : Int) (w : World) (r : RowsR w p L)  (ln : L.length ≤ 1000000) :
    Calls Try.prog 80 #[.slice p L.length c, .int .i64 k] w (RowsRes w (filL (pNe k) L)) := by
  obtain ⟨i0, hi, hz0, hz1, hz2⟩ := info_parts info_row
  have R := Lib.hid r
  obtain ⟨x, hx⟩ : ∃ x, x = L.length := ⟨_, rfl⟩
  rw [← hx] at ln ⊢
  have HX := Lib.hid hx
  clear hx r
  go_enter Try.func80, Try.ntmps80
  go_wp2_with fail
  go_loopw [5, 6] (fun ov kv wr => ∃ (i m : Nat) (M : List (Int × Int)), i ≤ x ∧ m ≤ i ∧ kv = .int .i64 i ∧ Hid (M = filL (pNe k) (L.take i)) ∧ Hid (m = M.length) ∧ wr.ownsRow w.heap.size 39 2 ov m (rowsV M) ∧ Below w.heap.size w wr) (fun _ kv _ => x - (intOf kv).toNat)
  case atStart => exact ⟨0, 0, [], Nat.zero_le _, Nat.le_refl _, rfl, Lib.hid rfl, Lib.hid rfl, World.ownsRow_nil _ _ _ _, Below.refl _ _⟩
  case round =>
    obtain ⟨i, m, M, hi', hm, rfl, hM, hl, hown, hbel⟩ := hrel
    by_cases t1 : i < x
    · have l1 : i < L.length := by have := HX.out; omega
      obtain ⟨xa, rfl, kx, cx0, dx0⟩ := R.out i l1
      have cx : wr.cell? (xa.add (i * 2)) = some (.int .i64 (kd L i)) := (hbel.cell (by rw [adb]; exact kx)).trans cx0
      have dx : wr.cell? ⟨(xa.add (i * 2)).block, (xa.add (i * 2)).off + 1, none⟩ = some (.int .i64 (vd L i)) := (hbel.cell (p := ⟨(xa.add (i * 2)).block, (xa.add (i * 2)).off + 1, none⟩) (by rw [adb]; exact kx)).trans dx0
      have i1 : (0 : Int) ≤ (i : Int) := by omega
      have i2 : (i : Int) < (x : Int) := by omega
      have F := Lib.hid (fun b (e : (pNe k) (kd L i) = b) => (by rw [filL_take_succ l1, e, ← hM.out] : filL (pNe k) (L.take (i + 1)) = M ++ if b = true then [(kd L i, vd L i)] else []))
      have hbs : ∀ o, w.heap.size ≤ (wr.alloc o).heap.size := fun o => by have := hbel.size; simp; omega
      have BL := Lib.hid hbel
      have OW := Lib.hid hown
      have ST := Lib.hid (fun v' w1 (ho : w1.ownsRow w.heap.size 39 2 v' (m + 1) (rowsV M ++ [.int .i64 (kd L i), .int .i64 (vd L i)])) (hg : (wr.alloc (.cells #[.int .i64 (kd L i), .int .i64 (vd L i)] 39)).grownBy w1 (u5).ownBlock) =>
        (by have e := hl.out; subst e; exact RowsO.snoc hbel hown ho hg : RowsO w (M ++ [(kd L i, vd L i)]) w1 v' ∧ Below w.heap.size w w1))
      clear cx0 dx0 hM
      generalize kd L i = v at *
      generalize vd L i = y at *
      by_cases t2 : v = k
      · have G := Lib.hid (show M = _ from by have := F.out false (by unfold pNe; simpa using t2); simpa using this.symm)
        clear F
        clear ST hbs
        go_wp2_with fail
        go_roundw
        case rel => exact ⟨i + 1, m, M, by omega, by omega, by go_num, G, hl, OW.out, BL.out⟩
        case measure => simp [intOf]; omega
      · have G := Lib.hid (show M ++ [(v, y)] = _ from (F.out true (by unfold pNe; simpa using t2)).symm)
        clear F
        go_wp2_with (first
          | (at_builtin; refine wpList_append_own _ rfl _ _ 36 rfl w.heap.size 39 i0 (.agg #[.int .i64 0, .int .i64 0]) 2 16 Try.underlying36 hi hz0 hz1 hz2 rfl (by decide) _ _ _ rfl (hown.alloc _) ⟨wr.heap.size, 0, none⟩ 1 1 [.int .i64 v, .int .i64 y] rfl rfl (cellsRow _ _ _) (rowOnes _ _) (by unfold maxLen; omega) (by omega) (hbs _) ?_))
        intro v' w1 hown' hgrow _
        obtain ⟨RO, RB⟩ := ST.out v' w1 hown' hgrow
        clear hown' hgrow hown hbel ST hbs OW BL
        go_wp2_with fail
        go_roundw
        case rel => exact ⟨i + 1, m + 1, _, by omega, by omega, by go_num, G, Lib.hid (by have := hl.out; simp; omega), (by have := hl.out; unfold RowsO at RO; rw [show (M ++ [(v, y)]).length = m + 1 by simp; omega] at RO; exact RO), RB⟩
        case measure => simp [intOf]; omega
    · have F : M = filL (pNe k) L := by have := hM.out; rwa [List.take_of_length_le (by have := HX.out; omega)] at this
      have LL := hl.out
      subst LL
      subst F
      go_wp2_with fail
      go_ret
      exact ⟨_, rfl, hown, hbel⟩

set_option maxRecDepth 100000 in
set_option maxHeartbeats 2000000 in
theorem rBelow_any (p : Option Addr) (c : Nat) (L : List (Int × Int)) (k : Int) (w : World) (r : RowsR w p L)  (ln : L.length ≤ 1000000) :
    Calls Try.prog 81 #[.slice p L.length c, .int .i64 k] w (RowsRes w (filL (pLt k) L)) := by
  obtain ⟨i0, hi, hz0, hz1, hz2⟩ := info_parts info_row
  have R := Lib.hid r
  obtain ⟨x, hx⟩ : ∃ x, x = L.length := ⟨_, rfl⟩
  rw [← hx] at ln ⊢
  have HX := Lib.hid hx
  clear hx r
  go_enter Try.func81, Try.ntmps81
  go_wp2_with fail
  go_loopw [5, 6] (fun ov kv wr => ∃ (i m : Nat) (M : List (Int × Int)), i ≤ x ∧ m ≤ i ∧ kv = .int .i64 i ∧ Hid (M = filL (pLt k) (L.take i)) ∧ Hid (m = M.length) ∧ wr.ownsRow w.heap.size 39 2 ov m (rowsV M) ∧ Below w.heap.size w wr) (fun _ kv _ => x - (intOf kv).toNat)
  case atStart => exact ⟨0, 0, [], Nat.zero_le _, Nat.le_refl _, rfl, Lib.hid rfl, Lib.hid rfl, World.ownsRow_nil _ _ _ _, Below.refl _ _⟩
  case round =>
    obtain ⟨i, m, M, hi', hm, rfl, hM, hl, hown, hbel⟩ := hrel
    by_cases t1 : i < x
    · have l1 : i < L.length := by have := HX.out; omega
      obtain ⟨xa, rfl, kx, cx0, dx0⟩ := R.out i l1
      have cx : wr.cell? (xa.add (i * 2)) = some (.int .i64 (kd L i)) := (hbel.cell (by rw [adb]; exact kx)).trans cx0
      have dx : wr.cell? ⟨(xa.add (i * 2)).block, (xa.add (i * 2)).off + 1, none⟩ = some (.int .i64 (vd L i)) := (hbel.cell (p := ⟨(xa.add (i * 2)).block, (xa.add (i * 2)).off + 1, none⟩) (by rw [adb]; exact kx)).trans dx0
      have i1 : (0 : Int) ≤ (i : Int) := by omega
      have i2 : (i : Int) < (x : Int) := by omega
      have F := Lib.hid (fun b (e : (pLt k) (kd L i) = b) => (by rw [filL_take_succ l1, e, ← hM.out] : filL (pLt k) (L.take (i + 1)) = M ++ if b = true then [(kd L i, vd L i)] else []))
      have hbs : ∀ o, w.heap.size ≤ (wr.alloc o).heap.size := fun o => by have := hbel.size; simp; omega
      have BL := Lib.hid hbel
      have OW := Lib.hid hown
      have ST := Lib.hid (fun v' w1 (ho : w1.ownsRow w.heap.size 39 2 v' (m + 1) (rowsV M ++ [.int .i64 (kd L i), .int .i64 (vd L i)])) (hg : (wr.alloc (.cells #[.int .i64 (kd L i), .int .i64 (vd L i)] 39)).grownBy w1 (u5).ownBlock) =>
        (by have e := hl.out; subst e; exact RowsO.snoc hbel hown ho hg : RowsO w (M ++ [(kd L i, vd L i)]) w1 v' ∧ Below w.heap.size w w1))
      clear cx0 dx0 hM
      generalize kd L i = v at *
      generalize vd L i = y at *
      by_cases t2 : v < k
      · have G := Lib.hid (show M ++ [(v, y)] = _ from (F.out true (by unfold pLt; simpa using t2)).symm)
        clear F
        go_wp2_with (first
          | (at_builtin; refine wpList_append_own _ rfl _ _ 36 rfl w.heap.size 39 i0 (.agg #[.int .i64 0, .int .i64 0]) 2 16 Try.underlying36 hi hz0 hz1 hz2 rfl (by decide) _ _ _ rfl (hown.alloc _) ⟨wr.heap.size, 0, none⟩ 1 1 [.int .i64 v, .int .i64 y] rfl rfl (cellsRow _ _ _) (rowOnes _ _) (by unfold maxLen; omega) (by omega) (hbs _) ?_))
        intro v' w1 hown' hgrow _
        obtain ⟨RO, RB⟩ := ST.out v' w1 hown' hgrow
        clear hown' hgrow hown hbel ST hbs OW BL
        go_wp2_with fail
        go_roundw
        case rel => exact ⟨i + 1, m + 1, _, by omega, by omega, by go_num, G, Lib.hid (by have := hl.out; simp; omega), (by have := hl.out; unfold RowsO at RO; rw [show (M ++ [(v, y)]).length = m + 1 by simp; omega] at RO; exact RO), RB⟩
        case measure => simp [intOf]; omega
      · have G := Lib.hid (show M = _ from by have := F.out false (by unfold pLt; simpa using t2); simpa using this.symm)
        clear F
        clear ST hbs
        go_wp2_with fail
        go_roundw
        case rel => exact ⟨i + 1, m, M, by omega, by omega, by go_num, G, hl, OW.out, BL.out⟩
        case measure => simp [intOf]; omega
    · have F : M = filL (pLt k) L := by have := hM.out; rwa [List.take_of_length_le (by have := HX.out; omega)] at this
      have LL := hl.out
      subst LL
      subst F
      go_wp2_with fail
      go_ret
      exact ⟨_, rfl, hown, hbel⟩

set_option maxRecDepth 100000 in
set_option maxHeartbeats 2000000 in
theorem rAbove_any (p : Option Addr) (c : Nat) (L : List (Int × Int)) (k : Int) (w : World) (r : RowsR w p L)  (ln : L.length ≤ 1000000) :
    Calls Try.prog 82 #[.slice p L.length c, .int .i64 k] w (RowsRes w (filL (pGt k) L)) := by
  obtain ⟨i0, hi, hz0, hz1, hz2⟩ := info_parts info_row
  have R := Lib.hid r
  obtain ⟨x, hx⟩ : ∃ x, x = L.length := ⟨_, rfl⟩
  rw [← hx] at ln ⊢
  have HX := Lib.hid hx
  clear hx r
  go_enter Try.func82, Try.ntmps82
  go_wp2_with fail
  go_loopw [5, 6] (fun ov kv wr => ∃ (i m : Nat) (M : List (Int × Int)), i ≤ x ∧ m ≤ i ∧ kv = .int .i64 i ∧ Hid (M = filL (pGt k) (L.take i)) ∧ Hid (m = M.length) ∧ wr.ownsRow w.heap.size 39 2 ov m (rowsV M) ∧ Below w.heap.size w wr) (fun _ kv _ => x - (intOf kv).toNat)
  case atStart => exact ⟨0, 0, [], Nat.zero_le _, Nat.le_refl _, rfl, Lib.hid rfl, Lib.hid rfl, World.ownsRow_nil _ _ _ _, Below.refl _ _⟩
  case round =>
    obtain ⟨i, m, M, hi', hm, rfl, hM, hl, hown, hbel⟩ := hrel
    by_cases t1 : i < x
    · have l1 : i < L.length := by have := HX.out; omega
      obtain ⟨xa, rfl, kx, cx0, dx0⟩ := R.out i l1
      have cx : wr.cell? (xa.add (i * 2)) = some (.int .i64 (kd L i)) := (hbel.cell (by rw [adb]; exact kx)).trans cx0
      have dx : wr.cell? ⟨(xa.add (i * 2)).block, (xa.add (i * 2)).off + 1, none⟩ = some (.int .i64 (vd L i)) := (hbel.cell (p := ⟨(xa.add (i * 2)).block, (xa.add (i * 2)).off + 1, none⟩) (by rw [adb]; exact kx)).trans dx0
      have i1 : (0 : Int) ≤ (i : Int) := by omega
      have i2 : (i : Int) < (x : Int) := by omega
      have F := Lib.hid (fun b (e : (pGt k) (kd L i) = b) => (by rw [filL_take_succ l1, e, ← hM.out] : filL (pGt k) (L.take (i + 1)) = M ++ if b = true then [(kd L i, vd L i)] else []))
      have hbs : ∀ o, w.heap.size ≤ (wr.alloc o).heap.size := fun o => by have := hbel.size; simp; omega
      have BL := Lib.hid hbel
      have OW := Lib.hid hown
      have ST := Lib.hid (fun v' w1 (ho : w1.ownsRow w.heap.size 39 2 v' (m + 1) (rowsV M ++ [.int .i64 (kd L i), .int .i64 (vd L i)])) (hg : (wr.alloc (.cells #[.int .i64 (kd L i), .int .i64 (vd L i)] 39)).grownBy w1 (u5).ownBlock) =>
        (by have e := hl.out; subst e; exact RowsO.snoc hbel hown ho hg : RowsO w (M ++ [(kd L i, vd L i)]) w1 v' ∧ Below w.heap.size w w1))
      clear cx0 dx0 hM
      generalize kd L i = v at *
      generalize vd L i = y at *
      by_cases t2 : k < v
      · have G := Lib.hid (show M ++ [(v, y)] = _ from (F.out true (by unfold pGt; simpa using t2)).symm)
        clear F
        go_wp2_with (first
          | (at_builtin; refine wpList_append_own _ rfl _ _ 36 rfl w.heap.size 39 i0 (.agg #[.int .i64 0, .int .i64 0]) 2 16 Try.underlying36 hi hz0 hz1 hz2 rfl (by decide) _ _ _ rfl (hown.alloc _) ⟨wr.heap.size, 0, none⟩ 1 1 [.int .i64 v, .int .i64 y] rfl rfl (cellsRow _ _ _) (rowOnes _ _) (by unfold maxLen; omega) (by omega) (hbs _) ?_))
        intro v' w1 hown' hgrow _
        obtain ⟨RO, RB⟩ := ST.out v' w1 hown' hgrow
        clear hown' hgrow hown hbel ST hbs OW BL
        go_wp2_with fail
        go_roundw
        case rel => exact ⟨i + 1, m + 1, _, by omega, by omega, by go_num, G, Lib.hid (by have := hl.out; simp; omega), (by have := hl.out; unfold RowsO at RO; rw [show (M ++ [(v, y)]).length = m + 1 by simp; omega] at RO; exact RO), RB⟩
        case measure => simp [intOf]; omega
      · have G := Lib.hid (show M = _ from by have := F.out false (by unfold pGt; simpa using t2); simpa using this.symm)
        clear F
        clear ST hbs
        go_wp2_with fail
        go_roundw
        case rel => exact ⟨i + 1, m, M, by omega, by omega, by go_num, G, hl, OW.out, BL.out⟩
        case measure => simp [intOf]; omega
    · have F : M = filL (pGt k) L := by have := hM.out; rwa [List.take_of_length_le (by have := HX.out; omega)] at this
      have LL := hl.out
      subst LL
      subst F
      go_wp2_with fail
      go_ret
      exact ⟨_, rfl, hown, hbel⟩

set_option maxRecDepth 100000 in
set_option maxHeartbeats 2000000 in
theorem rRange_any (p : Option Addr) (c : Nat) (L : List (Int × Int)) (x1 x2 : Int) (w : World) (r : RowsR w p L)  (ln : L.length ≤ 1000000) :
    Calls Try.prog 83 #[.slice p L.length c, .int .i64 x1, .int .i64 x2] w (RowsRes w (filL (pRng x1 x2) L)) := by
  obtain ⟨i0, hi, hz0, hz1, hz2⟩ := info_parts info_row
  have R := Lib.hid r
  obtain ⟨x, hx⟩ : ∃ x, x = L.length := ⟨_, rfl⟩
  rw [← hx] at ln ⊢
  have HX := Lib.hid hx
  clear hx r
  go_enter Try.func83, Try.ntmps83
  go_wp2_with fail
  go_loopw [7, 8] (fun ov kv wr => ∃ (i m : Nat) (M : List (Int × Int)), i ≤ x ∧ m ≤ i ∧ kv = .int .i64 i ∧ Hid (M = filL (pRng x1 x2) (L.take i)) ∧ Hid (m = M.length) ∧ wr.ownsRow w.heap.size 39 2 ov m (rowsV M) ∧ Below w.heap.size w wr) (fun _ kv _ => x - (intOf kv).toNat)
  case atStart => exact ⟨0, 0, [], Nat.zero_le _, Nat.le_refl _, rfl, Lib.hid rfl, Lib.hid rfl, World.ownsRow_nil _ _ _ _, Below.refl _ _⟩
  case round =>
    obtain ⟨i, m, M, hi', hm, rfl, hM, hl, hown, hbel⟩ := hrel
    by_cases t1 : i < x
    · have l1 : i < L.length := by have := HX.out; omega
      obtain ⟨xa, rfl, kx, cx0, dx0⟩ := R.out i l1
      have cx : wr.cell? (xa.add (i * 2)) = some (.int .i64 (kd L i)) := (hbel.cell (by rw [adb]; exact kx)).trans cx0
      have dx : wr.cell? ⟨(xa.add (i * 2)).block, (xa.add (i * 2)).off + 1, none⟩ = some (.int .i64 (vd L i)) := (hbel.cell (p := ⟨(xa.add (i * 2)).block, (xa.add (i * 2)).off + 1, none⟩) (by rw [adb]; exact kx)).trans dx0
      have i1 : (0 : Int) ≤ (i : Int) := by omega
      have i2 : (i : Int) < (x : Int) := by omega
      have F := Lib.hid (fun b (e : (pRng x1 x2) (kd L i) = b) => (by rw [filL_take_succ l1, e, ← hM.out] : filL (pRng x1 x2) (L.take (i + 1)) = M ++ if b = true then [(kd L i, vd L i)] else []))
      have hbs : ∀ o, w.heap.size ≤ (wr.alloc o).heap.size := fun o => by have := hbel.size; simp; omega
      have BL := Lib.hid hbel
      have OW := Lib.hid hown
      have ST := Lib.hid (fun v' w1 (ho : w1.ownsRow w.heap.size 39 2 v' (m + 1) (rowsV M ++ [.int .i64 (kd L i), .int .i64 (vd L i)])) (hg : (wr.alloc (.cells #[.int .i64 (kd L i), .int .i64 (vd L i)] 39)).grownBy w1 (u7).ownBlock) =>
        (by have e := hl.out; subst e; exact RowsO.snoc hbel hown ho hg : RowsO w (M ++ [(kd L i, vd L i)]) w1 v' ∧ Below w.heap.size w w1))
      clear cx0 dx0 hM
      generalize kd L i = v at *
      generalize vd L i = y at *
      by_cases t2 : x1 ≤ v
      · by_cases t3 : v < x2
        · have G := Lib.hid (show M ++ [(v, y)] = _ from (F.out true (by unfold pRng; simp; exact ⟨t2, t3⟩)).symm)
          clear F
          go_wp2_with (first
            | (at_builtin; refine wpList_append_own _ rfl _ _ 36 rfl w.heap.size 39 i0 (.agg #[.int .i64 0, .int .i64 0]) 2 16 Try.underlying36 hi hz0 hz1 hz2 rfl (by decide) _ _ _ rfl (hown.alloc _) ⟨wr.heap.size, 0, none⟩ 1 1 [.int .i64 v, .int .i64 y] rfl rfl (cellsRow _ _ _) (rowOnes _ _) (by unfold maxLen; omega) (by omega) (hbs _) ?_))
          intro v' w1 hown' hgrow _
          obtain ⟨RO, RB⟩ := ST.out v' w1 hown' hgrow
          clear hown' hgrow hown hbel ST hbs OW BL
          go_wp2_with fail
          go_roundw
          case rel => exact ⟨i + 1, m + 1, _, by omega, by omega, by go_num, G, Lib.hid (by have := hl.out; simp; omega), (by have := hl.out; unfold RowsO at RO; rw [show (M ++ [(v, y)]).length = m + 1 by simp; omega] at RO; exact RO), RB⟩
          case measure => simp [intOf]; omega
        · have G := Lib.hid (show M = _ from by have := F.out false (by unfold pRng; simp; intro _; omega); simpa using this.symm)
          clear F
          clear ST hbs
          go_wp2_with fail
          go_roundw
          case rel => exact ⟨i + 1, m, M, by omega, by omega, by go_num, G, hl, OW.out, BL.out⟩
          case measure => simp [intOf]; omega
      · have G := Lib.hid (show M = _ from by have := F.out false (by unfold pRng; simp; intro _; omega); simpa using this.symm)
        clear F
        clear ST hbs
        go_wp2_with fail
        go_roundw
        case rel => exact ⟨i + 1, m, M, by omega, by omega, by go_num, G, hl, OW.out, BL.out⟩
        case measure => simp [intOf]; omega
    · have F : M = filL (pRng x1 x2) L := by have := hM.out; rwa [List.take_of_length_le (by have := HX.out; omega)] at this
      have LL := hl.out
      subst LL
      subst F
      go_wp2_with fail
      go_ret
      exact ⟨_, rfl, hown, hbel⟩

theorem heap_drewN (w : World) : ∀ n, (w.drewN n).heap = w.heap
  | 0 => rfl
  | n + 1 => heap_drewN w.drew n
theorem cell_heap {A B : World} (h : A.heap = B.heap) (a : Addr) : A.cell? a = B.cell? a := by simp [World.cell?, h]
theorem ownsRow_heap {A B : World} {b : Nat} {e : TypeId} {s : Nat} {v : Value} {n : Nat} {xs : List Value} (h : A.heap = B.heap) (r : B.ownsRow b e s v n xs) : A.ownsRow b e s v n xs := by unfold World.ownsRow at *; rw [h]; exact r

set_option maxRecDepth 100000 in
set_option maxHeartbeats 2000000 in
theorem rIntersect_any (s : Option Addr) (d : Nat) (A : List (Int × Int)) (p : Option Addr) (c : Nat) (L : List (Int × Int)) (w : World) (r : RowsR w p L) (rs : RowsR w s A) (la : A.length ≤ 1000000) (ln : L.length ≤ 1000000) :
    Calls Try.prog 85 #[.slice s A.length d, .slice p L.length c] w (RowsRes w (filL (pIn A) L)) := by
  obtain ⟨i0, hi, hz0, hz1, hz2⟩ := info_parts info_row
  have R := Lib.hid r
  have S := Lib.hid rs
  clear rs
  obtain ⟨x, hx⟩ : ∃ x, x = L.length := ⟨_, rfl⟩
  rw [← hx] at ln ⊢
  have HX := Lib.hid hx
  clear hx r
  go_enter Try.func85, Try.ntmps85
  go_wp2_with fail
  go_loopw [5, 6] (fun ov kv wr => ∃ (i m : Nat) (M : List (Int × Int)), i ≤ x ∧ m ≤ i ∧ kv = .int .i64 i ∧ Hid (M = filL (pIn A) (L.take i)) ∧ Hid (m = M.length) ∧ wr.ownsRow w.heap.size 39 2 ov m (rowsV M) ∧ Below w.heap.size w wr) (fun _ kv _ => x - (intOf kv).toNat)
  case atStart => exact ⟨0, 0, [], Nat.zero_le _, Nat.le_refl _, rfl, Lib.hid rfl, Lib.hid rfl, World.ownsRow_nil _ _ _ _, Below.refl _ _⟩
  case round =>
    obtain ⟨i, m, M, hi', hm, rfl, hM, hl, hown, hbel⟩ := hrel
    by_cases t1 : i < x
    · have l1 : i < L.length := by have := HX.out; omega
      obtain ⟨xa, rfl, kx, cx0, dx0⟩ := R.out i l1
      have cx : wr.cell? (xa.add (i * 2)) = some (.int .i64 (kd L i)) := (hbel.cell (by rw [adb]; exact kx)).trans cx0
      have dx : wr.cell? ⟨(xa.add (i * 2)).block, (xa.add (i * 2)).off + 1, none⟩ = some (.int .i64 (vd L i)) := (hbel.cell (p := ⟨(xa.add (i * 2)).block, (xa.add (i * 2)).off + 1, none⟩) (by rw [adb]; exact kx)).trans dx0
      have i1 : (0 : Int) ≤ (i : Int) := by omega
      have i2 : (i : Int) < (x : Int) := by omega
      have F := Lib.hid (fun b (e : (pIn A) (kd L i) = b) => (by rw [filL_take_succ l1, e, ← hM.out] : filL (pIn A) (L.take (i + 1)) = M ++ if b = true then [(kd L i, vd L i)] else []))
      have hbs : ∀ o, w.heap.size ≤ (wr.alloc o).heap.size := fun o => by have := hbel.size; simp; omega
      have BL := Lib.hid hbel
      have OW := Lib.hid hown
      have ST := Lib.hid (fun v' w1 (ho : w1.ownsRow w.heap.size 39 2 v' (m + 1) (rowsV M ++ [.int .i64 (kd L i), .int .i64 (vd L i)])) (hg : (wr.alloc (.cells #[.int .i64 (kd L i), .int .i64 (vd L i)] 39)).grownBy w1 (u5).ownBlock) =>
        (by have e := hl.out; subst e; exact RowsO.snoc hbel hown ho hg : RowsO w (M ++ [(kd L i, vd L i)]) w1 v' ∧ Below w.heap.size w w1))
      clear cx0 dx0 hM
      have FC := Lib.hid (fun W hW => Find_any s d A (kd L i) W hW la)
      have SR := Lib.hid (S.out.below hbel)
      generalize kd L i = v at *
      generalize vd L i = y at *
      clear ST hbs
      go_wp2_with fail
      refine (FC.out _ SR.out).mono ?_
      rintro e w2 ⟨⟨z, rfl, hz⟩, n, hn⟩
      have hh : w2.heap = wr.heap := by rw [hn, heap_drewN]
      have OW2 := ownsRow_heap hh OW.out
      have BL2 : Below w.heap.size w w2 := by rw [hn]; exact below_drewN BL.out n
      replace cx : w2.cell? (xa.add (i * 2)) = some (.int .i64 v) := by rw [cell_heap hh]; exact cx
      replace dx : w2.cell? ⟨(xa.add (i * 2)).block, (xa.add (i * 2)).off + 1, none⟩ = some (.int .i64 y) := by rw [cell_heap hh]; exact dx
      clear hn hh OW BL hown hbel FC SR
      rcases hz with ⟨hv, rfl⟩ | ⟨j, hj, rfl, -, hv⟩
      · have G := Lib.hid (show M = _ from by have := F.out false (by unfold pIn; simp [hv]); simpa using this.symm)
        clear F
        go_wp2_with fail
        go_roundw
        case rel => exact ⟨i + 1, m, M, by omega, by omega, by go_num, G, hl, OW2, BL2⟩
        case measure => simp [intOf]; omega
      · have t3 : (0 : Int) ≤ (j : Int) := by omega
        have G := Lib.hid (show M ++ [(v, y)] = _ from (F.out true (by unfold pIn; simp [hv])).symm)
        clear F
        go_wp2_with (first
          | (at_builtin; refine wpList_append_own _ rfl _ _ 36 rfl w.heap.size 39 i0 (.agg #[.int .i64 0, .int .i64 0]) 2 16 Try.underlying36 hi hz0 hz1 hz2 rfl (by decide) _ _ _ rfl (OW2.alloc _) ⟨w2.heap.size, 0, none⟩ 1 1 [.int .i64 v, .int .i64 y] rfl rfl (cellsRow _ _ _) (rowOnes _ _) (by unfold maxLen; omega) (by omega) (by have := BL2.size; simp; omega) ?_))
        intro v' w1 hown' hgrow _
        obtain ⟨RO, RB⟩ := RowsO.snoc BL2 (show RowsO w M w2 _ from by have e := hl.out; subst e; exact OW2) (by have e := hl.out; subst e; exact hown') hgrow
        clear hown' hgrow OW2 BL2
        go_wp2_with fail
        go_roundw
        case rel => exact ⟨i + 1, m + 1, _, by omega, by omega, by go_num, G, Lib.hid (by have := hl.out; simp; omega), (by have := hl.out; unfold RowsO at RO; rw [show (M ++ [(v, y)]).length = m + 1 by simp; omega] at RO; exact RO), RB⟩
        case measure => simp [intOf]; omega
    · have F : M = filL (pIn A) L := by have := hM.out; rwa [List.take_of_length_le (by have := HX.out; omega)] at this
      have LL := hl.out
      subst LL
      subst F
      go_wp2_with fail
      go_ret
      exact ⟨_, rfl, hown, hbel⟩

set_option maxRecDepth 100000 in
set_option maxHeartbeats 2000000 in
theorem rSubtract_any (s : Option Addr) (d : Nat) (A : List (Int × Int)) (p : Option Addr) (c : Nat) (L : List (Int × Int)) (w : World) (r : RowsR w p L) (rs : RowsR w s A) (la : A.length ≤ 1000000) (ln : L.length ≤ 1000000) :
    Calls Try.prog 86 #[.slice p L.length c, .slice s A.length d] w (RowsRes w (filL (pOut A) L)) := by
  obtain ⟨i0, hi, hz0, hz1, hz2⟩ := info_parts info_row
  have R := Lib.hid r
  have S := Lib.hid rs
  clear rs
  obtain ⟨x, hx⟩ : ∃ x, x = L.length := ⟨_, rfl⟩
  rw [← hx] at ln ⊢
  have HX := Lib.hid hx
  clear hx r
  go_enter Try.func86, Try.ntmps86
  go_wp2_with fail
  go_loopw [5, 6] (fun ov kv wr => ∃ (i m : Nat) (M : List (Int × Int)), i ≤ x ∧ m ≤ i ∧ kv = .int .i64 i ∧ Hid (M = filL (pOut A) (L.take i)) ∧ Hid (m = M.length) ∧ wr.ownsRow w.heap.size 39 2 ov m (rowsV M) ∧ Below w.heap.size w wr) (fun _ kv _ => x - (intOf kv).toNat)
  case atStart => exact ⟨0, 0, [], Nat.zero_le _, Nat.le_refl _, rfl, Lib.hid rfl, Lib.hid rfl, World.ownsRow_nil _ _ _ _, Below.refl _ _⟩
  case round =>
    obtain ⟨i, m, M, hi', hm, rfl, hM, hl, hown, hbel⟩ := hrel
    by_cases t1 : i < x
    · have l1 : i < L.length := by have := HX.out; omega
      obtain ⟨xa, rfl, kx, cx0, dx0⟩ := R.out i l1
      have cx : wr.cell? (xa.add (i * 2)) = some (.int .i64 (kd L i)) := (hbel.cell (by rw [adb]; exact kx)).trans cx0
      have dx : wr.cell? ⟨(xa.add (i * 2)).block, (xa.add (i * 2)).off + 1, none⟩ = some (.int .i64 (vd L i)) := (hbel.cell (p := ⟨(xa.add (i * 2)).block, (xa.add (i * 2)).off + 1, none⟩) (by rw [adb]; exact kx)).trans dx0
      have i1 : (0 : Int) ≤ (i : Int) := by omega
      have i2 : (i : Int) < (x : Int) := by omega
      have F := Lib.hid (fun b (e : (pOut A) (kd L i) = b) => (by rw [filL_take_succ l1, e, ← hM.out] : filL (pOut A) (L.take (i + 1)) = M ++ if b = true then [(kd L i, vd L i)] else []))
      have hbs : ∀ o, w.heap.size ≤ (wr.alloc o).heap.size := fun o => by have := hbel.size; simp; omega
      have BL := Lib.hid hbel
      have OW := Lib.hid hown
      have ST := Lib.hid (fun v' w1 (ho : w1.ownsRow w.heap.size 39 2 v' (m + 1) (rowsV M ++ [.int .i64 (kd L i), .int .i64 (vd L i)])) (hg : (wr.alloc (.cells #[.int .i64 (kd L i), .int .i64 (vd L i)] 39)).grownBy w1 (u5).ownBlock) =>
        (by have e := hl.out; subst e; exact RowsO.snoc hbel hown ho hg : RowsO w (M ++ [(kd L i, vd L i)]) w1 v' ∧ Below w.heap.size w w1))
      clear cx0 dx0 hM
      have FC := Lib.hid (fun W hW => Find_any s d A (kd L i) W hW la)
      have SR := Lib.hid (S.out.below hbel)
      generalize kd L i = v at *
      generalize vd L i = y at *
      clear ST hbs
      go_wp2_with fail
      refine (FC.out _ SR.out).mono ?_
      rintro e w2 ⟨⟨z, rfl, hz⟩, n, hn⟩
      have hh : w2.heap = wr.heap := by rw [hn, heap_drewN]
      have OW2 := ownsRow_heap hh OW.out
      have BL2 : Below w.heap.size w w2 := by rw [hn]; exact below_drewN BL.out n
      replace cx : w2.cell? (xa.add (i * 2)) = some (.int .i64 v) := by rw [cell_heap hh]; exact cx
      replace dx : w2.cell? ⟨(xa.add (i * 2)).block, (xa.add (i * 2)).off + 1, none⟩ = some (.int .i64 y) := by rw [cell_heap hh]; exact dx
      clear hn hh OW BL hown hbel FC SR
      rcases hz with ⟨hv, rfl⟩ | ⟨j, hj, rfl, -, hv⟩
      · have G := Lib.hid (show M ++ [(v, y)] = _ from (F.out true (by unfold pOut; simp [hv])).symm)
        clear F
        go_wp2_with (first
          | (at_builtin; refine wpList_append_own _ rfl _ _ 36 rfl w.heap.size 39 i0 (.agg #[.int .i64 0, .int .i64 0]) 2 16 Try.underlying36 hi hz0 hz1 hz2 rfl (by decide) _ _ _ rfl (OW2.alloc _) ⟨w2.heap.size, 0, none⟩ 1 1 [.int .i64 v, .int .i64 y] rfl rfl (cellsRow _ _ _) (rowOnes _ _) (by unfold maxLen; omega) (by omega) (by have := BL2.size; simp; omega) ?_))
        intro v' w1 hown' hgrow _
        obtain ⟨RO, RB⟩ := RowsO.snoc BL2 (show RowsO w M w2 _ from by have e := hl.out; subst e; exact OW2) (by have e := hl.out; subst e; exact hown') hgrow
        clear hown' hgrow OW2 BL2
        go_wp2_with fail
        go_roundw
        case rel => exact ⟨i + 1, m + 1, _, by omega, by omega, by go_num, G, Lib.hid (by have := hl.out; simp; omega), (by have := hl.out; unfold RowsO at RO; rw [show (M ++ [(v, y)]).length = m + 1 by simp; omega] at RO; exact RO), RB⟩
        case measure => simp [intOf]; omega
      · have t3 : (0 : Int) ≤ (j : Int) := by omega
        have G := Lib.hid (show M = _ from by have := F.out false (by unfold pOut; simp [hv]); simpa using this.symm)
        clear F
        go_wp2_with fail
        go_roundw
        case rel => exact ⟨i + 1, m, M, by omega, by omega, by go_num, G, hl, OW2, BL2⟩
        case measure => simp [intOf]; omega
    · have F : M = filL (pOut A) L := by have := hM.out; rwa [List.take_of_length_le (by have := HX.out; omega)] at this
      have LL := hl.out
      subst LL
      subst F
      go_wp2_with fail
      go_ret
      exact ⟨_, rfl, hown, hbel⟩
end Go.Proofs.Ytbphmcjjanchlaa

/- The reference's Put. -/
namespace Go.Proofs.Ytbphmcjjanchlaa
open Go.RowKit
set_option linter.unusedVariables false
set_option linter.unusedSimpArgs false
open Mii (rowsV rowsV_snoc)

theorem putF_drop (k v : Int) {L : List (Int × Int)} {i : Nat} (h : i < L.length) (b : Bool) : putF k v (L.drop i) b = (if b = false ∧ k ≤ kd L i then [(k, v)] else []) ++ ((if kd L i = k then [] else [(kd L i, vd L i)]) ++ putF k v (L.drop (i + 1)) (b || decide (k ≤ kd L i))) := by
  rw [List.drop_eq_getElem_cons h, ← kvd h]; rfl

set_option maxRecDepth 100000 in
set_option maxHeartbeats 4000000 in
theorem rPut_any (p : Option Addr) (c : Nat) (L : List (Int × Int)) (k v : Int) (w : World) (r : RowsR w p L) (ln : L.length ≤ 1000000) :
    Calls Try.prog 87 #[.slice p L.length c, .int .i64 k, .int .i64 v] w (RowsRes w (putF k v L false)) := by
  obtain ⟨i0, hi, hz0, hz1, hz2⟩ := info_parts info_row
  have R := Lib.hid r
  obtain ⟨x, hx⟩ : ∃ x, x = L.length := ⟨_, rfl⟩
  rw [← hx] at ln ⊢
  have HX := Lib.hid hx
  clear hx r
  go_enter Try.func87, Try.ntmps87
  go_wp2_with fail
  go_loopw [7, 8, 9] (fun ov bv kv wr => ∃ (i m : Nat) (M : List (Int × Int)) (b : Bool), i ≤ x ∧ m ≤ i * 2 ∧ bv = .bool b ∧ kv = .int .i64 i ∧ Hid (M ++ putF k v (L.drop i) b = putF k v L false) ∧ Hid (m = M.length) ∧ wr.ownsRow w.heap.size 39 2 ov m (rowsV M) ∧ Below w.heap.size w wr) (fun _ _ kv _ => x - (intOf kv).toNat)
  case atStart => exact ⟨0, 0, [], false, Nat.zero_le _, Nat.zero_le _, rfl, rfl, Lib.hid rfl, Lib.hid rfl, World.ownsRow_nil _ _ _ _, Below.refl _ _⟩
  case round =>
    obtain ⟨i, m, M, b, hi', hm, rfl, rfl, HM, hl, hown, hbel⟩ := hrel
    by_cases t1 : i < x
    · have l1 : i < L.length := by have := HX.out; omega
      obtain ⟨xa, rfl, kx, cx0, dx0⟩ := R.out i l1
      have cx : wr.cell? (xa.add (i * 2)) = some (.int .i64 (kd L i)) := (hbel.cell (by rw [adb]; exact kx)).trans cx0
      have dx : wr.cell? ⟨(xa.add (i * 2)).block, (xa.add (i * 2)).off + 1, none⟩ = some (.int .i64 (vd L i)) := (hbel.cell (p := ⟨(xa.add (i * 2)).block, (xa.add (i * 2)).off + 1, none⟩) (by rw [adb]; exact kx)).trans dx0
      have i1 : (0 : Int) ≤ (i : Int) := by omega
      have i2 : (i : Int) < (x : Int) := by omega
      have P := Lib.hid (fun b => putF_drop k v l1 b)
      generalize kd L i = q at *
      generalize vd L i = y at *
      cases b with
      | true =>
        have F := Lib.hid (show M ++ putF k v (L.drop i) true = putF k v L false from HM.out)
        clear HM
        by_cases t2 : q = k
        · have G := Lib.hid (show M ++ putF k v (L.drop (i + 1)) true = putF k v L false from by have := F.out; rw [P.out] at this; simpa [t2] using this)
          clear F P
          go_wp2_with fail
          go_roundw
          case rel => exact ⟨i + 1, m, _, true, by omega, by omega, rfl, by go_num, G, hl, hown, hbel⟩
          case measure => simp [intOf]; omega
        · have G := Lib.hid (show (M ++ [(q, y)]) ++ putF k v (L.drop (i + 1)) true = putF k v L false from by have := F.out; rw [P.out] at this; simpa [t2] using this)
          clear F P
          go_wp2_with (first
            | (at_builtin; refine wpList_append_own _ rfl _ _ 36 rfl w.heap.size 39 i0 (.agg #[.int .i64 0, .int .i64 0]) 2 16 Try.underlying36 hi hz0 hz1 hz2 rfl (by decide) _ _ _ rfl (hown.alloc _) ⟨wr.heap.size, 0, none⟩ 1 1 [.int .i64 q, .int .i64 y] rfl rfl (cellsRow _ _ _) (rowOnes _ _) (by unfold maxLen; omega) (by omega) (by have := hbel.size; simp; omega) ?_))
          intro v' w1 hown' hgrow _
          obtain ⟨RO, RB⟩ := RowsO.snoc hbel (show RowsO w M wr _ from by have e := hl.out; subst e; exact hown) (by have e := hl.out; subst e; exact hown') hgrow
          clear hown' hgrow hown hbel
          go_wp2_with fail
          go_roundw
          case rel => exact ⟨i + 1, m + 1, _, true, by omega, by omega, rfl, by go_num, G, Lib.hid (by have := hl.out; simp; omega), (by have := hl.out; unfold RowsO at RO; rw [show (M ++ [(q, y)]).length = m + 1 by simp; omega] at RO; exact RO), RB⟩
          case measure => simp [intOf]; omega
      | false =>
        have F := Lib.hid (show M ++ putF k v (L.drop i) false = putF k v L false from HM.out)
        clear HM
        by_cases t3 : k ≤ q
        · by_cases t2 : q = k
          · have G := Lib.hid (show (M ++ [(k, v)]) ++ putF k v (L.drop (i + 1)) true = putF k v L false from by have := F.out; rw [P.out] at this; simpa [t2, t3] using this)
            clear F P
            go_wp2_with (first
              | (at_builtin; refine wpList_append_own _ rfl _ _ 36 rfl w.heap.size 39 i0 (.agg #[.int .i64 0, .int .i64 0]) 2 16 Try.underlying36 hi hz0 hz1 hz2 rfl (by decide) _ _ _ rfl (hown.alloc _) ⟨wr.heap.size, 0, none⟩ 1 1 [.int .i64 k, .int .i64 v] rfl rfl (cellsRow _ _ _) (rowOnes _ _) (by unfold maxLen; omega) (by omega) (by have := hbel.size; simp; omega) ?_))
            intro v' w1 hown' hgrow _
            obtain ⟨RO, RB⟩ := RowsO.snoc hbel (show RowsO w M wr _ from by have e := hl.out; subst e; exact hown) (by have e := hl.out; subst e; exact hown') hgrow
            clear hown' hgrow hown hbel
            have cx1 : w1.cell? (xa.add (i * 2)) = some (.int .i64 q) := (RB.cell (by rw [adb]; exact kx)).trans cx0
            clear cx dx
            go_wp2_with fail
            go_roundw
            case rel => exact ⟨i + 1, m + 1, _, true, by omega, by omega, rfl, by go_num, G, Lib.hid (by have := hl.out; simp; omega), (by have := hl.out; unfold RowsO at RO; rw [show (M ++ [(k, v)]).length = m + 1 by simp; omega] at RO; exact RO), RB⟩
            case measure => simp [intOf]; omega
          · have G := Lib.hid (show ((M ++ [(k, v)]) ++ [(q, y)]) ++ putF k v (L.drop (i + 1)) true = putF k v L false from by have := F.out; rw [P.out] at this; simpa [t2, t3] using this)
            clear F P
            go_wp2_with (first
              | (at_builtin; refine wpList_append_own _ rfl _ _ 36 rfl w.heap.size 39 i0 (.agg #[.int .i64 0, .int .i64 0]) 2 16 Try.underlying36 hi hz0 hz1 hz2 rfl (by decide) _ _ _ rfl (hown.alloc _) ⟨wr.heap.size, 0, none⟩ 1 1 [.int .i64 k, .int .i64 v] rfl rfl (cellsRow _ _ _) (rowOnes _ _) (by unfold maxLen; omega) (by omega) (by have := hbel.size; simp; omega) ?_))
            intro v' w1 hown' hgrow _
            obtain ⟨RO, RB⟩ := RowsO.snoc hbel (show RowsO w M wr _ from by have e := hl.out; subst e; exact hown) (by have e := hl.out; subst e; exact hown') hgrow
            clear hown' hgrow hown hbel
            have cx1 : w1.cell? (xa.add (i * 2)) = some (.int .i64 q) := (RB.cell (by rw [adb]; exact kx)).trans cx0
            have dx1 : w1.cell? ⟨(xa.add (i * 2)).block, (xa.add (i * 2)).off + 1, none⟩ = some (.int .i64 y) := (RB.cell (p := ⟨(xa.add (i * 2)).block, (xa.add (i * 2)).off + 1, none⟩) (by rw [adb]; exact kx)).trans dx0
            have ROx := RO
            unfold RowsO at ROx
            rw [show (M ++ [(k, v)]).length = m + 1 by have := hl.out; simp; omega] at ROx
            clear cx dx
            go_wp2_with (first
              | (at_builtin; refine wpList_append_own _ rfl _ _ 36 rfl w.heap.size 39 i0 (.agg #[.int .i64 0, .int .i64 0]) 2 16 Try.underlying36 hi hz0 hz1 hz2 rfl (by decide) _ _ _ rfl (ROx.alloc _) ⟨w1.heap.size, 0, none⟩ 1 1 [.int .i64 q, .int .i64 y] rfl rfl (cellsRow _ _ _) (rowOnes _ _) (by unfold maxLen; omega) (by omega) (by have := RB.size; simp; omega) ?_))
            intro v2 w2 hown' hgrow _
            obtain ⟨RO2, RB2⟩ := RowsO.snoc RB (show RowsO w (M ++ [(k, v)]) w1 _ from RO) (by have e := hl.out; subst e; simpa using hown') hgrow
            clear hown' hgrow RO RB
            go_wp2_with fail
            go_roundw
            case rel => exact ⟨i + 1, m + 2, _, true, by omega, by omega, rfl, by go_num, G, Lib.hid (by have := hl.out; simp; omega), (by have := hl.out; unfold RowsO at RO2; rw [show ((M ++ [(k, v)]) ++ [(q, y)]).length = m + 2 by simp; omega] at RO2; exact RO2), RB2⟩
            case measure => simp [intOf]; omega
        · have t2 : ¬ q = k := by omega
          have G := Lib.hid (show (M ++ [(q, y)]) ++ putF k v (L.drop (i + 1)) false = putF k v L false from by have := F.out; rw [P.out] at this; simpa [t2, t3] using this)
          clear F P
          go_wp2_with (first
            | (at_builtin; refine wpList_append_own _ rfl _ _ 36 rfl w.heap.size 39 i0 (.agg #[.int .i64 0, .int .i64 0]) 2 16 Try.underlying36 hi hz0 hz1 hz2 rfl (by decide) _ _ _ rfl (hown.alloc _) ⟨wr.heap.size, 0, none⟩ 1 1 [.int .i64 q, .int .i64 y] rfl rfl (cellsRow _ _ _) (rowOnes _ _) (by unfold maxLen; omega) (by omega) (by have := hbel.size; simp; omega) ?_))
          intro v' w1 hown' hgrow _
          obtain ⟨RO, RB⟩ := RowsO.snoc hbel (show RowsO w M wr _ from by have e := hl.out; subst e; exact hown) (by have e := hl.out; subst e; exact hown') hgrow
          clear hown' hgrow hown hbel
          go_wp2_with fail
          go_roundw
          case rel => exact ⟨i + 1, m + 1, _, false, by omega, by omega, rfl, by go_num, G, Lib.hid (by have := hl.out; simp; omega), (by have := hl.out; unfold RowsO at RO; rw [show (M ++ [(q, y)]).length = m + 1 by simp; omega] at RO; exact RO), RB⟩
          case measure => simp [intOf]; omega
    · have F : M ++ putF k v [] b = putF k v L false := by have := HM.out; rwa [List.drop_of_length_le (by have := HX.out; omega)] at this
      have LL := hl.out
      cases b with
      | true =>
        have F2 : M = putF k v L false := by simpa [putF] using F
        subst LL
        clear F HM
        go_wp2_with fail
        go_ret
        exact ⟨_, rfl, F2 ▸ hown, hbel⟩
      | false =>
        have G : M ++ [(k, v)] = putF k v L false := by simpa [putF] using F
        clear F HM
        go_wp2_with (first
          | (at_builtin; refine wpList_append_own _ rfl _ _ 36 rfl w.heap.size 39 i0 (.agg #[.int .i64 0, .int .i64 0]) 2 16 Try.underlying36 hi hz0 hz1 hz2 rfl (by decide) _ _ _ rfl (hown.alloc _) ⟨wr.heap.size, 0, none⟩ 1 1 [.int .i64 k, .int .i64 v] rfl rfl (cellsRow _ _ _) (rowOnes _ _) (by unfold maxLen; omega) (by omega) (by have := hbel.size; simp; omega) ?_))
        intro v' w1 hown' hgrow _
        obtain ⟨RO, RB⟩ := RowsO.snoc hbel (show RowsO w M wr _ from by have e := hl.out; subst e; exact hown) (by have e := hl.out; subst e; exact hown') hgrow
        clear hown' hgrow hown hbel
        go_wp2_with fail
        go_ret
        exact ⟨_, rfl, G ▸ RO, RB⟩
end Go.Proofs.Ytbphmcjjanchlaa

/- The reference's Union, Joins, Ascending. -/
namespace Go.Proofs.Ytbphmcjjanchlaa
open Go.RowKit
set_option linter.unusedVariables false
set_option linter.unusedSimpArgs false
open Mii (rowsV rowsV_snoc)

theorem rowsV_at : ∀ (M : List (Int × Int)) (i : Nat), i < M.length → (rowsV M)[i * 2]? = some (.int .i64 (kd M i)) ∧ (rowsV M)[i * 2 + 1]? = some (.int .i64 (vd M i))
  | [], i, h => by simp at h
  | x :: M, 0, h => by simp [rowsV, kd, vd]
  | x :: M, i + 1, h => by
    have ih := rowsV_at M i (by simpa using h)
    have e : rowsV (x :: M) = [.int .i64 x.1, .int .i64 x.2] ++ rowsV M := rfl
    rw [e, List.getElem?_append_right (by simp; omega), List.getElem?_append_right (by simp; omega)]
    simp only [List.length_cons, List.length_nil]
    rw [show (i + 1) * 2 - (0 + 1 + 1) = i * 2 by omega, show (i + 1) * 2 + 1 - (0 + 1 + 1) = i * 2 + 1 by omega]
    simpa [kd, vd] using ih
theorem add0 (g i : Nat) : (Addr.mk g 0 none).add i = ⟨g, i, none⟩ := by
  unfold Addr.add
  split
  · next h => subst h; rfl
  · simp
/-- What a call hands back that reads as this list. -/
def ROut (w : World) (M : List (Int × Int)) (e : Ending) (w' : World) : Prop := ∃ p c, e = .returned (.slice p M.length c) ∧ RowsR w' p M ∧ Below w.heap.size w w'
/-- An own row of two-cell rows reads as its list. -/
theorem ownRows {W : World} {b : Nat} {t : TypeId} {v : Value} {M : List (Int × Int)} (h : W.ownsRow b t 2 v M.length (rowsV M)) : ∃ p c, v = .slice p M.length c ∧ RowsR W p M := by
  rcases h.2 with ⟨rfl, h0⟩ | ⟨g, cap, cur, rfl, hb, hg, hn, _, hs, ht⟩
  · exact ⟨none, 0, by rw [h0], fun i hi => by omega⟩
  · refine ⟨_, _, rfl, fun i hi => ⟨⟨g, 0, none⟩, rfl, (Array.getElem?_eq_some_iff.1 hg).1, ?_, ?_⟩⟩
    · rw [add0, cellAt hg, ← (rowsV_at M i hi).1, ← ht, List.getElem?_take_of_lt (by omega)]; simp
    · rw [add0]
      show W.cell? ⟨g, i * 2 + 1, none⟩ = _
      rw [cellAt hg, ← (rowsV_at M i hi).2, ← ht, List.getElem?_take_of_lt (by omega)]; simp
where cellAt {W : World} {b o : Nat} {c : Array Value} {t : TypeId} (h : W.heap[b]? = some (.cells c t (0, 0))) : W.cell? ⟨b, o, none⟩ = c[o]? := by simp [World.cell?, h]
theorem RowsRes.out {w w' : World} {M : List (Int × Int)} {e : Ending} (h : RowsRes w M e w') : ROut w M e w' := by
  obtain ⟨v, rfl, h, b⟩ := h
  obtain ⟨p, c, rfl, r⟩ := ownRows h
  exact ⟨p, c, rfl, r, b⟩

theorem uniF_length (B A : List (Int × Int)) : (uniF A B).length ≤ A.length + B.length := by
  induction B generalizing A with
  | nil => simp [uniF]
  | cons x B ih =>
    have := ih (putF x.1 x.2 A false)
    have := putF_length x.1 x.2 A false
    simp only [uniF, List.length_cons]; omega
theorem uniF_step {A B : List (Int × Int)} {i : Nat} (h : i < B.length) : uniF A (B.take (i + 1)) = putF (kd B i) (vd B i) (uniF A (B.take i)) false := by
  rw [uniF_take B A i h, ← kvd h]

set_option maxRecDepth 100000 in
set_option maxHeartbeats 2000000 in
theorem rUnion_any (s : Option Addr) (d : Nat) (A : List (Int × Int)) (p : Option Addr) (c : Nat) (L : List (Int × Int)) (w : World) (ra : RowsR w s A) (r : RowsR w p L) (la : A.length ≤ 400000) (ln : L.length ≤ 400000) :
    Calls Try.prog 67 #[.slice s A.length d, .slice p L.length c] w (ROut w (uniF A L)) := by
  have R := Lib.hid r
  have RA := Lib.hid ra
  have UL := Lib.hid (fun i => (by have := uniF_length (L.take i) A; simp at this; omega : (uniF A (L.take i)).length ≤ 800000))
  obtain ⟨x, hx⟩ : ∃ x, x = L.length := ⟨_, rfl⟩
  rw [← hx] at ln ⊢
  have HX := Lib.hid hx
  clear hx r ra
  go_enter Try.func67, Try.ntmps67
  go_wp2_with fail
  go_loopw [5, 6] (fun ov kv wr => ∃ (i : Nat) (M : List (Int × Int)) (q : Option Addr) (cq : Nat), i ≤ x ∧ ov = .slice q M.length cq ∧ kv = .int .i64 i ∧ Hid (M = uniF A (L.take i)) ∧ Hid (RowsR wr q M) ∧ Below w.heap.size w wr) (fun _ kv _ => x - (intOf kv).toNat)
  case atStart => exact ⟨0, A, s, d, Nat.zero_le _, rfl, rfl, Lib.hid rfl, RA, Below.refl _ _⟩
  case round =>
    obtain ⟨i, M, q, cq, hi', rfl, rfl, HM, HR, hbel⟩ := hrel
    by_cases t1 : i < x
    · have l1 : i < L.length := by have := HX.out; omega
      obtain ⟨xa, rfl, kx, cx0, dx0⟩ := R.out i l1
      have cx : wr.cell? (xa.add (i * 2)) = some (.int .i64 (kd L i)) := (hbel.cell (by rw [adb]; exact kx)).trans cx0
      have dx : wr.cell? ⟨(xa.add (i * 2)).block, (xa.add (i * 2)).off + 1, none⟩ = some (.int .i64 (vd L i)) := (hbel.cell (p := ⟨(xa.add (i * 2)).block, (xa.add (i * 2)).off + 1, none⟩) (by rw [adb]; exact kx)).trans dx0
      have i1 : (0 : Int) ≤ (i : Int) := by omega
      have i2 : (i : Int) < (x : Int) := by omega
      have LM : M.length ≤ 1000000 := by have := UL.out i; rw [HM.out]; omega
      have P := Lib.hid (fun W hW => rPut_any q cq M (kd L i) (vd L i) W hW LM)
      have F := Lib.hid (show putF (kd L i) (vd L i) M false = uniF A (L.take (i + 1)) by rw [uniF_step l1, ← HM.out])
      have BL := Lib.hid hbel
      generalize kd L i = k at *
      generalize vd L i = y at *
      generalize hml : M.length = ml at *
      clear cx0 dx0 LM UL RA HM hml
      go_wp2_with fail
      go_region_held3 (fun w' => w'.cell? (xa.add (i * 2)) = some (.int .i64 k) ∧ w'.cell? ⟨(xa.add (i * 2)).block, (xa.add (i * 2)).off + 1, none⟩ = some (.int .i64 y))
        (exact ⟨cx, dx⟩)
        (first
          | (go_at_call 87; (with_reducible refine (P.out _ (by first | exact HR.out | exact HR.out.below (Below.refl _ wr).drew)).mono ?_); rintro e w1 ⟨v', rfl, ho, st0⟩; obtain ⟨p1, c1, rfl, r1⟩ := ownRows ho; have B1 : Below w.heap.size w w1 := (Below.dr BL.out).trans (st0.mono BL.out.size); have R1 := Lib.hid r1; replace cx := cell_gr st0 (cell_dr cx); replace dx := cell_gr st0 (cell_dr dx); clear ho r1 st0 BL P HR hbel))
      go_wp2_with fail
      go_roundw
      case rel => exact ⟨i + 1, _, p1, c1, by omega, rfl, by go_num, F, R1, B1⟩
      case measure => simp [intOf]; omega
    · have F : M = uniF A L := by have := HM.out; rwa [List.take_of_length_le (by have := HX.out; omega)] at this
      subst F
      go_wp2_with fail
      go_ret
      exact ⟨_, _, rfl, HR.out, hbel⟩
end Go.Proofs.Ytbphmcjjanchlaa

/- The reference's Joins and Ascending; the laws' pairs. -/
namespace Go.Proofs.Ytbphmcjjanchlaa
open Go.RowKit
set_option linter.unusedVariables false
set_option linter.unusedSimpArgs false
open Mii (rowsV rowsV_snoc)

def joinsB (A B : List (Int × Int)) : Bool := A.isEmpty || B.isEmpty || decide (kd A (A.length - 1) < kd B 0)

set_option maxRecDepth 100000 in
set_option maxHeartbeats 2000000 in
theorem rJoins_any (s : Option Addr) (d : Nat) (A : List (Int × Int)) (p : Option Addr) (c : Nat) (B : List (Int × Int)) (w : World) (ra : RowsR w s A) (r : RowsR w p B) (la : A.length ≤ 1000000) (ln : B.length ≤ 1000000) :
    Calls Try.prog 84 #[.slice s A.length d, .slice p B.length c] w fun e w' => e = .returned (.bool (joinsB A B)) ∧ ∃ n, w' = w.drewN n := by
  obtain ⟨J, hJ⟩ : ∃ J, J = joinsB A B := ⟨_, rfl⟩
  rw [← hJ]
  obtain ⟨a, ha⟩ : ∃ a, a = A.length := ⟨_, rfl⟩
  obtain ⟨b, hb⟩ : ∃ b, b = B.length := ⟨_, rfl⟩
  rw [← ha] at la ⊢
  rw [← hb] at ln ⊢
  by_cases hA : a = 0
  · have e : J = true := by rw [hJ]; obtain rfl := List.length_eq_zero_iff.1 (ha.symm.trans hA); rfl
    subst hA e
    clear hJ ra r la ln ha hb
    go_enter Try.func84, Try.ntmps84
    go_wp2_with fail
    go_quiet (fail)
    go_wp2_with fail
    go_ret
    exact ⟨rfl, _, rfl⟩
  have e0 : ((a : Int) == 0) = false := by simp; omega
  by_cases hB : b = 0
  · have e : J = true := by rw [hJ]; obtain rfl := List.length_eq_zero_iff.1 (hb.symm.trans hB); simp [joinsB]
    subst hB e
    clear hJ ra r la ln ha hb hA
    go_enter Try.func84, Try.ntmps84
    go_wp2_with fail
    go_quiet (fail)
    go_wp2_with fail
    go_ret
    exact ⟨rfl, _, rfl⟩
  have e1 : ((b : Int) == 0) = false := by simp; omega
  obtain ⟨n, hn⟩ : ∃ n, a = n + 1 := ⟨a - 1, by omega⟩
  obtain ⟨xa, rfl, kx, cx, _⟩ := ra n (by omega)
  obtain ⟨ya, rfl, ky, cy, _⟩ := r 0 (by omega)
  have cy2 : w.cell? ya = some (.int .i64 (kd B 0)) := by simpa [Addr.add] using cy
  have E : J = decide (kd A n < kd B 0) := by
    rw [hJ]
    unfold joinsB
    rw [← ha, hn, Nat.add_sub_cancel]
    cases A with
    | nil => simp at ha; omega
    | cons a A => cases B with
      | nil => simp at hb; omega
      | cons b B => simp
  have q1 : IntKind.i64.wrap ((a : Int) - 1) = (n : Int) := by rw [show (a : Int) - 1 = n by omega]; exact IntWalk.i64_in _ (by omega)
  have i1 : (0 : Int) ≤ (n : Int) := by omega
  have i2 : (n : Int) < (a : Int) := by omega
  have i3 : (0 : Int) < (b : Int) := by omega
  clear hA hB ra r hn la ln hJ ha hb
  generalize kd A n = k at *
  generalize kd B 0 = l at *
  go_enter Try.func84, Try.ntmps84
  go_wp2_with fail
  go_quiet (fail)
  go_wp2_with fail
  go_ret
  exact ⟨ret_b E.symm, _, rfl⟩

theorem asc_take_succ {L : List (Int × Int)} {i : Nat} (h : i < L.length) (a : Asc (L.take i)) (g : i = 0 ∨ kd L (i - 1) < kd L i) : Asc (L.take (i + 1)) := by
  rw [List.take_succ_eq_append_getElem h]
  refine asc_append.2 ⟨a, List.pairwise_singleton _ _, fun x hx y hy => ?_⟩
  rw [List.mem_singleton] at hy; subst hy
  rcases g with rfl | g
  · simp at hx
  rw [← kvd h]
  show x.1 < kd L i
  obtain ⟨j, hj, rfl⟩ := List.getElem_of_mem hx
  simp only [List.length_take] at hj
  simp only [List.getElem_take]
  rw [← kvd (by omega)]
  show kd L j < kd L i
  rcases Nat.lt_or_ge j (i - 1) with c | c
  · have h1 := List.pairwise_iff_getElem.1 a j (i - 1) (by simp; omega) (by simp; omega) c
    simp only [List.getElem_take] at h1
    rw [← kvd (L := L) (i := j) (by omega), ← kvd (L := L) (i := i - 1) (by omega)] at h1
    have h2 : kd L j < kd L (i - 1) := h1
    omega
  · obtain rfl : j = i - 1 := by omega
    exact g
theorem not_asc {L : List (Int × Int)} {i : Nat} (h : i < L.length) (h0 : 0 < i) (g : kd L i ≤ kd L (i - 1)) : ¬ Asc L := fun a => by
  have h1 := List.pairwise_iff_getElem.1 a (i - 1) i (by omega) h (by omega)
  rw [← kvd (L := L) (i := i - 1) (by omega), ← kvd h] at h1
  have h2 : kd L (i - 1) < kd L i := h1
  omega
theorem drewN_drewN (w : World) (n m : Nat) : (w.drewN n).drewN m = w.drewN (n + m) := by simp [World.drewN, Nat.add_assoc]
instance (L : List (Int × Int)) : Decidable (Asc L) := by unfold Asc; infer_instance

set_option maxRecDepth 100000 in
set_option maxHeartbeats 2000000 in
theorem rAscending_any (p : Option Addr) (c : Nat) (L : List (Int × Int)) (w : World) (r : RowsR w p L) (ln : L.length ≤ 1000000) :
    Calls Try.prog 24 #[.slice p L.length c] w fun e w' => e = .returned (.bool (decide (Asc L))) ∧ ∃ n, w' = w.drewN n := by
  have R := Lib.hid r
  obtain ⟨J, hJ⟩ : ∃ J, J = decide (Asc L) := ⟨_, rfl⟩
  have HJ := Lib.hid hJ
  rw [← hJ]
  obtain ⟨x, hx⟩ : ∃ x, x = L.length := ⟨_, rfl⟩
  rw [← hx] at ln ⊢
  have HX := Lib.hid hx
  clear hx r hJ
  go_enter Try.func24, Try.ntmps24
  go_wp2_with fail
  go_loopw [3] (fun kv wr => ∃ i : Nat, (i + 1 ≤ x ∨ i = 0) ∧ kv = .int .i64 ((i : Int) + 1) ∧ Hid (Asc (L.take (i + 1))) ∧ ∃ n, wr = w.drewN n) (fun kv _ => x + 1 - (intOf kv).toNat)
  case atStart => exact ⟨0, .inr rfl, rfl, Lib.hid (by cases L with | nil => exact Asc.nil | cons a L => exact List.pairwise_singleton _ _), 0, rfl⟩
  case round =>
    obtain ⟨i, hi, rfl, hn, n, rfl⟩ := hrel
    by_cases t1 : i + 1 < x
    · have l1 : i + 1 < L.length := by have := HX.out; omega
      obtain ⟨xa, rfl, kx, cx, _⟩ := R.out i (by omega)
      obtain ⟨xb, e, ky, cy, _⟩ := R.out (i + 1) l1
      cases e
      have q1 : IntKind.i64.wrap ((i : Int) + 1 - 1) = (i : Int) := by rw [show (i : Int) + 1 - 1 = i by omega]; exact IntWalk.i64_in _ (by omega)
      have q2 : IntKind.i64.wrap ((i : Int) + 1 + 1) = (i : Int) + 1 + 1 := IntWalk.i64_in _ (by omega)
      have i1 : (0 : Int) ≤ (i : Int) := by omega
      have i2 : (i : Int) < (x : Int) := by omega
      have i3 : (0 : Int) ≤ (i : Int) + 1 := by omega
      have i4 : (i : Int) + 1 < (x : Int) := by omega
      have q3 : ((i : Int) + 1).toNat = i + 1 := by omega
      have F1 := Lib.hid (fun (e : kd L i < kd L (i + 1)) => asc_take_succ l1 hn.out (.inr e))
      have F2 := Lib.hid (fun (e : kd L (i + 1) ≤ kd L i) => not_asc l1 (by omega) e)
      generalize kd L i = u at *
      generalize kd L (i + 1) = v at *
      by_cases t2 : v ≤ u
      · have F := Lib.hid (show J = false from by rw [HJ.out]; simpa using F2.out t2)
        clear F1 F2 hn
        go_wp2_with fail
        go_quiet (fail)
        go_wp2_with fail
        go_ret
        exact ⟨ret_b F.out.symm, _, drewN_drewN _ _ _⟩
      · have G := Lib.hid (F1.out (by omega))
        clear F1 F2 hn
        go_wp2_with fail
        go_quiet (fail)
        go_wp2_with fail
        go_roundw
        case rel => exact ⟨i + 1, .inl (by omega), by simp, G, _, rfl⟩
        case measure => simp [intOf]; omega
    · have F := Lib.hid (show J = true from by rw [HJ.out]; have := hn.out; rw [List.take_of_length_le (by have := HX.out; omega)] at this; simpa using this)
      have t2 : ¬ (i : Int) + 1 < x := by omega
      clear hn
      go_wp2_with fail
      go_ret
      exact ⟨ret_b F.out.symm, _, rfl⟩
end Go.Proofs.Ytbphmcjjanchlaa

/- tie and halve, whose nodes are new. -/
namespace Go.Proofs.Ytbphmcjjanchlaa.Mii
open Go.RowKit
set_option linter.unusedVariables false
set_option linter.unusedSimpArgs false

/-- The tree lies at p, in blocks from n₀ on. -/
def AtF {κ : Type} [KV κ] (n₀ : Nat) (w : World) : Option Addr → Tr κ Value → Prop
  | p, .nil => p = none
  | p, .node k v l r => ∃ (b : Nat) (pl pr : Option Addr), p = some ⟨b, 0, none⟩ ∧ n₀ ≤ b ∧ w.cell? ⟨b, 0, none⟩ = some (KV.kv k) ∧ w.cell? ⟨b, 1, none⟩ = some v ∧ w.cell? ⟨b, 2, none⟩ = some (.pointer pl) ∧ w.cell? ⟨b, 3, none⟩ = some (.pointer pr)
    ∧ w.cell? ⟨b, 4, none⟩ = some (.int .i64 ((l.sz + 1 + r.sz : Nat) : Int)) ∧ w.cell? ⟨b, 5, none⟩ = some (.int .i64 ((max l.dep r.dep + 1 : Nat) : Int)) ∧ v.oneCell' = true ∧ AtF n₀ w pl l ∧ AtF n₀ w pr r
theorem AtF.at {κ : Type} [KV κ] {n₀ : Nat} {w : World} : ∀ {p : Option Addr} {t : Tr κ Value}, AtF n₀ w p t → At w p t
  | _, .nil, h => h
  | _, .node k v l r, ⟨b, pl, pr, e, _, c0, c1, c2, c3, c4, c5, ov, hl, hr⟩ => ⟨b, pl, pr, e, c0, c1, c2, c3, c4, c5, ov, hl.at, hr.at⟩
theorem AtF.grow {κ : Type} [KV κ] {n₀ : Nat} {A B : World} (st : Below A.heap.size A B) : ∀ {p : Option Addr} {t : Tr κ Value}, AtF n₀ A p t → AtF n₀ B p t
  | _, .nil, h => h
  | _, .node k v l r, ⟨b, pl, pr, e, hb, c0, c1, c2, c3, c4, c5, ov, hl, hr⟩ =>
    ⟨b, pl, pr, e, hb, cell_gr st c0, cell_gr st c1, cell_gr st c2, cell_gr st c3, cell_gr st c4, cell_gr st c5, ov, AtF.grow st hl, AtF.grow st hr⟩
theorem AtF.below {κ : Type} [KV κ] {n₀ n : Nat} {A B : World} {p : Option Addr} {t : Tr κ Value} (h : AtF n₀ A p t) (st : Below n A B) (hn : A.heap.size ≤ n) : AtF n₀ B p t := h.grow (st.mono hn)
theorem AtF.alloc {κ : Type} [KV κ] {n₀ : Nat} {A : World} {p : Option Addr} {t : Tr κ Value} (o : Obj) (a : AtF n₀ A p t) : AtF n₀ (A.alloc o) p t := a.grow ((Below.refl _ A).alloc (Nat.le_refl _) o)
theorem AtF.drew {κ : Type} [KV κ] {n₀ : Nat} {A : World} {p : Option Addr} {t : Tr κ Value} (a : AtF n₀ A p t) : AtF n₀ A.drew p t := a.grow (Below.refl _ A).drew
/-- A store below hits no node. -/
theorem AtF.setLow {κ : Type} [KV κ] {n₀ : Nat} {A : World} {x : Addr} (y : Value) (hx : x.block < n₀) : ∀ {p : Option Addr} {t : Tr κ Value}, AtF n₀ A p t → AtF n₀ (A.setCell x y) p t
  | _, .nil, h => h
  | _, .node k v l r, ⟨b, pl, pr, e, hb, c0, c1, c2, c3, c4, c5, ov, hl, hr⟩ => by
    have hne : ¬ b = x.block := by omega
    exact ⟨b, pl, pr, e, hb, cell_st hne c0, cell_st hne c1, cell_st hne c2, cell_st hne c3, cell_st hne c4, cell_st hne c5, ov, AtF.setLow y hx hl, AtF.setLow y hx hr⟩
theorem AtF.set {κ : Type} [KV κ] {n₀ : Nat} {A : World} {c : Nat} {x : Option Addr} (y : Value) (hc : A.cell? ⟨c, 0, Option.none⟩ = some (.pointer x)) : ∀ {p : Option Addr} {t : Tr κ Value}, AtF n₀ A p t → AtF n₀ (A.setCell ⟨c, 0, Option.none⟩ y) p t
  | _, .nil, h => h
  | _, .node k v l r, ⟨b, pl, pr, e, hb, c0, c1, c2, c3, c4, c5, ov, hl, hr⟩ => by
    have hne : ¬ b = c := fun e => by subst e; rw [c0] at hc; exact KV.np k x (Option.some.inj hc)
    exact ⟨b, pl, pr, e, hb, cell_st hne c0, cell_st hne c1, cell_st hne c2, cell_st hne c3, cell_st hne c4, cell_st hne c5, ov, AtF.set y hc hl, AtF.set y hc hr⟩
def MapF {κ : Type} [KV κ] (n₀ : Nat) (w : World) (Q : Tr κ Value → Prop) (e : Ending) (w' : World) : Prop := ∃ q t, e = .returned (.agg #[.pointer q]) ∧ AtF n₀ w' q t ∧ Q t ∧ Below w.heap.size w w'
theorem MapF.set {κ : Type} [KV κ] {n₀ : Nat} {w W : World} {Q : Tr κ Value → Prop} {c : Nat} {x q : Option Addr} {t : Tr κ Value} (y : Value) (hc : W.cell? ⟨c, 0, Option.none⟩ = some (.pointer x)) (h : AtF n₀ W q t) (hq : Q t) (hb : Below w.heap.size w W) (hn : w.heap.size ≤ c) :
    MapF n₀ w Q (.returned (.agg #[.pointer q])) (W.setCell ⟨c, 0, Option.none⟩ y) := ⟨q, t, rfl, h.set y hc, hq, hb.setCell hn y⟩
def PairsF (n₀ : Nat) (w : World) (g : Nat) (L : List (Int × Value)) : Prop := PairsAt w g L ∧ n₀ ≤ w.heap.size
theorem PairsF.sz {n₀ : Nat} {A : World} {g : Nat} {L : List (Int × Value)} (h : PairsF n₀ A g L) : n₀ ≤ A.heap.size := h.2
theorem PairsF.grow {n₀ : Nat} {A B : World} {g : Nat} {L : List (Int × Value)} (st : Below A.heap.size A B) (h : PairsF n₀ A g L) : PairsF n₀ B g L := ⟨h.1.grow st, Nat.le_trans h.2 st.size⟩
/-- The new node at the end of memory. -/
theorem tieF_fin (n₀ : Nat) (w w4 : World) (p q : Option Addr) (l r : Tr Int Value) (kx : Int) (v : Value) (M x : Int) (X : Value) (t : TypeId) (hz0 : n₀ ≤ w.heap.size) (hl : AtF n₀ w p l) (hr : AtF n₀ w q r) (B : Below w.heap.size w w4) (hv : v.oneCell' = true) (hx : x = ((l.sz + 1 + r.sz : Nat) : Int)) (hM : M = ((max l.dep r.dep : Nat) : Int)) :
    MapF n₀ w (· = .node kx v l r) (.returned (.agg #[.pointer (some ⟨w4.heap.size, 0, none⟩)])) ((w4.setCell ⟨w.heap.size + 1 + 1 + 1, 0, none⟩ X).alloc (.cells #[KV.kv kx, v, .pointer p, .pointer q, .int .i64 x, .int .i64 (M + 1)] t)) := by
  have hs := B.size
  have hb : Below w.heap.size w ((w4.setCell ⟨w.heap.size + 1 + 1 + 1, 0, none⟩ X).alloc (.cells #[KV.kv kx, v, .pointer p, .pointer q, .int .i64 x, .int .i64 (M + 1)] t)) :=
    (B.setCell (by dsimp only; omega) _).alloc (by simpa using hs) _
  subst hx hM
  exact ⟨_, .node kx v l r, rfl, ⟨w4.heap.size, p, q, rfl, Nat.le_trans hz0 hs, by simp [go_sem], by simp [go_sem], by simp [go_sem], by simp [go_sem], by simp [go_sem], by simp [go_sem], hv, hl.below hb (Nat.le_refl _), hr.below hb (Nat.le_refl _)⟩, rfl, hb⟩
set_option maxRecDepth 100000 in
set_option maxHeartbeats 1000000 in
theorem tieF_any (n₀ : Nat) (p q : Option Addr) (l r : Tr Int Value) (kx0 : Int) (kx v : Value) (w : World) (hkx : IsKV kx0 kx v) (hz0 : n₀ ≤ w.heap.size) (hl : AtF n₀ w p l) (hr : AtF n₀ w q r) (sl : l.sz ≤ 2 ^ 60) (sr : r.sz ≤ 2 ^ 60) :
    Calls Try.prog 68 #[.agg #[.pointer p], .agg #[kx, v], .agg #[.pointer q]] w (MapF n₀ w (· = .node kx0 v l r)) := by
  have dl := l.dep_le
  have dr := r.dep_le
  obtain ⟨n, hn⟩ : ∃ n : Int, (l.sz : Int) = n := ⟨_, rfl⟩
  obtain ⟨m, hm⟩ : ∃ n : Int, (r.sz : Int) = n := ⟨_, rfl⟩
  obtain ⟨c, hc⟩ : ∃ n : Int, (l.dep : Int) = n := ⟨_, rfl⟩
  obtain ⟨d, hd⟩ : ∃ n : Int, (r.dep : Int) = n := ⟨_, rfl⟩
  have q1 := IntWalk.i64_in (n + 1) (by omega)
  have q2 := IntWalk.i64_in (n + 1 + m) (by omega)
  obtain ⟨M, hM⟩ : ∃ M : Int, (if c < d then d else c) = M := ⟨_, rfl⟩
  have hM2 : M = ((max l.dep r.dep : Nat) : Int) := by rw [← hM]; split <;> omega
  have q3 := IntWalk.i64_in (M + 1) (by omega)
  have HM := Lib.hid hM2
  have Hn := Lib.hid hn
  have Hm := Lib.hid hm
  have Hc := Lib.hid hc
  have Hd := Lib.hid hd
  have TL := Lib.hid hl
  have TR := Lib.hid hr
  have HL := Lib.hid hl
  have HR := Lib.hid hr
  have HB := Lib.hid (box4 w p q kx v)
  have HK := Lib.hid hkx
  have HZ0 := Lib.hid hz0
  clear hM2 hz0 hl hr hn hm hc hd dl dr sl sr hkx
  go_enter Try.func68, Try.ntmps68
  go_wp2_with fail
  generalize e4 : ((((w.alloc (Obj.cells #[Value.pointer p] 35)).alloc (Obj.cells #[kx, v] 52)).alloc (Obj.cells #[Value.pointer q] 35)).alloc (Obj.cells #[Value.pointer none] 35)) = w0
  obtain ⟨k1, k2, k3, k4, k5, f5, sz, bel⟩ := HB.out w0 e4
  have BL := Lib.hid bel
  replace TL := Lib.hid (TL.out.below bel (Nat.le_refl _))
  replace TR := Lib.hid (TR.out.below bel (Nat.le_refl _))
  clear HB e4 bel
  go_region_held3 (fun w' => w'.cell? ⟨w.heap.size, 0, none⟩ = some (.pointer p) ∧ w'.cell? ⟨w.heap.size + 1, 0, none⟩ = some (kx) ∧ w'.cell? ⟨w.heap.size + 1, 1, none⟩ = some (v) ∧ w'.cell? ⟨w.heap.size + 1 + 1, 0, none⟩ = some (.pointer q))
    (first | exact ⟨k1, k2, k3, k4⟩ | exact ⟨cell_dr k1, cell_dr k2, cell_dr k3, cell_dr k4⟩ | exact ⟨cell_al _ k1, cell_al _ k2, cell_al _ k3, cell_al _ k4⟩ | exact ⟨cell_al _ (cell_dr k1), cell_al _ (cell_dr k2), cell_al _ (cell_dr k3), cell_al _ (cell_dr k4)⟩ | exact ⟨cell_al _ (cell_al _ k1), cell_al _ (cell_al _ k2), cell_al _ (cell_al _ k3), cell_al _ (cell_al _ k4)⟩ | exact ⟨cell_st (by dsimp only; omega) k1, cell_st (by dsimp only; omega) k2, cell_st (by dsimp only; omega) k3, cell_st (by dsimp only; omega) k4⟩ | exact ⟨cell_st (by dsimp only; omega) (cell_dr k1), cell_st (by dsimp only; omega) (cell_dr k2), cell_st (by dsimp only; omega) (cell_dr k3), cell_st (by dsimp only; omega) (cell_dr k4)⟩ | exact ⟨cell_al _ (cell_st (by dsimp only; omega) k1), cell_al _ (cell_st (by dsimp only; omega) k2), cell_al _ (cell_st (by dsimp only; omega) k3), cell_al _ (cell_st (by dsimp only; omega) k4)⟩ | exact ⟨cell_st (by dsimp only; omega) (cell_st (by dsimp only; omega) k1), cell_st (by dsimp only; omega) (cell_st (by dsimp only; omega) k2), cell_st (by dsimp only; omega) (cell_st (by dsimp only; omega) k3), cell_st (by dsimp only; omega) (cell_st (by dsimp only; omega) k4)⟩)
    (first
      | (go_at_call 25; (with_reducible refine (Len_any p _ n _ (by first | exact TL.out.at | exact TL.out.drew.at) Hn.out).mono ?_); rintro e w1 ⟨rfl, st0⟩; have st : Below w0.heap.size w0 w1 := (by first | exact st0 | exact Below.of_dr st0); replace f5 := fro_gr st k5 f5; replace k1 := cell_gr st k1; replace k2 := cell_gr st k2; replace k3 := cell_gr st k3; replace k4 := cell_gr st k4; replace k5 := cell_gr st k5; replace TL := Lib.hid (TL.out.grow st); replace TR := Lib.hid (TR.out.grow st); replace BL := Lib.hid (BL.out.trans (st.mono BL.out.size)); replace sz := Nat.lt_of_lt_of_le sz st.size; clear st st0)
      | (go_at_call 25; (with_reducible refine (Len_any q _ m _ (by first | exact TR.out.at | exact TR.out.drew.at) Hm.out).mono ?_); rintro e w2 ⟨rfl, st0⟩; have st : Below w1.heap.size w1 w2 := (by first | exact st0 | exact Below.of_dr st0); replace f5 := fro_gr st k5 f5; replace k1 := cell_gr st k1; replace k2 := cell_gr st k2; replace k3 := cell_gr st k3; replace k4 := cell_gr st k4; replace k5 := cell_gr st k5; replace TL := Lib.hid (TL.out.grow st); replace TR := Lib.hid (TR.out.grow st); replace BL := Lib.hid (BL.out.trans (st.mono BL.out.size)); replace sz := Nat.lt_of_lt_of_le sz st.size; clear st st0)
      | (go_at_call 70; (with_reducible refine (Depth_any p _ c _ (by first | exact TL.out.at | exact TL.out.drew.at) Hc.out).mono ?_); rintro e w3 ⟨rfl, st0⟩; have st : Below w2.heap.size w2 w3 := (by first | exact st0 | exact Below.of_dr st0); replace f5 := fro_gr st k5 f5; replace k1 := cell_gr st k1; replace k2 := cell_gr st k2; replace k3 := cell_gr st k3; replace k4 := cell_gr st k4; replace k5 := cell_gr st k5; replace TL := Lib.hid (TL.out.grow st); replace TR := Lib.hid (TR.out.grow st); replace BL := Lib.hid (BL.out.trans (st.mono BL.out.size)); replace sz := Nat.lt_of_lt_of_le sz st.size; clear st st0)
      | (go_at_call 70; (with_reducible refine (Depth_any q _ d _ (by first | exact TR.out.at | exact TR.out.drew.at) Hd.out).mono ?_); rintro e w4 ⟨rfl, st0⟩; have st : Below w3.heap.size w3 w4 := (by first | exact st0 | exact Below.of_dr st0); replace f5 := fro_gr st k5 f5; replace k1 := cell_gr st k1; replace k2 := cell_gr st k2; replace k3 := cell_gr st k3; replace k4 := cell_gr st k4; replace k5 := cell_gr st k5; replace TL := Lib.hid (TL.out.grow st); replace TR := Lib.hid (TR.out.grow st); replace BL := Lib.hid (BL.out.trans (st.mono BL.out.size)); replace sz := Nat.lt_of_lt_of_le sz st.size; clear st st0))
  have FIN := Lib.hid (tieF_fin n₀ w w4 p q l r kx0 v M (n + 1 + m) (.pointer (some ⟨w4.heap.size, 0, none⟩)) 120 HZ0.out HL.out HR.out BL.out HK.out.2 (by have := Hn.out; have := Hm.out; omega) HM.out)
  rw [← HK.out.1] at FIN
  clear HL HR BL hM HM TL TR HK
  go_wp2_with fail
  exact bodyPost_ret (v := .agg #[.pointer (some ⟨w4.heap.size, 0, none⟩)]) (by simp [results, Try.results68, go_sem, k5, sz]) rfl FIN.out
set_option maxRecDepth 100000 in
theorem halveF_nil (n₀ : Nat) (p : Option Addr) (c : Nat) (w : World) : Calls Try.prog 64 #[.slice p 0 c] w (MapF n₀ w (HalQ ([] : List (Int × Value)))) := by
  go_enter Try.func64, Try.ntmps64
  go_wp2
  exact bodyPost_ret (v := .agg #[.pointer none]) (by simp [results, Try.results64, go_sem]) rfl ⟨none, .nil, rfl, rfl, ⟨rfl, trivial, rfl⟩, (Below.refl _ _).alloc (Nat.le_refl _) _⟩
set_option maxRecDepth 100000 in
set_option maxHeartbeats 2000000 in
theorem halveF_step (n₀ : Nat) (g off n c : Nat) (L : List (Int × Value)) (w : World) (hn : 0 < n) (hc : n ≤ c) (hoff : off + n ≤ L.length) (hL : L.length ≤ 2 ^ 40) (hcm : c ≤ maxLen) (pl : PairsF n₀ w g L)
    (I1 : Hid (∀ W, PairsF n₀ W g L → Calls Try.prog 64 #[.slice (some ⟨g, 2 * off, none⟩) (n / 2 : Nat) c] W (MapF n₀ W (HalQ ((L.drop off).take (n / 2))))))
    (I2 : Hid (∀ (W : World), PairsF n₀ W g L → Calls Try.prog 64 #[.slice (if c - (n / 2 + 1) = 0 then some ⟨g, 2 * off, none⟩ else some ⟨g, 2 * off + (n / 2 + 1) * 2, none⟩) (n - (n / 2 + 1)) (c - (n / 2 + 1))] W (MapF n₀ W (HalQ ((L.drop (off + (n / 2 + 1))).take (n - (n / 2 + 1))))))) :
    Calls Try.prog 64 #[.slice (some ⟨g, 2 * off, none⟩) n c] w (MapF n₀ w (HalQ ((L.drop off).take n))) := by
  obtain ⟨x, hx⟩ : ∃ x, L[off + n / 2]? = some x := ⟨L[off + n / 2]'(by omega), List.getElem?_eq_getElem (by omega)⟩
  obtain ⟨xk, xv⟩ := x
  obtain ⟨m1', m2', hv⟩ := pl.1 _ _ hx
  have hlen : ((L.drop off).take n).length = n := by rw [List.length_take, List.length_drop]; omega
  have HX : Hid (IsKV xk (.int .i64 xk : Value) xv) := ⟨rfl, hv⟩
  have HQ : Hid (∀ t u, HalQ ((L.drop off).take (n / 2)) t → HalQ ((L.drop (off + (n / 2 + 1))).take (n - (n / 2 + 1))) u → HalQ ((L.drop off).take n) (.node xk xv t u)) := Lib.hid (fun t u h1 h2 => by
    have e1 : ((L.drop off).take n).take (((L.drop off).take n).length / 2) = (L.drop off).take (n / 2) := by rw [hlen, List.take_take, Nat.min_eq_left (by omega)]
    have e2 : ((L.drop off).take n).drop (((L.drop off).take n).length / 2 + 1) = (L.drop (off + (n / 2 + 1))).take (n - (n / 2 + 1)) := by rw [hlen, List.drop_take, List.drop_drop]
    exact hal_node (x := (xk, xv)) (by rw [hlen]; omega) (by rw [hlen, sub_get (by omega)]; exact hx) (by rw [e1]; exact h1) (by rw [e2]; exact h2))
  obtain ⟨mid, hh⟩ : ∃ mid, mid = n / 2 := ⟨_, rfl⟩
  have m1 : w.cell? ⟨g, 2 * off + mid * 2, none⟩ = some (.int .i64 xk) := by rw [hh, show 2 * off + n / 2 * 2 = 2 * (off + n / 2) from by omega]; exact m1'
  have m2 : w.cell? ⟨g, 2 * off + mid * 2 + 1, none⟩ = some xv := by rw [hh, show 2 * off + n / 2 * 2 + 1 = 2 * (off + n / 2) + 1 from by omega]; exact m2'
  have PL := Lib.hid pl
  have HN : Hid (n ≤ 2 ^ 40) := Lib.hid (by omega)
  have b1 : mid < n := by omega
  have q1 : IntKind.i64.wrap ((n : Int).tdiv 2) = (mid : Int) := by
    rw [show (n : Int).tdiv 2 = (mid : Int) from by rw [hh]; rw [Int.tdiv_eq_ediv_of_nonneg (by omega)]; omega]
    exact IntWalk.i64_in _ (by omega)
  have q2 := IntWalk.i64_in ((mid : Int) + 1) (by omega)
  rw [← hh] at I1 I2 HQ
  clear m1' m2' hv pl hx hlen
  have HH := Lib.hid hh
  clear hh
  have q0 : (n : Int) / 2 = (mid : Int) := by rw [HH.out]; omega
  have i1 : (0 : Int) ≤ (mid : Int) := by omega
  have i2 : (mid : Int) < (n : Int) := by omega
  have i3 : (mid : Int) ≤ (c : Int) := by omega
  have i4 : (0 : Int) ≤ (mid : Int) + 1 := by omega
  have i5 : (mid : Int) + 1 ≤ (n : Int) := by omega
  have i6 : (n : Int) ≤ (c : Int) := by omega
  have i7 : ((mid : Int) + 1).toNat = mid + 1 := by omega
  have n0 : ((n : Int) == 0) = false := by simp; omega
  have HB : Hid (∀ w0, w.alloc (Obj.cells #[Value.pointer none] 35) = w0 → Below w.heap.size w w0 ∧ w0.cell? ⟨w.heap.size, 0, none⟩ = some (.pointer none) ∧ w0.frozen? ⟨w.heap.size, 0, none⟩ = false ∧ w.heap.size < w0.heap.size) := Lib.hid (fun w0 e => by
    subst e; exact ⟨(Below.refl _ _).alloc (Nat.le_refl _) _, by simp [go_sem], by simp [go_sem], by simp⟩)
  have gz : g < w.heap.size := World.block_lt_of_cell? w _ m1
  have ngw : ¬ g = w.heap.size := by omega
  clear q1
  by_cases hcc : c - (mid + 1) = 0
  case' pos =>
    rw [if_pos hcc] at I2
    have e1 : n - (mid + 1) = 0 := by omega
    replace I2 : Hid (∀ (W : World), PairsF n₀ W g L → Calls Try.prog 64 #[.slice (some ⟨g, 2 * off, none⟩) 0 0] W (MapF n₀ W (HalQ ((L.drop (off + (mid + 1))).take (n - (mid + 1)))))) := Lib.hid (fun W hW => by
      have t := I2.out W hW
      rw [e1, hcc] at t
      rw [e1]
      exact t)
    have hcc2 : mid + 1 = c := by omega
    have hnc : n - c = 0 := by omega
    clear e1 hcc
  case' neg =>
    rw [if_neg hcc] at I2
    have hcc2 : ¬ c = mid + 1 := by omega
  all_goals
    go_enter Try.func64, Try.ntmps64
    go_wp2_with fail
    generalize e0 : w.alloc (Obj.cells #[Value.pointer none] 35) = w0
    obtain ⟨bel, k1, f1, sz⟩ := HB.out w0 e0
    have BL := Lib.hid bel
    replace m1 := cell_gr bel m1
    replace m2 := cell_gr bel m2
    replace PL := Lib.hid (PL.out.grow (bel.mono (Nat.le_refl _)))
    clear HB e0 bel
    go_region_held3 (fun w' => w'.cell? ⟨g, 2 * off + mid * 2, none⟩ = some (.int .i64 xk) ∧ w'.cell? ⟨g, 2 * off + mid * 2 + 1, none⟩ = some (xv))
      (first | exact ⟨m1, m2⟩ | exact ⟨cell_dr m1, cell_dr m2⟩ | exact ⟨cell_al _ m1, cell_al _ m2⟩ | exact ⟨cell_al _ (cell_dr m1), cell_al _ (cell_dr m2)⟩ | exact ⟨cell_al _ (cell_al _ m1), cell_al _ (cell_al _ m2)⟩ | exact ⟨cell_st (by dsimp only; omega) m1, cell_st (by dsimp only; omega) m2⟩ | exact ⟨cell_st (by dsimp only; omega) (cell_dr m1), cell_st (by dsimp only; omega) (cell_dr m2)⟩ | exact ⟨cell_al _ (cell_st (by dsimp only; omega) m1), cell_al _ (cell_st (by dsimp only; omega) m2)⟩ | exact ⟨cell_st (by dsimp only; omega) (cell_st (by dsimp only; omega) m1), cell_st (by dsimp only; omega) (cell_st (by dsimp only; omega) m2)⟩)
      (first
        | (go_at_call 64; (with_reducible refine (I1.out _ (by first | exact PL.out | exact PL.out.grow (Below.refl _ _).drew)).mono ?_); rintro e w1 ⟨x1, u1, rfl, e1, h1, st0⟩; have st : Below w0.heap.size w0 w1 := (by first | exact st0 | exact Below.of_dr st0); replace f1 := fro_gr st k1 f1; replace k1 := cell_gr st k1; replace m1 := cell_gr st m1; replace m2 := cell_gr st m2; replace BL := Lib.hid (BL.out.trans (st.mono BL.out.size)); replace sz := Nat.lt_of_lt_of_le sz st.size; replace PL := Lib.hid (PL.out.grow st); clear st st0; have E1 := Lib.hid e1; clear e1; have H1 := Lib.hid h1; clear h1)
        | (go_at_call 64; (with_reducible refine (I2.out _ (by first | exact PL.out | exact PL.out.grow (Below.refl _ _).drew)).mono ?_); rintro e w2 ⟨x2, u2, rfl, e2, h2, st0⟩; have st : Below w1.heap.size w1 w2 := (by first | exact st0 | exact Below.of_dr st0); replace f1 := fro_gr st k1 f1; replace k1 := cell_gr st k1; replace m1 := cell_gr st m1; replace m2 := cell_gr st m2; replace E1 := Lib.hid (E1.out.grow st); replace BL := Lib.hid (BL.out.trans (st.mono BL.out.size)); replace sz := Nat.lt_of_lt_of_le sz st.size; replace PL := Lib.hid (PL.out.grow st); clear st st0; have E2 := Lib.hid e2; clear e2; have H2 := Lib.hid h2; clear h2)
        | (go_at_call 68; (with_reducible refine (tieF_any n₀ x1 x2 u1 u2 xk (.int .i64 xk) xv _ HX.out PL.out.sz (by first | exact E1.out | exact E1.out.drew) (by first | exact E2.out | exact E2.out.drew) (by have := H1.out.sz; have := HN.out; simp at *; omega) (by have := H2.out.sz; have := HN.out; simp at *; omega)).mono ?_); rintro e w3 ⟨x3, u3, rfl, e3, rfl, st0⟩; have st : Below w2.heap.size w2 w3 := (by first | exact st0 | exact Below.of_dr st0); replace f1 := fro_gr st k1 f1; replace k1 := cell_gr st k1; replace m1 := cell_gr st m1; replace m2 := cell_gr st m2; replace E1 := Lib.hid (E1.out.grow st); replace E2 := Lib.hid (E2.out.grow st); replace BL := Lib.hid (BL.out.trans (st.mono BL.out.size)); replace sz := Nat.lt_of_lt_of_le sz st.size; clear st st0; have E3 := Lib.hid e3; clear e3))
    have FIN := Lib.hid (MapF.set (c := w.heap.size) (.pointer x3) k1 E3.out (HQ.out _ _ H1.out H2.out) BL.out (Nat.le_refl _))
    clear E1 E2 E3 H1 H2 BL PL I1 I2 HQ HN HX HH
    go_wp2_with fail
    exact bodyPost_ret (v := .agg #[.pointer x3]) (by simp [results, Try.results64, go_sem, k1, sz]) rfl FIN.out
theorem halveF_all (n₀ : Nat) (g : Nat) (L : List (Int × Value)) (hL : L.length ≤ 2 ^ 40) : ∀ (m n off c : Nat) (p : Option Addr) (w : World), n ≤ m → n ≤ c → off + n ≤ L.length → c ≤ maxLen → (0 < n → p = some ⟨g, 2 * off, none⟩) → PairsF n₀ w g L →
    Calls Try.prog 64 #[.slice p n c] w (MapF n₀ w (HalQ ((L.drop off).take n))) := by
  intro m
  induction m with
  | zero =>
    intro n off c p w hm hc ho hcm hp pl
    obtain rfl : n = 0 := by omega
    rw [List.take_zero]
    exact halveF_nil n₀ p c w
  | succ m ih =>
    intro n off c p w hm hc ho hcm hp pl
    by_cases h0 : n = 0
    · subst h0; rw [List.take_zero]; exact halveF_nil n₀ p c w
    · rw [hp (by omega)]
      refine halveF_step n₀ g off n c L w (by omega) hc ho hL hcm pl (Lib.hid (fun W hW => ih (n / 2) off c _ W (by omega) (by omega) (by omega) hcm (fun _ => rfl) hW)) (Lib.hid (fun W hW => ?_))
      refine ih (n - (n / 2 + 1)) (off + (n / 2 + 1)) (c - (n / 2 + 1)) _ W (by omega) (by omega) (by omega) (by omega) (fun h => ?_) hW
      rw [if_neg (by omega), show 2 * off + (n / 2 + 1) * 2 = 2 * (off + (n / 2 + 1)) from by omega]
end Go.Proofs.Ytbphmcjjanchlaa.Mii

/- The laws' pairs and same; Of of any list. -/
namespace Go.Proofs.Ytbphmcjjanchlaa
open Go.RowKit Go.Proofs.Ytbphmcjjanchlaa.Mii
set_option linter.unusedVariables false
set_option linter.unusedSimpArgs false

theorem cellsPair (w : World) (x y : Int) : ∀ j u, [Value.int .i64 x, .int .i64 y][j]? = some u → (w.alloc (.cells #[.int .i64 x, .int .i64 y] 52)).cell? ((⟨w.heap.size, 0, none⟩ : Addr).add j) = some u := cellsTwo w _ _ _
theorem take_succ_kvd {L : List (Int × Int)} {i : Nat} (h : i < L.length) : L.take (i + 1) = L.take i ++ [(kd L i, vd L i)] := by rw [List.take_succ_eq_append_getElem h, kvd h]

set_option maxRecDepth 100000 in
set_option maxHeartbeats 2000000 in
theorem pairs_any (p : Option Addr) (c : Nat) (L : List (Int × Int)) (w : World) (r : RowsR w p L) (ln : L.length ≤ 1000000) :
    Calls Try.prog 22 #[.slice p L.length c] w fun e w' => ∃ v, e = .returned v ∧ w'.ownsRow w.heap.size 52 2 v L.length (rowsV L) ∧ Below w.heap.size w w' := by
  obtain ⟨i0, hi, hz0, hz1, hz2⟩ := info_parts info_pair
  have R := Lib.hid r
  obtain ⟨x, hx⟩ : ∃ x, x = L.length := ⟨_, rfl⟩
  rw [← hx] at ln ⊢
  have HX := Lib.hid hx
  clear hx r
  go_enter Try.func22, Try.ntmps22
  go_wp2_with fail
  go_loopw [3, 4] (fun ov kv wr => ∃ (i : Nat), i ≤ x ∧ kv = .int .i64 i ∧ wr.ownsRow w.heap.size 52 2 ov i (rowsV (L.take i)) ∧ Below w.heap.size w wr) (fun _ kv _ => x - (intOf kv).toNat)
  case atStart => exact ⟨0, Nat.zero_le _, rfl, World.ownsRow_nil _ _ _ _, Below.refl _ _⟩
  case round =>
    obtain ⟨i, hi', rfl, hown, hbel⟩ := hrel
    by_cases t1 : i < x
    · have l1 : i < L.length := by have := HX.out; omega
      obtain ⟨xa, rfl, kx, cx0, dx0⟩ := R.out i l1
      have cx : wr.cell? (xa.add (i * 2)) = some (.int .i64 (kd L i)) := (hbel.cell (by rw [adb]; exact kx)).trans cx0
      have dx : wr.cell? ⟨(xa.add (i * 2)).block, (xa.add (i * 2)).off + 1, none⟩ = some (.int .i64 (vd L i)) := (hbel.cell (p := ⟨(xa.add (i * 2)).block, (xa.add (i * 2)).off + 1, none⟩) (by rw [adb]; exact kx)).trans dx0
      have i1 : (0 : Int) ≤ (i : Int) := by omega
      have i2 : (i : Int) < (x : Int) := by omega
      have ST := Lib.hid (fun v' w1 W (bW : Below w.heap.size w W) (ho : w1.ownsRow w.heap.size 52 2 v' (i + 1) (rowsV (L.take i) ++ [.int .i64 (kd L i), .int .i64 (vd L i)])) (hg : W.grownBy w1 (u3).ownBlock) =>
        ((show w1.ownsRow w.heap.size 52 2 v' (i + 1) (rowsV (L.take (i + 1))) ∧ Below w.heap.size w w1 from ⟨by rw [take_succ_kvd l1, rowsV_snoc]; exact ho, bW.grown hg bW.size fun k ek => (World.ownsRow.lt hown k ek).1⟩)))
      generalize kd L i = k at *
      generalize vd L i = y at *
      go_wp2_with fail
      go_region_held3 (fun w' => w'.cell? (xa.add (i * 2)) = some (.int .i64 k) ∧ w'.cell? ⟨(xa.add (i * 2)).block, (xa.add (i * 2)).off + 1, none⟩ = some (.int .i64 y))
        (first | exact ⟨cx, dx⟩ | exact ⟨cell_dr cx, cell_dr dx⟩ | exact ⟨cell_al _ cx, cell_al _ dx⟩ | exact ⟨cell_al _ (cell_dr cx), cell_al _ (cell_dr dx)⟩)
        ((refine step_append_lies _ (by rfl) _ _ _ (by rfl) w.heap.size 52 i0 (.agg #[.int .i64 0, .int .i64 0]) 2 16 Try.underlying43 hi hz0 hz1 hz2 rfl (by omega) u3 i (rowsV (L.take i)) (by rfl) (hown.drew.alloc _) ⟨wr.heap.size, 0, none⟩ 1 1 [.int .i64 k, .int .i64 y] (by rfl) (by rfl) (World.news_of_block (cs := #[.int .i64 k, .int .i64 y]) (t := 52) (fr := (0, 0)) (heap_alloc_new _ _)) (by simp [Value.oneCell']) (by omega) (by unfold maxLen; omega) (by omega) (by have := hbel.size; simp; omega) (wr.heap.size + 1) (by simp) ?_; intro gg cap w1 hown1 hgrow hat hlt; obtain ⟨O1, B1⟩ := ST.out _ w1 _ ((Below.dr hbel).alloc hbel.size _) hown1 hgrow; replace cx := (B1.cell (by rw [adb]; exact kx)).trans cx0; replace dx := (B1.cell (p := ⟨(xa.add (i * 2)).block, (xa.add (i * 2)).off + 1, none⟩) (by rw [adb]; exact kx)).trans dx0; clear hown1 hgrow hown hbel ST hat hlt cx0 dx0))
      go_wp2_with fail
      go_roundw
      case rel => exact ⟨i + 1, by omega, by go_num, O1, B1⟩
      case measure => simp [intOf]; omega
    · obtain rfl : i = x := by omega
      have e : L.take i = L := List.take_of_length_le (by have := HX.out; omega)
      rw [e] at hown
      go_wp2_with fail
      go_ret
      exact ⟨_, rfl, hown, hbel⟩
end Go.Proofs.Ytbphmcjjanchlaa

/- The laws' same; Of of any list. -/
namespace Go.Proofs.Ytbphmcjjanchlaa
open Go.RowKit Go.Proofs.Ytbphmcjjanchlaa.Mii
set_option linter.unusedVariables false
set_option linter.unusedSimpArgs false

structure BoxM (w : World) (p : Option Addr) (w2 : World) : Prop where
  c1 : w2.cell? ⟨w.heap.size, 0, none⟩ = some (.pointer p)
  f1 : w2.frozen? ⟨w.heap.size, 0, none⟩ = false
  sz : w.heap.size < w2.heap.size
  bel : Below w.heap.size w w2
theorem boxM (w : World) (p : Option Addr) : ∀ w2, (w.alloc (Obj.cells #[Value.pointer p] 35)) = w2 → BoxM w p w2 := fun w2 e => by
  subst e
  exact ⟨by simp [go_sem], by simp [go_sem], by simp, (Below.refl _ w).alloc (Nat.le_refl _) _⟩
theorem encL_len (L : List (Int × Int)) : (encL L).length = L.length := by simp [encL]
theorem sz_enc {t : Tr Int Value} {L : List (Int × Int)} (h : t.rows = encL L) : t.sz = L.length := by rw [← t.sz_eq, h, encL_len]

set_option maxRecDepth 100000 in
set_option maxHeartbeats 2000000 in
theorem same_any (p : Option Addr) (t : Tr Int Value) (s : Option Addr) (c : Nat) (L : List (Int × Int)) (w : World) (h : At w p t) (hL : t.rows = encL L) (r : RowsR w s L) (ln : L.length ≤ 1000000) :
    Calls Try.prog 16 #[.agg #[.pointer p], .slice s L.length c] w fun e w' => e = .returned (.bool true) ∧ Below w.heap.size w w' := by
  have R := Lib.hid r
  have TT := Lib.hid h
  have CP := Lib.hid (fun W hW => Pairs_any p t L W hW hL (by omega))
  have CL := Lib.hid (fun n W hW hn => Len_any p t n W hW hn)
  have SZ := Lib.hid (sz_enc hL)
  have HB := Lib.hid (boxM w p)
  obtain ⟨x, hx⟩ : ∃ x, x = L.length := ⟨_, rfl⟩
  rw [← hx] at ln CP SZ ⊢
  have HX := Lib.hid hx
  clear hx r h hL
  go_enter Try.func16, Try.ntmps16
  go_wp2_with fail
  generalize e0 : w.alloc (Obj.cells #[Value.pointer p] 35) = w0
  obtain ⟨k1, f1, sz, bel⟩ := HB.out w0 e0
  have BL := Lib.hid bel
  replace TT := Lib.hid (TT.out.below bel (Nat.le_refl _))
  clear HB e0 bel f1
  go_wp2_with fail
  refine (CP.out _ TT.out).mono ?_
  rintro e w1 ⟨v, rfl, ho, st⟩
  replace k1 := cell_gr st k1
  replace TT := Lib.hid (TT.out.grow st)
  replace BL := Lib.hid (BL.out.trans (st.mono BL.out.size))
  obtain ⟨pv, cv, rfl, rp⟩ := ownRows (by rw [HX.out] at ho; exact ho)
  rw [← HX.out]
  have RP := Lib.hid rp
  clear ho rp st CP
  go_wp2_with fail
  refine (CL.out x _ (by first | exact TT.out | exact TT.out.drew) (by rw [SZ.out])).mono ?_
  rintro e w2 ⟨rfl, st⟩
  replace RP := Lib.hid (RP.out.below st)
  replace BL := Lib.hid (BL.out.trans (st.mono BL.out.size))
  clear st TT CL SZ k1
  go_wp2_with fail
  go_loopw [6] (fun kv wr => ∃ i : Nat, i ≤ x ∧ kv = .int .i64 i ∧ ∃ n, wr = w2.drewN n) (fun kv _ => x - (intOf kv).toNat)
  case atStart => exact ⟨0, Nat.zero_le _, rfl, 0, rfl⟩
  case round =>
    obtain ⟨i, hi, rfl, n, rfl⟩ := hrel
    by_cases t1 : i < x
    · have l1 : i < L.length := by have := HX.out; omega
      obtain ⟨xa, rfl, kx, cx0, dx0⟩ := R.out i l1
      obtain ⟨xb, rfl, ky, cy, dy⟩ := RP.out i l1
      have cx : w2.cell? (xa.add (i * 2)) = some (.int .i64 (kd L i)) := (BL.out.cell (by rw [adb]; exact kx)).trans cx0
      have dx : w2.cell? ⟨(xa.add (i * 2)).block, (xa.add (i * 2)).off + 1, none⟩ = some (.int .i64 (vd L i)) := (BL.out.cell (p := ⟨(xa.add (i * 2)).block, (xa.add (i * 2)).off + 1, none⟩) (by rw [adb]; exact kx)).trans dx0
      have i1 : (0 : Int) ≤ (i : Int) := by omega
      have i2 : (i : Int) < (x : Int) := by omega
      clear cx0 dx0
      generalize kd L i = k at *
      generalize vd L i = y at *
      go_wp2_with fail
      go_quiet (fail)
      go_wp2_with fail
      go_roundw
      case rel => exact ⟨i + 1, by omega, by go_num, _, rfl⟩
      case measure => simp [intOf]; omega
    · go_wp2_with fail
      go_ret
      exact ⟨rfl, below_drewN BL.out _⟩

/-- What Of answers. -/
def OfR (n₀ : Nat) (w : World) (L : List (Int × Int)) (e : Ending) (w' : World) : Prop :=
  (Asc L ∧ ∃ q t, e = .returned (.tuple #[.agg #[.pointer q], .int .i64 0]) ∧ AtF n₀ w' q t ∧ t.rows = encL L ∧ t.Avl ∧ Below w.heap.size w w') ∨
  (¬ Asc L ∧ e = .returned (.tuple #[.agg #[.pointer none], .int .i64 2]) ∧ Below w.heap.size w w')
theorem pairsAt_of {w : World} {g : Nat} {L : List (Int × Int)} (h : RowsR w (some ⟨g, 0, none⟩) L) : PairsAt w g (encL L) := fun i x hx => by
  unfold encL at hx
  rw [List.getElem?_map] at hx
  obtain ⟨y, hy, rfl⟩ := Option.map_eq_some_iff.1 hx
  have hi := (List.getElem?_eq_some_iff.1 hy).1
  have ey : y = (kd L i, vd L i) := by rw [kvd hi]; exact ((List.getElem?_eq_some_iff.1 hy).2).symm
  subst ey
  obtain ⟨xa, e, _, c, d⟩ := h i hi
  cases e
  rw [add0] at c d
  exact ⟨by rw [Nat.mul_comm]; exact c, by rw [Nat.mul_comm]; exact d, rfl⟩
set_option maxRecDepth 100000 in
set_option maxHeartbeats 2000000 in
theorem Of_any (n₀ : Nat) (p : Option Addr) (c : Nat) (L : List (Int × Int)) (w : World) (hz : n₀ ≤ w.heap.size) (r : RowsR w p L) (hp : p = none ∧ L.length = 0 ∨ ∃ g, p = some ⟨g, 0, none⟩) (hc : L.length ≤ c) (hcm : c ≤ maxLen) (ln : L.length ≤ 1000000) :
    Calls Try.prog 23 #[.slice p L.length c] w (OfR n₀ w L) := by
  have HH : Hid (∀ W, n₀ ≤ W.heap.size → RowsR W p L → Calls Try.prog 64 #[.slice p L.length c] W (MapF n₀ W (HalQ (encL L)))) := Lib.hid (fun W hW hR => by
    obtain ⟨g, pl, he⟩ : ∃ g, PairsAt W g (encL L) ∧ (0 < L.length → p = some ⟨g, 2 * 0, none⟩) := by
      rcases hp with ⟨rfl, h0⟩ | ⟨g, rfl⟩
      · obtain rfl := List.length_eq_zero_iff.1 h0
        exact ⟨0, fun i x hx => by simp [encL] at hx, fun h => by simp at h⟩
      · exact ⟨g, pairsAt_of hR, fun _ => rfl⟩
    have := halveF_all n₀ g (encL L) (by rw [encL_len]; omega) L.length L.length 0 c p W (Nat.le_refl _) hc (by rw [encL_len]; omega) hcm he ⟨pl, hW⟩
    rwa [List.drop_zero, List.take_of_length_le (by rw [encL_len]; omega)] at this)
  have HZ := Lib.hid hz
  have R := Lib.hid r
  have HB := Lib.hid (boxM w none)
  obtain ⟨x, hx⟩ : ∃ x, x = L.length := ⟨_, rfl⟩
  rw [← hx] at ln HH ⊢
  have HX := Lib.hid hx
  clear hx r hz hp hc hcm
  go_enter Try.func23, Try.ntmps23
  go_wp2_with fail
  generalize e0 : w.alloc (Obj.cells #[Value.pointer none] 35) = w0
  obtain ⟨k1, f1, sz, bel⟩ := HB.out w0 e0
  have BL := Lib.hid bel
  replace R := Lib.hid (R.out.below bel)
  replace HZ := Lib.hid (Nat.le_trans HZ.out bel.size)
  clear HB e0 bel
  go_loopw [4] (fun kv wr => ∃ i : Nat, (i + 1 ≤ x ∨ i = 0) ∧ kv = .int .i64 ((i : Int) + 1) ∧ Hid (Asc (L.take (i + 1))) ∧ ∃ n, wr = w0.drewN n) (fun kv _ => x + 1 - (intOf kv).toNat)
  case atStart => exact ⟨0, .inr rfl, rfl, Lib.hid (by cases L with | nil => exact Asc.nil | cons a L => exact List.pairwise_singleton _ _), 0, rfl⟩
  case round =>
    obtain ⟨i, hi, rfl, hn, n, rfl⟩ := hrel
    by_cases t1 : i + 1 < x
    · have l1 : i + 1 < L.length := by have := HX.out; omega
      obtain ⟨xa, rfl, kx, cx, _⟩ := R.out i (by omega)
      obtain ⟨xb, e, ky, cy, _⟩ := R.out (i + 1) l1
      cases e
      have q1 : IntKind.i64.wrap ((i : Int) + 1 - 1) = (i : Int) := by rw [show (i : Int) + 1 - 1 = i by omega]; exact IntWalk.i64_in _ (by omega)
      have q2 : IntKind.i64.wrap ((i : Int) + 1 + 1) = (i : Int) + 1 + 1 := IntWalk.i64_in _ (by omega)
      have i1 : (0 : Int) ≤ (i : Int) := by omega
      have i2 : (i : Int) < (x : Int) := by omega
      have i3 : (0 : Int) ≤ (i : Int) + 1 := by omega
      have i4 : (i : Int) + 1 < (x : Int) := by omega
      have q3 : ((i : Int) + 1).toNat = i + 1 := by omega
      have F1 := Lib.hid (fun (e : kd L i < kd L (i + 1)) => asc_take_succ l1 hn.out (.inr e))
      have F2 := Lib.hid (fun (e : kd L (i + 1) ≤ kd L i) => not_asc l1 (by omega) e)
      generalize kd L i = u at *
      generalize kd L (i + 1) = v at *
      by_cases t2 : v ≤ u
      · have F := Lib.hid (F2.out t2)
        clear F1 F2 hn HH
        go_wp2_with fail
        go_quiet (fail)
        go_wp2_with fail
        exact bodyPost_ret (v := .tuple #[.agg #[.pointer none], .int .i64 2]) (by simp [results, Try.results23, go_sem, k1, sz]) rfl (Or.inr ⟨F.out, rfl, ((below_drewN BL.out _).setCell (p := ⟨w.heap.size, 0, none⟩) (Nat.le_refl _) _)⟩)
      · have G := Lib.hid (F1.out (by omega))
        clear F1 F2 hn
        go_wp2_with fail
        go_quiet (fail)
        go_wp2_with fail
        go_roundw
        case rel => exact ⟨i + 1, .inl (by omega), by simp, G, _, rfl⟩
        case measure => simp [intOf]; omega
    · have F := Lib.hid (show Asc L from by have := hn.out; rwa [List.take_of_length_le (by have := HX.out; omega)] at this)
      have t2 : ¬ (i : Int) + 1 < x := by omega
      have st0 := below_drewN (Below.refl w0.heap.size w0) n
      clear hn
      go_wp2_with fail
      refine (HH.out _ (Nat.le_trans HZ.out st0.size) (R.out.below st0)).mono ?_
      rintro e w2 ⟨x1, u1, rfl, a1, g1, st1⟩
      have st := st0.trans (st1.mono st0.size)
      have k2 := cell_gr st k1
      have f2 := fro_gr st k1 f1
      have sz2 := Nat.lt_of_lt_of_le sz st.size
      have FIN : Hid (OfR n₀ w L (.returned (.tuple #[.agg #[.pointer x1], .int .i64 0])) (w2.setCell ⟨w.heap.size, 0, none⟩ (.pointer x1))) := Lib.hid (.inl ⟨F.out, x1, u1, rfl, a1.set _ k2, g1.rows, g1.avl, (BL.out.trans (st.mono BL.out.size)).setCell (Nat.le_refl _) _⟩)
      clear st st0 st1 a1 g1 BL HH k1 f1 R HZ
      go_wp2_with fail
      exact bodyPost_ret (v := .tuple #[.agg #[.pointer x1], .int .i64 0]) (by simp [results, Try.results23, go_sem, k2, sz2]) rfl FIN.out
end Go.Proofs.Ytbphmcjjanchlaa

/- The laws' world: maps and the lists that they must have. -/
namespace Go.Proofs.Ytbphmcjjanchlaa
open Go.RowKit Go.Proofs.Ytbphmcjjanchlaa.Mii
set_option linter.unusedVariables false
set_option linter.unusedSimpArgs false

/-- Blocks that begin with a number are kept. -/
def KeepI (A B : World) : Prop := ∀ b x, A.cell? ⟨b, 0, none⟩ = some (.int .i64 x) → B.heap[b]? = A.heap[b]?
theorem KeepI.refl (A : World) : KeepI A A := fun _ _ _ => rfl
theorem KeepI.cell {A B : World} (h : KeepI A B) {b o : Nat} {x : Int} (hc : A.cell? ⟨b, 0, none⟩ = some (.int .i64 x)) : B.cell? ⟨b, o, none⟩ = A.cell? ⟨b, o, none⟩ := World.cell?_of_block (a := ⟨b, o, none⟩) (h b x hc)
theorem KeepI.trans {A B C : World} (h : KeepI A B) (g : KeepI B C) : KeepI A C := fun b x hc => (g b x ((h.cell hc).trans hc)).trans (h b x hc)
theorem KeepI.below {A B : World} (st : Below A.heap.size A B) : KeepI A B := fun b x hc => st.block b (World.block_lt_of_cell? A _ hc)
theorem KeepI.grown {A B : World} {row : Option Nat} (hg : A.grownBy B row) (h : ∀ k, row = some k → ∀ x, A.cell? ⟨k, 0, none⟩ ≠ some (.int .i64 x)) : KeepI A B := fun b x hc =>
  hg.block b (World.block_lt_of_cell? A _ hc) fun e => h b e.symm x hc
theorem KeepI.set {A : World} {b o : Nat} (v : Value) (h : ∀ x, A.cell? ⟨b, 0, none⟩ ≠ some (.int .i64 x)) : KeepI A (A.setCell ⟨b, o, none⟩ v) := fun c x hc =>
  Below.heap_setCell _ _ _ c (fun e => by subst e; exact h x hc)
theorem At.keep {A B : World} (h : KeepI A B) : ∀ {p : Option Addr} {t : Tr Int Value}, At A p t → At B p t
  | _, .nil, a => a
  | _, .node k v l r, ⟨b, pl, pr, e, c0, c1, c2, c3, c4, c5, ov, hl, hr⟩ =>
    ⟨b, pl, pr, e, (h.cell c0).trans c0, (h.cell c0).trans c1, (h.cell c0).trans c2, (h.cell c0).trans c3, (h.cell c0).trans c4, (h.cell c0).trans c5, ov, hl.keep h, hr.keep h⟩
/-- The list lies from a block's beginning on. -/
def Z0 (p : Option Addr) (L : List (Int × Int)) : Prop := L.length = 0 ∨ ∃ g, p = some ⟨g, 0, none⟩
def RowZ (W : World) (v : Value) (L : List (Int × Int)) : Prop := ∃ q c, v = .slice q L.length c ∧ RowsR W q L ∧ Z0 q L
theorem RowsR.keep {A B : World} {q : Option Addr} {L : List (Int × Int)} (h : KeepI A B) (r : RowsR A q L) (z : Z0 q L) : RowsR B q L := fun i hi => by
  rcases z with z | ⟨g, rfl⟩
  · omega
  obtain ⟨x0, e0, _, c0, _⟩ := r 0 (by omega)
  cases e0
  rw [show (⟨g, 0, none⟩ : Addr).add (0 * 2) = ⟨g, 0, none⟩ from rfl] at c0
  obtain ⟨x, e, k, c, d⟩ := r i hi
  cases e
  rw [add0] at c d
  have hB := (h.cell c0).trans c
  refine ⟨_, rfl, World.block_lt_of_cell? B ⟨g, i * 2, none⟩ hB, by rw [add0]; exact hB, ?_⟩
  rw [add0]
  exact (h.cell c0).trans d
theorem RowZ.keep {A B : World} {v : Value} {L : List (Int × Int)} (h : KeepI A B) (r : RowZ A v L) : RowZ B v L := by
  obtain ⟨q, c, e, r, z⟩ := r
  exact ⟨q, c, e, r.keep h z, z⟩
theorem ownRowsZ {W : World} {b : Nat} {t : TypeId} {v : Value} {M : List (Int × Int)} (h : W.ownsRow b t 2 v M.length (rowsV M)) : RowZ W v M := by
  obtain ⟨p, c, e, r⟩ := ownRows h
  rcases h.2 with ⟨rfl, h0⟩ | ⟨g, cap, cur, rfl, _⟩
  · exact ⟨p, c, e, r, .inl h0⟩
  · cases e; exact ⟨_, _, rfl, r, .inr ⟨g, rfl⟩⟩
theorem RowsRes.z {w w' : World} {M : List (Int × Int)} {e : Ending} (h : RowsRes w M e w') : ∃ v, e = .returned v ∧ RowZ w' v M ∧ Below w.heap.size w w' := by
  obtain ⟨v, rfl, h, b⟩ := h
  exact ⟨v, rfl, ownRowsZ h, b⟩

theorem encL_mapV (L : List (Int × Int)) : encL L = mapV (Value.int .i64) L := rfl
theorem enc_val (L : List (Int × Int)) (q : Int) : val (encL L) q = (val L q).map (Value.int .i64) := by rw [encL_mapV, mapV_val]
theorem enc_asc {L : List (Int × Int)} (h : Asc L) : Asc (encL L) := mapV_asc h
theorem enc_eq {X : List (Int × Value)} {M : List (Int × Int)} (hX : Asc X) (hM : Asc M) (h : ∀ q, val X q = (val M q).map (Value.int .i64)) : X = encL M :=
  asc_ext hX (enc_asc hM) fun q => by rw [h, enc_val]

/-- A map with its list. -/
structure Ent where
  p : Option Addr
  t : Tr Int Value
  v : Value
  L : List (Int × Int)
structure EntOk (W : World) (KS : List Int) (e : Ent) : Prop where
  at_ : At W e.p e.t
  avl : e.t.Avl
  rows : e.t.rows = encL e.L
  asc : Asc e.L
  row : RowZ W e.v e.L
  ks : ∀ q, val e.L q ≠ none → q ∈ KS
theorem EntOk.keep {A B : World} {KS : List Int} {e : Ent} (h : KeepI A B) (a : EntOk A KS e) : EntOk B KS e := ⟨a.at_.keep h, a.avl, a.rows, a.asc, a.row.keep h, a.ks⟩
theorem EntOk.more {A : World} {KS : List Int} {e : Ent} (k : Int) (a : EntOk A KS e) : EntOk A (k :: KS) e := ⟨a.at_, a.avl, a.rows, a.asc, a.row, fun q h => List.mem_cons_of_mem _ (a.ks q h)⟩
theorem EntOk.len {A : World} {KS : List Int} {e : Ent} (a : EntOk A KS e) : e.L.length ≤ KS.length := asc_card KS e.L a.asc fun x hx => a.ks x.1 (key_val a.asc hx)
theorem EntOk.tasc {A : World} {KS : List Int} {e : Ent} (a : EntOk A KS e) : Asc e.t.rows := by rw [a.rows]; exact enc_asc a.asc
theorem EntOk.sz {A : World} {KS : List Int} {e : Ent} (a : EntOk A KS e) : e.t.sz = e.L.length := sz_enc a.rows

structure Wld (n₀ : Nat) (W : World) (bw : Nat) (KS : List Int) (ms : List Ent) (vm vl : Value) : Prop where
  c0 : W.heap[bw]? = some (.cells #[vm, vl] 31 (0, 0))
  om : W.ownsRow n₀ 35 1 vm ms.length (ms.map fun e => .pointer e.p)
  ol : W.ownsRow n₀ 36 1 vl ms.length (ms.map fun e => e.v)
  ok : ∀ e ∈ ms, EntOk W KS e
  nb : n₀ ≤ bw
  ne : 0 < ms.length
theorem Wld.cells {n₀ bw : Nat} {W : World} {KS : List Int} {ms : List Ent} {vm vl : Value} (h : Wld n₀ W bw KS ms vm vl) :
    W.cell? ⟨bw, 0, none⟩ = some vm ∧ W.cell? ⟨bw, 1, none⟩ = some vl ∧ W.frozen? ⟨bw, 0, none⟩ = false ∧ W.frozen? ⟨bw, 1, none⟩ = false ∧ bw < W.heap.size :=
  ⟨by simp [World.cell?, h.c0], by simp [World.cell?, h.c0], by simp [World.frozen?, h.c0], by simp [World.frozen?, h.c0], (Array.getElem?_eq_some_iff.1 h.c0).1⟩
theorem ownsRow_below {A B : World} {n : Nat} {t : TypeId} {s : Nat} {v : Value} {k : Nat} {xs : List Value} (st : Below A.heap.size A B) (h : A.ownsRow n t s v k xs) : B.ownsRow n t s v k xs := by
  refine ⟨h.1, ?_⟩
  rcases h.2 with h0 | ⟨g, cap, cur, e, hb, hg, r⟩
  · exact .inl h0
  · exact .inr ⟨g, cap, cur, e, hb, (st.block g (Array.getElem?_eq_some_iff.1 hg).1).trans hg, r⟩
theorem Wld.grow {n₀ bw : Nat} {A B : World} {KS : List Int} {ms : List Ent} {vm vl : Value} (st : Below A.heap.size A B) (h : Wld n₀ A bw KS ms vm vl) : Wld n₀ B bw KS ms vm vl :=
  ⟨(st.block bw (Array.getElem?_eq_some_iff.1 h.c0).1).trans h.c0, ownsRow_below st h.om, ownsRow_below st h.ol, fun e he => (h.ok e he).keep (KeepI.below st), h.nb, h.ne⟩
theorem Wld.more {n₀ bw : Nat} {A : World} {KS : List Int} {ms : List Ent} {vm vl : Value} (k : Int) (h : Wld n₀ A bw KS ms vm vl) : Wld n₀ A bw (k :: KS) ms vm vl := ⟨h.c0, h.om, h.ol, fun e he => (h.ok e he).more k, h.nb, h.ne⟩
/-- A row that is not empty, written out. -/
theorem ownAt {W : World} {n : Nat} {t : TypeId} {v : Value} {k : Nat} {xs : List Value} (h : W.ownsRow n t 1 v k xs) (hk : 0 < k) :
    ∃ g cap, v = .slice (some ⟨g, 0, none⟩) k cap ∧ n ≤ g ∧ k ≤ cap ∧ (∃ cur, W.heap[g]? = some (.cells cur t (0, 0))) ∧ ∀ i x, xs[i]? = some x → W.cell? ⟨g, i, none⟩ = some x := by
  rcases h.2 with ⟨rfl, h0⟩ | ⟨g, cap, cur, rfl, hb, hg, hn, _, hs, ht⟩
  · omega
  · refine ⟨g, cap, rfl, hb, hn, ⟨cur, hg⟩, fun i x hx => ?_⟩
    have : W.cell? ⟨g, i, none⟩ = cur[i]? := by simp [World.cell?, hg]
    rw [this]
    have hi : i < xs.length := (List.getElem?_eq_some_iff.1 hx).1
    have hl := h.1
    rw [← ht, List.getElem?_take_of_lt (by omega)] at hx
    simpa using hx
end Go.Proofs.Ytbphmcjjanchlaa

/- The laws' world: one more map. -/
namespace Go.Proofs.Ytbphmcjjanchlaa
open Go.RowKit Go.Proofs.Ytbphmcjjanchlaa.Mii
set_option linter.unusedVariables false
set_option linter.unusedSimpArgs false

theorem row_ne {W : World} {b : Nat} {cs : Array Value} {t e : TypeId} {fr : Nat × Nat} (hb : W.heap[b]? = some (.cells cs t fr)) (hte : t ≠ e) {base size k : Nat} {v : Value} {xs : List Value} (hr : W.ownsRow base e size v k xs) : v.ownBlock = none ∨ v.ownBlock ≠ some b := by
  rcases hr.2 with ⟨rfl, _⟩ | ⟨g, cap, cur, rfl, _, hg, _⟩
  · exact .inl rfl
  · refine .inr fun e' => ?_
    have e2 : g = b := by simpa [Value.ownBlock] using e'
    subst e2
    rw [hb] at hg
    simp at hg
    exact hte hg.2.1
theorem own_some {W : World} {base : Nat} {e : TypeId} {size k : Nat} {v : Value} {xs : List Value} (h : W.ownsRow base e size v k xs) (hk : 0 < k) : ∃ g, v.ownBlock = some g ∧ base ≤ g ∧ ∃ cur, W.heap[g]? = some (.cells cur e (0, 0)) := by
  rcases h.2 with ⟨rfl, h0⟩ | ⟨g, cap, cur, rfl, hb, hg, _⟩
  · omega
  · exact ⟨g, rfl, hb, cur, hg⟩
theorem set_two {W : World} {b : Nat} {x y : Value} {t : TypeId} {fr : Nat × Nat} (h : W.heap[b]? = some (.cells #[x, y] t fr)) (v : Value) : (W.setCell ⟨b, 0, none⟩ v).heap[b]? = some (.cells #[v, y] t fr) ∧ (W.setCell ⟨b, 1, none⟩ v).heap[b]? = some (.cells #[x, v] t fr) := by
  obtain ⟨hlt, hk⟩ := Array.getElem?_eq_some_iff.1 h
  constructor
  · show (W.heap.modify b _)[b]? = _
    rw [Array.getElem?_eq_getElem (by rw [Array.size_modify]; exact hlt), Array.getElem_modify_self, hk]
    rfl
  · show (W.heap.modify b _)[b]? = _
    rw [Array.getElem?_eq_getElem (by rw [Array.size_modify]; exact hlt), Array.getElem_modify_self, hk]
    rfl

/-- Between the two appends. -/
structure Wld2 (n₀ : Nat) (W : World) (bw : Nat) (KS : List Int) (ms : List Ent) (x : Ent) (vm vl : Value) : Prop where
  c0 : W.heap[bw]? = some (.cells #[vm, vl] 31 (0, 0))
  om : W.ownsRow n₀ 35 1 vm (ms.length + 1) ((ms.map fun e => .pointer e.p) ++ [.pointer x.p])
  ol : W.ownsRow n₀ 36 1 vl ms.length (ms.map fun e => e.v)
  ok : ∀ e ∈ ms, EntOk W KS e
  xk : EntOk W KS x
  nb : n₀ ≤ bw
  ne : 0 < ms.length

theorem Wld.push1 {n₀ bw : Nat} {W W' w1 : World} {KS : List Int} {ms : List Ent} {vm vl vm' : Value} {x : Ent} (h : Wld n₀ W bw KS ms vm vl) (hx : EntOk W KS x) (hz : n₀ ≤ W.heap.size) (st : Below W.heap.size W W')
    (ho : w1.ownsRow n₀ 35 1 vm' (ms.length + 1) ((ms.map fun e => .pointer e.p) ++ [.pointer x.p])) (hg : W'.grownBy w1 vm.ownBlock) :
    Wld2 n₀ (w1.setCell ⟨bw, 0, none⟩ vm') bw KS ms x vm' vl ∧ Below n₀ W (w1.setCell ⟨bw, 0, none⟩ vm') := by
  have h' := h.grow st
  obtain ⟨gm, eg, hgm, cur, hcur⟩ := own_some h'.om h.ne
  obtain ⟨gm2, cap, e2, _, _, ⟨_, _⟩, hc⟩ := ownAt h'.om h.ne
  have egm : gm = gm2 := by rw [e2] at eg; simpa [Value.ownBlock] using eg.symm
  subst egm
  have hp : ∃ p, W'.cell? ⟨gm, 0, none⟩ = some (.pointer p) := by
    have hl : 0 < (ms.map fun e => Value.pointer e.p).length := by rw [List.length_map]; exact h.ne
    have := hc 0 _ (List.getElem?_eq_getElem hl)
    rw [List.getElem_map] at this
    exact ⟨_, this⟩
  obtain ⟨p, hp⟩ := hp
  have k1 : KeepI W' w1 := KeepI.grown hg fun k ek x hx => by
    rw [eg] at ek; cases ek; rw [hp] at hx; cases hx
  have nbm : some bw ≠ vm.ownBlock := by
    rcases row_ne h'.c0 (by decide) h'.om with e | e
    · rw [e]; simp
    · exact fun e3 => e e3.symm
  have b1 : w1.heap[bw]? = some (.cells #[vm, vl] 31 (0, 0)) := (hg.block bw (Array.getElem?_eq_some_iff.1 h'.c0).1 nbm).trans h'.c0
  have ol1 : w1.ownsRow n₀ 36 1 vl ms.length (ms.map fun e => e.v) := by
    refine h'.ol.kept hg ?_
    rcases row_ne hcur (by decide) h'.ol with e | e
    · exact .inl e
    · rw [eg]; exact .inr e
  have cb : ∀ x, w1.cell? ⟨bw, 0, none⟩ ≠ some (.int .i64 x) := fun x hx => by
    have : w1.cell? ⟨bw, 0, none⟩ = some vm := by simp [World.cell?, b1]
    rw [this, e2] at hx; cases hx
  have k2 : KeepI W (w1.setCell ⟨bw, 0, none⟩ vm') := ((KeepI.below st).trans k1).trans (KeepI.set vm' cb)
  refine ⟨⟨(set_two b1 vm').1, ho.kept (grownBy_setCell' w1 bw vm') (row_ne b1 (by decide) ho), ol1.kept (grownBy_setCell' w1 bw vm') (row_ne b1 (by decide) ol1), fun e he => (h.ok e he).keep k2, hx.keep k2, h.nb, h.ne⟩, ?_⟩
  refine (((st.mono hz).grown hg (Nat.le_trans hz st.size) fun k ek => ?_)).setCell (p := ⟨bw, 0, none⟩) h.nb _
  rw [eg] at ek; cases ek; exact hgm
theorem Wld2.push {n₀ bw : Nat} {W W' w1 : World} {KS : List Int} {ms : List Ent} {vm vl vl' : Value} {x : Ent} (h : Wld2 n₀ W bw KS ms x vm vl) (hz : n₀ ≤ W.heap.size) (st : Below W.heap.size W W')
    (ho : w1.ownsRow n₀ 36 1 vl' (ms.length + 1) ((ms.map fun e => e.v) ++ [x.v])) (hg : W'.grownBy w1 vl.ownBlock) :
    Wld n₀ (w1.setCell ⟨bw, 1, none⟩ vl') bw KS (ms ++ [x]) vm vl' ∧ Below n₀ W (w1.setCell ⟨bw, 1, none⟩ vl') := by
  have c0' : W'.heap[bw]? = some (.cells #[vm, vl] 31 (0, 0)) := (st.block bw (Array.getElem?_eq_some_iff.1 h.c0).1).trans h.c0
  have om' := ownsRow_below st h.om
  have ol' := ownsRow_below st h.ol
  obtain ⟨gm, eg, hgm, cur, hcur⟩ := own_some ol' h.ne
  obtain ⟨gm2, cap, e2, _, _, ⟨_, _⟩, hc⟩ := ownAt ol' h.ne
  have egm : gm = gm2 := by rw [e2] at eg; simpa [Value.ownBlock] using eg.symm
  subst egm
  have hp : ∃ p n c, W'.cell? ⟨gm, 0, none⟩ = some (.slice p n c) := by
    have hl : 0 < (ms.map fun e => e.v).length := by rw [List.length_map]; exact h.ne
    have := hc 0 _ (List.getElem?_eq_getElem hl)
    rw [List.getElem_map] at this
    obtain ⟨q, c, e, _⟩ := (h.ok _ (List.getElem_mem (by simpa using hl))).row
    rw [e] at this
    exact ⟨_, _, _, this⟩
  obtain ⟨p, n, c, hp⟩ := hp
  have k1 : KeepI W' w1 := KeepI.grown hg fun k ek x hx => by
    rw [eg] at ek; cases ek; rw [hp] at hx; cases hx
  have nbm : some bw ≠ vl.ownBlock := by
    rcases row_ne c0' (by decide) ol' with e | e
    · rw [e]; simp
    · exact fun e3 => e e3.symm
  have b1 : w1.heap[bw]? = some (.cells #[vm, vl] 31 (0, 0)) := (hg.block bw (Array.getElem?_eq_some_iff.1 c0').1 nbm).trans c0'
  have om1 : w1.ownsRow n₀ 35 1 vm (ms.length + 1) ((ms.map fun e => .pointer e.p) ++ [.pointer x.p]) := by
    refine om'.kept hg ?_
    rcases row_ne hcur (by decide) om' with e | e
    · exact .inl e
    · rw [eg]; exact .inr e
  obtain ⟨gv, capv, ev, _⟩ := ownAt h.om (Nat.succ_pos _)
  have cb : ∀ x, w1.cell? ⟨bw, 0, none⟩ ≠ some (.int .i64 x) := fun x hx => by
    have : w1.cell? ⟨bw, 0, none⟩ = some vm := by simp [World.cell?, b1]
    rw [this, ev] at hx; cases hx
  have k2 : KeepI W (w1.setCell ⟨bw, 1, none⟩ vl') := ((KeepI.below st).trans k1).trans (KeepI.set vl' cb)
  refine ⟨⟨(set_two b1 vl').2, by rw [List.length_append, List.map_append]; exact om1.kept (grownBy_setCell'' w1 bw 1 vl') (row_ne b1 (by decide) om1), by rw [List.length_append, List.map_append]; exact ho.kept (grownBy_setCell'' w1 bw 1 vl') (row_ne b1 (by decide) ho), fun e he => ?_, h.nb, by simp⟩, ?_⟩
  · rcases List.mem_append.1 he with he | he
    · exact (h.ok e he).keep k2
    · rw [List.mem_singleton] at he; subst he; exact h.xk.keep k2
  · refine (((st.mono hz).grown hg (Nat.le_trans hz st.size) fun k ek => ?_)).setCell (p := ⟨bw, 1, none⟩) h.nb _
    rw [eg] at ek; cases ek; exact hgm
where grownBy_setCell'' (W : World) (b o : Nat) (v : Value) : W.grownBy (W.setCell ⟨b, o, none⟩ v) (some b) :=
  ⟨rfl, rfl, rfl, (KeepsWalks.setCell W _ v).size, fun k _ hk => Below.heap_setCell _ _ _ k (fun e => hk (by rw [e]))⟩
end Go.Proofs.Ytbphmcjjanchlaa

/- The laws' world: what each operation makes. -/
namespace Go.Proofs.Ytbphmcjjanchlaa
open Go.RowKit Go.Proofs.Ytbphmcjjanchlaa.Mii
set_option linter.unusedVariables false
set_option linter.unusedSimpArgs false

theorem ent_mk {W : World} {KS : List Int} {q : Option Addr} {t : Tr Int Value} {v : Value} {M : List (Int × Int)} (ha : At W q t) (av : t.Avl) (ta : Asc t.rows) (hM : Asc M) (hv : ∀ q, val t.rows q = (val M q).map (Value.int .i64)) (row : RowZ W v M) (ks : ∀ q, val M q ≠ none → q ∈ KS) : EntOk W KS ⟨q, t, v, M⟩ :=
  ⟨ha, av, enc_eq ta hM hv, hM, row, ks⟩
theorem tval {W : World} {KS : List Int} {e : Ent} (O : EntOk W KS e) (q : Int) : val e.t.rows q = (val e.L q).map (Value.int .i64) := by rw [O.rows, enc_val]
theorem ks_fil {W : World} {KS : List Int} {e : Ent} (O : EntOk W KS e) (p : Int → Bool) (k : Int) (q : Int) (h : val (filL p e.L) q ≠ none) : q ∈ k :: KS := by
  rw [filL_val] at h
  exact List.mem_cons_of_mem _ (O.ks q (fun h2 => by rw [h2] at h; simp at h))

theorem ent_put {W0 W : World} {KS : List Int} {e : Ent} {k v : Int} {q : Option Addr} {t : Tr Int Value} {u : Value} (O : EntOk W0 KS e) (ha : At W q t) (hq : PutQ e.t k (.int .i64 v) t) (row : RowZ W u (putF k v e.L false)) : EntOk W (k :: KS) ⟨q, t, u, putF k v e.L false⟩ := by
  have P := putF_T k v e.L O.asc
  refine ent_mk ha hq.avl hq.p.asc P.asc (fun q => ?_) row (fun q h => ?_)
  · rw [hq.p.v, P.v, tval O]; split <;> rfl
  · rw [P.v] at h
    by_cases c : q = k
    · subst c; exact List.mem_cons_self
    · rw [if_neg c] at h; exact List.mem_cons_of_mem _ (O.ks q h)
theorem ent_del {W0 W : World} {KS : List Int} {e : Ent} {k : Int} {q : Option Addr} {t : Tr Int Value} {u : Value} (O : EntOk W0 KS e) (ha : At W q t) (av : t.Avl) (hq : DelT e.t.rows t.rows k) (row : RowZ W u (filL (pNe k) e.L)) : EntOk W (k :: KS) ⟨q, t, u, filL (pNe k) e.L⟩ := by
  refine ent_mk ha av hq.asc (filL_asc O.asc) (fun q => ?_) row (ks_fil O _ k)
  rw [hq.v, filL_val, tval O]; unfold pNe; by_cases c : q = k <;> simp [c]
theorem ent_lo {W0 W : World} {KS : List Int} {e : Ent} {k : Int} {q : Option Addr} {t : Tr Int Value} {u : Value} (O : EntOk W0 KS e) (ha : At W q t) (av : t.Avl) (hq : LoT e.t.rows t.rows k) (row : RowZ W u (filL (pLt k) e.L)) : EntOk W (k :: KS) ⟨q, t, u, filL (pLt k) e.L⟩ := by
  refine ent_mk ha av hq.asc (filL_asc O.asc) (fun q => ?_) row (ks_fil O _ k)
  rw [hq.v, filL_val, tval O]; unfold pLt; by_cases c : q < k <;> simp [KO.lt, c]
theorem ent_hi {W0 W : World} {KS : List Int} {e : Ent} {k : Int} {q : Option Addr} {t : Tr Int Value} {u : Value} (O : EntOk W0 KS e) (ha : At W q t) (av : t.Avl) (hq : HiT e.t.rows t.rows k) (row : RowZ W u (filL (pGt k) e.L)) : EntOk W (k :: KS) ⟨q, t, u, filL (pGt k) e.L⟩ := by
  refine ent_mk ha av hq.asc (filL_asc O.asc) (fun q => ?_) row (ks_fil O _ k)
  rw [hq.v, filL_val, tval O]; unfold pGt; by_cases c : k < q <;> simp [KO.lt, c]
theorem ent_rng {W0 W : World} {KS : List Int} {e : Ent} {a b k : Int} {q : Option Addr} {t : Tr Int Value} {u : Value} (O : EntOk W0 KS e) (ha : At W q t) (hq : RngQ e.t a b t) (row : RowZ W u (filL (pRng a b) e.L)) : EntOk W (k :: KS) ⟨q, t, u, filL (pRng a b) e.L⟩ := by
  refine ent_mk ha hq.avl hq.v.asc (filL_asc O.asc) (fun q => ?_) row (ks_fil O _ k)
  rw [hq.v.v, filL_val, tval O]; unfold pRng; by_cases c : a ≤ q <;> by_cases d : q < b <;> simp [KO.lt, c, d]
theorem ks_uni {W0 : World} {KS : List Int} {e f : Ent} (O : EntOk W0 KS e) (P : EntOk W0 KS f) (k q : Int) (h : val (uniF e.L f.L) q ≠ none) : q ∈ k :: KS := by
  rw [(uniF_T f.L e.L O.asc P.asc).v] at h
  by_cases c : val f.L q = none
  · rw [c] at h; exact List.mem_cons_of_mem _ (O.ks q h)
  · exact List.mem_cons_of_mem _ (P.ks q c)
theorem ent_uni {W0 W : World} {KS : List Int} {e f : Ent} (k : Int) {q : Option Addr} {t : Tr Int Value} {u : Value} (O : EntOk W0 KS e) (P : EntOk W0 KS f) (ha : At W q t) (hq : UniQ e.t f.t t) (row : RowZ W u (uniF e.L f.L)) : EntOk W (k :: KS) ⟨q, t, u, uniF e.L f.L⟩ := by
  have U := uniF_T f.L e.L O.asc P.asc
  refine ent_mk ha hq.avl hq.v.asc U.asc (fun q => ?_) row (ks_uni O P k)
  rw [hq.v.v, U.v, tval O, tval P]; cases val f.L q <;> simp
theorem ent_int {W0 W : World} {KS : List Int} {e f : Ent} (k : Int) {q : Option Addr} {t : Tr Int Value} {u : Value} (O : EntOk W0 KS e) (P : EntOk W0 KS f) (ha : At W q t) (hq : IntQ e.t f.t t) (row : RowZ W u (filL (pIn e.L) f.L)) : EntOk W (k :: KS) ⟨q, t, u, filL (pIn e.L) f.L⟩ := by
  refine ent_mk ha hq.avl hq.v.asc (filL_asc P.asc) (fun q => ?_) row (ks_fil P _ k)
  rw [hq.v.v, filL_val, tval O, tval P]; unfold pIn; cases val e.L q <;> simp
theorem ent_sub {W0 W : World} {KS : List Int} {e f : Ent} (k : Int) {q : Option Addr} {t : Tr Int Value} {u : Value} (O : EntOk W0 KS e) (P : EntOk W0 KS f) (ha : At W q t) (hq : SubQ e.t f.t t) (row : RowZ W u (filL (pOut f.L) e.L)) : EntOk W (k :: KS) ⟨q, t, u, filL (pOut f.L) e.L⟩ := by
  refine ent_mk ha hq.avl hq.v.asc (filL_asc O.asc) (fun q => ?_) row (ks_fil O _ k)
  rw [hq.v.v, filL_val, tval O, tval P]; unfold pOut; cases val f.L q <;> simp
/-- Two lists that may be joined. -/
theorem joins_asc {A B : List (Int × Int)} (hA : Asc A) (hB : Asc B) (h : joinsB A B = true) : Asc (A ++ B) := by
  refine asc_append.2 ⟨hA, hB, fun a ha b hb => ?_⟩
  unfold joinsB at h
  have h0 : A.isEmpty = false := by cases A with | nil => cases ha | cons _ _ => rfl
  have h1 : B.isEmpty = false := by cases B with | nil => cases hb | cons _ _ => rfl
  rw [h0, h1] at h
  simp only [Bool.false_or, decide_eq_true_eq] at h
  obtain ⟨i, hi, rfl⟩ := List.getElem_of_mem ha
  obtain ⟨j, hj, rfl⟩ := List.getElem_of_mem hb
  have l1 : kd A i ≤ kd A (A.length - 1) := by
    rcases Nat.lt_or_ge i (A.length - 1) with c | c
    · have := List.pairwise_iff_getElem.1 hA i (A.length - 1) hi (by omega) c
      rw [← kvd hi, ← kvd (L := A) (i := A.length - 1) (by omega)] at this
      have : kd A i < kd A (A.length - 1) := this
      omega
    · obtain rfl : i = A.length - 1 := by omega
      exact Int.le_refl _
  have l2 : kd B 0 ≤ kd B j := by
    rcases Nat.eq_zero_or_pos j with c | c
    · subst c; exact Int.le_refl _
    · have := List.pairwise_iff_getElem.1 hB 0 j (by omega) hj c
      rw [← kvd (L := B) (i := 0) (by omega), ← kvd hj] at this
      have : kd B 0 < kd B j := this
      omega
  rw [← kvd hi, ← kvd hj]
  show kd A i < kd B j
  omega
theorem uni_app {A B : List (Int × Int)} (hAB : Asc (A ++ B)) : uniF A B = A ++ B := by
  obtain ⟨hA, hB, hl⟩ := asc_append.1 hAB
  have U := uniF_T B A hA hB
  refine asc_ext U.asc hAB fun q => ?_
  rw [U.v, val_append]
  by_cases c : val A q = none
  · rw [c]; simp
  · by_cases d : val B q = none
    · rw [d]; simp
    · obtain ⟨x, hx, ex⟩ := val_in.1 c
      obtain ⟨y, hy, ey⟩ := val_in.1 d
      have := hl x hx y hy
      rw [ex, ey] at this
      exact absurd this (KO.irr q)
theorem ent_join {W0 W : World} {KS : List Int} {e f : Ent} (k : Int) {q : Option Addr} {t : Tr Int Value} {u : Value} (O : EntOk W0 KS e) (P : EntOk W0 KS f) (hj : joinsB e.L f.L = true) (ha : At W q t) (hq : ChQ e.t f.t t) (row : RowZ W u (uniF e.L f.L)) : EntOk W (k :: KS) ⟨q, t, u, uniF e.L f.L⟩ := by
  have hAB := joins_asc O.asc P.asc hj
  have er : t.rows = encL (uniF e.L f.L) := by rw [hq.1, O.rows, P.rows, uni_app hAB]; simp [encL]
  exact ⟨ha, hq.2, er, (uniF_T f.L e.L O.asc P.asc).asc, row, ks_uni O P k⟩
theorem rowAt_enc {A : List (Int × Int)} {i : Nat} (h : i < A.length) : Mii.rowAt (encL A) (i : Int) = some (kd A i, .int .i64 (vd A i)) := by
  unfold Mii.rowAt
  rw [if_pos (by omega), Int.toNat_natCast]
  unfold encL
  rw [List.getElem?_map, List.getElem?_eq_getElem h, ← kvd h]; rfl
theorem bad_facts {W : World} {KS : List Int} {e f : Ent} (O : EntOk W KS e) (P : EntOk W KS f) (h : joinsB e.L f.L = false) :
    ∃ xk xv yk yv, Mii.rowAt e.t.rows ((e.t.sz : Int) - 1) = some (xk, xv) ∧ Mii.rowAt f.t.rows 0 = some (yk, yv) ∧ yk ≤ xk := by
  unfold joinsB at h
  simp only [Bool.or_eq_false_iff, decide_eq_false_iff_not] at h
  obtain ⟨⟨h1, h2⟩, h3⟩ := h
  have l1 : 0 < e.L.length := by cases hl : e.L with | nil => rw [hl] at h1; cases h1 | cons _ _ => simp
  have l2 : 0 < f.L.length := by cases hl : f.L with | nil => rw [hl] at h2; cases h2 | cons _ _ => simp
  have e1 := rowAt_enc (A := e.L) (i := e.L.length - 1) (by omega)
  have e2 := rowAt_enc (A := f.L) (i := 0) l2
  rw [show ((e.L.length - 1 : Nat) : Int) = (e.t.sz : Int) - 1 by rw [O.sz]; omega] at e1
  exact ⟨_, _, _, _, by rw [O.rows]; exact e1, by rw [P.rows]; exact e2, by omega⟩
theorem join_tasc {W : World} {KS : List Int} {e f : Ent} (O : EntOk W KS e) (P : EntOk W KS f) (h : joinsB e.L f.L = true) : Asc (e.t.rows ++ f.t.rows) := by
  rw [O.rows, P.rows, show encL e.L ++ encL f.L = encL (e.L ++ f.L) by simp [encL]]
  exact enc_asc (joins_asc O.asc P.asc h)
theorem spl_val {W : World} {KS : List Int} {e : Ent} {k : Int} {x : Value} {f : Bool} (O : EntOk W KS e) (hx : x = (val e.t.rows k).getD (.int .i64 0)) (hf : f = (val e.t.rows k).isSome) : x = .int .i64 ((val e.L k).getD 0) ∧ f = (val e.L k).isSome := by
  rw [hx, hf, tval O]; cases val e.L k <;> exact ⟨rfl, rfl⟩
theorem ent_nil {W : World} {KS : List Int} : EntOk W KS ⟨none, .nil, .slice none 0 0, []⟩ :=
  ⟨rfl, trivial, rfl, Asc.nil, ⟨none, 0, rfl, fun i h => by simp at h, .inl rfl⟩, fun q h => by simp [val_nil] at h⟩
end Go.Proofs.Ytbphmcjjanchlaa

/- Join where it refuses; the reference's Union, whose list lies from a block's beginning on. -/
namespace Go.Proofs.Ytbphmcjjanchlaa.Mii
open Go.RowKit
set_option linter.unusedVariables false
set_option linter.unusedSimpArgs false
set_option maxRecDepth 100000 in
set_option maxHeartbeats 1000000 in
theorem Join_bad (p q : Option Addr) (a b : Tr Int Value) (xk yk : Int) (xv yv : Value) (w : World) (ha : At w p a) (hb : At w q b) (hX : rowAt a.rows ((a.sz : Int) - 1) = some (xk, xv)) (hY : rowAt b.rows 0 = some (yk, yv)) (hle : yk ≤ xk) (hz : a.sz + 1 + b.sz ≤ 2 ^ 58) :
    Calls Try.prog 32 #[.agg #[.pointer p], .agg #[.pointer q]] w fun e w' => e = .returned (.tuple #[.agg #[.pointer none], .int .i64 2]) ∧ Below w.heap.size w w' := by
  obtain ⟨n, hn⟩ : ∃ n : Int, (a.sz : Int) = n := ⟨_, rfl⟩
  rw [hn] at hX
  have q1 := IntWalk.i64_in (n - 1) (by omega)
  have t1 : decide (yk ≤ xk) = true := decide_eq_true hle
  have LA := Lib.hid (fun W hW => At_any p a (n - 1) W hW (by omega) (by omega) (by omega))
  rw [hX] at LA
  have LB := Lib.hid (fun W hW => At_any q b 0 W hW (by decide) (by decide) (by omega))
  rw [hY] at LB
  have Hn := Lib.hid hn
  have TA := Lib.hid ha
  have TB := Lib.hid hb
  have HB := Lib.hid (box3j w p q)
  clear ha hb hz hn hX hY
  unfold AtV at LA LB
  dsimp only at LA LB
  try simp only [show ∀ z : Int, (KV.kv z : Value) = .int .i64 z from fun _ => rfl] at LA
  try simp only [show ∀ z : Int, (KV.kv z : Value) = .int .i64 z from fun _ => rfl] at LB
  go_enter Try.func32, Try.ntmps32
  go_wp2_with fail
  generalize e2 : (((w.alloc (Obj.cells #[Value.pointer p] 35)).alloc (Obj.cells #[Value.pointer q] 35)).alloc (Obj.cells #[Value.pointer none] 35)) = w0
  obtain ⟨k1, k2, k3, f3, sz, bel⟩ := HB.out w0 e2
  have BL := Lib.hid bel
  replace TA := Lib.hid (TA.out.below bel (Nat.le_refl _))
  replace TB := Lib.hid (TB.out.below bel (Nat.le_refl _))
  clear HB e2 bel
  go_region_held3 (fun w' => w'.cell? ⟨w.heap.size, 0, none⟩ = some (.pointer p))
    (first | exact k1 | exact cell_dr k1 | exact cell_al _ k1 | exact cell_al _ (cell_dr k1) | exact cell_al _ (cell_al _ k1) | exact cell_st (by dsimp only; omega) k1 | exact cell_st (by dsimp only; omega) (cell_dr k1) | exact cell_al _ (cell_st (by dsimp only; omega) k1) | exact cell_st (by dsimp only; omega) (cell_st (by dsimp only; omega) k1))
    (first
      | (go_at_call 25; (with_reducible refine (Len_any p _ n _ (by first | exact TA.out | exact TA.out.drew) Hn.out).mono ?_); rintro e w1 ⟨rfl, st0⟩; have st : Below w0.heap.size w0 w1 := (by first | exact st0 | exact Below.of_dr st0); replace f3 := fro_gr st k3 f3; replace k1 := cell_gr st k1; replace k2 := cell_gr st k2; replace k3 := cell_gr st k3; replace TA := Lib.hid (TA.out.grow st); replace TB := Lib.hid (TB.out.grow st); replace BL := Lib.hid (BL.out.trans (st.mono BL.out.size)); replace sz := Nat.lt_of_lt_of_le sz st.size; clear st st0)
      | (go_at_call 60; (with_reducible refine (LA.out _ (by first | exact TA.out | exact TA.out.drew)).mono ?_); rintro e w2 ⟨rfl, st0⟩; have st : Below w1.heap.size w1 w2 := (by first | exact st0 | exact Below.of_dr st0); replace f3 := fro_gr st k3 f3; replace k1 := cell_gr st k1; replace k2 := cell_gr st k2; replace k3 := cell_gr st k3; replace TA := Lib.hid (TA.out.grow st); replace TB := Lib.hid (TB.out.grow st); replace BL := Lib.hid (BL.out.trans (st.mono BL.out.size)); replace sz := Nat.lt_of_lt_of_le sz st.size; clear st st0))
  clear LA Hn q1
  have z0 : w.heap.size < w2.heap.size := by omega
  have z1 : w.heap.size + 1 < w2.heap.size := by omega
  go_wp2_with fail
  refine (LB.out _ TB.out).mono ?_
  rintro e w3 ⟨rfl, st0⟩
  have st : Below w2.heap.size w2 w3 := (by first | exact st0 | exact Below.of_dr st0)
  replace f3 := fro_gr st k3 f3
  replace k1 := cell_gr st k1
  replace k2 := cell_gr st k2
  replace k3 := cell_gr st k3
  replace TA := Lib.hid (TA.out.grow st)
  replace TB := Lib.hid (TB.out.grow st)
  replace BL := Lib.hid (BL.out.trans (st.mono BL.out.size))
  replace sz := Nat.lt_of_lt_of_le sz st.size
  clear st st0
  have z0 : w.heap.size < w3.heap.size := by omega
  have z1 : w.heap.size + 1 < w3.heap.size := by omega
  have FIN : Hid (Below w.heap.size w (w3.setCell ⟨w.heap.size + 1 + 1, 0, none⟩ (.pointer none))) := Lib.hid (BL.out.setCell (p := ⟨w.heap.size + 1 + 1, 0, none⟩) (by dsimp only; omega) _)
  clear TA TB BL LB
  go_wp2_with fail
  exact bodyPost_ret (v := .tuple #[.agg #[.pointer none], .int .i64 2]) (by simp [results, Try.results32, go_sem, k3, sz]) rfl ⟨rfl, FIN.out⟩
end Go.Proofs.Ytbphmcjjanchlaa.Mii
namespace Go.Proofs.Ytbphmcjjanchlaa
open Go.RowKit Go.Proofs.Ytbphmcjjanchlaa.Mii
set_option maxRecDepth 100000 in
set_option maxHeartbeats 2000000 in
theorem rUnionZ_any (s : Option Addr) (d : Nat) (A : List (Int × Int)) (p : Option Addr) (c : Nat) (L : List (Int × Int)) (w : World) (ra : RowsR w s A) (za : Z0 s A) (r : RowsR w p L) (la : A.length ≤ 400000) (ln : L.length ≤ 400000) :
    Calls Try.prog 67 #[.slice s A.length d, .slice p L.length c] w (fun e w' => ∃ v, e = .returned v ∧ RowZ w' v (uniF A L) ∧ Below w.heap.size w w') := by
  have R := Lib.hid r
  have RA := Lib.hid ra
  have UL := Lib.hid (fun i => (by have := uniF_length (L.take i) A; simp at this; omega : (uniF A (L.take i)).length ≤ 800000))
  obtain ⟨x, hx⟩ : ∃ x, x = L.length := ⟨_, rfl⟩
  rw [← hx] at ln ⊢
  have HX := Lib.hid hx
  clear hx r ra
  go_enter Try.func67, Try.ntmps67
  go_wp2_with fail
  go_loopw [5, 6] (fun ov kv wr => ∃ (i : Nat) (M : List (Int × Int)) (q : Option Addr) (cq : Nat), i ≤ x ∧ ov = .slice q M.length cq ∧ kv = .int .i64 i ∧ Hid (M = uniF A (L.take i)) ∧ Hid (RowsR wr q M) ∧ Hid (Z0 q M) ∧ Below w.heap.size w wr) (fun _ kv _ => x - (intOf kv).toNat)
  case atStart => exact ⟨0, A, s, d, Nat.zero_le _, rfl, rfl, Lib.hid rfl, RA, Lib.hid za, Below.refl _ _⟩
  case round =>
    obtain ⟨i, M, q, cq, hi', rfl, rfl, HM, HR, HZ0, hbel⟩ := hrel
    by_cases t1 : i < x
    · have l1 : i < L.length := by have := HX.out; omega
      obtain ⟨xa, rfl, kx, cx0, dx0⟩ := R.out i l1
      have cx : wr.cell? (xa.add (i * 2)) = some (.int .i64 (kd L i)) := (hbel.cell (by rw [adb]; exact kx)).trans cx0
      have dx : wr.cell? ⟨(xa.add (i * 2)).block, (xa.add (i * 2)).off + 1, none⟩ = some (.int .i64 (vd L i)) := (hbel.cell (p := ⟨(xa.add (i * 2)).block, (xa.add (i * 2)).off + 1, none⟩) (by rw [adb]; exact kx)).trans dx0
      have i1 : (0 : Int) ≤ (i : Int) := by omega
      have i2 : (i : Int) < (x : Int) := by omega
      have LM : M.length ≤ 1000000 := by have := UL.out i; rw [HM.out]; omega
      have P := Lib.hid (fun W hW => rPut_any q cq M (kd L i) (vd L i) W hW LM)
      have F := Lib.hid (show putF (kd L i) (vd L i) M false = uniF A (L.take (i + 1)) by rw [uniF_step l1, ← HM.out])
      have BL := Lib.hid hbel
      generalize kd L i = k at *
      generalize vd L i = y at *
      generalize hml : M.length = ml at *
      clear cx0 dx0 LM UL RA HM hml
      go_wp2_with fail
      go_region_held3 (fun w' => w'.cell? (xa.add (i * 2)) = some (.int .i64 k) ∧ w'.cell? ⟨(xa.add (i * 2)).block, (xa.add (i * 2)).off + 1, none⟩ = some (.int .i64 y))
        (exact ⟨cx, dx⟩)
        (first
          | (go_at_call 87; (with_reducible refine (P.out _ (by first | exact HR.out | exact HR.out.below (Below.refl _ wr).drew)).mono ?_); rintro e w1 ⟨v', rfl, ho, st0⟩; obtain ⟨p1, c1, rfl, r1, zz⟩ := ownRowsZ ho; have Z1 := Lib.hid zz; clear zz; have B1 : Below w.heap.size w w1 := (Below.dr BL.out).trans (st0.mono BL.out.size); have R1 := Lib.hid r1; replace cx := cell_gr st0 (cell_dr cx); replace dx := cell_gr st0 (cell_dr dx); clear ho r1 st0 BL P HR hbel))
      go_wp2_with fail
      go_roundw
      case rel => exact ⟨i + 1, _, p1, c1, by omega, rfl, by go_num, F, R1, Z1, B1⟩
      case measure => simp [intOf]; omega
    · have F : M = uniF A L := by have := HM.out; rwa [List.take_of_length_le (by have := HX.out; omega)] at this
      subst F
      go_wp2_with fail
      go_ret
      exact ⟨_, rfl, ⟨q, cq, rfl, HR.out, HZ0.out⟩, hbel⟩
end Go.Proofs.Ytbphmcjjanchlaa

/- A region whose operations come in any order, by what holds behind each of them: plain facts on the model's own words. -/
namespace Go.Proofs.Ytbphmcjjanchlaa
open Go.RowKit
set_option linter.unusedVariables false
set_option linter.unusedSimpArgs false

/-- Every operation waits for earlier ones alone. -/
def topoB (ops : Array Oper) : Bool := (List.range ops.size).all fun i => ((ops[i]?).map fun o => o.after.all fun e => decide (e.on < i)).getD true
theorem topo_spec {ops : Array Oper} (h : topoB ops = true) {i : Nat} {o : Oper} (ho : ops[i]? = some o) : ∀ e ∈ o.after, e.on < i := by
  have hi : i < ops.size := (Array.getElem?_eq_some_iff.1 ho).1
  unfold topoB at h
  rw [List.all_eq_true] at h
  have := h i (List.mem_range.2 hi)
  rw [ho] at this
  simp only [Option.map_some, Option.getD_some] at this
  intro e he
  rw [Array.all_eq_true_iff_forall_mem] at this
  simpa using this e he

theorem getD_bool {l : Array Bool} {i : Nat} (h : l.getD i true = true) (hi : i < l.size) : l.getD i false = true := by
  simp [Array.getD, hi] at h ⊢
  exact h

/-- While one has not come up, one may come up. -/
theorem ready_some {ops : Array Oper} {md : Region.Mode} (ht : topoB ops = true) {listed : Array Bool} (hs : listed.size = ops.size) : ∀ (n i : Nat), i < n → i < ops.size → listed.getD i true = false → Region.ready md ops listed ≠ [] := by
  intro n
  induction n with
  | zero => intro i h; omega
  | succ n ih =>
    intro i hn hi hl
    by_cases hall : ∀ j, j < i → listed.getD j true = true
    · have ho : ops[i]? = some ops[i] := Array.getElem?_eq_getElem hi
      have hm : i ∈ Region.ready md ops listed := mem_ready.2 ⟨hl, ops[i], ho, fun e he _ => getD_bool (hall _ (topo_spec ht ho e he)) (by have := topo_spec ht ho e he; omega)⟩
      intro h0
      rw [h0] at hm
      cases hm
    · have hex : ∃ j, j < i ∧ listed.getD j true = false := by
        apply Classical.byContradiction
        intro hno
        apply hall
        intro j hj
        cases hb : listed.getD j true
        · exact absurd ⟨j, hj, hb⟩ hno
        · rfl
      obtain ⟨j, hj, hb⟩ := hex
      exact ih j (by omega) (by omega) hb

/-- What is listed has what it waits for listed too. -/
def Closed (md : Region.Mode) (ops : Array Oper) (listed : Array Bool) : Prop :=
  ∀ i o, ops[i]? = some o → listed.getD i false = true → ∀ e ∈ o.after, Region.binds md e = true → listed.getD e.on false = true
theorem getD_set_same {l : Array Bool} {i : Nat} (h : i < l.size) : (l.setIfInBounds i true).getD i false = true := by simp [Array.getD, h]
theorem getD_set_keep {l : Array Bool} {i j : Nat} (h : l.getD j false = true) : (l.setIfInBounds i true).getD j false = true := by
  by_cases hj : j < l.size
  · by_cases e : i = j
    · subst e; exact getD_set_same hj
    · simp [Array.getD, hj, Array.getElem_setIfInBounds_ne hj e] at h ⊢; exact h
  · simp [Array.getD, hj] at h
theorem getD_set_back {l : Array Bool} {i j : Nat} (h : (l.setIfInBounds i true).getD j false = true) (e : i ≠ j) : l.getD j false = true := by
  by_cases hj : j < l.size
  · simp [Array.getD, hj, Array.getElem_setIfInBounds_ne hj e] at h ⊢; exact h
  · simp [Array.getD, hj] at h
theorem Closed.step {md : Region.Mode} {ops : Array Oper} {listed : Array Bool} (h : Closed md ops listed) {i : Nat} (hi : i ∈ Region.ready md ops listed) : Closed md ops (listed.setIfInBounds i true) := by
  intro j o ho hj e he hb
  by_cases eq : i = j
  · subst eq
    obtain ⟨_, o', ho', hall⟩ := mem_ready.1 hi
    rw [ho] at ho'
    cases ho'
    exact getD_set_keep (hall e he hb)
  · exact getD_set_keep (h j o ho (getD_set_back hj eq) e he hb)

/-- How many have not come up. -/
def unl (l : Array Bool) : Nat := (l.toList.filter (fun b => !b)).length
theorem unl_set {l : Array Bool} {i : Nat} (hi : i < l.size) (h : l.getD i true = false) : unl (l.setIfInBounds i true) + 1 = unl l := by
  unfold unl
  have hg : l[i] = false := by simpa [Array.getD, hi] using h
  have e : l.toList = l.toList.take i ++ l[i] :: l.toList.drop (i + 1) := by
    have := List.take_append_drop i l.toList
    rw [List.drop_eq_getElem_cons (by simpa using hi)] at this
    simpa using this.symm
  have e2 : (l.setIfInBounds i true).toList = l.toList.take i ++ true :: l.toList.drop (i + 1) := by
    rw [Array.toList_setIfInBounds, List.set_eq_take_append_cons_drop, if_pos (by simpa using hi)]
  rw [e2]
  conv => rhs; rw [e]
  simp [hg]
  omega
theorem unl_zero {l : Array Bool} (h : unl l = 0) (i : Nat) : l.getD i true = true := by
  by_cases hi : i < l.size
  · cases hb : l.getD i true
    · have := unl_set hi hb; omega
    · rfl
  · simp [Array.getD, hi]

section
variable {P : Program} {ops : Array Oper} {Q : Exit → Act → World → Prop} {md : Region.Mode}
/-- Any order, by an invariant; where 'stop' holds the walk goes on by other means. -/
theorem wpAny_inv (ht : topoB ops = true) (I : Array Bool → Act → World → Prop) (stop : Array Bool → Prop)
    (hstop : ∀ listed, (∀ i, listed.getD i true = true) → listed.size = ops.size → stop listed)
    (hstep : ∀ listed a w, listed.size = ops.size → Closed md ops listed → I listed a w → ¬ stop listed → ∀ i o, ops[i]? = some o → listed.getD i true = false →
      (∀ e ∈ o.after, Region.binds md e = true → listed.getD e.on false = true) → ∀ K' : Act → World → Prop, (∀ a w, I (listed.setIfInBounds i true) a w → K' a w) →
      if Region.wanted o (yielded ops a.tmps) = true then Oper.wp P o a w K' Q else K' (a.put o.dst undef) w)
    (hend : ∀ fuel listed a w, listed.size = ops.size → Closed md ops listed → I listed a w → stop listed → unl listed ≤ fuel → wpAny P md ops Q fuel listed a w) :
    ∀ fuel listed a w, listed.size = ops.size → Closed md ops listed → unl listed ≤ fuel → I listed a w → wpAny P md ops Q fuel listed a w := by
  intro fuel
  induction fuel with
  | zero =>
    intro listed a w hs hc hu hI
    exact hend 0 listed a w hs hc hI (hstop listed (unl_zero (by omega)) hs) hu
  | succ fuel ih =>
    intro listed a w hs hc hu hI
    by_cases hst : stop listed
    · exact hend _ listed a w hs hc hI hst hu
    · have hex : ∃ i, i < ops.size ∧ listed.getD i true = false := by
        apply Classical.byContradiction
        intro hno
        apply hst
        refine hstop listed (fun i => ?_) hs
        by_cases hi : i < ops.size
        · cases hb : listed.getD i true
          · exact absurd ⟨i, hi, hb⟩ hno
          · rfl
        · simp [Array.getD, hs, hi]
      obtain ⟨i0, hi0, hb0⟩ := hex
      refine ⟨fun h0 => absurd h0 (ready_some ht hs (i0 + 1) i0 (by omega) hi0 hb0), fun i hi => ?_⟩
      obtain ⟨hun, o, ho, hall⟩ := mem_ready.1 hi
      have hi' : i < listed.size := by have := (Array.getElem?_eq_some_iff.1 ho).1; omega
      refine wpOp_step ho (fun K' hK => hstep listed a w hs hc hI hst i o ho hun hall K' (fun a w h => hK a w ?_))
      exact ih _ a w (by simpa using hs) (hc.step hi) (by have := unl_set hi' hun; omega) h
end
end Go.Proofs.Ytbphmcjjanchlaa

/- A region whose last operations store into what its first ones read: what is held is held behind the first n operations alone. Plain facts on the model's own words. -/
namespace Go.Proofs.Ytbphmcjjanchlaa
open Go.RowKit
set_option linter.unusedVariables false
set_option linter.unusedSimpArgs false

section
variable {P : Program} {ops : Array Oper} {Q : Exit → Act → World → Prop} {md : Region.Mode} {S : World → Prop} {n : Nat}
/-- Whatever order is picked; S holds behind each of the first n. -/
def wpAnyG (P : Program) (md : Region.Mode) (ops : Array Oper) (Q : Exit → Act → World → Prop) (S : World → Prop) (n : Nat) : Nat → Array Bool → Act → World → Prop
  | 0, listed, a, w => Region.ready md ops listed = [] ∧ Q .normal a w
  | fuel + 1, listed, a, w =>
    (Region.ready md ops listed = [] → Q .normal a w) ∧
    ∀ i ∈ Region.ready md ops listed, wpOp P ops Q i (fun a' w' => (i < n → S w') ∧ wpAnyG P md ops Q S n fuel (listed.setIfInBounds i true) a' w') a w
theorem wpAny_of_G : ∀ (fuel : Nat) (listed : Array Bool) (a : Act) (w : World), wpAnyG P md ops Q S n fuel listed a w → wpAny P md ops Q fuel listed a w
  | 0, _, _, _, h => h
  | fuel + 1, _, _, _, h => ⟨h.1, fun i hi => wpOp_mono (fun a' w' h' => wpAny_of_G fuel _ a' w' h'.2) (h.2 i hi)⟩
/-- Number t waits for number i, at once or through others. -/
def waitsT (md : Region.Mode) (ops : Array Oper) : Nat → Nat → Nat → Bool
  | 0, _, _ => false
  | f + 1, t, i => match ops[t]? with
    | some o => o.after.any fun e => Region.binds md e && (e.on == i || waitsT md ops f e.on i)
    | none => false
theorem waitsT_spec {i : Nat} {listed : Array Bool} (hc : Closed md ops listed) (hi : listed.getD i false = false) : ∀ (f t : Nat), waitsT md ops f t i = true → ∃ o, ops[t]? = some o ∧ ∃ e ∈ o.after, Region.binds md e = true ∧ listed.getD e.on false = false
  | 0, t, h => by cases h
  | f + 1, t, h => by
    unfold waitsT at h
    split at h
    · rename_i o ho
      obtain ⟨e, he, hb⟩ := Array.any_eq_true'.1 h
      simp only [Bool.and_eq_true, Bool.or_eq_true, beq_iff_eq] at hb
      refine ⟨o, ho, e, he, hb.1, ?_⟩
      rcases hb.2 with h2 | h2
      · rw [h2]; exact hi
      · obtain ⟨o2, ho2, e2, he2, hb2, hl2⟩ := waitsT_spec hc hi f e.on h2
        cases hl : listed.getD e.on false with
        | false => rfl
        | true => have := hc e.on o2 ho2 hl e2 he2 hb2; rw [hl2] at this; cases this
    · cases h
/-- From number n on every operation waits for number i. -/
def tailB (md : Region.Mode) (ops : Array Oper) (n i : Nat) : Bool := (List.range ops.size).all fun t => decide (t < n) || waitsT md ops 6 t i
theorem tail_not {i : Nat} {listed : Array Bool} (hc : Closed md ops listed) (hT : tailB md ops n i = true) (hi : listed.getD i false = false) : ∀ j ∈ Region.ready md ops listed, j < n := fun j hj => by
  obtain ⟨_, oj, hoj, hall⟩ := mem_ready.1 hj
  unfold tailB at hT
  rw [List.all_eq_true] at hT
  have h1 := hT j (List.mem_range.2 (Array.getElem?_eq_some_iff.1 hoj).1)
  rw [Bool.or_eq_true] at h1
  rcases h1 with h1 | h1
  · simpa using h1
  · obtain ⟨o', ho', e, he, hb, hl⟩ := waitsT_spec hc hi 6 j h1
    rw [hoj] at ho'; cases ho'
    have := hall e he hb
    rw [hl] at this; cases this
def closedB (md : Region.Mode) (ops : Array Oper) (listed : Array Bool) : Bool := (List.range ops.size).all fun j => !listed.getD j false || ((ops[j]?).map fun o => o.after.all fun e => !Region.binds md e || listed.getD e.on false).getD true
theorem closedB_spec {listed : Array Bool} (h : closedB md ops listed = true) : Closed md ops listed := fun j o ho hl e he hb => by
  unfold closedB at h
  rw [List.all_eq_true] at h
  have h1 := h j (List.mem_range.2 (Array.getElem?_eq_some_iff.1 ho).1)
  rw [hl, ho] at h1
  simp only [Bool.not_true, Bool.false_or, Option.map_some, Option.getD_some] at h1
  have h2 := Array.all_eq_true_iff_forall_mem.1 h1 e he
  rw [hb] at h2
  simpa using h2
theorem wpAnyG_first {i : Nat} {oi : Oper} {v : Value} (hi : ops[i]? = some oi) (hsel : ∀ (j : Nat) (o : Oper) cs b, ops[j]? = some o → o.op ≠ .select cs b)
    (hQ : ∀ c a w, Q (.panic c) (a.put oi.dst v) w → Q (.panic c) a w) (hT : tailB md ops n i = true) (hin : i < n) :
    ∀ (fuel : Nat) (listed : Array Bool) (a : Act) (w : World), Closed md ops listed →
      (∀ j oj, ops[j]? = some oj → j ≠ i → listed.getD j true = false → (∀ e ∈ oj.after, Region.binds md e = true → e.on ≠ i) → oi.apart ops oj = true) →
      i ∈ Region.ready md ops listed → YieldsIf P ops S oi v a → S w →
      wpAnyG P md ops Q S n fuel (listed.setIfInBounds i true) (a.put oi.dst v) w → wpAnyG P md ops Q S n (fuel + 1) listed a w := by
  intro fuel
  induction fuel with
  | zero =>
    intro listed a w _ _ hr hy hS H
    refine ⟨fun h => (by rw [h] at hr; cases hr), fun j hj => ?_⟩
    by_cases hji : j = i
    · subst hji; exact hy.wpOp hi hS ⟨fun _ => hS, H⟩
    · have := ready_mono hj hji
      rw [H.1] at this
      cases this
  | succ fuel ih =>
    intro listed a w hcl hfree hr hy hS H
    refine ⟨fun h => (by rw [h] at hr; cases hr), fun j hj => ?_⟩
    by_cases hji : j = i
    · subst hji; exact hy.wpOp hi hS ⟨fun _ => hS, H⟩
    · have hjn : j < n := tail_not hcl hT (getD_both (mem_ready.1 hr).1) j hj
      have h1 := H.2 j (ready_mono hj hji)
      obtain ⟨hjun, oj, hoj, hall⟩ := mem_ready.1 hj
      have hnot : ∀ e ∈ oj.after, Region.binds md e = true → e.on ≠ i := fun e he hb heq => by
        have h1 := hall e he hb
        have h0 := getD_both (mem_ready.1 hr).1
        rw [heq, h0] at h1
        cases h1
      have h2 := wpOp_putIf hoj (hfree j oj hoj hji hjun hnot) (fun cs b => hsel i oi cs b hi) (fun cs b => hsel j oj cs b hoj) hQ hy h1
      have hfree' : ∀ k ok, ops[k]? = some ok → k ≠ i → (listed.setIfInBounds j true).getD k true = false →
          (∀ e ∈ ok.after, Region.binds md e = true → e.on ≠ i) → oi.apart ops ok = true := fun k ok hk hki hun hno => by
        refine hfree k ok hk hki ?_ hno
        by_cases hjk : j = k
        · subst hjk; exact hjun
        · rw [getD_set_ne true hjk] at hun; exact hun
      refine wpOp_mono (fun a' w' h3 => ⟨fun _ => h3.2.1 hjn, ih (listed.setIfInBounds j true) a' w' (hcl.step hj) hfree' (ready_mono hr (Ne.symm hji)) h3.1 (h3.2.1 hjn) ?_⟩) h2
      rw [Array.setIfInBounds_comm _ _ hji]
      exact h3.2.2
theorem wpAnyG_take {i : Nat} {oi : Oper} {v : Value} {fuel : Nat} {listed : Array Bool} {a : Act} {w : World} (hi : ops[i]? = some oi)
    (hs : Region.noSelect ops = true) (hf : Region.free md ops listed i = true) (hr : (Region.ready md ops listed).contains i = true) (hT : tailB md ops n i = true) (hcl : closedB md ops listed = true) (hin : i < n)
    (hQ : ∀ c a w, Q (.panic c) (a.put oi.dst v) w → Q (.panic c) a w) (hw : Region.wanted oi (yielded ops a.tmps) = true) (hy : ∀ w, S w → (execOp a.eval oi).run P w = .ok (.value v) w) (hS : S w)
    (h : wpAnyG P md ops Q S n fuel (listed.setIfInBounds i true) (a.put oi.dst v) w) : wpAnyG P md ops Q S n (fuel + 1) listed a w :=
  wpAnyG_first hi (Region.noSelect_spec hs) hQ hT hin fuel listed a w (closedB_spec hcl) (Region.free_spec hi hf) (by simpa using hr) (.inl ⟨hw, hy⟩) hS h
/-- One alone may come up. -/
theorem wpAnyG_one {i : Nat} {o : Oper} {fuel : Nat} {listed : Array Bool} {a : Act} {w : World} (hr : Region.ready md ops listed = [i]) (ho : ops[i]? = some o)
    (h : ∀ K' : Act → World → Prop, Shut (∀ a w, (i < n → S w) → wpAnyG P md ops Q S n fuel (listed.setIfInBounds i true) a w → K' a w) → if Region.wanted o (yielded ops a.tmps) = true then Oper.wp P o a w K' Q else K' (a.put o.dst undef) w) : wpAnyG P md ops Q S n (fuel + 1) listed a w :=
  ⟨fun h0 => (by rw [hr] at h0; cases h0), hr ▸ fun j hj => by
    rw [List.mem_singleton] at hj; subst hj
    exact wpOp_step ho (fun K' hK => h K' (fun a w h1 h2 => hK a w ⟨h1, h2⟩))⟩
theorem wpAnyG_done {listed : Array Bool} {a : Act} {w : World} (hr : Region.ready md ops listed = []) (h : Q .normal a w) :
    ∀ fuel, wpAnyG P md ops Q S n fuel listed a w
  | 0 => ⟨hr, h⟩
  | _ + 1 => ⟨fun _ => h, by rw [hr]; simp⟩
theorem wp_region_G (S : World → Prop) (n : Nat) {id : Nat} {a : Act} {w : World} (hm : P.follows .mixedOrders = true)
    (h : wpAnyG P .any ops Q S n ops.size (Array.replicate ops.size false) a w.drew) : (Code.region id ops true).wp P Q a w := wp_region_any hm (wpAny_of_G _ _ _ _ h)
end
end Go.Proofs.Ytbphmcjjanchlaa
