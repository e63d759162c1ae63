/- Several texts in one: R2 R4 B1 B2 B3 M1 B4 B5 B6. -/
import Derived.Test.YtlahdfmciaibdaaDoorM6
import Derived.Test.YtlahdfmciaibdaaDoorB0
import Derived.Test.YtlahdfmciaibdaaDoorShelf
import Derived.Test.YtlahdfmciaibdaaDoorND2
import Derived.Laws.AppendOwnNone
import Derived.Deep.RegionWith
import Derived.Deep.RegionHeld3
import Derived.Deep.CutBlock

/- The reference's rows of digits: cmpD. -/
namespace Go.Proofs.YtlahdfmciaibdaaDoor
open Go.RowKit
set_option linter.unusedVariables false
set_option linter.unusedSimpArgs false

/-- The slice reads as this row. -/
def RowR (w : World) (p : Option Addr) (l : List Int) : Prop := ∀ i (h : i < l.length), ∃ g, p = some ⟨g, 0, none⟩ ∧ g < w.heap.size ∧ w.cell? ⟨g, i, none⟩ = some (.int .i64 l[i])

theorem RowR.below {w w' : World} {p : Option Addr} {l : List Int} (r : RowR w p l) (hb : Below w.heap.size w w') : RowR w' p l := fun i h => by
  obtain ⟨g, e, k, c⟩ := r i h
  exact ⟨g, e, Nat.lt_of_lt_of_le k hb.size, by rw [(bcell hb).1 g i k]; exact c⟩

/-- cmpD's answer. -/
def cmpZ (a b : Int) : Int := if a < b then -1 else if b < a then 1 else 0

theorem cmpD_any (pa pb : Option Addr) (ca cb : Nat) (a b : List Int) (w : World) (ha : Digs a) (hb : Digs b) (na : Norm a) (nb : Norm b) (ra : RowR w pa a) (rb : RowR w pb b) (la : a.length ≤ 1000000) (lb : b.length ≤ 1000000) :
    Calls Tryd.prog 69 #[.slice pa a.length ca, .slice pb b.length cb] w fun e w' => e = .returned (.int .i64 (cmpZ (dval a) (dval b))) ∧ ∃ n, w' = w.drewN n := by
  by_cases h1 : a.length < b.length
  · have k := dval_shorter ha hb nb h1
    have K : Hid (-1 = cmpZ (dval a) (dval b)) := by show -1 = cmpZ _ _; unfold cmpZ; rw [if_pos k]
    clear k ra rb na nb ha hb
    generalize cmpZ (dval a) (dval b) = V at *
    generalize a.length = x at *
    generalize b.length = y at *
    go_enter Tryd.func69, Tryd.ntmps69
    go_wp2
    go_ret
    exact ⟨ret_i K.out, 0, rfl⟩
  by_cases h2 : b.length < a.length
  · have k := dval_shorter hb ha na h2
    have K : Hid (1 = cmpZ (dval a) (dval b)) := by show 1 = cmpZ _ _; unfold cmpZ; rw [if_neg (by omega), if_pos k]
    clear k ra rb na nb ha hb
    generalize cmpZ (dval a) (dval b) = V at *
    generalize a.length = x at *
    generalize b.length = y at *
    go_enter Tryd.func69, Tryd.ntmps69
    go_wp2
    go_ret
    exact ⟨ret_i K.out, 0, rfl⟩
  have h3 : a.length = b.length := by omega
  have H3 := Lib.hid h3
  generalize hx : a.length = x at *
  rw [← h3]
  clear h3 h1 h2
  generalize hV : cmpZ (dval a) (dval b) = V
  have HV := Lib.hid hV
  clear hV
  have Ra := Lib.hid ra
  have Rb := Lib.hid rb
  have Da := Lib.hid ha
  have Db := Lib.hid hb
  have Hx := Lib.hid hx
  clear ra rb ha hb na nb hx
  go_enter Tryd.func69, Tryd.ntmps69
  go_wp2
  go_loopw [5] (fun v wr => ∃ k : Nat, k ≤ x ∧ v = .int .i64 ((k : Int) - 1) ∧ Hid (a.drop k = b.drop k) ∧ ∃ n, wr = w.drewN n) (fun v _ => (intOf v + 1).toNat)
  case atStart => exact ⟨x, Nat.le_refl _, rfl, by show a.drop x = b.drop x; rw [List.drop_of_length_le (by have := Hx.out; omega), List.drop_of_length_le (by have := H3.out; omega)], 0, rfl⟩
  case round =>
    obtain ⟨k, hk, rfl, hd, n, rfl⟩ := hrel
    rcases k with _ | j
    · have K : Hid (0 = V) := by
        have e : a = b := by simpa using hd.out
        show 0 = V
        rw [← HV.out, e]; unfold cmpZ; rw [if_neg (by omega), if_neg (by omega)]
      clear hd
      go_wp2
      go_ret
      exact ⟨ret_i K.out, n, rfl⟩
    · have ja : j < a.length := by have := Hx.out; omega
      have jb : j < b.length := by have := H3.out; omega
      obtain ⟨ga, rfl, ka, cA⟩ := Ra.out j ja
      obtain ⟨gb, rfl, kb, cB⟩ := Rb.out j jb
      have eA : a = a.take j ++ a[j] :: a.drop (j + 1) := by simp
      have eB : b = b.take j ++ b[j] :: b.drop (j + 1) := by simp
      have dA : Digs (a.take j) := fun x m => Da.out x (List.mem_of_mem_take m)
      have dB : Digs (b.take j) := fun x m => Db.out x (List.mem_of_mem_take m)
      have rA := Da.out a[j] (List.getElem_mem ja)
      have rB := Db.out b[j] (List.getElem_mem jb)
      have lenE : (a.take j).length = (b.take j).length := by simp; omega
      have kLt : a[j] < b[j] → Hid (-1 = V) := fun t => by
        have := dval_at (c := b.drop (j + 1)) dA dB lenE t
        rw [← hd.out, ← eA, hd.out, ← eB] at this
        show -1 = V
        rw [← HV.out]; unfold cmpZ; rw [if_pos this]
      have kGt : b[j] < a[j] → Hid (1 = V) := fun t => by
        have := dval_at (c := b.drop (j + 1)) dB dA lenE.symm t
        rw [← eB, ← hd.out, ← eA] at this
        show 1 = V
        rw [← HV.out]; unfold cmpZ; rw [if_neg (by omega), if_pos this]
      have kEq : a[j] = b[j] → Hid (a.drop j = b.drop j) := fun t => by
        show a.drop j = b.drop j
        rw [List.drop_eq_getElem_cons ja, List.drop_eq_getElem_cons jb, t, hd.out]
      have e1 : (((j + 1 : Nat) : Int) - 1) = (j : Int) := by omega
      have j0 : (0 : Int) ≤ (j : Int) := by omega
      have jx : (j : Int) < (x : Int) := by omega
      rw [e1]
      generalize a[j] = u at *
      generalize b[j] = v at *
      clear eA eB dA dB lenE hd e1 ka kb
      rcases (by omega : u < v ∨ v < u ∨ (u ≤ v ∧ v ≤ u)) with t | t | ⟨t, t'⟩
      · have K := kLt t
        clear kLt kGt kEq
        go_wp2
        go_quiet (fail)
        go_wp2
        go_ret
        exact ⟨ret_i K.out, _, World.drewN_drewN _ _ _⟩
      · have K := kGt t
        clear kLt kGt kEq
        go_wp2
        go_quiet (fail)
        go_wp2
        go_quiet (fail)
        go_wp2
        go_ret
        exact ⟨ret_i K.out, _, by rw [World.drewN_drewN, World.drewN_drewN]⟩
      · have K := kEq (by omega)
        clear kLt kGt kEq
        go_wp2
        go_quiet (fail)
        go_wp2
        go_quiet (fail)
        go_wp2
        go_roundw
        case rel => exact ⟨j, by omega, rfl, K, _, by first | rfl | rw [World.drewN_drewN, World.drewN_drewN]⟩
        case measure => simp [intOf]
end Go.Proofs.YtlahdfmciaibdaaDoor

/- The reference's rows: trim. -/
namespace Go.Proofs.YtlahdfmciaibdaaDoor
open Go.RowKit
set_option linter.unusedVariables false
set_option linter.unusedSimpArgs false

theorem intInfo : (Tryd.prog.info? 3).map (fun i => (i.zero, i.size, i.bytes)) = some (some (.int .i64 0), 1, 8) := by kernel_rfl

/-- A call's result is a slice in new memory that reads as the digits of x. -/
def RowRes (x : Int) (n : Nat) (w : World) (e : Ending) (w' : World) : Prop :=
  ∃ t p c, e = .returned (.slice p t.length c) ∧ Can t x ∧ t.length ≤ n ∧ RowR w' p t ∧ (p = none → c = 0) ∧ (∀ a, p = some a → w.heap.size ≤ a.block) ∧ Below w.heap.size w w'

/-- What an owned row reads as. -/
theorem own_row {w : World} {base E : Nat} {v : Value} {n : Nat} {l : List Int} (h : w.ownsRow base E 1 v n (l.map (Value.int .i64))) :
    ∃ p c, v = .slice p l.length c ∧ l.length = n ∧ RowR w p l ∧ (p = none → c = 0) ∧ (∀ a, p = some a → base ≤ a.block) := by
  have hn : l.length = n := by have := h.1; simpa using this
  rcases h.2 with ⟨rfl, h0⟩ | ⟨g, cap, cur, rfl, hb, hg, _⟩
  · have l0 : l = [] := List.eq_nil_of_length_eq_zero (by omega)
    subst l0
    exact ⟨none, 0, rfl, hn, fun i hi => by simp at hi, fun _ => rfl, fun a ha => by cases ha⟩
  · refine ⟨some ⟨g, 0, none⟩, cap, by rw [hn], hn, fun i hi => ⟨g, rfl, (Array.getElem?_eq_some_iff.1 hg).1, ?_⟩, (fun e => by cases e), (fun a ha => by cases ha; exact hb)⟩
    rw [h.cellAt i (by omega)]
    simp [hi]

theorem own_lt {w : World} {base E : Nat} {v : Value} {n : Nat} {xs : List Value} (h : w.ownsRow base E 1 v n xs) : ∀ k, v.ownBlock = some k → base ≤ k := fun k hk => (h.lt k hk).1
theorem own_below {w w' : World} {base E : Nat} {v : Value} {n : Nat} {xs : List Value} (h : w.ownsRow base E 1 v n xs) (hb : Below w.heap.size w w') : w'.ownsRow base E 1 v n xs :=
  h.kept (row := none) ⟨hb.os, hb.tape, hb.output, hb.size, fun k hk _ => hb.block k hk⟩ (by
    rcases h.2 with ⟨rfl, _⟩ | ⟨g, cap, cur, rfl, _⟩
    · exact .inl rfl
    · exact .inr (by simp [Value.ownBlock]))

/-- One more element: what the laws on append leave, put together. -/
theorem own_snoc {W w w2 : World} {E : Nat} {v v' : Value} {k : Nat} {l : List Int} {x : Int} {xs : List Value} (o : Obj) (e : xs = l.map (Value.int .i64))
    (hb : Below W.heap.size W w) (hown : w.ownsRow W.heap.size E 1 v k (l.map (Value.int .i64)))
    (h1 : w2.ownsRow W.heap.size E 1 v' (k + 1) (xs ++ [.int .i64 x])) (h2 : (w.alloc o).grownBy w2 v.ownBlock) :
    w2.ownsRow W.heap.size E 1 v' (k + 1) ((l ++ [x]).map (Value.int .i64)) ∧ Below W.heap.size W w2 :=
  ⟨by subst e; simpa using h1, (hb.alloc hb.size o).grown h2 (by have := hb.size; simp; omega) (own_lt hown)⟩

theorem take_norm {l : List Int} {j : Nat} (h : j < l.length) (z : l[j] ≠ 0) : Norm (l.take (j + 1)) := by
  intro e
  rw [List.getLast_eq_getElem]
  simp only [List.length_take, Nat.min_eq_left (show j + 1 ≤ l.length by omega), Nat.add_sub_cancel, List.getElem_take]
  exact z

theorem trim_can {l : List Int} {k : Nat} (hd : Digs l) (hz : ∀ y ∈ l.drop k, y = 0) (hn : Norm (l.take k)) : Can (l.take k) (dval l) := ⟨hd.take k, hn, dval_take_zeros hz⟩

set_option maxHeartbeats 400000 in
theorem trim_any (p : Option Addr) (c : Nat) (l : List Int) (w : World) (hd : Digs l) (r : RowR w p l) (ln : l.length ≤ 1000000) :
    Calls Tryd.prog 91 #[.slice p l.length c] w (RowRes (dval l) l.length w) := by
  obtain ⟨i0, hi, hz0, hz1, hz2⟩ := info_parts intInfo
  generalize hx : l.length = x at *
  have Hx := Lib.hid hx; clear hx
  have R := Lib.hid r; clear r
  have D := Lib.hid hd; clear hd
  go_enter Tryd.func91, Tryd.ntmps91
  go_upto_block 0 with fail
  go_cut [3] from 8 to 19 (fun n wx => ∃ k : Nat, k ≤ x ∧ n = .int .i64 k ∧ Hid (Can (l.take k) (dval l)) ∧ wx = w)
  case first =>
    go_wp2_with fail
    go_loop [3] (fun n => ∃ k : Nat, k ≤ x ∧ n = .int .i64 k ∧ Hid (∀ y ∈ l.drop k, y = 0)) (fun n => (intOf n).toNat)
    case atStart => exact ⟨x, Nat.le_refl _, rfl, by show ∀ y ∈ l.drop x, y = 0; rw [List.drop_of_length_le (by have := Hx.out; omega)]; intro y m; cases m⟩
    case round =>
      obtain ⟨k, hk, rfl, hz⟩ := hrel
      rcases k with _ | j
      · have K := Lib.hid (trim_can D.out hz.out (by rw [List.take_zero]; exact Norm.nil))
        clear hz
        go_wp2_with fail
        go_meet
        exact ⟨0, Nat.zero_le _, rfl, K, rfl⟩
      · have ja : j < l.length := by have := Hx.out; omega
        obtain ⟨ga, rfl, ka, cA⟩ := R.out j ja
        have j0 : (0 : Int) ≤ (j : Int) := by omega
        have jx : (j : Int) < (x : Int) := by omega
        have K1 := Lib.hid (fun (z : l[j] ≠ 0) => trim_can D.out hz.out (take_norm ja z))
        have K2 := Lib.hid (fun (z : l[j] = 0) => show ∀ y ∈ l.drop j, y = 0 by
          rw [List.drop_eq_getElem_cons ja]; intro y m; rcases List.mem_cons.1 m with m | m; exact m.trans z; exact hz.out y m)
        generalize l[j] = u at *
        clear hz ka
        by_cases t : u = 0
        · subst t
          go_wp2_with fail
          go_round
          case rel => exact ⟨j, by omega, by go_num, K2.out rfl⟩
          case measure => simp [intOf]
        · have t' : (u == 0) = false := by simpa using t
          have T := Lib.hid t; clear t
          go_wp2_with fail
          go_meet
          exact ⟨j + 1, hk, by go_num, K1.out T.out, rfl⟩
  case rest =>
    obtain ⟨k, hk, rfl, hc, rfl⟩ := hcut
    go_wp2_with fail
    go_loopw [4, 5] (fun v i wr => ∃ m : Nat, m ≤ k ∧ i = .int .i64 m ∧ wr.ownsRow wc.heap.size 3 1 v m ((l.take m).map (Value.int .i64)) ∧ Below wc.heap.size wc wr) (fun _ i _ => k - (intOf i).toNat)
    case atStart => exact ⟨0, Nat.zero_le _, rfl, World.ownsRow_nil _ _ _ _, Below.refl _ _⟩
    case round =>
      obtain ⟨m, hm, rfl, hown, hb⟩ := hrel
      by_cases hmk : m < k
      · have ja : m < l.length := by have := Hx.out; omega
        obtain ⟨ga, rfl, ka, cA⟩ := R.out m ja
        have j0 : (0 : Int) ≤ (m : Int) := by omega
        have jx : (m : Int) < (x : Int) := by omega
        have cB : wr.cell? ⟨ga, m, none⟩ = some (.int .i64 l[m]) := by rw [hb.cell (by exact ka)]; exact cA
        have ET := Lib.hid (show l.take m ++ [l[m]] = l.take (m + 1) by simp)
        generalize l[m] = u at *
        clear cA ka
        go_wp2_with (first
          | (at_builtin; refine wpList_append_own _ rfl _ _ 22 rfl wc.heap.size 3 i0 (.int .i64 0) 1 8 Tryd.underlying22 hi hz0 hz1 hz2 rfl (by decide) _ _ _ rfl (hown.alloc _) ⟨wr.heap.size, 0, none⟩ 1 1 [.int .i64 u] rfl rfl ?c1 ?c2 ?c3 ?c4 ?c5 ?_))
        case c1 =>
          intro j u hj
          match j, hj with
          | 0, hj => simp at hj; subst hj; simp [Addr.add]
        case c2 => intro u hu; simp at hu; subst hu; rfl
        case c3 => unfold maxLen; omega
        case c4 => omega
        case c5 => have := hb.size; simp; omega
        intro v' w1 hown' hgrow _
        have RR := own_snoc (l := l.take m) _ (by simp) hb hown hown' hgrow
        rw [ET.out] at RR
        clear hown' hgrow hown hb cB
        go_wp2
        go_roundw
        case rel => exact ⟨m + 1, by omega, by go_num, RR.1, RR.2⟩
        case measure => simp [intOf]; omega
      · have e : m = k := by omega
        obtain ⟨q, cc, hv, hlen, hr, hn, hf⟩ := own_row hown
        have E := Lib.hid e
        subst hv
        have HL := Lib.hid hlen; clear hlen e
        go_wp2
        go_ret
        refine ⟨_, q, cc, rfl, ?_, ?_, hr, hn, hf, hb⟩
        · rw [E.out]; exact hc.out
        · have := HL.out; omega
end Go.Proofs.YtlahdfmciaibdaaDoor

/- The small functions of package num: gcd, size, within, signed, isMode, Valid: what each call comes to. -/
namespace Go.Proofs.YtlahdfmciaibdaaDoor
open Go.RowKit
set_option linter.unusedVariables false
set_option linter.unusedSimpArgs false

theorem gcd_step (x y : Int) (hx : 0 ≤ x) (hy : 0 < y) : Int.gcd y (x % y) = Int.gcd x y := by
  obtain ⟨x, rfl⟩ := Int.eq_ofNat_of_zero_le hx
  obtain ⟨y, rfl⟩ := Int.eq_ofNat_of_zero_le (Int.le_of_lt hy)
  have e : ((x : Int) % (y : Int)) = ((x % y : Nat) : Int) := by omega
  rw [e]
  simp only [Int.gcd, Int.natAbs_natCast]
  rw [Nat.gcd_comm y, ← Nat.gcd_rec y x, Nat.gcd_comm]

/-- gcd: the loop of Euclid. -/
theorem gcd_any (a b : Int) (ha : 0 ≤ a) (hb : 0 ≤ b) (ha' : a ≤ 18446744073709551615) (hb' : b ≤ 18446744073709551615) (w : World) :
    Calls Tryd.prog 42 #[.int .u64 a, .int .u64 b] w fun e w' => e = .returned (.int .u64 (Int.gcd a b)) ∧ ∃ n, w' = w.drewN n := by
  go_enter Tryd.func42, Tryd.ntmps42
  go_wp2
  go_loopw [0, 1] (fun v0 v1 wr => ∃ x y : Int, 0 ≤ x ∧ 0 ≤ y ∧ x ≤ 18446744073709551615 ∧ y ≤ 18446744073709551615 ∧ v0 = .int .u64 x ∧ v1 = .int .u64 y ∧ Hid (Int.gcd x y = Int.gcd a b) ∧ ∃ n, wr = w.drewN n) (fun _ v1 _ => (intOf v1).toNat)
  case atStart => exact ⟨a, b, ha, hb, ha', hb', rfl, rfl, rfl, 0, rfl⟩
  case round =>
    obtain ⟨x, y, hx, hy, hx', hy', rfl, rfl, hg, n, rfl⟩ := hrel
    by_cases h : 0 < y
    · have h1 : 0 ≤ x % y := Int.emod_nonneg _ (by omega)
      have h2 : x % y < y := Int.emod_lt_of_pos _ h
      go_wp2
      go_quiet (fail)
      go_wp2
      go_roundw
      case rel => exact ⟨y, x % y, by omega, by omega, by omega, by omega, rfl, rfl, (gcd_step x y hx h).trans hg.out, _, World.drewN_drewN _ _ _⟩
      case measure => simp [intOf]; omega
    · have hy0 : y = 0 := by omega
      have H : Hid (y = 0) := hy0
      clear hy0
      go_wp2
      go_ret
      have e := hg.out
      rw [H.out] at e
      have e2 : ((Int.gcd a b : Nat) : Int) = x := by rw [← e]; simp only [Int.gcd, Int.natAbs_zero, Nat.gcd_zero_right]; omega
      exact ⟨ret_i e2.symm, n, rfl⟩

/-- size: the absolute value, as a uint64. -/
theorem size_any (n : Int) (h1 : -9223372036854775808 ≤ n) (h2 : n ≤ 9223372036854775807) (w : World) :
    Calls Tryd.prog 43 #[.int .i64 n] w fun e w' => e = .returned (.int .u64 (n.natAbs : Int)) ∧ w = w' := by
  by_cases h : n < 0
  · have e1 : IntKind.u64.wrap n = n + 18446744073709551616 := PlainAid.u64_neg h (by omega)
    go_enter Tryd.func43, Tryd.ntmps43
    go_wp2
    go_ret
    exact ⟨ret_i (by rw [IntKind.wrap_u64]; omega), rfl⟩
  · go_enter Tryd.func43, Tryd.ntmps43
    go_wp2
    go_ret
    exact ⟨ret_i (by omega), rfl⟩

/-- within, as a Bool. -/
def wthB (n m : Int) : Bool := decide (-m ≤ n) && decide (n ≤ m)
theorem wthB_true {n m : Int} : wthB n m = true ↔ -m ≤ n ∧ n ≤ m := by simp [wthB]
theorem within_any (n m : Int) (h1 : 0 ≤ m) (h2 : m ≤ 9223372036854775807) (w : World) :
    Calls Tryd.prog 41 #[.int .i64 n, .int .i64 m] w fun e w' => e = .returned (.bool (wthB n m)) ∧ w = w' := by
  go_enter Tryd.func41, Tryd.ntmps41
  go_wp2
  all_goals go_ret
  all_goals exact ⟨ret_b (by rw [Bool.eq_iff_iff, wthB_true]; simp; try omega), rfl⟩

/-- signed: the number with its sign. -/
theorem signed_any (b : Bool) (n : Int) (h1 : 0 ≤ n) (h2 : n ≤ 9223372036854775807) (w : World) :
    Calls Tryd.prog 56 #[.bool b, .int .u64 n] w fun e w' => e = .returned (.int .i64 (bif b then -n else n)) ∧ w = w' := by
  cases b
  all_goals go_enter Tryd.func56, Tryd.ntmps56
  all_goals go_wp2
  all_goals go_ret
  all_goals exact ⟨ret_i rfl, rfl⟩

/-- isMode, as a Bool. -/
def modB (m : Int) : Bool := decide (0 ≤ m) && decide (m ≤ 4)
theorem modB_true {m : Int} : modB m = true ↔ 0 ≤ m ∧ m ≤ 4 := by simp [modB]
/-- Valid, as a Bool. -/
def vldB (n d : Int) : Bool := decide (1 ≤ d) && decide (d ≤ 1048576) && decide (-1099511627776 ≤ n) && decide (n ≤ 1099511627776) && decide (Int.gcd n d = 1)
theorem vldB_true {n d : Int} : vldB n d = true ↔ 1 ≤ d ∧ d ≤ 1048576 ∧ -1099511627776 ≤ n ∧ n ≤ 1099511627776 ∧ Int.gcd n d = 1 := by simp [vldB, and_assoc]

theorem Valid_any (n d : Int) (hn1 : -9223372036854775808 ≤ n) (hn2 : n ≤ 9223372036854775807) (w : World) :
    Calls Tryd.prog 16 #[.agg #[.int .i64 n, .int .i64 d]] w fun e w' => e = .returned (.bool (vldB n d)) ∧ Below w.heap.size w w' := by
  by_cases h1 : d < 1
  · go_enter Tryd.func16, Tryd.ntmps16
    go_wp2
    go_ret
    exact ⟨ret_b (by symm; rw [Bool.eq_false_iff]; rw [Ne, vldB_true]; omega), by go_grown⟩
  by_cases h2 : 1048576 < d
  · go_enter Tryd.func16, Tryd.ntmps16
    go_wp2
    go_ret
    exact ⟨ret_b (by symm; rw [Bool.eq_false_iff]; rw [Ne, vldB_true]; omega), by go_grown⟩
  by_cases h3 : wthB n 1099511627776 = true
  · go_enter Tryd.func16, Tryd.ntmps16
    go_wp2_with (first
      | (go_at_call 41; refine (within_any _ _ (by omega) (by omega) _).mono ?_; rintro e w' ⟨rfl, rfl⟩))
    have hn := wthB_true.1 h3
    clear h3
    go_quiet (first
      | (go_at_call 43; exact Calls.quiet_of_same (flip (size_any _ (by omega) (by omega) _)))
      | (go_at_call 42; exact Calls.quiet_of (gcd_any _ _ (by omega) (by omega) (by omega) (by omega) _)))
    go_wp2
    go_ret
    refine ⟨ret_b ?_, by refine below_drewN ?_ _; go_grown⟩
    rw [Bool.eq_iff_iff, vldB_true]
    simp [Int.gcd]
    omega
  · have h3' : wthB n 1099511627776 = false := by simpa using h3
    have H3 := Lib.hid h3
    clear h3
    go_enter Tryd.func16, Tryd.ntmps16
    go_wp2_with (first
      | (go_at_call 41; refine (within_any _ _ (by omega) (by omega) _).mono ?_; rintro e w' ⟨rfl, rfl⟩))
    go_ret
    exact ⟨ret_b (by symm; rw [Bool.eq_false_iff]; rw [Ne, vldB_true]; have := H3.out; rw [wthB_true] at this; omega), by go_grown⟩
end Go.Proofs.YtlahdfmciaibdaaDoor

/- Products and quotients of 128 bits, rounding: what each call comes to. -/
namespace Go.Proofs.YtlahdfmciaibdaaDoor
open Go.RowKit
set_option linter.unusedVariables false
set_option linter.unusedSimpArgs false

theorem ret_ii {k l : IntKind} {a b c d : Int} (h : a = b) (h' : c = d) : Ending.returned (.tuple #[.int k a, .int l c]) = .returned (.tuple #[.int k b, .int l d]) := by rw [h, h']

/-- Mul64: the contract off the shelf, over Int. -/
theorem mul64_any (x y : Int) (hx : 0 ≤ x) (hy : 0 ≤ y) (hx' : x ≤ 18446744073709551615) (hy' : y ≤ 18446744073709551615) (w : World) :
    Calls Tryd.prog 60 #[.int .u64 x, .int .u64 y] w fun e w' => e = .returned (.tuple #[.int .u64 (x * y / 18446744073709551616), .int .u64 (x * y % 18446744073709551616)]) ∧ w = w' := by
  obtain ⟨x, rfl⟩ := Int.eq_ofNat_of_zero_le hx
  obtain ⟨y, rfl⟩ := Int.eq_ofNat_of_zero_le hy
  refine (Tryd.bits_Mul64 x y (by omega) (by omega) w).mono fun e w' ⟨h, e'⟩ => ⟨?_, e'.symm⟩
  rw [h]
  simp only [Int.natCast_mul, Int.natCast_ediv, Int.natCast_emod]
  rfl

theorem div64_lo (lo y : Int) (h0 : 0 ≤ lo) (h1 : lo ≤ 18446744073709551615) (hy : 1 ≤ y) (hy' : y ≤ 18446744073709551615) (w : World) :
    Calls Tryd.prog 61 #[.int .u64 0, .int .u64 lo, .int .u64 y] w fun e w' => e = .returned (.tuple #[.int .u64 (lo / y), .int .u64 (lo % y)]) ∧ ∃ n, w' = w.drewN n := by
  have e0 : (y == 0) = false := by simp; omega
  go_enter Tryd.func61, Tryd.ntmps61
  go_wp2_with fail
  go_quiet (fail)
  go_wp2
  go_ret2
  exact ⟨rfl, _, rfl⟩

theorem div64_any (hi lo y : Int) (hh : hi = 0) (h' : hi < y) (h0 : 0 ≤ lo) (h1 : lo ≤ 18446744073709551615) (hy' : y ≤ 18446744073709551615) (w : World) :
    Calls Tryd.prog 61 #[.int .u64 hi, .int .u64 lo, .int .u64 y] w fun e w' => e = .returned (.tuple #[.int .u64 ((hi * 18446744073709551616 + lo) / y), .int .u64 ((hi * 18446744073709551616 + lo) % y)]) ∧ ∃ n, w' = w.drewN n := by
  subst hh
  refine (div64_lo lo y h0 h1 (by omega) hy' w).mono fun e w' ⟨a, b⟩ => ⟨?_, b⟩
  rw [a]; simp

/-- isUp, as a Bool. -/
def upB (neg : Bool) (q r c m : Int) : Bool :=
  if m = 0 then neg && decide (0 < r) else if m = 1 then !neg && decide (0 < r) else if m = 2 then false
  else if m = 3 then decide (c < 2 * r) || (decide (2 * r = c) && !neg) else decide (c < 2 * r) || (decide (2 * r = c) && decide (q % 2 = 1))

theorem cmpu_lt (a b : Int) (h : a < b) (w : World) :
    Calls Tryd.prog 27 #[.int .u64 a, .int .u64 b] w fun e w' => e = .returned (.int .i64 (-1)) ∧ w = w' := by
  go_enter Tryd.func27, Tryd.ntmps27
  go_wp2
  go_ret
  exact ⟨rfl, rfl⟩
theorem cmpu_gt (a b : Int) (h : b < a) (w : World) :
    Calls Tryd.prog 27 #[.int .u64 a, .int .u64 b] w fun e w' => e = .returned (.int .i64 1) ∧ w = w' := by
  go_enter Tryd.func27, Tryd.ntmps27
  go_wp2
  go_ret
  exact ⟨rfl, rfl⟩
theorem cmpu_eq (a b : Int) (h : a ≤ b) (h' : b ≤ a) (w : World) :
    Calls Tryd.prog 27 #[.int .u64 a, .int .u64 b] w fun e w' => e = .returned (.int .i64 0) ∧ w = w' := by
  go_enter Tryd.func27, Tryd.ntmps27
  go_wp2
  go_ret
  exact ⟨rfl, rfl⟩

/-- What rounding comes to: the whole number, without its sign. -/
def rndQ (neg : Bool) (p c m : Int) : Int := p / c + (bif upB neg (p / c) (p % c) c m then 1 else 0)
def rndV (neg : Bool) (p c m : Int) : Int := if rndQ neg p c m ≤ 1125899906842624 then (bif neg then -rndQ neg p c m else rndQ neg p c m) else 0
def rndE (neg : Bool) (p c m : Int) : Int := if rndQ neg p c m ≤ 1125899906842624 then 0 else 4

theorem rnd_big {neg : Bool} {p c m : Int} (h : 1125899906842624 < rndQ neg p c m) : rndV neg p c m = 0 ∧ rndE neg p c m = 4 := by
  unfold rndV rndE; rw [if_neg (by omega), if_neg (by omega)]; exact ⟨rfl, rfl⟩
theorem rnd_ok {neg : Bool} {p c m : Int} (h : rndQ neg p c m ≤ 1125899906842624) : rndV neg p c m = (bif neg then -rndQ neg p c m else rndQ neg p c m) ∧ rndE neg p c m = 0 := by
  unfold rndV rndE; rw [if_pos h, if_pos h]; exact ⟨rfl, rfl⟩
theorem rnd_up {neg : Bool} {p c m : Int} (h : upB neg (p / c) (p % c) c m = true) : rndQ neg p c m = p / c + 1 := by unfold rndQ; rw [h]; rfl
theorem rnd_down {neg : Bool} {p c m : Int} (h : upB neg (p / c) (p % c) c m = false) : rndQ neg p c m = p / c := by unfold rndQ; rw [h]; exact Int.add_zero _
theorem rnd_ge (neg : Bool) (p c m : Int) : p / c ≤ rndQ neg p c m := by
  cases h : upB neg (p / c) (p % c) c m
  · rw [rnd_down h]; omega
  · rw [rnd_up h]; omega

end Go.Proofs.YtlahdfmciaibdaaDoor

/- Round, Neg, lowest, Make and the four operations of package num: what each call comes to. -/
namespace Go.Proofs.YtlahdfmciaibdaaDoor
open Go.RowKit
set_option linter.unusedVariables false
set_option linter.unusedSimpArgs false

/-- lowest: what it comes to. -/
def lowV (neg : Bool) (n d : Int) : Int := if n / Int.gcd n d ≤ 1099511627776 ∧ d / Int.gcd n d ≤ 1048576 then (bif neg then -(n / Int.gcd n d) else n / Int.gcd n d) else 0
def lowD (n d : Int) : Int := if n / Int.gcd n d ≤ 1099511627776 ∧ d / Int.gcd n d ≤ 1048576 then d / Int.gcd n d else 0
def lowE (n d : Int) : Int := if n / Int.gcd n d ≤ 1099511627776 ∧ d / Int.gcd n d ≤ 1048576 then 0 else 4

theorem lowest_any (neg : Bool) (n d : Int) (h1 : 0 ≤ n) (h2 : n ≤ 18446744073709551615) (h3 : 1 ≤ d) (h4 : d ≤ 18446744073709551615) (w : World) :
    Calls Tryd.prog 74 #[.bool neg, .int .u64 n, .int .u64 d] w fun e w' => e = .returned (.tuple #[.agg #[.int .i64 (lowV neg n d), .int .i64 (lowD n d)], .int .i64 (lowE n d)]) ∧ Below w.heap.size w w' := by
  have g0 : (1 : Int) ≤ (Int.gcd n d : Int) := by
    have : 0 < Int.gcd n d := Int.gcd_pos_of_ne_zero_right _ (by omega)
    omega
  have g1 : (Int.gcd n d : Int) ≤ d := Int.le_of_dvd (by omega) (Int.gcd_dvd_right _ _)
  have q0 : 0 ≤ n / Int.gcd n d := Int.ediv_nonneg h1 (by omega)
  have q1 : 1 ≤ d / Int.gcd n d := by rw [Int.le_ediv_iff_mul_le (by omega)]; omega
  have q2 : n / Int.gcd n d ≤ n := Int.ediv_le_self _ h1
  have q3 : d / Int.gcd n d ≤ d := Int.ediv_le_self _ (by omega)
  by_cases h5 : n / Int.gcd n d ≤ 1099511627776
  · by_cases h6 : d / Int.gcd n d ≤ 1048576
    · have e1 : lowV neg n d = (bif neg then -(n / Int.gcd n d) else n / Int.gcd n d) := if_pos ⟨h5, h6⟩
      have e2 : lowD n d = d / Int.gcd n d := if_pos ⟨h5, h6⟩
      have e3 : lowE n d = 0 := if_pos ⟨h5, h6⟩
      rw [e1, e2, e3]
      clear e1 e2 e3
      go_enter Tryd.func74, Tryd.ntmps74
      go_wp2_with fail
      refine (gcd_any _ _ (by omega) (by omega) (by omega) (by omega) _).mono ?_
      rintro e w1 ⟨rfl, n1, rfl⟩
      go_wp2_with fail
      go_quiet (fail)
      go_wp2_with fail
      refine (signed_any _ _ (by omega) (by omega) _).mono ?_
      rintro e w1 ⟨rfl, rfl⟩
      go_wp2_with fail
      refine bodyPost_ret (v := .tuple #[.agg #[.int .i64 (bif neg then -(n / Int.gcd n d) else n / Int.gcd n d), .int .i64 (d / Int.gcd n d)], .int .i64 0]) (by simp [results, Tryd.results74, go_sem]) rfl ⟨rfl, by repeat' (first | exact Below.refl _ _ | (with_reducible assumption) | refine below_drewN ?_ _ | refine Below.setCell ?_ ?_ _ | refine Below.alloc ?_ ?_ _ | (simp; done) | (simp; omega) | omega)⟩
    · have e1 : lowV neg n d = 0 := if_neg (by omega)
      have e2 : lowD n d = 0 := if_neg (by omega)
      have e3 : lowE n d = 4 := if_neg (by omega)
      rw [e1, e2, e3]
      clear e1 e2 e3
      go_enter Tryd.func74, Tryd.ntmps74
      go_wp2_with fail
      refine (gcd_any _ _ (by omega) (by omega) (by omega) (by omega) _).mono ?_
      rintro e w1 ⟨rfl, n1, rfl⟩
      go_wp2_with fail
      go_quiet (fail)
      go_wp2_with fail
      refine bodyPost_ret (v := .tuple #[.agg #[.int .i64 0, .int .i64 0], .int .i64 4]) (by simp [results, Tryd.results74, go_sem]) rfl ⟨rfl, by repeat' (first | exact Below.refl _ _ | (with_reducible assumption) | refine below_drewN ?_ _ | refine Below.setCell ?_ ?_ _ | refine Below.alloc ?_ ?_ _ | (simp; done) | (simp; omega) | omega)⟩
  · have e1 : lowV neg n d = 0 := if_neg (by omega)
    have e2 : lowD n d = 0 := if_neg (by omega)
    have e3 : lowE n d = 4 := if_neg (by omega)
    rw [e1, e2, e3]
    clear e1 e2 e3
    go_enter Tryd.func74, Tryd.ntmps74
    go_wp2_with fail
    refine (gcd_any _ _ (by omega) (by omega) (by omega) (by omega) _).mono ?_
    rintro e w1 ⟨rfl, n1, rfl⟩
    go_wp2_with fail
    go_quiet (fail)
    go_wp2_with fail
    refine bodyPost_ret (v := .tuple #[.agg #[.int .i64 0, .int .i64 0], .int .i64 4]) (by simp [results, Tryd.results74, go_sem]) rfl ⟨rfl, by repeat' (first | exact Below.refl _ _ | (with_reducible assumption) | refine below_drewN ?_ _ | refine Below.setCell ?_ ?_ _ | refine Below.alloc ?_ ?_ _ | (simp; done) | (simp; omega) | omega)⟩
end Go.Proofs.YtlahdfmciaibdaaDoor

/- Plain facts on fractions in lowest terms: no Go in sight. -/
namespace Go.Proofs.YtlahdfmciaibdaaDoor
open Go.RowKit
set_option linter.unusedVariables false
set_option linter.unusedSimpArgs false

/-- V/D is n/d in lowest terms within the limits (E = 0), or there is none (E = 4). -/
def IsFrac (n d V D E : Int) : Prop :=
  (E = 0 ∧ vldB V D = true ∧ V * d = n * D) ∨ (E = 4 ∧ V = 0 ∧ D = 0 ∧ ∀ x y, vldB x y = true → x * d ≠ n * y)

theorem dvd_cop {k m n : Int} (h : Int.gcd k n = 1) (hd : k ∣ m * n) : k ∣ m :=
  Int.natAbs_dvd_natAbs.1 (Nat.Coprime.dvd_of_dvd_mul_right (k := k.natAbs) (n := n.natAbs) h (by rw [← Int.natAbs_mul]; exact Int.natAbs_dvd_natAbs.2 hd))

theorem cop_unique {x y a b : Int} (hy : 0 < y) (hb : 0 < b) (h1 : Int.gcd x y = 1) (h2 : Int.gcd a b = 1) (h : x * b = a * y) : x = a ∧ y = b := by
  have d1 : y ∣ b := dvd_cop (n := x) (by rw [Int.gcd_comm]; exact h1) ⟨a, by rw [Int.mul_comm, h, Int.mul_comm]⟩
  have d2 : b ∣ y := dvd_cop (n := a) (by rw [Int.gcd_comm]; exact h2) ⟨x, by rw [Int.mul_comm, ← h, Int.mul_comm]⟩
  have e : y = b := Int.dvd_antisymm (by omega) (by omega) d1 d2
  subst e
  exact ⟨Int.eq_of_mul_eq_mul_right (by omega) h, rfl⟩

theorem frac_unique {n d V D E V' D' E' : Int} (hd : d ≠ 0) (h : IsFrac n d V D E) (h' : IsFrac n d V' D' E') : V = V' ∧ D = D' ∧ E = E' := by
  rcases h with ⟨h1, h2, h3⟩ | ⟨h1, h2, h3, h4⟩ <;> rcases h' with ⟨k1, k2, k3⟩ | ⟨k1, k2, k3, k4⟩
  · obtain ⟨a1, a2, a3, a4, a5⟩ := vldB_true.1 h2
    obtain ⟨b1, b2, b3, b4, b5⟩ := vldB_true.1 k2
    have e : V * D' = V' * D := by
      refine Int.eq_of_mul_eq_mul_right hd ?_
      calc V * D' * d = (V * d) * D' := by ac_rfl
        _ = n * D * D' := by rw [h3]
        _ = (n * D') * D := by ac_rfl
        _ = V' * d * D := by rw [k3]
        _ = V' * D * d := by ac_rfl
    obtain ⟨u, v⟩ := cop_unique (by omega) (by omega) a5 b5 e
    exact ⟨u, v, by omega⟩
  · exact absurd h3 (k4 _ _ h2)
  · exact absurd k3 (h4 _ _ k2)
  · exact ⟨by omega, by omega, by omega⟩

/-- The parts of a pair in lowest terms. -/
theorem low_parts (n d : Int) (hd : 1 ≤ d) : Int.gcd (n / Int.gcd n d) (d / Int.gcd n d) = 1 ∧ 1 ≤ d / Int.gcd n d ∧ (n / Int.gcd n d) * d = n * (d / Int.gcd n d) := by
  have g0 : 0 < Int.gcd n d := Int.gcd_pos_of_ne_zero_right _ (by omega)
  have e1 : (Int.gcd n d : Int) * (n / Int.gcd n d) = n := Int.mul_ediv_cancel' (Int.gcd_dvd_left _ _)
  have e2 : (Int.gcd n d : Int) * (d / Int.gcd n d) = d := Int.mul_ediv_cancel' (Int.gcd_dvd_right _ _)
  refine ⟨Int.gcd_ediv_gcd_ediv_gcd g0, ?_, ?_⟩
  · rw [Int.le_ediv_iff_mul_le (by omega)]
    have := Int.le_of_dvd (by omega) (Int.gcd_dvd_right n d); omega
  · calc (n / Int.gcd n d) * d = (n / Int.gcd n d) * ((Int.gcd n d : Int) * (d / Int.gcd n d)) := by rw [e2]
      _ = ((Int.gcd n d : Int) * (n / Int.gcd n d)) * (d / Int.gcd n d) := by ac_rfl
      _ = n * (d / Int.gcd n d) := by rw [e1]

/-- What 'lowest' computes is the fraction in lowest terms. -/
theorem low_frac (neg : Bool) (n d : Int) (hn : 0 ≤ n) (hd : 1 ≤ d) : IsFrac (bif neg then -n else n) d (lowV neg n d) (lowD n d) (lowE n d) := by
  obtain ⟨c1, c2, c3⟩ := low_parts n d hd
  have q0 : 0 ≤ n / Int.gcd n d := Int.ediv_nonneg hn (by omega)
  unfold lowV lowD lowE
  generalize n / Int.gcd n d = a at *
  generalize d / Int.gcd n d = b at *
  by_cases h : a ≤ 1099511627776 ∧ b ≤ 1048576
  · rw [if_pos h, if_pos h, if_pos h]
    left
    cases neg
    · exact ⟨rfl, vldB_true.2 ⟨by omega, by omega, by simp; omega, by simp; omega, c1⟩, c3⟩
    · refine ⟨rfl, vldB_true.2 ⟨by omega, by omega, by simp; omega, by simp; omega, by simpa using c1⟩, ?_⟩
      simp only [cond_true, Int.neg_mul]; rw [c3]
  · rw [if_neg h, if_neg h, if_neg h]
    right
    refine ⟨rfl, rfl, rfl, fun x y hv e => ?_⟩
    obtain ⟨b1, b2, b3, b4, b5⟩ := vldB_true.1 hv
    cases neg
    · simp only [cond_false] at e
      have e' : x * b = a * y := by
        refine Int.eq_of_mul_eq_mul_right (a := d) (by omega) ?_
        calc x * b * d = (x * d) * b := by ac_rfl
          _ = n * b * y := by rw [e]; ac_rfl
          _ = a * y * d := by rw [← c3]; ac_rfl
      obtain ⟨u, v⟩ := cop_unique (by omega) (by omega) b5 c1 e'
      omega
    · simp only [cond_true] at e
      have e' : x * b = -a * y := by
        refine Int.eq_of_mul_eq_mul_right (a := d) (by omega) ?_
        calc x * b * d = (x * d) * b := by ac_rfl
          _ = -(n * b) * y := by rw [e, Int.neg_mul, Int.neg_mul, Int.neg_mul]; congr 1; ac_rfl
          _ = -a * y * d := by rw [← c3, Int.neg_mul, Int.neg_mul, Int.neg_mul]; congr 1; ac_rfl
      obtain ⟨u, v⟩ := cop_unique (by omega) (by omega) b5 (by simpa using c1) e'
      omega

theorem frac_neg {n d V D E : Int} (h : IsFrac (-n) (-d) V D E) : IsFrac n d V D E := by
  rcases h with ⟨h1, h2, h3⟩ | ⟨h1, h2, h3, h4⟩
  · refine Or.inl ⟨h1, h2, ?_⟩
    rw [Int.mul_neg, Int.neg_mul] at h3; omega
  · refine Or.inr ⟨h1, h2, h3, fun x y hv e => h4 x y hv ?_⟩
    rw [Int.mul_neg, Int.neg_mul, e]

theorem frac_size {n d V D E : Int} (hd : d ≠ 0) (h : IsFrac (bif (decide (n < 0) != decide (d < 0)) then -(n.natAbs : Int) else n.natAbs) d.natAbs V D E) : IsFrac n d V D E := by
  by_cases h1 : n < 0 <;> by_cases h2 : d < 0
  · refine frac_neg ?_
    simp only [h1, h2, decide_true, bne_self_eq_false, cond_false] at h
    rwa [show ((n.natAbs : Int)) = -n from by omega, show ((d.natAbs : Int)) = -d from by omega] at h
  · simp only [h1, h2, decide_true, decide_false, Bool.bne_false, cond_true] at h
    rwa [show -((n.natAbs : Int)) = n from by omega, show ((d.natAbs : Int)) = d from by omega] at h
  · refine frac_neg ?_
    simp only [h1, h2, decide_true, decide_false, Bool.false_bne, cond_true] at h
    rwa [show ((n.natAbs : Int)) = n from by omega, show ((d.natAbs : Int)) = -d from by omega] at h
  · simp only [h1, h2, decide_false, bne_self_eq_false, cond_false] at h
    rwa [show ((n.natAbs : Int)) = n from by omega, show ((d.natAbs : Int)) = d from by omega] at h
end Go.Proofs.YtlahdfmciaibdaaDoor

/- Make, Add, Sub, Mul, Div and Cmp of package num, by what their results are. -/
namespace Go.Proofs.YtlahdfmciaibdaaDoor
open Go.RowKit
set_option linter.unusedVariables false
set_option linter.unusedSimpArgs false

/-- A struct result's value. -/
def fracV (V D E : Int) : Value := .tuple #[.agg #[.int .i64 V, .int .i64 D], .int .i64 E]

/-- What a call of a fraction's function leaves: a result of which R holds; old memory untouched. -/
def Res (R : Int → Int → Int → Prop) (w : World) (e : Ending) (w' : World) : Prop := ∃ V D E, R V D E ∧ e = .returned (fracV V D E) ∧ Below w.heap.size w w'

theorem lowest_rel (neg : Bool) (n d : Int) (h1 : 0 ≤ n) (h2 : n ≤ 18446744073709551615) (h3 : 1 ≤ d) (h4 : d ≤ 18446744073709551615) (w : World) :
    Calls Tryd.prog 74 #[.bool neg, .int .u64 n, .int .u64 d] w (Res (IsFrac (bif neg then -n else n) d) w) :=
  (lowest_any neg n d h1 h2 h3 h4 w).mono fun _ _ ⟨a, b⟩ => ⟨_, _, _, low_frac neg n d h1 h3, a, b⟩

theorem Make_zero (n : Int) (w : World) :
    Calls Tryd.prog 46 #[.int .i64 n, .int .i64 0] w (Res (fun V D E => V = 0 ∧ D = 0 ∧ E = 5) w) := by
  go_enter Tryd.func46, Tryd.ntmps46
  go_wp2_with fail
  exact bodyPost_ret (v := fracV 0 0 5) (by simp [results, Tryd.results46, go_sem, fracV]) rfl ⟨0, 0, 5, ⟨rfl, rfl, rfl⟩, rfl, (Below.refl _ _).alloc (Nat.le_refl _) _⟩

theorem Make_any (n d : Int) (n1 : -9223372036854775808 ≤ n) (n2 : n ≤ 9223372036854775807) (d1 : -9223372036854775808 ≤ d) (d2 : d ≤ 9223372036854775807) (hd : d ≠ 0) (w : World) :
    Calls Tryd.prog 46 #[.int .i64 n, .int .i64 d] w (Res (IsFrac n d) w) := by
  have hd' : (d == 0) = false := by simpa using hd
  have HD := Lib.hid hd; clear hd
  have z : (1 : Int) ≤ d.natAbs := by have := HD.out; omega
  go_enter Tryd.func46, Tryd.ntmps46
  go_wp2_with fail
  refine (size_any _ n1 n2 _).mono ?_
  rintro e w' ⟨rfl, rfl⟩
  go_wp2_with fail
  refine (size_any _ d1 d2 _).mono ?_
  rintro e w' ⟨rfl, rfl⟩
  go_wp2_with fail
  refine (lowest_rel _ _ _ (by omega) (by omega) z (by omega) _).mono ?_
  rintro e w1 ⟨V, D, E, hF, rfl, hb⟩
  unfold fracV
  have HF := Lib.hid (frac_size HD.out hF); clear hF
  obtain ⟨hc, hf⟩ := bcell hb
  have hz : w.heap.size < w1.heap.size := by have := hb.size; simp at this; omega
  go_wp2_with fail
  refine bodyPost_ret (v := fracV V D E) (by simp [results, Tryd.results46, go_sem, fracV, hc, hz]) rfl ⟨V, D, E, HF.out, rfl, ?_⟩
  exact ((((Below.refl _ _).alloc (Nat.le_refl _) _).trans (hb.mono (by simp))).setCell (by simp) _).setCell (by simp) _
end Go.Proofs.YtlahdfmciaibdaaDoor

/- Add, Sub, Mul, Div and Cmp of package num, by what their results are. -/
namespace Go.Proofs.YtlahdfmciaibdaaDoor
open Go.RowKit
set_option linter.unusedVariables false
set_option linter.unusedSimpArgs false

theorem mul_le_abs {x y X Y : Int} (h1 : -X ≤ x) (h2 : x ≤ X) (h3 : 0 ≤ y) (h4 : y ≤ Y) (hX : 0 ≤ X) : -(X * Y) ≤ x * y ∧ x * y ≤ X * Y := by
  have a : x * y ≤ X * y := Int.mul_le_mul_of_nonneg_right h2 h3
  have b : X * y ≤ X * Y := Int.mul_le_mul_of_nonneg_left h4 hX
  have c : -X * y ≤ x * y := Int.mul_le_mul_of_nonneg_right h1 h3
  rw [Int.neg_mul] at c
  omega
theorem fr_mul {n d : Int} (h1 : -1099511627776 ≤ n) (h2 : n ≤ 1099511627776) (h3 : 1 ≤ d) (h4 : d ≤ 1048576) : -1152921504606846976 ≤ n * d ∧ n * d ≤ 1152921504606846976 := by
  have := mul_le_abs (X := 1099511627776) (Y := 1048576) h1 h2 (by omega) h4 (by omega); omega
theorem den_mul {n d : Int} (h1 : 1 ≤ n) (h2 : n ≤ 1048576) (h3 : 1 ≤ d) (h4 : d ≤ 1048576) : 1 ≤ n * d ∧ n * d ≤ 1099511627776 := by
  have := mul_le_abs (X := 1048576) (Y := 1048576) (x := n) (y := d) (by omega) h2 (by omega) h4 (by omega)
  have : 0 < n * d := Int.mul_pos (by omega) (by omega)
  omega

end Go.Proofs.YtlahdfmciaibdaaDoor

/- Mul, Div and Cmp of package num, by what their results are. -/
namespace Go.Proofs.YtlahdfmciaibdaaDoor
open Go.RowKit
set_option linter.unusedVariables false
set_option linter.unusedSimpArgs false

theorem frac_cross {n d n' d' V D E : Int} (hd : d ≠ 0) (hd' : d' ≠ 0) (e : n * d' = n' * d) (h : IsFrac n d V D E) : IsFrac n' d' V D E := by
  rcases h with ⟨h1, h2, h3⟩ | ⟨h1, h2, h3, h4⟩
  · refine Or.inl ⟨h1, h2, Int.eq_of_mul_eq_mul_right hd ?_⟩
    calc V * d' * d = (V * d) * d' := by ac_rfl
      _ = (n * d') * D := by rw [h3]; ac_rfl
      _ = n' * D * d := by rw [e]; ac_rfl
  · refine Or.inr ⟨h1, h2, h3, fun x y hv e' => h4 x y hv (Int.eq_of_mul_eq_mul_right hd' ?_)⟩
    calc x * d * d' = (x * d') * d := by ac_rfl
      _ = (n' * d) * y := by rw [e']; ac_rfl
      _ = n * y * d' := by rw [← e]; ac_rfl

theorem cop_mul {a b c d : Int} (h1 : Int.gcd a c = 1) (h2 : Int.gcd a d = 1) (h3 : Int.gcd b c = 1) (h4 : Int.gcd b d = 1) : Int.gcd (a * b) (c * d) = 1 := by
  unfold Int.gcd at *
  rw [Int.natAbs_mul, Int.natAbs_mul]
  exact Nat.Coprime.mul_left (Nat.Coprime.mul_right h1 h2) (Nat.Coprime.mul_right h3 h4)
theorem cop_sub {a c x y : Int} (h : Int.gcd a c = 1) (ha : x ∣ a) (hc : y ∣ c) : Int.gcd x y = 1 :=
  Nat.Coprime.coprime_dvd_left (Int.natAbs_dvd_natAbs.2 ha) (Nat.Coprime.coprime_dvd_right (Int.natAbs_dvd_natAbs.2 hc) h)

theorem mul_cross {an ad bn bd L R : Int} (a1 : 1 ≤ ad) (b1 : 1 ≤ bd) (ga : Int.gcd an ad = 1) (gb : Int.gcd bn bd = 1)
    (hL : ((Int.gcd (an.natAbs : Int) (bd.natAbs : Int) : Nat) : Int) = L) (hR : ((Int.gcd (bn.natAbs : Int) (ad.natAbs : Int) : Nat) : Int) = R) :
    Int.gcd ((an.natAbs : Int) / L * ((bn.natAbs : Int) / R)) ((ad.natAbs : Int) / R * ((bd.natAbs : Int) / L)) = 1 ∧
    (bif (decide (an < 0) != decide (bn < 0)) then -((an.natAbs : Int) / L * ((bn.natAbs : Int) / R)) else (an.natAbs : Int) / L * ((bn.natAbs : Int) / R)) * (ad * bd) = (an * bn) * ((ad.natAbs : Int) / R * ((bd.natAbs : Int) / L)) := by
  have gL : 0 < Int.gcd (an.natAbs : Int) (bd.natAbs : Int) := Int.gcd_pos_of_ne_zero_right _ (by omega)
  have gR : 0 < Int.gcd (bn.natAbs : Int) (ad.natAbs : Int) := Int.gcd_pos_of_ne_zero_right _ (by omega)
  have cL := Int.gcd_ediv_gcd_ediv_gcd gL
  have cR := Int.gcd_ediv_gcd_ediv_gcd gR
  have eA : L * ((an.natAbs : Int) / L) = an.natAbs := Int.mul_ediv_cancel' (by rw [← hL]; exact Int.gcd_dvd_left _ _)
  have eD : L * ((bd.natAbs : Int) / L) = bd.natAbs := Int.mul_ediv_cancel' (by rw [← hL]; exact Int.gcd_dvd_right _ _)
  have eB : R * ((bn.natAbs : Int) / R) = bn.natAbs := Int.mul_ediv_cancel' (by rw [← hR]; exact Int.gcd_dvd_left _ _)
  have eC : R * ((ad.natAbs : Int) / R) = ad.natAbs := Int.mul_ediv_cancel' (by rw [← hR]; exact Int.gcd_dvd_right _ _)
  rw [hL] at cL
  rw [hR] at cR
  clear hL hR gL gR
  have e1 : (ad.natAbs : Int) = ad := by omega
  have e2 : (bd.natAbs : Int) = bd := by omega
  rw [e1] at eC cR ⊢
  rw [e2] at eD cL ⊢
  generalize (an.natAbs : Int) / L = a at *
  generalize (bn.natAbs : Int) / R = b at *
  generalize ad / R = c at *
  generalize bd / L = d at *
  refine ⟨cop_mul (cop_sub ga (Int.dvd_natAbs.1 ⟨L, by rw [← eA, Int.mul_comm]⟩) ⟨R, by rw [← eC, Int.mul_comm]⟩) cL cR (cop_sub gb (Int.dvd_natAbs.1 ⟨R, by rw [← eB, Int.mul_comm]⟩) ⟨L, by rw [← eD, Int.mul_comm]⟩), ?_⟩
  have m : a * b * (ad * bd) = (an.natAbs : Int) * bn.natAbs * (c * d) := by
    rw [← eA, ← eB]
    calc a * b * (ad * bd) = a * b * ((R * c) * (L * d)) := by rw [eC, eD]
      _ = L * a * (R * b) * (c * d) := by ac_rfl
  by_cases s1 : an < 0 <;> by_cases s2 : bn < 0
  · simp only [s1, s2, decide_true, bne_self_eq_false, cond_false]
    rw [m, show (an.natAbs : Int) = -an from by omega, show (bn.natAbs : Int) = -bn from by omega, Int.neg_mul_neg]
  · simp only [s1, s2, decide_true, decide_false, Bool.bne_false, cond_true]
    rw [Int.neg_mul, m, show (an.natAbs : Int) = -an from by omega, show (bn.natAbs : Int) = bn from by omega, Int.neg_mul, Int.neg_mul, Int.neg_neg]
  · simp only [s1, s2, decide_true, decide_false, Bool.false_bne, cond_true]
    rw [Int.neg_mul, m, show (an.natAbs : Int) = an from by omega, show (bn.natAbs : Int) = -bn from by omega, Int.mul_neg, Int.neg_mul, Int.neg_neg]
  · simp only [s1, s2, decide_false, bne_self_eq_false, cond_false]
    rw [m, show (an.natAbs : Int) = an from by omega, show (bn.natAbs : Int) = bn from by omega]

theorem frac_none {n d n' d' : Int} (hd : d ≠ 0) (hd' : 1 ≤ d') (e : n' * d = n * d') (g : Int.gcd n' d' = 1) (big : 1099511627776 < n' ∨ n' < -1099511627776) : IsFrac n d 0 0 4 := by
  refine Or.inr ⟨rfl, rfl, rfl, fun x y hv h => ?_⟩
  obtain ⟨b1, b2, b3, b4, b5⟩ := vldB_true.1 hv
  have : x * d' = n' * y := by
    refine Int.eq_of_mul_eq_mul_right hd ?_
    calc x * d' * d = (x * d) * d' := by ac_rfl
      _ = n * d' * y := by rw [h]; ac_rfl
      _ = n' * y * d := by rw [← e]; ac_rfl
  obtain ⟨u, v⟩ := cop_unique (by omega) (by omega) b5 g this
  omega

end Go.Proofs.YtlahdfmciaibdaaDoor
