/- The reference's rows: trim. -/
import Derived.Test.YthfnaegfjacjbabR2
import Derived.Laws.AppendOwnNone
import Derived.Deep.RegionWith
import Derived.Deep.RegionHeld3
import Derived.Deep.CutBlock
namespace Go.Proofs.Ythfnaegfjacjbab
open Go.RowKit
set_option linter.unusedVariables false
set_option linter.unusedSimpArgs false

theorem intInfo : (Try.prog.info? 3).map (fun i => (i.zero, i.size, i.bytes)) = some (some (.int .i64 0), 1, 8) := by kernel_rfl

/-- A call's result is a slice in new memory that reads as the digits of x. -/
def RowRes (x : Int) (n : Nat) (w : World) (e : Ending) (w' : World) : Prop :=
  ∃ t p c, e = .returned (.slice p t.length c) ∧ Can t x ∧ t.length ≤ n ∧ RowR w' p t ∧ (p = none → c = 0) ∧ (∀ a, p = some a → w.heap.size ≤ a.block) ∧ Below w.heap.size w w'

/-- What an owned row reads as. -/
theorem own_row {w : World} {base E : Nat} {v : Value} {n : Nat} {l : List Int} (h : w.ownsRow base E 1 v n (l.map (Value.int .i64))) :
    ∃ p c, v = .slice p l.length c ∧ l.length = n ∧ RowR w p l ∧ (p = none → c = 0) ∧ (∀ a, p = some a → base ≤ a.block) := by
  have hn : l.length = n := by have := h.1; simpa using this
  rcases h.2 with ⟨rfl, h0⟩ | ⟨g, cap, cur, rfl, hb, hg, _⟩
  · have l0 : l = [] := List.eq_nil_of_length_eq_zero (by omega)
    subst l0
    exact ⟨none, 0, rfl, hn, fun i hi => by simp at hi, fun _ => rfl, fun a ha => by cases ha⟩
  · refine ⟨some ⟨g, 0, none⟩, cap, by rw [hn], hn, fun i hi => ⟨g, rfl, (Array.getElem?_eq_some_iff.1 hg).1, ?_⟩, (fun e => by cases e), (fun a ha => by cases ha; exact hb)⟩
    rw [h.cellAt i (by omega)]
    simp [hi]

theorem own_lt {w : World} {base E : Nat} {v : Value} {n : Nat} {xs : List Value} (h : w.ownsRow base E 1 v n xs) : ∀ k, v.ownBlock = some k → base ≤ k := fun k hk => (h.lt k hk).1
theorem own_below {w w' : World} {base E : Nat} {v : Value} {n : Nat} {xs : List Value} (h : w.ownsRow base E 1 v n xs) (hb : Below w.heap.size w w') : w'.ownsRow base E 1 v n xs :=
  h.kept (row := none) ⟨hb.os, hb.tape, hb.output, hb.size, fun k hk _ => hb.block k hk⟩ (by
    rcases h.2 with ⟨rfl, _⟩ | ⟨g, cap, cur, rfl, _⟩
    · exact .inl rfl
    · exact .inr (by simp [Value.ownBlock]))

/-- One more element: what the laws on append leave, put together. -/
theorem own_snoc {W w w2 : World} {E : Nat} {v v' : Value} {k : Nat} {l : List Int} {x : Int} {xs : List Value} (o : Obj) (e : xs = l.map (Value.int .i64))
    (hb : Below W.heap.size W w) (hown : w.ownsRow W.heap.size E 1 v k (l.map (Value.int .i64)))
    (h1 : w2.ownsRow W.heap.size E 1 v' (k + 1) (xs ++ [.int .i64 x])) (h2 : (w.alloc o).grownBy w2 v.ownBlock) :
    w2.ownsRow W.heap.size E 1 v' (k + 1) ((l ++ [x]).map (Value.int .i64)) ∧ Below W.heap.size W w2 :=
  ⟨by subst e; simpa using h1, (hb.alloc hb.size o).grown h2 (by have := hb.size; simp; omega) (own_lt hown)⟩

theorem take_norm {l : List Int} {j : Nat} (h : j < l.length) (z : l[j] ≠ 0) : Norm (l.take (j + 1)) := by
  intro e
  rw [List.getLast_eq_getElem]
  simp only [List.length_take, Nat.min_eq_left (show j + 1 ≤ l.length by omega), Nat.add_sub_cancel, List.getElem_take]
  exact z

theorem trim_can {l : List Int} {k : Nat} (hd : Digs l) (hz : ∀ y ∈ l.drop k, y = 0) (hn : Norm (l.take k)) : Can (l.take k) (dval l) := ⟨hd.take k, hn, dval_take_zeros hz⟩

set_option maxHeartbeats 400000 in
theorem trim_any (p : Option Addr) (c : Nat) (l : List Int) (w : World) (hd : Digs l) (r : RowR w p l) (ln : l.length ≤ 1000000) :
    Calls Try.prog 116 #[.slice p l.length c] w (RowRes (dval l) l.length w) := by
  obtain ⟨i0, hi, hz0, hz1, hz2⟩ := info_parts intInfo
  generalize hx : l.length = x at *
  have Hx := Lib.hid hx; clear hx
  have R := Lib.hid r; clear r
  have D := Lib.hid hd; clear hd
  go_enter Try.func116, Try.ntmps116
  go_upto_block 0 with fail
  go_cut [3] from 8 to 19 (fun n wx => ∃ k : Nat, k ≤ x ∧ n = .int .i64 k ∧ Hid (Can (l.take k) (dval l)) ∧ wx = w)
  case first =>
    go_wp2_with fail
    go_loop [3] (fun n => ∃ k : Nat, k ≤ x ∧ n = .int .i64 k ∧ Hid (∀ y ∈ l.drop k, y = 0)) (fun n => (intOf n).toNat)
    case atStart => exact ⟨x, Nat.le_refl _, rfl, by show ∀ y ∈ l.drop x, y = 0; rw [List.drop_of_length_le (by have := Hx.out; omega)]; intro y m; cases m⟩
    case round =>
      obtain ⟨k, hk, rfl, hz⟩ := hrel
      rcases k with _ | j
      · have K := Lib.hid (trim_can D.out hz.out (by rw [List.take_zero]; exact Norm.nil))
        clear hz
        go_wp2_with fail
        go_meet
        exact ⟨0, Nat.zero_le _, rfl, K, rfl⟩
      · have ja : j < l.length := by have := Hx.out; omega
        obtain ⟨ga, rfl, ka, cA⟩ := R.out j ja
        have j0 : (0 : Int) ≤ (j : Int) := by omega
        have jx : (j : Int) < (x : Int) := by omega
        have K1 := Lib.hid (fun (z : l[j] ≠ 0) => trim_can D.out hz.out (take_norm ja z))
        have K2 := Lib.hid (fun (z : l[j] = 0) => show ∀ y ∈ l.drop j, y = 0 by
          rw [List.drop_eq_getElem_cons ja]; intro y m; rcases List.mem_cons.1 m with m | m; exact m.trans z; exact hz.out y m)
        generalize l[j] = u at *
        clear hz ka
        by_cases t : u = 0
        · subst t
          go_wp2_with fail
          go_round
          case rel => exact ⟨j, by omega, by go_num, K2.out rfl⟩
          case measure => simp [intOf]
        · have t' : (u == 0) = false := by simpa using t
          have T := Lib.hid t; clear t
          go_wp2_with fail
          go_meet
          exact ⟨j + 1, hk, by go_num, K1.out T.out, rfl⟩
  case rest =>
    obtain ⟨k, hk, rfl, hc, rfl⟩ := hcut
    go_wp2_with fail
    go_loopw [4, 5] (fun v i wr => ∃ m : Nat, m ≤ k ∧ i = .int .i64 m ∧ wr.ownsRow wc.heap.size 3 1 v m ((l.take m).map (Value.int .i64)) ∧ Below wc.heap.size wc wr) (fun _ i _ => k - (intOf i).toNat)
    case atStart => exact ⟨0, Nat.zero_le _, rfl, World.ownsRow_nil _ _ _ _, Below.refl _ _⟩
    case round =>
      obtain ⟨m, hm, rfl, hown, hb⟩ := hrel
      by_cases hmk : m < k
      · have ja : m < l.length := by have := Hx.out; omega
        obtain ⟨ga, rfl, ka, cA⟩ := R.out m ja
        have j0 : (0 : Int) ≤ (m : Int) := by omega
        have jx : (m : Int) < (x : Int) := by omega
        have cB : wr.cell? ⟨ga, m, none⟩ = some (.int .i64 l[m]) := by rw [hb.cell (by exact ka)]; exact cA
        have ET := Lib.hid (show l.take m ++ [l[m]] = l.take (m + 1) by simp)
        generalize l[m] = u at *
        clear cA ka
        go_wp2_with (first
          | (at_builtin; refine wpList_append_own _ rfl _ _ 31 rfl wc.heap.size 3 i0 (.int .i64 0) 1 8 Try.underlying31 hi hz0 hz1 hz2 rfl (by decide) _ _ _ rfl (hown.alloc _) ⟨wr.heap.size, 0, none⟩ 1 1 [.int .i64 u] rfl rfl ?c1 ?c2 ?c3 ?c4 ?c5 ?_))
        case c1 =>
          intro j u hj
          match j, hj with
          | 0, hj => simp at hj; subst hj; simp [Addr.add]
        case c2 => intro u hu; simp at hu; subst hu; rfl
        case c3 => unfold maxLen; omega
        case c4 => omega
        case c5 => have := hb.size; simp; omega
        intro v' w1 hown' hgrow _
        have RR := own_snoc (l := l.take m) _ (by simp) hb hown hown' hgrow
        rw [ET.out] at RR
        clear hown' hgrow hown hb cB
        go_wp2
        go_roundw
        case rel => exact ⟨m + 1, by omega, by go_num, RR.1, RR.2⟩
        case measure => simp [intOf]; omega
      · have e : m = k := by omega
        obtain ⟨q, cc, hv, hlen, hr, hn, hf⟩ := own_row hown
        have E := Lib.hid e
        subst hv
        have HL := Lib.hid hlen; clear hlen e
        go_wp2
        go_ret
        refine ⟨_, q, cc, rfl, ?_, ?_, hr, hn, hf, hb⟩
        · rw [E.out]; exact hc.out
        · have := HL.out; omega
end Go.Proofs.Ythfnaegfjacjbab
