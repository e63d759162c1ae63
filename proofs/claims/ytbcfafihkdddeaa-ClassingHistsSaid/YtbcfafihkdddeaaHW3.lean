/- Several texts in one: R2 R4 R5 R6 R7 R8. -/
import Derived.Test.YtbcfafihkdddeaaHW2
import Derived.Laws.AppendOwnNone
import Derived.Deep.RegionWith
import Derived.Deep.RegionHeld3
import Derived.Deep.CutBlock
import Derived.IntWalk

/- The reference's rows of digits: cmpD. -/
namespace Go.Proofs.Ytbcfafihkdddeaa
open Go.RowKit
set_option linter.unusedVariables false
set_option linter.unusedSimpArgs false

/-- The slice reads as this row. -/
def RowR (w : World) (p : Option Addr) (l : List Int) : Prop := ∀ i (h : i < l.length), ∃ g, p = some ⟨g, 0, none⟩ ∧ g < w.heap.size ∧ w.cell? ⟨g, i, none⟩ = some (.int .i64 l[i])

theorem RowR.below {w w' : World} {p : Option Addr} {l : List Int} (r : RowR w p l) (hb : Below w.heap.size w w') : RowR w' p l := fun i h => by
  obtain ⟨g, e, k, c⟩ := r i h
  exact ⟨g, e, Nat.lt_of_lt_of_le k hb.size, by rw [(bcell hb).1 g i k]; exact c⟩

/-- cmpD's answer. -/
def cmpZ (a b : Int) : Int := if a < b then -1 else if b < a then 1 else 0

theorem cmpD_any (pa pb : Option Addr) (ca cb : Nat) (a b : List Int) (w : World) (ha : Digs a) (hb : Digs b) (na : Norm a) (nb : Norm b) (ra : RowR w pa a) (rb : RowR w pb b) (la : a.length ≤ 1000000) (lb : b.length ≤ 1000000) :
    Calls Try.prog 111 #[.slice pa a.length ca, .slice pb b.length cb] w fun e w' => e = .returned (.int .i64 (cmpZ (dval a) (dval b))) ∧ ∃ n, w' = w.drewN n := by
  by_cases h1 : a.length < b.length
  · have k := dval_shorter ha hb nb h1
    have K : Hid (-1 = cmpZ (dval a) (dval b)) := by show -1 = cmpZ _ _; unfold cmpZ; rw [if_pos k]
    clear k ra rb na nb ha hb
    generalize cmpZ (dval a) (dval b) = V at *
    generalize a.length = x at *
    generalize b.length = y at *
    go_enter Try.func111, Try.ntmps111
    go_wp2
    go_ret
    exact ⟨ret_i K.out, 0, rfl⟩
  by_cases h2 : b.length < a.length
  · have k := dval_shorter hb ha na h2
    have K : Hid (1 = cmpZ (dval a) (dval b)) := by show 1 = cmpZ _ _; unfold cmpZ; rw [if_neg (by omega), if_pos k]
    clear k ra rb na nb ha hb
    generalize cmpZ (dval a) (dval b) = V at *
    generalize a.length = x at *
    generalize b.length = y at *
    go_enter Try.func111, Try.ntmps111
    go_wp2
    go_ret
    exact ⟨ret_i K.out, 0, rfl⟩
  have h3 : a.length = b.length := by omega
  have H3 := Lib.hid h3
  generalize hx : a.length = x at *
  rw [← h3]
  clear h3 h1 h2
  generalize hV : cmpZ (dval a) (dval b) = V
  have HV := Lib.hid hV
  clear hV
  have Ra := Lib.hid ra
  have Rb := Lib.hid rb
  have Da := Lib.hid ha
  have Db := Lib.hid hb
  have Hx := Lib.hid hx
  clear ra rb ha hb na nb hx
  go_enter Try.func111, Try.ntmps111
  go_wp2
  go_loopw [5] (fun v wr => ∃ k : Nat, k ≤ x ∧ v = .int .i64 ((k : Int) - 1) ∧ Hid (a.drop k = b.drop k) ∧ ∃ n, wr = w.drewN n) (fun v _ => (intOf v + 1).toNat)
  case atStart => exact ⟨x, Nat.le_refl _, rfl, by show a.drop x = b.drop x; rw [List.drop_of_length_le (by have := Hx.out; omega), List.drop_of_length_le (by have := H3.out; omega)], 0, rfl⟩
  case round =>
    obtain ⟨k, hk, rfl, hd, n, rfl⟩ := hrel
    rcases k with _ | j
    · have K : Hid (0 = V) := by
        have e : a = b := by simpa using hd.out
        show 0 = V
        rw [← HV.out, e]; unfold cmpZ; rw [if_neg (by omega), if_neg (by omega)]
      clear hd
      go_wp2
      go_ret
      exact ⟨ret_i K.out, n, rfl⟩
    · have ja : j < a.length := by have := Hx.out; omega
      have jb : j < b.length := by have := H3.out; omega
      obtain ⟨ga, rfl, ka, cA⟩ := Ra.out j ja
      obtain ⟨gb, rfl, kb, cB⟩ := Rb.out j jb
      have eA : a = a.take j ++ a[j] :: a.drop (j + 1) := by simp
      have eB : b = b.take j ++ b[j] :: b.drop (j + 1) := by simp
      have dA : Digs (a.take j) := fun x m => Da.out x (List.mem_of_mem_take m)
      have dB : Digs (b.take j) := fun x m => Db.out x (List.mem_of_mem_take m)
      have rA := Da.out a[j] (List.getElem_mem ja)
      have rB := Db.out b[j] (List.getElem_mem jb)
      have lenE : (a.take j).length = (b.take j).length := by simp; omega
      have kLt : a[j] < b[j] → Hid (-1 = V) := fun t => by
        have := dval_at (c := b.drop (j + 1)) dA dB lenE t
        rw [← hd.out, ← eA, hd.out, ← eB] at this
        show -1 = V
        rw [← HV.out]; unfold cmpZ; rw [if_pos this]
      have kGt : b[j] < a[j] → Hid (1 = V) := fun t => by
        have := dval_at (c := b.drop (j + 1)) dB dA lenE.symm t
        rw [← eB, ← hd.out, ← eA] at this
        show 1 = V
        rw [← HV.out]; unfold cmpZ; rw [if_neg (by omega), if_pos this]
      have kEq : a[j] = b[j] → Hid (a.drop j = b.drop j) := fun t => by
        show a.drop j = b.drop j
        rw [List.drop_eq_getElem_cons ja, List.drop_eq_getElem_cons jb, t, hd.out]
      have e1 : (((j + 1 : Nat) : Int) - 1) = (j : Int) := by omega
      have j0 : (0 : Int) ≤ (j : Int) := by omega
      have jx : (j : Int) < (x : Int) := by omega
      rw [e1]
      generalize a[j] = u at *
      generalize b[j] = v at *
      clear eA eB dA dB lenE hd e1 ka kb
      rcases (by omega : u < v ∨ v < u ∨ (u ≤ v ∧ v ≤ u)) with t | t | ⟨t, t'⟩
      · have K := kLt t
        clear kLt kGt kEq
        go_wp2
        go_quiet (fail)
        go_wp2
        go_ret
        exact ⟨ret_i K.out, _, World.drewN_drewN _ _ _⟩
      · have K := kGt t
        clear kLt kGt kEq
        go_wp2
        go_quiet (fail)
        go_wp2
        go_quiet (fail)
        go_wp2
        go_ret
        exact ⟨ret_i K.out, _, by rw [World.drewN_drewN, World.drewN_drewN]⟩
      · have K := kEq (by omega)
        clear kLt kGt kEq
        go_wp2
        go_quiet (fail)
        go_wp2
        go_quiet (fail)
        go_wp2
        go_roundw
        case rel => exact ⟨j, by omega, rfl, K, _, by first | rfl | rw [World.drewN_drewN, World.drewN_drewN]⟩
        case measure => simp [intOf]
end Go.Proofs.Ytbcfafihkdddeaa

/- The reference's rows: trim. -/
namespace Go.Proofs.Ytbcfafihkdddeaa
open Go.RowKit
set_option linter.unusedVariables false
set_option linter.unusedSimpArgs false

theorem intInfo : (Try.prog.info? 3).map (fun i => (i.zero, i.size, i.bytes)) = some (some (.int .i64 0), 1, 8) := by kernel_rfl

/-- A call's result is a slice in new memory that reads as the digits of x. -/
def RowRes (x : Int) (n : Nat) (w : World) (e : Ending) (w' : World) : Prop :=
  ∃ t p c, e = .returned (.slice p t.length c) ∧ Can t x ∧ t.length ≤ n ∧ RowR w' p t ∧ (p = none → c = 0) ∧ (∀ a, p = some a → w.heap.size ≤ a.block) ∧ Below w.heap.size w w'

/-- What an owned row reads as. -/
theorem own_row {w : World} {base E : Nat} {v : Value} {n : Nat} {l : List Int} (h : w.ownsRow base E 1 v n (l.map (Value.int .i64))) :
    ∃ p c, v = .slice p l.length c ∧ l.length = n ∧ RowR w p l ∧ (p = none → c = 0) ∧ (∀ a, p = some a → base ≤ a.block) := by
  have hn : l.length = n := by have := h.1; simpa using this
  rcases h.2 with ⟨rfl, h0⟩ | ⟨g, cap, cur, rfl, hb, hg, _⟩
  · have l0 : l = [] := List.eq_nil_of_length_eq_zero (by omega)
    subst l0
    exact ⟨none, 0, rfl, hn, fun i hi => by simp at hi, fun _ => rfl, fun a ha => by cases ha⟩
  · refine ⟨some ⟨g, 0, none⟩, cap, by rw [hn], hn, fun i hi => ⟨g, rfl, (Array.getElem?_eq_some_iff.1 hg).1, ?_⟩, (fun e => by cases e), (fun a ha => by cases ha; exact hb)⟩
    rw [h.cellAt i (by omega)]
    simp [hi]

theorem own_lt {w : World} {base E : Nat} {v : Value} {n : Nat} {xs : List Value} (h : w.ownsRow base E 1 v n xs) : ∀ k, v.ownBlock = some k → base ≤ k := fun k hk => (h.lt k hk).1
theorem own_below {w w' : World} {base E : Nat} {v : Value} {n : Nat} {xs : List Value} (h : w.ownsRow base E 1 v n xs) (hb : Below w.heap.size w w') : w'.ownsRow base E 1 v n xs :=
  h.kept (row := none) ⟨hb.os, hb.tape, hb.output, hb.size, fun k hk _ => hb.block k hk⟩ (by
    rcases h.2 with ⟨rfl, _⟩ | ⟨g, cap, cur, rfl, _⟩
    · exact .inl rfl
    · exact .inr (by simp [Value.ownBlock]))

/-- One more element: what the laws on append leave, put together. -/
theorem own_snoc {W w w2 : World} {E : Nat} {v v' : Value} {k : Nat} {l : List Int} {x : Int} {xs : List Value} (o : Obj) (e : xs = l.map (Value.int .i64))
    (hb : Below W.heap.size W w) (hown : w.ownsRow W.heap.size E 1 v k (l.map (Value.int .i64)))
    (h1 : w2.ownsRow W.heap.size E 1 v' (k + 1) (xs ++ [.int .i64 x])) (h2 : (w.alloc o).grownBy w2 v.ownBlock) :
    w2.ownsRow W.heap.size E 1 v' (k + 1) ((l ++ [x]).map (Value.int .i64)) ∧ Below W.heap.size W w2 :=
  ⟨by subst e; simpa using h1, (hb.alloc hb.size o).grown h2 (by have := hb.size; simp; omega) (own_lt hown)⟩

theorem take_norm {l : List Int} {j : Nat} (h : j < l.length) (z : l[j] ≠ 0) : Norm (l.take (j + 1)) := by
  intro e
  rw [List.getLast_eq_getElem]
  simp only [List.length_take, Nat.min_eq_left (show j + 1 ≤ l.length by omega), Nat.add_sub_cancel, List.getElem_take]
  exact z

theorem trim_can {l : List Int} {k : Nat} (hd : Digs l) (hz : ∀ y ∈ l.drop k, y = 0) (hn : Norm (l.take k)) : Can (l.take k) (dval l) := ⟨hd.take k, hn, dval_take_zeros hz⟩

set_option maxHeartbeats 400000 in
theorem trim_any (p : Option Addr) (c : Nat) (l : List Int) (w : World) (hd : Digs l) (r : RowR w p l) (ln : l.length ≤ 1000000) :
    Calls Try.prog 155 #[.slice p l.length c] w (RowRes (dval l) l.length w) := by
  obtain ⟨i0, hi, hz0, hz1, hz2⟩ := info_parts intInfo
  generalize hx : l.length = x at *
  have Hx := Lib.hid hx; clear hx
  have R := Lib.hid r; clear r
  have D := Lib.hid hd; clear hd
  go_enter Try.func155, Try.ntmps155
  go_upto_block 0 with fail
  go_cut [3] from 8 to 19 (fun n wx => ∃ k : Nat, k ≤ x ∧ n = .int .i64 k ∧ Hid (Can (l.take k) (dval l)) ∧ wx = w)
  case first =>
    go_wp2_with fail
    go_loop [3] (fun n => ∃ k : Nat, k ≤ x ∧ n = .int .i64 k ∧ Hid (∀ y ∈ l.drop k, y = 0)) (fun n => (intOf n).toNat)
    case atStart => exact ⟨x, Nat.le_refl _, rfl, by show ∀ y ∈ l.drop x, y = 0; rw [List.drop_of_length_le (by have := Hx.out; omega)]; intro y m; cases m⟩
    case round =>
      obtain ⟨k, hk, rfl, hz⟩ := hrel
      rcases k with _ | j
      · have K := Lib.hid (trim_can D.out hz.out (by rw [List.take_zero]; exact Norm.nil))
        clear hz
        go_wp2_with fail
        go_meet
        exact ⟨0, Nat.zero_le _, rfl, K, rfl⟩
      · have ja : j < l.length := by have := Hx.out; omega
        obtain ⟨ga, rfl, ka, cA⟩ := R.out j ja
        have j0 : (0 : Int) ≤ (j : Int) := by omega
        have jx : (j : Int) < (x : Int) := by omega
        have K1 := Lib.hid (fun (z : l[j] ≠ 0) => trim_can D.out hz.out (take_norm ja z))
        have K2 := Lib.hid (fun (z : l[j] = 0) => show ∀ y ∈ l.drop j, y = 0 by
          rw [List.drop_eq_getElem_cons ja]; intro y m; rcases List.mem_cons.1 m with m | m; exact m.trans z; exact hz.out y m)
        generalize l[j] = u at *
        clear hz ka
        by_cases t : u = 0
        · subst t
          go_wp2_with fail
          go_round
          case rel => exact ⟨j, by omega, by go_num, K2.out rfl⟩
          case measure => simp [intOf]
        · have t' : (u == 0) = false := by simpa using t
          have T := Lib.hid t; clear t
          go_wp2_with fail
          go_meet
          exact ⟨j + 1, hk, by go_num, K1.out T.out, rfl⟩
  case rest =>
    obtain ⟨k, hk, rfl, hc, rfl⟩ := hcut
    go_wp2_with fail
    go_loopw [4, 5] (fun v i wr => ∃ m : Nat, m ≤ k ∧ i = .int .i64 m ∧ wr.ownsRow wc.heap.size 3 1 v m ((l.take m).map (Value.int .i64)) ∧ Below wc.heap.size wc wr) (fun _ i _ => k - (intOf i).toNat)
    case atStart => exact ⟨0, Nat.zero_le _, rfl, World.ownsRow_nil _ _ _ _, Below.refl _ _⟩
    case round =>
      obtain ⟨m, hm, rfl, hown, hb⟩ := hrel
      by_cases hmk : m < k
      · have ja : m < l.length := by have := Hx.out; omega
        obtain ⟨ga, rfl, ka, cA⟩ := R.out m ja
        have j0 : (0 : Int) ≤ (m : Int) := by omega
        have jx : (m : Int) < (x : Int) := by omega
        have cB : wr.cell? ⟨ga, m, none⟩ = some (.int .i64 l[m]) := by rw [hb.cell (by exact ka)]; exact cA
        have ET := Lib.hid (show l.take m ++ [l[m]] = l.take (m + 1) by simp)
        generalize l[m] = u at *
        clear cA ka
        go_wp2_with (first
          | (at_builtin; refine wpList_append_own _ rfl _ _ 40 rfl wc.heap.size 3 i0 (.int .i64 0) 1 8 Try.underlying40 hi hz0 hz1 hz2 rfl (by decide) _ _ _ rfl (hown.alloc _) ⟨wr.heap.size, 0, none⟩ 1 1 [.int .i64 u] rfl rfl ?c1 ?c2 ?c3 ?c4 ?c5 ?_))
        case c1 =>
          intro j u hj
          match j, hj with
          | 0, hj => simp at hj; subst hj; simp [Addr.add]
        case c2 => intro u hu; simp at hu; subst hu; rfl
        case c3 => unfold maxLen; omega
        case c4 => omega
        case c5 => have := hb.size; simp; omega
        intro v' w1 hown' hgrow _
        have RR := own_snoc (l := l.take m) _ (by simp) hb hown hown' hgrow
        rw [ET.out] at RR
        clear hown' hgrow hown hb cB
        go_wp2
        go_roundw
        case rel => exact ⟨m + 1, by omega, by go_num, RR.1, RR.2⟩
        case measure => simp [intOf]; omega
      · have e : m = k := by omega
        obtain ⟨q, cc, hv, hlen, hr, hn, hf⟩ := own_row hown
        have E := Lib.hid e
        subst hv
        have HL := Lib.hid hlen; clear hlen e
        go_wp2
        go_ret
        refine ⟨_, q, cc, rfl, ?_, ?_, hr, hn, hf, hb⟩
        · rw [E.out]; exact hc.out
        · have := HL.out; omega
end Go.Proofs.Ytbcfafihkdddeaa

/- The reference's rows: whole, Of, addD, subD. -/
namespace Go.Proofs.Ytbcfafihkdddeaa
open Go.RowKit
set_option linter.unusedVariables false
set_option linter.unusedSimpArgs false

theorem RowR.setCell {w : World} {p : Option Addr} {l : List Int} (r : RowR w p l) {q : Addr} (h : ∀ a, p = some a → a.block ≠ q.block) (v : Value) : RowR (w.setCell q v) p l := fun i hi => by
  obtain ⟨g, e, k, c⟩ := r i hi
  refine ⟨g, e, by simpa [World.setCell] using k, ?_⟩
  rw [World.cell?_setCell_other _ _ _ _ (fun e2 => h _ e (by subst e2; rfl))]
  exact c

/-- The reference's whole number x. -/
structure BigR (n : Nat) (w : World) (p : Option Addr) (l : List Int) (x : Int) : Prop where
  can : Can l x.natAbs
  size : l.length ≤ n
  row : RowR w p l
theorem BigR.below {n : Nat} {w w' : World} {p : Option Addr} {l : List Int} {x : Int} (r : BigR n w p l x) (hb : Below w.heap.size w w') : BigR n w' p l x := ⟨r.can, r.size, r.row.below hb⟩
theorem BigR.more {n m : Nat} {w : World} {p : Option Addr} {l : List Int} {x : Int} (r : BigR n w p l x) (h : n ≤ m) : BigR m w p l x := ⟨r.can, by have := r.size; omega, r.row⟩
/-- A call's result is the whole number x. -/
def BigRes (n : Nat) (x : Int) (w : World) (e : Ending) (w' : World) : Prop :=
  ∃ p l c, e = .returned (.agg #[.bool (decide (x < 0)), .slice p l.length c]) ∧ BigR n w' p l x ∧ (∀ a, p = some a → w.heap.size ≤ a.block) ∧ Below w.heap.size w w'

theorem whole_sign {t : List Int} {v : Int} (s : Bool) (h : Can t v) : decide ((bif s then -v else v) < 0) = (s && decide (0 < t.length)) := by
  have k := h.nonneg
  have z := h.length_zero
  cases s
  · simp; omega
  · simp only [cond_true, Bool.true_and]
    rw [Bool.eq_iff_iff]
    simp only [decide_eq_true_eq]
    omega
theorem whole_abs {v : Int} (s : Bool) (h : 0 ≤ v) : ((bif s then -v else v).natAbs : Int) = v := by cases s <;> simp <;> omega

set_option maxHeartbeats 400000 in
theorem whole_any (s : Bool) (p : Option Addr) (c : Nat) (l : List Int) (w : World) (hd : Digs l) (r : RowR w p l) (ln : l.length ≤ 1000000) :
    Calls Try.prog 117 #[.bool s, .slice p l.length c] w (BigRes l.length (bif s then -dval l else dval l) w) := by
  have nn := dval_nonneg hd
  have AB := Lib.hid (whole_abs s nn)
  have R := Lib.hid r; clear r
  have D := Lib.hid hd; clear hd
  go_enter Try.func117, Try.ntmps117
  go_wp2_with fail
  refine (trim_any p c l _ D.out (R.out.below (by go_grown)) ln).mono ?_
  rintro e w1 ⟨t, q, cc, rfl, hcan, hlen, hr, hn, hf, hb1⟩
  obtain ⟨hc, hfz⟩ := bcell hb1
  have hz : w.heap.size < w1.heap.size := by have := hb1.size; simp at this; omega
  have WS := Lib.hid (whole_sign s hcan)
  have fin : ∀ b : Bool, b = (s && decide (0 < t.length)) → BigRes l.length (bif s then -dval l else dval l) w (.returned (.agg #[.bool b, .slice q t.length cc])) ((w1.setCell ⟨w.heap.size, 0, none⟩ (.bool b)).setCell ⟨w.heap.size, 1, none⟩ (.slice q t.length cc)) := by
    intro b hb
    have hq : ∀ a, q = some a → a.block ≠ w.heap.size := fun a ha => by have := hf a ha; simp at this; omega
    refine ⟨q, t, cc, by rw [hb, ← WS.out], ⟨by rw [AB.out]; exact hcan, hlen, (hr.setCell (q := ⟨w.heap.size, 0, none⟩) hq _).setCell (q := ⟨w.heap.size, 1, none⟩) hq _⟩, fun a ha => by have := hf a ha; simp at this; omega, ?_⟩
    exact (((((Below.refl _ _).alloc (Nat.le_refl _) _).trans (hb1.mono (by simp))).setCell (by simp) _).setCell (by simp) _)
  clear WS AB hcan hr hn hf hb1 hlen
  generalize t.length = n at *
  have key : (s = false) ∨ (s = true ∧ n = 0) ∨ (s = true ∧ 0 < n) := by cases s <;> simp <;> omega
  rcases key with rfl | ⟨rfl, rfl⟩ | ⟨rfl, h0⟩
  · have F := Lib.hid (fin false (by simp)); clear fin
    go_wp2_with fail
    exact bodyPost_ret (v := .agg #[.bool false, .slice q n cc]) (by simp [results, Try.results117, go_sem, hc, hz]) rfl F.out
  · have F := Lib.hid (fin false (by simp)); clear fin
    go_wp2_with fail
    exact bodyPost_ret (v := .agg #[.bool false, .slice q 0 cc]) (by simp [results, Try.results117, go_sem, hc, hz]) rfl F.out
  · have F := Lib.hid (fin true (by simp; omega)); clear fin
    go_wp2_with fail
    exact bodyPost_ret (v := .agg #[.bool true, .slice q n cc]) (by simp [results, Try.results117, go_sem, hc, hz]) rfl F.out
end Go.Proofs.Ytbcfafihkdddeaa

/- The reference's rows: addD, subD. -/
namespace Go.Proofs.Ytbcfafihkdddeaa
open Go.RowKit
set_option linter.unusedVariables false
set_option linter.unusedSimpArgs false

/-- A sum's digits: no word on a highest 0. -/
def SumRes (x : Int) (n : Nat) (w : World) (e : Ending) (w' : World) : Prop :=
  ∃ t p c, e = .returned (.slice p t.length c) ∧ Digs t ∧ dval t = x ∧ t.length ≤ n ∧ RowR w' p t ∧ Below w.heap.size w w'

theorem Digs.snoc {l : List Int} {d : Int} (h : Digs l) (h0 : 0 ≤ d) (h1 : d < 10000) : Digs (l ++ [d]) := Digs.app.2 ⟨h, by intro x m; simp at m; omega⟩

theorem one_cell {w : World} (x : Int) : ∀ j u, ([Value.int .i64 x])[j]? = some u → (w.alloc (Obj.cells #[Value.int .i64 x] 3)).cell? ((⟨w.heap.size, 0, none⟩ : Addr).add j) = some u := by
  intro j u hj
  match j, hj with
  | 0, hj => simp at hj; subst hj; simp [Addr.add, go_sem]
theorem one_one {x : Int} : ∀ u ∈ [Value.int .i64 x], u.oneCell' = true := by intro u hu; simp at hu; subst hu; rfl

set_option maxHeartbeats 1000000 in
theorem addD_any (pa pb : Option Addr) (ca cb : Nat) (a b : List Int) (w : World) (M : Nat) (ha : Digs a) (hb : Digs b) (ra : RowR w pa a) (rb : RowR w pb b) (la : a.length ≤ M) (lb : b.length ≤ M) (hM : M ≤ 1000000) :
    Calls Try.prog 153 #[.slice pa a.length ca, .slice pb b.length cb] w (SumRes (dval a + dval b) (M + 1) w) := by
  obtain ⟨i0, hi, hz0, hz1, hz2⟩ := info_parts intInfo
  obtain ⟨N, hN⟩ : ∃ N, N = max a.length b.length := ⟨_, rfl⟩
  have hN1 : a.length ≤ N := by omega
  have hN2 : b.length ≤ N := by omega
  have hN3 : N ≤ M := by omega
  have hN4 : N ≤ a.length ∨ N ≤ b.length := by omega
  clear hN la lb
  have Ra := Lib.hid ra; clear ra
  have Rb := Lib.hid rb; clear rb
  have Da := Lib.hid ha; clear ha
  have Db := Lib.hid hb; clear hb
  generalize hx : a.length = x at *
  generalize hy : b.length = y at *
  have Hx := Lib.hid hx; clear hx
  have Hy := Lib.hid hy; clear hy
  go_enter Try.func153, Try.ntmps153
  go_wp2
  go_loopw [5, 6, 7] (fun v cv i wr => ∃ (k : Nat) (o : List Int) (c : Int), (k ≤ N ∨ (k ≤ N + 1 ∧ c ≤ 0)) ∧ 0 ≤ c ∧ c ≤ 1 ∧ cv = .int .i64 c ∧ i = .int .i64 k ∧ Hid (o.length = k) ∧ Hid (Digs o) ∧
      Hid (dval o + 10000 ^ k * (c + dval (a.drop k) + dval (b.drop k)) = dval a + dval b) ∧ wr.ownsRow w.heap.size 3 1 v k (o.map (Value.int .i64)) ∧ Below w.heap.size w wr) (fun _ _ i _ => N + 1 - (intOf i).toNat)
  case atStart => exact ⟨0, [], 0, .inl (Nat.zero_le _), by omega, by omega, rfl, rfl, rfl, Digs.nil, by show _ = _; simp [dval], World.ownsRow_nil _ _ _ _, Below.refl _ _⟩
  case round =>
    obtain ⟨k, o, c, hk, c0, c1, rfl, rfl, hol, hod, hval, hown, hbel⟩ := hrel
    have G1 := gd_le Da.out k
    have G2 := gd_le Db.out k
    have S := Lib.hid (add_step hol.out hval.out)
    have step : ∀ s v' w1, 0 ≤ s → s = c + gd a k + gd b k → w1.ownsRow w.heap.size 3 1 v' (k + 1) (o.map (Value.int .i64) ++ [.int .i64 (s % 10000)]) → (wr.alloc (Obj.cells #[Value.int .i64 (s % 10000)] 3)).grownBy w1 (u5).ownBlock →
        Hid ((o ++ [s % 10000]).length = k + 1) ∧ Hid (Digs (o ++ [s % 10000])) ∧ Hid (dval (o ++ [s % 10000]) + 10000 ^ (k + 1) * (s / 10000 + dval (a.drop (k + 1)) + dval (b.drop (k + 1))) = dval a + dval b) ∧ w1.ownsRow w.heap.size 3 1 v' (k + 1) ((o ++ [s % 10000]).map (Value.int .i64)) ∧ Below w.heap.size w w1 := by
      intro s v' w1 hs e h1 h2
      subst e
      have RR := own_snoc (l := o) _ rfl hbel hown h1 h2
      exact ⟨by show _ = _; have := hol.out; simp [this], hod.out.snoc (by omega) (by omega), S.out, RR.1, RR.2⟩
    have hbs : ∀ o, w.heap.size ≤ (wr.alloc o).heap.size := fun o => by have := hbel.size; simp; omega
    clear S
    by_cases t1 : k < x
    · have l1 : k < a.length := by have := Hx.out; omega
      obtain ⟨ga, rfl, ka, cA⟩ := Ra.out k l1
      have cA2 : wr.cell? ⟨ga, k, none⟩ = some (.int .i64 (gd a k)) := by rw [hbel.cell (by exact ka), cA, gd_in l1]
      clear cA ka
      by_cases t2 : k < y
      · have l2 : k < b.length := by have := Hy.out; omega
        obtain ⟨gb, rfl, kb, cB⟩ := Rb.out k l2
        have cB2 : wr.cell? ⟨gb, k, none⟩ = some (.int .i64 (gd b k)) := by rw [hbel.cell (by exact kb), cB, gd_in l2]
        clear cB kb
        have st := Lib.hid (fun v' w1 h => step (c + gd a k + gd b k) v' w1 h rfl)
        clear step
        generalize gd a k = u at *
        generalize gd b k = v at *
        go_wp2_with (first
          | (at_builtin; refine wpList_append_own _ rfl _ _ 40 rfl w.heap.size 3 i0 (.int .i64 0) 1 8 Try.underlying40 hi hz0 hz1 hz2 rfl (by decide) _ _ _ rfl (hown.alloc _) ⟨wr.heap.size, 0, none⟩ 1 1 [.int .i64 ((c + u + v) % 10000)] rfl rfl (one_cell _) one_one (by unfold maxLen; omega) (by omega) (hbs _) ?_))
        intro v' w1 hown' hgrow _
        have RR := st.out v' w1 (by omega) hown' hgrow
        clear hown' hgrow hown hbel st hbs hol hod hval
        go_wp2
        go_roundw
        case rel => exact ⟨k + 1, _, (c + u + v) / 10000, .inl (by omega), by omega, by omega, rfl, by go_num, RR.1, RR.2.1, RR.2.2.1, RR.2.2.2.1, RR.2.2.2.2⟩
        case measure => simp [intOf]; omega
      · have e2 : gd b k = 0 := gd_out (by have := Hy.out; omega)
        have st := Lib.hid (fun v' w1 h => step (c + gd a k) v' w1 h (by rw [e2, Int.add_zero]))
        clear step e2
        generalize gd a k = u at *
        go_wp2_with (first
          | (at_builtin; refine wpList_append_own _ rfl _ _ 40 rfl w.heap.size 3 i0 (.int .i64 0) 1 8 Try.underlying40 hi hz0 hz1 hz2 rfl (by decide) _ _ _ rfl (hown.alloc _) ⟨wr.heap.size, 0, none⟩ 1 1 [.int .i64 ((c + u) % 10000)] rfl rfl (one_cell _) one_one (by unfold maxLen; omega) (by omega) (hbs _) ?_))
        intro v' w1 hown' hgrow _
        have RR := st.out v' w1 (by omega) hown' hgrow
        clear hown' hgrow hown hbel st hbs hol hod hval
        go_wp2
        go_roundw
        case rel => exact ⟨k + 1, _, (c + u) / 10000, .inl (by omega), by omega, by omega, rfl, by go_num, RR.1, RR.2.1, RR.2.2.1, RR.2.2.2.1, RR.2.2.2.2⟩
        case measure => simp [intOf]; omega
    · have e1 : gd a k = 0 := gd_out (by have := Hx.out; omega)
      by_cases t2 : k < y
      · have l2 : k < b.length := by have := Hy.out; omega
        obtain ⟨gb, rfl, kb, cB⟩ := Rb.out k l2
        have cB2 : wr.cell? ⟨gb, k, none⟩ = some (.int .i64 (gd b k)) := by rw [hbel.cell (by exact kb), cB, gd_in l2]
        clear cB kb
        have st := Lib.hid (fun v' w1 h => step (c + gd b k) v' w1 h (by rw [e1, Int.add_zero]))
        clear step e1
        generalize gd b k = v at *
        go_wp2_with (first
          | (at_builtin; refine wpList_append_own _ rfl _ _ 40 rfl w.heap.size 3 i0 (.int .i64 0) 1 8 Try.underlying40 hi hz0 hz1 hz2 rfl (by decide) _ _ _ rfl (hown.alloc _) ⟨wr.heap.size, 0, none⟩ 1 1 [.int .i64 ((c + v) % 10000)] rfl rfl (one_cell _) one_one (by unfold maxLen; omega) (by omega) (hbs _) ?_))
        intro v' w1 hown' hgrow _
        have RR := st.out v' w1 (by omega) hown' hgrow
        clear hown' hgrow hown hbel st hbs hol hod hval
        go_wp2
        go_roundw
        case rel => exact ⟨k + 1, _, (c + v) / 10000, .inl (by omega), by omega, by omega, rfl, by go_num, RR.1, RR.2.1, RR.2.2.1, RR.2.2.2.1, RR.2.2.2.2⟩
        case measure => simp [intOf]; omega
      · have e2 : gd b k = 0 := gd_out (by have := Hy.out; omega)
        by_cases t3 : 0 < c
        · have st := Lib.hid (fun v' w1 h => step c v' w1 h (by rw [e1, e2, Int.add_zero, Int.add_zero]))
          clear step e1 e2
          go_wp2_with (first
            | (at_builtin; refine wpList_append_own _ rfl _ _ 40 rfl w.heap.size 3 i0 (.int .i64 0) 1 8 Try.underlying40 hi hz0 hz1 hz2 rfl (by decide) _ _ _ rfl (hown.alloc _) ⟨wr.heap.size, 0, none⟩ 1 1 [.int .i64 (c % 10000)] rfl rfl (one_cell _) one_one (by unfold maxLen; omega) (by omega) (hbs _) ?_))
          intro v' w1 hown' hgrow _
          have RR := st.out v' w1 (by omega) hown' hgrow
          clear hown' hgrow hown hbel st hbs hol hod hval
          go_wp2
          go_roundw
          case rel => exact ⟨k + 1, _, c / 10000, .inr ⟨by omega, by omega⟩, by omega, by omega, rfl, by go_num, RR.1, RR.2.1, RR.2.2.1, RR.2.2.2.1, RR.2.2.2.2⟩
          case measure => simp [intOf]; omega
        · have vv : dval o = dval a + dval b := by
            have h := hval.out
            rw [List.drop_of_length_le (by have := Hx.out; omega), List.drop_of_length_le (by have := Hy.out; omega), show c = 0 from by omega] at h
            simpa [dval] using h
          obtain ⟨q, cc, hv, hlen, hr, hn, hf⟩ := own_row hown
          have VV := Lib.hid vv
          have HL := Lib.hid hlen
          clear vv hlen e1 e2 step
          subst hv
          go_wp2
          go_ret
          exact ⟨_, q, cc, rfl, hod.out, VV.out, by have := HL.out; omega, hr, hbel⟩
end Go.Proofs.Ytbcfafihkdddeaa

/- The reference's rows: subD, Of. -/
namespace Go.Proofs.Ytbcfafihkdddeaa
open Go.RowKit
set_option linter.unusedVariables false
set_option linter.unusedSimpArgs false

theorem RowRes.from {x : Int} {n m : Nat} {w w1 w2 : World} {e : Ending} (h : RowRes x m w1 e w2) (hb : Below w.heap.size w w1) (hm : m ≤ n) : RowRes x n w e w2 := by
  obtain ⟨t, p, c, rfl, h1, h2, h3, h4, h5, h6⟩ := h
  exact ⟨t, p, c, rfl, h1, by omega, h3, h4, fun a ha => Nat.le_trans hb.size (h5 a ha), hb.trans (h6.mono hb.size)⟩

set_option maxHeartbeats 1000000 in
theorem subD_any (pa pb : Option Addr) (ca cb : Nat) (a b : List Int) (w : World) (ha : Digs a) (hb : Digs b) (ra : RowR w pa a) (rb : RowR w pb b) (la : a.length ≤ 1000000) (lb : b.length ≤ a.length) (hv : dval b ≤ dval a) :
    Calls Try.prog 154 #[.slice pa a.length ca, .slice pb b.length cb] w (RowRes (dval a - dval b) a.length w) := by
  obtain ⟨i0, hi, hz0, hz1, hz2⟩ := info_parts intInfo
  have HV := Lib.hid hv; clear hv
  have Ra := Lib.hid ra; clear ra
  have Rb := Lib.hid rb; clear rb
  have Da := Lib.hid ha; clear ha
  have Db := Lib.hid hb; clear hb
  generalize hx : a.length = x at *
  generalize hy : b.length = y at *
  have Hx := Lib.hid hx; clear hx
  have Hy := Lib.hid hy; clear hy
  go_enter Try.func154, Try.ntmps154
  go_wp2
  go_loopw [5, 6, 7] (fun v cv i wr => ∃ (k : Nat) (o : List Int) (c : Int), k ≤ x ∧ 0 ≤ c ∧ c ≤ 1 ∧ cv = .int .i64 c ∧ i = .int .i64 k ∧ Hid (o.length = k) ∧ Hid (Digs o) ∧
      Hid (dval o + 10000 ^ k * (dval (a.drop k) - dval (b.drop k) - c) = dval a - dval b) ∧ wr.ownsRow w.heap.size 3 1 v k (o.map (Value.int .i64)) ∧ Below w.heap.size w wr) (fun _ _ i _ => x - (intOf i).toNat)
  case atStart => exact ⟨0, [], 0, Nat.zero_le _, by omega, by omega, rfl, rfl, rfl, Digs.nil, by show _ = _; simp [dval], World.ownsRow_nil _ _ _ _, Below.refl _ _⟩
  case round =>
    obtain ⟨k, o, c, hk, c0, c1, rfl, rfl, hol, hod, hval, hown, hbel⟩ := hrel
    have G1 := gd_le Da.out k
    have G2 := gd_le Db.out k
    have step : ∀ s c' v' w1, 0 ≤ s → s < 10000 → s - 10000 * c' = gd a k - gd b k - c → w1.ownsRow w.heap.size 3 1 v' (k + 1) (o.map (Value.int .i64) ++ [.int .i64 s]) → (wr.alloc (Obj.cells #[Value.int .i64 s] 3)).grownBy w1 (u5).ownBlock →
        Hid ((o ++ [s]).length = k + 1) ∧ Hid (Digs (o ++ [s])) ∧ Hid (dval (o ++ [s]) + 10000 ^ (k + 1) * (dval (a.drop (k + 1)) - dval (b.drop (k + 1)) - c') = dval a - dval b) ∧ w1.ownsRow w.heap.size 3 1 v' (k + 1) ((o ++ [s]).map (Value.int .i64)) ∧ Below w.heap.size w w1 := by
      intro s c' v' w1 hs hs' e h1 h2
      have RR := own_snoc (l := o) _ rfl hbel hown h1 h2
      exact ⟨by show _ = _; have := hol.out; simp [this], hod.out.snoc (by omega) (by omega), sub_step hol.out e hval.out, RR.1, RR.2⟩
    have hbs : ∀ o, w.heap.size ≤ (wr.alloc o).heap.size := fun o => by have := hbel.size; simp; omega
    by_cases t1 : k < x
    · have l1 : k < a.length := by have := Hx.out; omega
      obtain ⟨ga, rfl, ka, cA⟩ := Ra.out k l1
      have cA2 : wr.cell? ⟨ga, k, none⟩ = some (.int .i64 (gd a k)) := by rw [hbel.cell (by exact ka), cA, gd_in l1]
      clear cA ka
      by_cases t2 : k < y
      · have l2 : k < b.length := by have := Hy.out; omega
        obtain ⟨gb, rfl, kb, cB⟩ := Rb.out k l2
        have cB2 : wr.cell? ⟨gb, k, none⟩ = some (.int .i64 (gd b k)) := by rw [hbel.cell (by exact kb), cB, gd_in l2]
        clear cB kb
        generalize gd a k = u at *
        generalize gd b k = v at *
        by_cases t3 : u - c - v < 0
        · have st := Lib.hid (fun v' w1 h h' => step (u - c - v + 10000) 1 v' w1 h h' (by omega))
          clear step
          go_wp2_with (first
            | (at_builtin; refine wpList_append_own _ rfl _ _ 40 rfl w.heap.size 3 i0 (.int .i64 0) 1 8 Try.underlying40 hi hz0 hz1 hz2 rfl (by decide) _ _ _ rfl (hown.alloc _) ⟨wr.heap.size, 0, none⟩ 1 1 [.int .i64 (u - c - v + 10000)] rfl rfl (one_cell _) one_one (by unfold maxLen; omega) (by omega) (hbs _) ?_))
          intro v' w1 hown' hgrow _
          have RR := st.out v' w1 (by omega) (by omega) hown' hgrow
          clear hown' hgrow hown hbel st hbs hol hod hval
          go_wp2
          go_roundw
          case rel => exact ⟨k + 1, _, 1, by omega, by omega, by omega, rfl, by go_num, RR.1, RR.2.1, RR.2.2.1, RR.2.2.2.1, RR.2.2.2.2⟩
          case measure => simp [intOf]; omega
        · have st := Lib.hid (fun v' w1 h h' => step (u - c - v) 0 v' w1 h h' (by omega))
          clear step
          go_wp2_with (first
            | (at_builtin; refine wpList_append_own _ rfl _ _ 40 rfl w.heap.size 3 i0 (.int .i64 0) 1 8 Try.underlying40 hi hz0 hz1 hz2 rfl (by decide) _ _ _ rfl (hown.alloc _) ⟨wr.heap.size, 0, none⟩ 1 1 [.int .i64 (u - c - v)] rfl rfl (one_cell _) one_one (by unfold maxLen; omega) (by omega) (hbs _) ?_))
          intro v' w1 hown' hgrow _
          have RR := st.out v' w1 (by omega) (by omega) hown' hgrow
          clear hown' hgrow hown hbel st hbs hol hod hval
          go_wp2
          go_roundw
          case rel => exact ⟨k + 1, _, 0, by omega, by omega, by omega, rfl, by go_num, RR.1, RR.2.1, RR.2.2.1, RR.2.2.2.1, RR.2.2.2.2⟩
          case measure => simp [intOf]; omega
      · have e2 : gd b k = 0 := gd_out (by have := Hy.out; omega)
        generalize gd a k = u at *
        by_cases t3 : u - c < 0
        · have st := Lib.hid (fun v' w1 h h' => step (u - c + 10000) 1 v' w1 h h' (by omega))
          clear step e2
          go_wp2_with (first
            | (at_builtin; refine wpList_append_own _ rfl _ _ 40 rfl w.heap.size 3 i0 (.int .i64 0) 1 8 Try.underlying40 hi hz0 hz1 hz2 rfl (by decide) _ _ _ rfl (hown.alloc _) ⟨wr.heap.size, 0, none⟩ 1 1 [.int .i64 (u - c + 10000)] rfl rfl (one_cell _) one_one (by unfold maxLen; omega) (by omega) (hbs _) ?_))
          intro v' w1 hown' hgrow _
          have RR := st.out v' w1 (by omega) (by omega) hown' hgrow
          clear hown' hgrow hown hbel st hbs hol hod hval
          go_wp2
          go_roundw
          case rel => exact ⟨k + 1, _, 1, by omega, by omega, by omega, rfl, by go_num, RR.1, RR.2.1, RR.2.2.1, RR.2.2.2.1, RR.2.2.2.2⟩
          case measure => simp [intOf]; omega
        · have st := Lib.hid (fun v' w1 h h' => step (u - c) 0 v' w1 h h' (by omega))
          clear step e2
          go_wp2_with (first
            | (at_builtin; refine wpList_append_own _ rfl _ _ 40 rfl w.heap.size 3 i0 (.int .i64 0) 1 8 Try.underlying40 hi hz0 hz1 hz2 rfl (by decide) _ _ _ rfl (hown.alloc _) ⟨wr.heap.size, 0, none⟩ 1 1 [.int .i64 (u - c)] rfl rfl (one_cell _) one_one (by unfold maxLen; omega) (by omega) (hbs _) ?_))
          intro v' w1 hown' hgrow _
          have RR := st.out v' w1 (by omega) (by omega) hown' hgrow
          clear hown' hgrow hown hbel st hbs hol hod hval
          go_wp2
          go_roundw
          case rel => exact ⟨k + 1, _, 0, by omega, by omega, by omega, rfl, by go_num, RR.1, RR.2.1, RR.2.2.1, RR.2.2.2.1, RR.2.2.2.2⟩
          case measure => simp [intOf]; omega
    · have ek : k = x := by omega
      have vv : dval o = dval a - dval b := by
        have h := hval.out
        rw [List.drop_of_length_le (by have := Hx.out; omega), List.drop_of_length_le (by have := Hy.out; omega)] at h
        refine sub_end hod.out hol.out h (by omega) (by have := HV.out; omega)
      obtain ⟨q, cc, hv, hlen, hr, hn, hf⟩ := own_row hown
      have VV := Lib.hid vv
      have HL := Lib.hid hlen
      have HR := Lib.hid hr
      have EK := Lib.hid ek
      clear vv hlen ek step hr hn hf hown hval hol hbs
      subst hv
      go_wp2_with fail
      refine (trim_any q cc o _ hod.out (HR.out.below (Below.refl _ _)) (by have := HL.out; omega)).mono ?_
      intro e w2 hres
      have H2 := hres.from hbel (n := x) (by have := HL.out; have := EK.out; omega)
      rw [VV.out] at H2
      clear hres
      obtain ⟨t, p', c', rfl, rest⟩ := H2
      have RST := Lib.hid rest
      clear rest hbel hod
      go_wp2_with fail
      go_ret
      exact ⟨t, p', c', rfl, RST.out⟩
end Go.Proofs.Ytbcfafihkdddeaa

/- The reference's rows: mulD. -/
namespace Go.Proofs.Ytbcfafihkdddeaa
open Go.RowKit
set_option linter.unusedVariables false
set_option linter.unusedSimpArgs false

/-- The row that a product is made in. -/
def Made (w wr : World) (N : Nat) (O : List Int) : Prop := O.length = N ∧ Digs O ∧ wr.ownsRow w.heap.size 3 1 (.slice (some ⟨w.heap.size, 0, none⟩) N N) N (O.map (Value.int .i64)) ∧ Below w.heap.size w wr
theorem Made.set {w wr : World} {N : Nat} {O : List Int} (h : Made w wr N O) (j : Nat) {x : Int} (h0 : 0 ≤ x) (h1 : x < 10000) : Made w (wr.setCell ⟨w.heap.size, j, none⟩ (.int .i64 x)) N (O.set j x) := by
  obtain ⟨a, b, c, d⟩ := h
  refine ⟨by simpa using a, b.set j ⟨h0, h1⟩, ?_, d.setCell (Nat.le_refl _) _⟩
  have := (c.stored j (.int .i64 x)).1
  rwa [← List.map_set] at this
theorem Made.drewN {w wr : World} {N : Nat} {O : List Int} (h : Made w wr N O) (n : Nat) : Made w (wr.drewN n) N O := ⟨h.1, h.2.1, h.2.2.1, below_drewN h.2.2.2 n⟩
theorem Made.cell {w wr : World} {N : Nat} {O : List Int} (h : Made w wr N O) (j : Nat) (hj : j < O.length) : wr.cell? ⟨w.heap.size, j, none⟩ = some (.int .i64 O[j]) := by
  rw [h.2.2.1.cellAt j (by have := h.1; omega)]
  simp [hj]
theorem Made.frozen {w wr : World} {N : Nat} {O : List Int} (h : Made w wr N O) (j : Nat) : wr.frozen? ⟨w.heap.size, j, none⟩ = false := h.2.2.1.frozenAt j
theorem Made.lt {w wr : World} {N : Nat} {O : List Int} (h : Made w wr N O) : w.heap.size < wr.heap.size := (h.2.2.1.lt _ rfl).2
theorem made_zeros (n : Nat) : (madeCells (Value.int .i64 0).cells (n * 1)).toList = (List.replicate n (0 : Int)).map (Value.int .i64) := by
  rw [Nat.mul_one, show (Value.int .i64 0).cells = #[.int .i64 0] from rfl, toList_madeCells_one, List.map_replicate]
theorem dval_replicate (n : Nat) : dval (List.replicate n 0) = 0 := dval_zeros (fun x m => List.eq_of_mem_replicate m)

theorem mul_last' {a b O : List Int} {i y k : Nat} {c X T : Int} (hy : b.length = y) (hk : k = y) (hi : i + y < O.length) (h0 : O[i + y] = 0)
    (h : dval O + 10000 ^ (i + k) * (c + gd a i * dval (b.drop k)) = T + 10000 ^ i * (gd a i * dval b))
    (hT : T + 10000 ^ i * (dval (a.drop i) * dval b) = X) :
    dval (O.set (i + y) c) + 10000 ^ (i + 1) * (dval (a.drop (i + 1)) * dval b) = X := by
  subst hk hy
  exact mul_last hi h0 h hT

set_option maxRecDepth 100000 in
set_option maxHeartbeats 1600000 in
theorem mulD_any (pa pb : Option Addr) (ca cb : Nat) (a b : List Int) (w : World) (ha : Digs a) (hb : Digs b) (ra : RowR w pa a) (rb : RowR w pb b) (la : a.length ≤ 100000) (lb : b.length ≤ 100000) :
    Calls Try.prog 118 #[.slice pa a.length ca, .slice pb b.length cb] w (RowRes (dval a * dval b) (a.length + b.length) w) := by
  obtain ⟨i0, hi, hz0, hz1, hz2⟩ := info_parts intInfo
  have Ra := Lib.hid ra; clear ra
  have Rb := Lib.hid rb; clear rb
  have Da := Lib.hid ha; clear ha
  have Db := Lib.hid hb; clear hb
  generalize hx : a.length = x at *
  generalize hy : b.length = y at *
  have Hx := Lib.hid hx; clear hx
  have Hy := Lib.hid hy; clear hy
  go_enter Try.func118, Try.ntmps118
  go_wp2_with (first
    | (at_make; refine wpList_make_full _ rfl _ _ 40 rfl w.heap.size 3 i0 (.int .i64 0) 1 Try.underlying40 hi hz0 hz1 .i64 .i64 _ _ (x + y) rfl rfl (by omega) (by omega) (by rw [hz2]; omega) (by unfold maxLen; omega) (Nat.le_refl _) ?_; intro w0 hown0 hgrow0))
  rw [made_zeros] at hown0
  have M0 := Lib.hid (show Made w w0 (x + y) (List.replicate (x + y) 0) from ⟨by simp, fun z m => by rw [List.eq_of_mem_replicate m]; omega, hown0, (Below.refl _ _).grown hgrow0 (Nat.le_refl _) (fun k e => by cases e)⟩)
  clear hown0 hgrow0
  go_wp2
  go_loopw [6] (fun iv wr => ∃ (i : Nat) (O : List Int), i ≤ x ∧ iv = .int .i64 i ∧ Hid (Made w wr (x + y) O) ∧ Hid (∀ j (h : j < O.length), i + y ≤ j → O[j] = 0) ∧
      Hid (dval O + 10000 ^ i * (dval (a.drop i) * dval b) = dval a * dval b)) (fun iv _ => x - (intOf iv).toNat)
  case atStart => exact ⟨0, _, Nat.zero_le _, rfl, M0, by intro j h _; simp, by show _ = _; rw [dval_replicate]; simp⟩
  case round =>
    obtain ⟨i, O, hik, rfl, MO, hz, hval⟩ := hrel
    by_cases t1 : i < x
    · have l1 : i < a.length := by have := Hx.out; omega
      obtain ⟨ga, rfl, ka, cA⟩ := Ra.out i l1
      have G1 := gd_le Da.out i
      have CA := Lib.hid (show w.cell? ⟨ga, i, none⟩ = some (.int .i64 (gd a i)) by rw [cA, gd_in l1])
      have KA := Lib.hid ka
      clear cA ka
      obtain ⟨wo, hwo⟩ : ∃ wo : World, wo = wr := ⟨_, rfl⟩
      subst hwo
      go_wp2
      go_loopw [7, 8] (fun cv kv wr => ∃ (k : Nat) (Q : List Int) (c : Int), k ≤ y ∧ 0 ≤ c ∧ c < 10000 ∧ cv = .int .i64 c ∧ kv = .int .i64 k ∧ Hid (Made w wr (x + y) Q) ∧ Hid (∀ j (h : j < Q.length), i + y ≤ j → Q[j] = 0) ∧
        Hid (dval Q + 10000 ^ (i + k) * (c + gd a i * dval (b.drop k)) = dval O + 10000 ^ i * (gd a i * dval b))) (fun _ kv _ => y - (intOf kv).toNat)
      case atStart => exact ⟨0, O, 0, Nat.zero_le _, by omega, by omega, rfl, rfl, MO, hz, by show _ = _; simp⟩
      case round =>
        obtain ⟨k, Q, c, hk, c0, c1, rfl, rfl, MQ, hz2, hval2⟩ := hrel
        by_cases t2 : k < y
        · have l2 : k < b.length := by have := Hy.out; omega
          obtain ⟨gb, rfl, kb, cB⟩ := Rb.out k l2
          have G2 := gd_le Db.out k
          have cB2 : wr.cell? ⟨gb, k, none⟩ = some (.int .i64 (gd b k)) := by rw [MQ.out.2.2.2.cell (by exact kb), cB, gd_in l2]
          have cA2 : wr.cell? ⟨ga, i, none⟩ = some (.int .i64 (gd a i)) := by rw [MQ.out.2.2.2.cell (by exact KA.out)]; exact CA.out
          have lQ : i + k < Q.length := by have := MQ.out.1; omega
          have cQ : wr.cell? ⟨w.heap.size, i + k, none⟩ = some (.int .i64 Q[i + k]) := MQ.out.cell _ lQ
          have fQ : wr.frozen? ⟨w.heap.size, i + k, none⟩ = false := MQ.out.frozen _
          have gQ := MQ.out.lt
          have G3 := MQ.out.2.1 _ (List.getElem_mem lQ)
          have S := Lib.hid (mul_step lQ hval2.out)
          obtain ⟨B1, B2, B3, B4⟩ := mul_carry G3 G1 G2 ⟨c0, c1⟩
          have hz3 := Lib.hid (show ∀ z, ∀ j (h : j < (Q.set (i + k) z).length), i + y ≤ j → (Q.set (i + k) z)[j] = 0 by
            intro z j h hj
            rw [List.getElem_set_ne (by omega)]
            exact hz2.out j (by simpa using h) hj)
          have ST := Lib.hid (fun (nq : Nat) (z : Int) x0 x1 => (MQ.out.drewN nq).set (i + k) (x := z) x0 x1)
          clear cB kb hz2 hval2
          generalize gd b k = v at *
          generalize Q[i + k] = q at *
          generalize gd a i = u at *
          have e1 : IntKind.i64.wrap ((i : Int) + k) = i + k := IntWalk.i64_in _ (by omega)
          have e2 : IntKind.i64.wrap (u * v) = u * v := IntWalk.i64_in _ (by omega)
          have e3 : IntKind.i64.wrap (q + u * v) = q + u * v := IntWalk.i64_in _ (by omega)
          have e4 : IntKind.i64.wrap (q + u * v + c) = q + u * v + c := IntWalk.i64_in _ (by omega)
          have e5 : ((i : Int) + k).toNat = i + k := by omega
          have i1 : (0 : Int) ≤ i + k := by omega
          have i2 : (i : Int) + k < ((x + y : Nat) : Int) := by omega
          have i3 : (i : Int) < (x : Int) := by omega
          have i4 : (k : Int) < (y : Int) := by omega
          go_wp2
          go_quiet (fail)
          clear e1 e2 e3 e4 e5 cA2 cB2
          go_wp2
          go_roundw
          case rel => exact ⟨k + 1, _, (q + u * v + c) / 10000, by omega, by omega, by omega, rfl, by go_num, ST.out nq _ (by omega) (by omega), hz3.out _, S.out⟩
          case measure => simp [intOf]; omega
        · have ek : k = y := by omega
          have lQ : i + y < Q.length := by have := MQ.out.1; omega
          have cQ : wr.cell? ⟨w.heap.size, i + y, none⟩ = some (.int .i64 Q[i + y]) := MQ.out.cell _ lQ
          have fQ : wr.frozen? ⟨w.heap.size, i + y, none⟩ = false := MQ.out.frozen _
          have gQ := MQ.out.lt
          have S := Lib.hid (mul_last' Hy.out ek lQ (hz2.out _ lQ (Nat.le_refl _)) hval2.out hval.out)
          have hz3 := Lib.hid (show ∀ z, ∀ j (h : j < (Q.set (i + y) z).length), i + 1 + y ≤ j → (Q.set (i + y) z)[j] = 0 by
            intro z j h hj
            rw [List.getElem_set_ne (by omega)]
            exact hz2.out j (by simpa using h) (by omega))
          have ST := Lib.hid (MQ.out.set (i + y) c0 c1)
          have EK := Lib.hid ek
          clear ek hval2 hval hz2
          generalize Q[i + y] = q at *
          have i1 : (0 : Int) ≤ i + y := by omega
          have i2 : (i : Int) + y < ((x + y : Nat) : Int) := by omega
          have i3 : (y : Int) ≤ (k : Int) := by omega
          go_wp2
          go_roundw
          case rel => exact ⟨i + 1, _, by omega, by go_num, ST, hz3.out _, S.out⟩
          case measure => simp [intOf]; omega
    · have vv : dval O = dval a * dval b := by
        have h := hval.out
        rw [List.drop_of_length_le (by have := Hx.out; omega)] at h
        simpa [dval] using h
      have T := trim_any (some ⟨w.heap.size, 0, none⟩) (x + y) O wr MO.out.2.1 (fun j h => ⟨w.heap.size, rfl, MO.out.lt, MO.out.cell j h⟩) (by have := MO.out.1; omega)
      rw [MO.out.1, vv] at T
      have TT := Lib.hid T
      clear T vv hval hz
      go_wp2_with fail
      refine (TT.out).mono ?_
      intro e w2 hres
      have H2 := hres.from MO.out.2.2.2 (Nat.le_refl _)
      clear hres TT
      obtain ⟨t, p', c', rfl, rest⟩ := H2
      have RST := Lib.hid rest
      clear rest
      go_wp2_with fail
      go_ret
      exact ⟨t, p', c', rfl, RST.out⟩
end Go.Proofs.Ytbcfafihkdddeaa
