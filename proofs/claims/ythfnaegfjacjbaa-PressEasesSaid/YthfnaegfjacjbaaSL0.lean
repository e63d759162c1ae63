/- The law PressEases: its walk. -/
import Derived.Test.YthfnaegfjacjbaaSK3
import Derived.Test.YthfnaegfjacjbaaPBA
import Derived.Laws.MakeOwn
import Derived.Laws.AppendOwnNone
namespace Go.Proofs.Ythfnaegfjacjbaa
open Go.RowKit Go.Proofs.Ythfnaegfjacjbaa.Prs Go.Proofs.Ythfnaegfjacjbaa.Stb
set_option linter.unusedVariables false
set_option linter.unusedSimpArgs false

namespace Eas
theorem add0q (g i : Nat) : (Addr.mk g 0 none).add i = ⟨g, i, none⟩ := by
  unfold Addr.add
  split
  · next h => subst h; rfl
  · simp
theorem news {W : World} {y : Addr} {O : List Int} (r : NumR W (some y) O) : ∀ j u, (O.map (Value.int .i64))[j]? = some u → W.cell? (y.add j) = some u := fun j u hj => by
  have hl : j < O.length := by have := (List.getElem?_eq_some_iff.1 hj).1; simpa using this
  obtain ⟨x, e, _, c⟩ := r j hl
  cases e
  rw [c]
  simp [hl] at hj
  simp [gi, hl, hj]
theorem ownNums {W : World} {b : Nat} {t : TypeId} {v : Value} {M : List Int} (h : W.ownsRow b t 1 v M.length (M.map (Value.int .i64))) : ∃ p c, v = .slice p M.length c ∧ NumR W p M := by
  rcases h.2 with ⟨rfl, h0⟩ | ⟨g, cap, cur, rfl, hb, hg, hn, _, hs, ht⟩
  · exact ⟨none, 0, by rw [h0], fun i hi => by omega⟩
  · refine ⟨_, _, rfl, fun i hi => ⟨⟨g, 0, none⟩, rfl, (Array.getElem?_eq_some_iff.1 hg).1, ?_⟩⟩
    rw [add0q, cellAt hg]
    have e : (M.map (Value.int .i64))[i]? = some (.int .i64 (gi M i)) := by simp [gi, hi]
    rw [← e, ← ht, List.getElem?_take_of_lt (by omega)]; simp
where cellAt {W : World} {b o : Nat} {c : Array Value} {t : TypeId} (h : W.heap[b]? = some (.cells c t (0, 0))) : W.cell? ⟨b, o, none⟩ = c[o]? := by simp [World.cell?, h]
theorem one_cell {w : World} (x : Int) : ∀ j u, ([Value.int .i64 x])[j]? = some u → (w.alloc (Obj.cells #[Value.int .i64 x] 3)).cell? ((⟨w.heap.size, 0, none⟩ : Addr).add j) = some u := by
  intro j u hj
  match j, hj with
  | 0, hj => simp at hj; subst hj; simp [Addr.add, go_sem]
theorem one_one {x : Int} : ∀ u ∈ [Value.int .i64 x], u.oneCell' = true := by intro u hu; simp at hu; subst hu; rfl
end Eas
theorem gi_snocx (T : List Int) (x : Int) {i : Nat} (h : i < (T ++ [x]).length) : gi (T ++ [x]) i = if i < T.length then gi T i else x := by
  unfold gi
  split
  · next g => rw [List.getElem?_append_left g]
  · next g =>
    have : i = T.length := by simp at h; omega
    subst this; simp
theorem PErr.ok {T : List Int} {m e : Int} (n : T.length ≤ 12) (h : 1 ≤ m ∧ m ≤ 1073741824 ∧ 1 ≤ e ∧ e ≤ 12 ∧ ThOk T T.length) (f : ThFit T m T.length) : PErr T m e 0 := .inr (.inr (.inr ⟨n, h, f, rfl⟩))
/-- The first of one thing more. -/
theorem PErr.snoc {T : List Int} {m e : Int} (h : PErr T m e 0) (n : T.length ≤ 11) : PErr (T ++ [1]) m e 0 := by
  obtain ⟨_, ⟨a, b, c, d, ok⟩, fit⟩ := h.good
  refine PErr.ok (by simp; omega) ⟨a, b, c, d, fun i hi => ?_⟩ fun i hi => ?_
  · rw [gi_snocx T 1 hi]; split
    · next g => exact ok i g
    · omega
  · rw [gi_snocx T 1 hi]; split
    · next g => exact fit i g
    · omega
theorem PErr.wider {T : List Int} {m e m' e' : Int} (h : PErr T m e 0) (h1 : m ≤ m' ∧ m' ≤ 1073741824) (h2 : e ≤ e' ∧ e' ≤ 12) : PErr T m' e' 0 := by
  obtain ⟨n, ⟨a, b, c, d, ok⟩, fit⟩ := h.good
  exact PErr.ok n ⟨by omega, by omega, by omega, by omega, ok⟩ fun i hi => by have := fit i hi; omega
theorem TErr.more {T : List Int} {m : Int} (h : TErr T m 0) (h4 : m + 1 ≤ 4) : TErr T (m + 1) 0 := by
  obtain ⟨n, a, b, ok⟩ := h.good
  exact .inr (.inr ⟨n, by omega, h4, ok, rfl⟩)
/-- What an answer without a fault says of the boxes. -/
theorem PaQ.best {T : List Int} {mo ea : Int} {w w' : World} {v : Value} {L x : Int} (h : PaQ T mo ea w (.returned (.tuple #[v, .int .i64 L, .int .i64 x])) w') : PErr T mo ea x ∧ Below w.heap.size w w' ∧ (x = 0 → ∃ E, Sea.BestP mo ea 12 T L E) := by
  obtain ⟨y, u, K, e, pe, st, -, k⟩ := h
  simp at e
  obtain ⟨rfl, rfl, rfl⟩ := e
  exact ⟨pe, st, fun h0 => by obtain ⟨b, E, _, _, _, _, h⟩ := k h0; exact ⟨E, h⟩⟩
theorem PaQ.form {T : List Int} {mo ea : Int} {w w' : World} {e : Ending} (h : PaQ T mo ea w e w') : ∃ v L x, e = .returned (.tuple #[v, .int .i64 L, .int .i64 x]) := by
  obtain ⟨y, u, K, e, _⟩ := h
  exact ⟨_, _, _, e⟩
theorem ShQ.best {T : List Int} {m : Int} {w w' : World} {v : Value} {L x : Int} (h : ShQ T m w (.returned (.tuple #[v, .int .i64 L, .int .i64 x])) w') : TErr T m x ∧ Below w.heap.size w w' ∧ (x = 0 → ∃ E, Sea.BestS m.toNat T L E) := by
  obtain ⟨y, u, K, e, pe, st, -, k⟩ := h
  simp at e
  obtain ⟨rfl, rfl, rfl⟩ := e
  exact ⟨pe, st, fun h0 => by obtain ⟨b, E, _, _, _, _, h⟩ := k h0; exact ⟨E, h⟩⟩
theorem ShQ.form {T : List Int} {m : Int} {w w' : World} {e : Ending} (h : ShQ T m w e w') : ∃ v L x, e = .returned (.tuple #[v, .int .i64 L, .int .i64 x]) := by
  obtain ⟨y, u, K, e, _⟩ := h
  exact ⟨_, _, _, e⟩

set_option maxRecDepth 100000 in
set_option maxHeartbeats 16000000 in
theorem pressEases_walk (p : Option Addr) (c : Nat) (T : List Int) (w : World) (r : NumR w p T) (ln : T.length ≤ 9223372036854775807) (hnil : p = none → c = 0) (mo ea m : Int) (g1 : -9223372036854775808 ≤ mo ∧ mo ≤ 9223372036854775807) (g2 : -9223372036854775808 ≤ ea ∧ ea ≤ 9223372036854775807) (g3 : -9223372036854775808 ≤ m ∧ m ≤ 9223372036854775807) (u : Int) (g4 : 0 ≤ u ∧ u ≤ 255) :
    Calls Try.prog 14 #[.slice p T.length c, .int .i64 mo, .int .i64 ea, .int .i64 m, .int .u8 u] w fun e w' => e = .returned (.bool true) ∧ Below w.heap.size w w' := by
  obtain ⟨i0, hi, hz0, hz1, hz2⟩ := info_parts intInfo
  have AL := Lib.hid alive_any
  have R := Lib.hid r
  have C1 := Lib.hid (fun mo' ea' W (st : Below w.heap.size w W) => Pack_any p c T mo' ea' W (r.below st) ln)
  have C5 := Lib.hid (fun m' W (st : Below w.heap.size w W) => Share_any p c T m' W (r.below st) ln)
  have C4 := Lib.hid (show ∀ p' c' W, NumR W p' (T ++ [1]) → T.length ≤ 11 → Calls Try.prog 30 #[.slice p' (T.length + 1 : Nat) c', .int .i64 mo, .int .i64 ea] W (PaQ (T ++ [1]) mo ea W) from fun p' c' W h l => by
    have := Pack_any p' c' (T ++ [1]) mo ea W h (by simp; omega)
    rwa [show (T ++ [(1 : Int)]).length = T.length + 1 from List.length_append] at this)
  obtain ⟨n, hn⟩ : ∃ n, n = T.length := ⟨_, rfl⟩
  rw [← hn] at ln C1 C5 C4 ⊢
  have HN := Lib.hid hn
  clear hn r
  go_enter Try.func14, Try.ntmps14
  by_cases n11 : (11 : Int) < n
  · have d1 : decide ((11 : Int) < n) = true := decide_eq_true n11
    go_wp2_with fail
    refine (AL.out _).mono ?_
    rintro e w6 ⟨rfl, st⟩
    go_wp2_with fail
    go_ret
    exact ⟨rfl, st⟩
  have d1 : decide ((11 : Int) < n) = false := decide_eq_false n11
  have N11 := Lib.hid (show n ≤ 11 by omega)
  go_wp2_with fail
  refine (C1.out mo ea w (Below.refl _ _)).mono ?_
  intro e w1 pq
  obtain ⟨v1, L1, x1, rfl⟩ := pq.form
  obtain ⟨pe1, KB0, bs1⟩ := pq.best
  have KB := Lib.hid KB0
  have PE1 := Lib.hid pe1
  have BS1 := Lib.hid bs1
  clear pq pe1 KB0 bs1 d1 n11
  by_cases x0 : x1 = 0
  case neg =>
    have y1 : (x1 == 0) = false := by simpa using x0
    have y2 : decide (x1 = 0) = false := decide_eq_false x0
    clear PE1 BS1 C1 C4
    go_upto_region 13 with fail
    clear y1 y2 x0
    go_wp2_with fail
    refine (C5.out m _ KB.out).mono ?_
    intro e w5 sq
    obtain ⟨v5, L5, x5, rfl⟩ := sq.form
    obtain ⟨te5, st, bs5⟩ := sq.best
    have TE5 := Lib.hid te5
    replace KB := Lib.hid (KB.out.trans (st.mono KB.out.size))
    by_cases x0 : x5 = 0
    case neg =>
      have y1 : (x5 != 0) = true := by simpa using x0
      clear sq te5 st bs5 x0 C5
      go_wp2_with fail
      refine (AL.out _).mono ?_
      rintro e w6 ⟨rfl, st⟩
      go_wp2_with fail
      go_ret
      exact ⟨rfl, KB.out.trans (st.mono KB.out.size)⟩
    subst x0
    obtain ⟨E5, bp5⟩ := bs5 rfl
    obtain ⟨n12, m1, m4, tok⟩ := te5.good
    by_cases m3 : (4 : Int) ≤ m
    · have y2 : decide ((4 : Int) ≤ m) = true := decide_eq_true m3
      clear sq te5 st bs5 bp5 C5 m3 tok
      go_wp2_with fail
      refine (AL.out _).mono ?_
      rintro e w6 ⟨rfl, st⟩
      go_wp2_with fail
      go_ret
      exact ⟨rfl, KB.out.trans (st.mono KB.out.size)⟩
    have y2 : decide ((4 : Int) ≤ m) = false := decide_eq_false m3
    have wm : IntKind.i64.wrap (m + 1) = m + 1 := wI rfl (by omega) (by omega)
    have LE := Lib.hid (show ∀ L' E', Sea.BestS (m + 1).toNat T L' E' → L' ≤ L5 from fun L' E' h => by
      rw [show (m + 1).toNat = m.toNat + 1 from by omega] at h
      exact bp5.press (fun t ht => by obtain ⟨i, hi, e⟩ := mem_gi ht; rw [← e]; exact tok i hi) h)
    have TN := Lib.hid (show TErr T (m + 1) 0 from te5.more (by omega))
    clear sq te5 st bs5 bp5 n12 tok m3 TE5 m1 m4 g3
    go_wp2_with fail
    refine (C5.out (m + 1) _ KB.out).mono ?_
    intro e w6 sq
    obtain ⟨v6, L6, x6, rfl⟩ := sq.form
    obtain ⟨te6, st, bs6⟩ := sq.best
    obtain rfl : x6 = 0 := TErr.fn te6 TN.out
    obtain ⟨E6, bp6⟩ := bs6 rfl
    have l6 : decide (L6 ≤ L5) = true := decide_eq_true (LE.out _ _ bp6)
    replace KB := Lib.hid (KB.out.trans (st.mono KB.out.size))
    clear sq te6 st bs6 bp6 C5 LE TN wm y2
    go_wp2_with fail
    refine (AL.out _).mono ?_
    rintro e w7 ⟨rfl, st⟩
    go_wp2_with fail
    go_ret
    exact ⟨rfl, KB.out.trans (st.mono KB.out.size)⟩
  subst x0
  obtain ⟨n12, ⟨mo1, mo2, ea1, ea2, tok⟩, fit⟩ := PE1.out.good
  obtain ⟨E1, bp1⟩ := BS1.out rfl
  have lb1 : 0 ≤ L1 ∧ L1 ≤ 12 := by
    obtain ⟨s1, f1, v1', u1, hu1, cn1⟩ := bp1.fin_
    have v1' : Sea.cnt 12 s1 = L1 := v1'
    rw [cn1.cnt hu1] at v1'
    omega
  have BP1 := Lib.hid bp1
  clear n12 tok fit g1 g2 BS1 bp1
  have a1 : IntKind.i64.wrap (mo + u) = mo + u := wI rfl (by omega) (by omega)
  go_upto_region 5 with fail
  go_cut [14, 15, 16] from 44 to 55 (fun q1 q2 q3 wx => ∃ v L, q1 = v ∧ q2 = .int .i64 L ∧ q3 = .int .i64 0 ∧ Hid (L ≤ L1) ∧ Hid (Below w.heap.size w wx))
  case first =>
    go_wp2_with fail
    all_goals
      refine (C1.out _ _ _ KB.out).mono ?_
      intro e w2 pq
      obtain ⟨v2, L2, x2, rfl⟩ := pq.form
      obtain ⟨pe2, st, bs2⟩ := pq.best
      obtain rfl : x2 = 0 := PErr.fn pe2 (PE1.out.wider (by omega) (by omega))
      have LE := Lib.hid (show L2 ≤ L1 from by
        obtain ⟨E', h'⟩ := bs2 rfl
        exact BP1.out.room h' (by omega) (by omega))
      have KB2 := Lib.hid (KB.out.trans (st.mono KB.out.size))
      clear pq pe2 st bs2
      go_wp2_with fail
      go_meet
      exact ⟨_, _, rfl, rfl, rfl, LE, KB2⟩
  case rest =>
  obtain ⟨v2, L2, rfl, rfl, rfl, LE2, KB2⟩ := hcut
  clear KB a1
  go_upto_region 6 with fail
  go_cut [17, 18, 19] from 56 to 69 (fun q1 q2 q3 wx => ∃ v L, q1 = v ∧ q2 = .int .i64 L ∧ q3 = .int .i64 0 ∧ Hid (L ≤ L1) ∧ Hid (Below w.heap.size w wx))
  case first =>
    go_wp2_with fail
    all_goals
      refine (C1.out _ _ _ KB2.out).mono ?_
      intro e w3 pq
      obtain ⟨v3, L3, x3, rfl⟩ := pq.form
      obtain ⟨pe3, st, bs3⟩ := pq.best
      obtain rfl : x3 = 0 := PErr.fn pe3 (PE1.out.wider (by omega) (by omega))
      have LE := Lib.hid (show L3 ≤ L1 from by
        obtain ⟨E', h'⟩ := bs3 rfl
        exact BP1.out.room h' (by omega) (by omega))
      have KB3 := Lib.hid (KB2.out.trans (st.mono KB2.out.size))
      clear pq pe3 st bs3
      go_wp2_with fail
      go_meet
      exact ⟨_, _, rfl, rfl, rfl, LE, KB3⟩
  case rest =>
  obtain ⟨v3, L3, rfl, rfl, rfl, LE3, KB3⟩ := hcut
  clear KB2 C1
  go_upto_region 8 with fail
  go_cut [20] from 70 to 72 (fun q wx => Hid (wx.ownsRow w.heap.size 3 1 q n (T.map (Value.int .i64))) ∧ Hid (Below w.heap.size w wx))
  case first =>
    cases p with
    | none =>
      obtain rfl := hnil rfl
      have T0 : T = [] := by
        cases T with
        | nil => rfl
        | cons t ts => obtain ⟨y, e, _⟩ := R.out 0 (by simp); cases e
      obtain rfl : n = 0 := by rw [HN.out, T0]; rfl
      have ON := Lib.hid (World.ownsRow_nil wc w.heap.size 3 1)
      go_wp2_with (first
        | (at_builtin; refine wpList_append_own_none rfl _ _ 23 rfl w.heap.size 3 i0 1 Try.underlying23 hi _ 0 [] rfl ON.out rfl ?_))
      go_meet
      exact ⟨Lib.hid (by rw [T0]; exact ON.out), KB3⟩
    | some y =>
      have NW := Lib.hid (Eas.news (R.out.below KB3.out))
      have LK := Lib.hid (show (T.map (Value.int .i64)).length = n * 1 by have := HN.out; simp; omega)
      have SZ := KB3.out.size
      go_wp2_with (first
        | (at_builtin; refine wpList_append_own _ rfl _ _ 23 rfl w.heap.size 3 i0 (.int .i64 0) 1 8 Try.underlying23 hi hz0 hz1 hz2 rfl (by decide) _ _ _ rfl (World.ownsRow_nil _ _ _ _) y n c (T.map (Value.int .i64)) rfl LK.out NW.out (by intro u hu; simp at hu; obtain ⟨z, _, rfl⟩ := hu; rfl) (by have := N11.out; unfold maxLen; omega) (by have := N11.out; omega) SZ ?_))
      intro v' w4 hown hgrow _
      have BW := Lib.hid (show Below w.heap.size w w4 from KB3.out.grown hgrow SZ (fun k ek => by cases ek))
      have ON := Lib.hid (show w4.ownsRow w.heap.size 3 1 v' n (T.map (Value.int .i64)) from by simpa using hown)
      clear hown hgrow NW LK SZ
      go_wp2_with fail
      go_meet
      exact ⟨ON, BW⟩
  case rest =>
  obtain ⟨ON, KB4⟩ := hcut
  clear KB3
  go_upto_region 9 with fail
  go_cut [20] from 73 to 75 (fun q wx => ∃ p' c', q = .slice p' (n + 1) c' ∧ Hid (NumR wx p' (T ++ [1])) ∧ Hid (Below w.heap.size w wx))
  case first =>
    have SW2 : ∀ o, w.heap.size ≤ (wc.alloc o).heap.size := fun o => by have := KB4.out.size; simp; omega
    go_wp2_with (first
      | (at_builtin; refine wpList_append_own _ rfl _ _ 23 rfl w.heap.size 3 i0 (.int .i64 0) 1 8 Try.underlying23 hi hz0 hz1 hz2 rfl (by decide) _ _ _ rfl (ON.out.alloc _) ⟨wc.heap.size, 0, none⟩ 1 1 [.int .i64 1] rfl rfl (Eas.one_cell _) Eas.one_one (by have := N11.out; unfold maxLen; omega) (by have := N11.out; omega) (SW2 _) ?_))
    intro v' w5 hown' hgrow _
    have B1 := Lib.hid (show Below w.heap.size w w5 from (KB4.out.alloc KB4.out.size _).grown hgrow (SW2 _) (fun k ek => (World.ownsRow.lt ON.out k ek).1))
    replace hown' : w5.ownsRow w.heap.size 3 1 v' (T ++ [1]).length ((T ++ [1]).map (Value.int .i64)) := by
      rw [List.map_append, show (T ++ [(1 : Int)]).length = n + 1 from by rw [HN.out]; exact List.length_append]; exact hown'
    obtain ⟨q', d', rfl, nr⟩ := Eas.ownNums (M := T ++ [1]) hown'
    have NR := Lib.hid nr
    rw [show (T ++ [(1 : Int)]).length = n + 1 from by rw [HN.out]; exact List.length_append]
    clear hown' hgrow nr SW2
    go_wp2_with fail
    go_meet
    exact ⟨_, _, rfl, NR, B1⟩
  case rest =>
  obtain ⟨p', c', rfl, NR, KB⟩ := hcut
  clear KB4 ON
  go_upto_region 10 with fail
  go_wp2_with fail
  refine (C4.out p' c' _ NR.out N11.out).mono ?_
  intro e w6 pq
  obtain ⟨v4, L4, x4, rfl⟩ := pq.form
  obtain ⟨pe4, st, bs4⟩ := pq.best
  obtain rfl : x4 = 0 := PErr.fn pe4 (PE1.out.snoc (by rw [← HN.out]; exact N11.out))
  obtain ⟨E4, bp4⟩ := bs4 rfl
  obtain ⟨le1, le2⟩ := BP1.out.more bp4 (by have := HN.out; have := N11.out; omega) (by omega) (by omega)
  have f1 : decide (L1 < L2) = false := decide_eq_false (by have := LE2.out; omega)
  have f2 : decide (L1 < L3) = false := decide_eq_false (by have := LE3.out; omega)
  have f3 : decide (L4 < L1) = false := decide_eq_false (by omega)
  have f4 : decide (L1 + 1 < L4) = false := decide_eq_false (by omega)
  have wl : IntKind.i64.wrap (L1 + 1) = L1 + 1 := wI rfl (by omega) (by omega)
  replace KB := Lib.hid (KB.out.trans (st.mono KB.out.size))
  clear pq pe4 st bs4 bp4 C4 NR LE2 LE3 BP1 PE1
  go_upto_region 13 with fail
  clear f1 f2 f3 f4 wl le1 le2 lb1 mo1 mo2 ea1 ea2
  go_wp2_with fail
  refine (C5.out m _ KB.out).mono ?_
  intro e w5 sq
  obtain ⟨v5, L5, x5, rfl⟩ := sq.form
  obtain ⟨te5, st, bs5⟩ := sq.best
  have TE5 := Lib.hid te5
  replace KB := Lib.hid (KB.out.trans (st.mono KB.out.size))
  by_cases x0 : x5 = 0
  case neg =>
    have y1 : (x5 != 0) = true := by simpa using x0
    clear sq te5 st bs5 x0 C5
    go_wp2_with fail
    refine (AL.out _).mono ?_
    rintro e w6 ⟨rfl, st⟩
    go_wp2_with fail
    go_ret
    exact ⟨rfl, KB.out.trans (st.mono KB.out.size)⟩
  subst x0
  obtain ⟨E5, bp5⟩ := bs5 rfl
  obtain ⟨n12, m1, m4, tok⟩ := te5.good
  by_cases m3 : (4 : Int) ≤ m
  · have y2 : decide ((4 : Int) ≤ m) = true := decide_eq_true m3
    clear sq te5 st bs5 bp5 C5 m3 tok
    go_wp2_with fail
    refine (AL.out _).mono ?_
    rintro e w6 ⟨rfl, st⟩
    go_wp2_with fail
    go_ret
    exact ⟨rfl, KB.out.trans (st.mono KB.out.size)⟩
  have y2 : decide ((4 : Int) ≤ m) = false := decide_eq_false m3
  have wm : IntKind.i64.wrap (m + 1) = m + 1 := wI rfl (by omega) (by omega)
  have LE := Lib.hid (show ∀ L' E', Sea.BestS (m + 1).toNat T L' E' → L' ≤ L5 from fun L' E' h => by
    rw [show (m + 1).toNat = m.toNat + 1 from by omega] at h
    exact bp5.press (fun t ht => by obtain ⟨i, hi, e⟩ := mem_gi ht; rw [← e]; exact tok i hi) h)
  have TN := Lib.hid (show TErr T (m + 1) 0 from te5.more (by omega))
  clear sq te5 st bs5 bp5 n12 tok m3 TE5 m1 m4 g3
  go_wp2_with fail
  refine (C5.out (m + 1) _ KB.out).mono ?_
  intro e w6 sq
  obtain ⟨v6, L6, x6, rfl⟩ := sq.form
  obtain ⟨te6, st, bs6⟩ := sq.best
  obtain rfl : x6 = 0 := TErr.fn te6 TN.out
  obtain ⟨E6, bp6⟩ := bs6 rfl
  have l6 : decide (L6 ≤ L5) = true := decide_eq_true (LE.out _ _ bp6)
  replace KB := Lib.hid (KB.out.trans (st.mono KB.out.size))
  clear sq te6 st bs6 bp6 C5 LE TN wm y2
  go_wp2_with fail
  refine (AL.out _).mono ?_
  rintro e w7 ⟨rfl, st⟩
  go_wp2_with fail
  go_ret
  exact ⟨rfl, KB.out.trans (st.mono KB.out.size)⟩
end Go.Proofs.Ythfnaegfjacjbaa
