/- Press: the law's search of all orders. -/
import Derived.Test.YthbgeikdamajlaaPCD
namespace Go.Proofs.Ythbgeikdamajlaa
open Go.RowKit Go.Proofs.Ythbgeikdamajlaa.Prs Go.Proofs.Ythbgeikdamajlaa.Stb
set_option linter.unusedVariables false
set_option linter.unusedSimpArgs false

theorem OrdTo.mono {O : List Int} {n i j : Nat} (h : OrdTo O n i) (hj : j ≤ i) : OrdTo O n j := ⟨fun k hk => h.rng k (by omega), fun a b ab bj => h.ne a b ab (by omega)⟩
theorem gi_snoc_lt {O : List Int} {x : Int} {k : Nat} (h : k < O.length) : gi (O ++ [x]) k = gi O k := by
  unfold gi; rw [List.getElem?_append_left h]
theorem gi_snoc {O : List Int} {x : Int} : gi (O ++ [x]) O.length = x := by simp [gi]
theorem OrdTo.snoc {O : List Int} {n i : Nat} (h : OrdTo O n O.length) (hi : i < n) (nin : ¬ ∃ j, j < O.length ∧ gi O j = (i : Int)) : OrdTo (O ++ [(i : Int)]) n (O ++ [(i : Int)]).length := by
  have l : (O ++ [(i : Int)]).length = O.length + 1 := by simp
  rw [l]
  refine ⟨fun k hk => ?_, fun a b ab bk => ?_⟩
  · by_cases e : k < O.length
    · rw [gi_snoc_lt e]; exact h.rng k e
    · rw [show k = O.length by omega, gi_snoc]; omega
  · by_cases e : b < O.length
    · rw [gi_snoc_lt e, gi_snoc_lt (by omega)]; exact h.ne a b ab e
    · rw [show b = O.length by omega, gi_snoc, gi_snoc_lt (by omega)]
      exact fun g => nin ⟨a, by omega, g⟩
theorem NumR.news {W : World} {y : Addr} {O : List Int} (r : NumR W (some y) O) : ∀ j u, (O.map (Value.int .i64))[j]? = some u → W.cell? (y.add j) = some u := fun j u hj => by
  have hl : j < O.length := by have := (List.getElem?_eq_some_iff.1 hj).1; simpa using this
  obtain ⟨x, e, _, c⟩ := r j hl
  cases e
  rw [c]
  simp [hl] at hj
  simp [gi, hl, hj]
theorem NumR.some {W : World} {q : Option Addr} {O : List Int} (r : NumR W q O) (h : 0 < O.length) : ∃ y, q = some y := by
  obtain ⟨x, e, _⟩ := r 0 h
  exact ⟨x, e⟩
/-- It is true. -/
def TrueB (w : World) (e : Ending) (w' : World) : Prop := e = .returned (.bool true) ∧ Below w.heap.size w w'

set_option maxRecDepth 100000 in
set_option maxHeartbeats 4000000 in
theorem orders_full (p : Option Addr) (c : Nat) (D : List (Int × Int)) (m : Int) (n64 : D.length ≤ 64) (dk : DOk D D.length) (hm : ∀ O, IsOrd D.length O → m ≤ mks (pd D) (sd D) (od O) D.length) (q : Option Addr) (d : Nat) (O : List Int) (w : World)
    (hO : O.length = D.length) (ho : OrdTo O D.length O.length) (r : DmpR w p D) (ro : NumR w q O) :
    Calls Try.prog 56 #[.slice p D.length c, .slice q O.length d, .int .i64 m] w (TrueB w) := by
  have io : IsOrd D.length O := ⟨hO, fun k hk => ho.rng k (by omega), fun i j ij jn => ho.ne i j ij (by omega)⟩
  have IO := Lib.hid io
  have DK := Lib.hid dk
  have HM := Lib.hid (hm O io)
  have N64 := Lib.hid n64
  have CM := Lib.hid (Makespan_any p c D q d O w r ro (by omega) (by omega))
  rw [hO] at CM ⊢
  obtain ⟨n, hn⟩ : ∃ n, n = D.length := ⟨_, rfl⟩
  rw [← hn] at CM ⊢
  clear hn n64 dk hm hO ho r ro io
  have n1 : ((n : Int) == (n : Int)) = true := by simp
  go_enter Try.func56, Try.ntmps56
  go_wp2_with fail
  refine CM.out.mono ?_
  rintro e w1 ⟨x, mm, rfl, Q, st⟩
  obtain rfl : x = 0 := Q.1.of N64.out DK.out IO.out
  have e1 := Q.2.2 rfl
  have g : m ≤ mm := by rw [e1]; exact HM.out
  have g1 : decide (m ≤ mm) = true := decide_eq_true g
  have ST := Lib.hid st
  clear CM st e1 Q n1
  go_wp2_with fail
  go_ret
  exact ⟨rfl, ST.out⟩

set_option maxRecDepth 100000 in
set_option maxHeartbeats 8000000 in
theorem orders_any (p : Option Addr) (c : Nat) (D : List (Int × Int)) (m : Int) (n64 : D.length ≤ 64) (dk : DOk D D.length) (hm : ∀ O, IsOrd D.length O → m ≤ mks (pd D) (sd D) (od O) D.length) : ∀ (L : Nat) (q : Option Addr) (d : Nat) (O : List Int) (w : World),
    D.length - O.length ≤ L → O.length ≤ D.length → OrdTo O D.length O.length → (O = [] → q = none ∧ d = 0) → DmpR w p D → NumR w q O →
    Calls Try.prog 56 #[.slice p D.length c, .slice q O.length d, .int .i64 m] w (TrueB w) := by
  intro L
  induction L with
  | zero =>
    intro q d O w hL hO ho hq r ro
    exact orders_full p c D m n64 dk hm q d O w (by omega) ho r ro
  | succ L ih =>
    intro q d O w hL hO ho hq r ro
    by_cases full : O.length = D.length
    · exact orders_full p c D m n64 dk hm q d O w full ho r ro
    by_cases emp : O = []
    · skip
      obtain ⟨i0, hi, hz0, hz1, hz2⟩ := info_parts intInfo
      obtain ⟨rfl, rfl⟩ := hq emp
      subst emp
      have IH := Lib.hid ih
      have R := Lib.hid r
      obtain ⟨n, hn⟩ : ∃ n, n = D.length := ⟨_, rfl⟩
      rw [← hn] at IH ⊢
      have HN := Lib.hid (show n = D.length ∧ 0 < n ∧ n ≤ 64 ∧ n ≤ L + 1 by simp at full hL; omega)
      have kn : ((0 : Int) == (n : Int)) = false := by have := HN.out; simp; omega
      have kn2 : ¬ (n = 0) := by have := HN.out; omega
      clear ih r ro ho hq hn full hL hO n64 dk hm
      rw [show ([] : List Int).length = 0 from rfl]
      go_enter Try.func56, Try.ntmps56
      go_wp2_with fail
      clear kn kn2
      go_loopw [9] (fun iv wr => ∃ i : Nat, i ≤ n ∧ iv = .int .i64 i ∧ Hid (Below w.heap.size w wr)) (fun iv _ => n - (intOf iv).toNat)
      case atStart => exact ⟨0, Nat.zero_le _, rfl, Lib.hid (Below.refl _ _)⟩
      case round =>
        obtain ⟨i, hi', rfl, HB⟩ := hrel
        by_cases t1 : i < n
        · have T1 := Lib.hid t1
          have q4 := HN.out.2.2.1
          clear hi'
          go_wp2_with fail
          go_loopw [10, 11] (fun bv jv wr => bv = .bool false ∧ jv = .int .i64 0 ∧ Hid (Below w.heap.size w wr)) (fun _ jv _ => 0)
          case atStart => exact ⟨rfl, rfl, HB⟩
          case round =>
            obtain ⟨rfl, rfl, HB⟩ := hrel
            have SN := Lib.hid ((show OrdTo [] D.length ([] : List Int).length from ⟨fun k hk => by simp at hk, fun a b ab bj => by simp at bj⟩).snoc (i := i) (by have := HN.out; have := T1.out; omega) (fun ⟨l, l1, _⟩ => by simp at l1))
            have LL := Lib.hid (show (([] : List Int) ++ [(i : Int)]).length = 1 from rfl)
            have SZ := HB.out.size
            go_upto_region 15 with fail
            go_wp2_with (first
              | (at_builtin; refine wpList_append_own _ rfl _ _ 39 rfl w.heap.size 3 i0 (.int .i64 0) 1 8 Try.underlying39 hi hz0 hz1 hz2 rfl (by decide) _ _ _ rfl (World.ownsRow_nil _ _ _ _) ⟨wr.heap.size, 0, none⟩ 1 1 [.int .i64 (i : Int)] rfl rfl (one_cell _) one_one (by unfold maxLen; omega) (by omega) (by simp; omega) ?_))
            intro v' w1 hown' hgrow _
            have B1 : Below w.heap.size w w1 := (HB.out.alloc HB.out.size _).grown hgrow (by simp; omega) (fun k ek => by cases ek)
            replace hown' : w1.ownsRow w.heap.size 3 1 v' 1 ((([] : List Int) ++ [(i : Int)]).map (Value.int .i64)) := hown'
            clear SZ
            obtain ⟨q', d', rfl, nr⟩ := ownNums (M := ([] : List Int) ++ [(i : Int)]) (by rw [LL.out]; exact hown')
            rw [LL.out]
            have CC := Lib.hid (IH.out q' d' (([] : List Int) ++ [(i : Int)]) w1 (by rw [LL.out]; have := HN.out; omega) (by rw [LL.out]; have := HN.out; omega) (by rw [HN.out.1]; exact SN.out) (fun h => absurd h (by simp)) (R.out.below B1) nr)
            rw [LL.out] at CC
            have B1 := Lib.hid B1
            clear hown' hgrow nr SN
            go_wp2_with fail
            refine CC.out.mono ?_
            rintro e w2 ⟨rfl, st⟩
            have B2 := Lib.hid (B1.out.trans (st.mono B1.out.size))
            clear CC st B1
            go_wp2_with fail
            go_roundw
            case rel => exact ⟨i + 1, by have := T1.out; omega, by go_num, B2⟩
            case measure => have := T1.out; simp [intOf]; omega
        · obtain rfl : i = n := by omega
          go_wp2_with fail
          go_ret
          exact ⟨rfl, HB.out⟩
    · skip
      obtain ⟨i0, hi, hz0, hz1, hz2⟩ := info_parts intInfo
      have IH := Lib.hid ih
      have R := Lib.hid r
      have RO := Lib.hid ro
      have HO := Lib.hid ho
      have HQ := Lib.hid hq
      obtain ⟨n, hn⟩ : ∃ n, n = D.length := ⟨_, rfl⟩
      obtain ⟨k, hk⟩ : ∃ k, k = O.length := ⟨_, rfl⟩
      rw [← hn] at IH ⊢
      rw [← hk] at ⊢
      have HN := Lib.hid (show n = D.length ∧ k = O.length ∧ k < n ∧ n ≤ 64 ∧ n - k ≤ L + 1 ∧ 0 < k by have : 0 < O.length := (by cases O with | nil => exact absurd rfl emp | cons x t => simp); omega)
      have kn : ((k : Int) == (n : Int)) = false := by simp; omega
      clear ih r ro ho hq hn hk full hL hO n64 dk hm
      go_enter Try.func56, Try.ntmps56
      go_wp2_with fail
      clear kn
      go_loopw [9] (fun iv wr => ∃ i : Nat, i ≤ n ∧ iv = .int .i64 i ∧ Hid (Below w.heap.size w wr)) (fun iv _ => n - (intOf iv).toNat)
      case atStart => exact ⟨0, Nat.zero_le _, rfl, Lib.hid (Below.refl _ _)⟩
      case round =>
        obtain ⟨i, hi', rfl, HB⟩ := hrel
        by_cases t1 : i < n
        · have T1 := Lib.hid t1
          clear hi'
          go_wp2_with fail
          go_loopw [10, 11] (fun bv jv wr => ∃ (j : Nat) (b : Bool), j ≤ k ∧ bv = .bool b ∧ jv = .int .i64 j ∧ Hid (b = true ↔ ∃ l, l < j ∧ gi O l = (i : Int)) ∧ Hid (Below w.heap.size w wr)) (fun _ jv _ => k - (intOf jv).toNat)
          case atStart => exact ⟨0, false, Nat.zero_le _, rfl, rfl, Lib.hid (by simp), HB⟩
          case round =>
            obtain ⟨j, b, hj, rfl, rfl, HI, HB⟩ := hrel
            have q3 := HN.out.2.2.1
            have q4 := HN.out.2.2.2.1
            by_cases t2 : j < k
            · cases b with
              | true =>
                have NX := Lib.hid (show (true = true ↔ ∃ l, l < j + 1 ∧ gi O l = (i : Int)) from ⟨fun _ => by obtain ⟨l, l1, l2⟩ := HI.out.1 rfl; exact ⟨l, by omega, l2⟩, fun _ => rfl⟩)
                go_wp2_with fail
                go_roundw
                case rel => exact ⟨j + 1, true, by omega, rfl, by go_num, NX, HB⟩
                case measure => simp [intOf]; omega
              | false =>
                obtain ⟨y, rfl, ky, cy⟩ := (RO.out.below HB.out) j (by have := HN.out; omega)
                have j1 : (0 : Int) ≤ (j : Int) := by omega
                have j2 : (j : Int) < (k : Int) := by omega
                by_cases e : gi O j = (i : Int)
                · have NX := Lib.hid (show (true = true ↔ ∃ l, l < j + 1 ∧ gi O l = (i : Int)) from ⟨fun _ => ⟨j, by omega, e⟩, fun _ => rfl⟩)
                  have e1 : (gi O j == (i : Int)) = true := by simpa using e
                  clear e
                  generalize gi O j = z at cy e1
                  go_wp2_with fail
                  go_roundw
                  case rel => exact ⟨j + 1, true, by omega, rfl, by go_num, NX, HB⟩
                  case measure => simp [intOf]; omega
                · have NX := Lib.hid (show (false = true ↔ ∃ l, l < j + 1 ∧ gi O l = (i : Int)) from ⟨fun h => (by cases h), fun ⟨l, l1, l2⟩ => by
                    by_cases el : l = j
                    · subst el; exact absurd l2 e
                    · exact HI.out.2 ⟨l, by omega, l2⟩⟩)
                  have e1 : (gi O j == (i : Int)) = false := by simpa using e
                  clear e
                  generalize gi O j = z at cy e1
                  go_wp2_with fail
                  go_roundw
                  case rel => exact ⟨j + 1, false, by omega, rfl, by go_num, NX, HB⟩
                  case measure => simp [intOf]; omega
            · obtain rfl : j = k := by omega
              cases b with
              | true =>
                go_wp2_with fail
                go_roundw
                case rel => exact ⟨i + 1, by have := T1.out; omega, by go_num, HB⟩
                case measure => have := T1.out; simp [intOf]; omega
              | false =>
                have NI := Lib.hid (show ¬ ∃ l, l < O.length ∧ gi O l = (i : Int) from fun h => by
                  rw [← HN.out.2.1] at h
                  have := HI.out.2 h; cases this)
                have SN := Lib.hid (HO.out.snoc (i := i) (by have := HN.out; have := T1.out; omega) NI.out)
                clear HI NI
                obtain ⟨y, rfl⟩ := (RO.out).some (by have := HN.out; omega)
                have NW := Lib.hid ((RO.out.below HB.out).news)
                have LL := Lib.hid (show (O ++ [(i : Int)]).length = j + 1 by have := HN.out; simp; omega)
                have LK := Lib.hid (show (O.map (Value.int .i64)).length = j * 1 by have := HN.out; simp; omega)
                have SZ := HB.out.size
                have j0 : 0 < j := HN.out.2.2.2.2.2
                go_upto_region 15 with (first
                  | (at_builtin; refine wpList_append_own _ rfl _ _ 39 rfl w.heap.size 3 i0 (.int .i64 0) 1 8 Try.underlying39 hi hz0 hz1 hz2 rfl (by decide) _ _ _ rfl (World.ownsRow_nil _ _ _ _) y j d (O.map (Value.int .i64)) rfl LK.out NW.out (by intro u hu; simp at hu; obtain ⟨z, _, rfl⟩ := hu; rfl) (by unfold maxLen; omega) (by omega) SZ ?_; intro v1 w0 hown1 hgrow1 hne1))
                have BW := Lib.hid (show Below w.heap.size w w0 from HB.out.grown hgrow1 SZ (fun k ek => by cases ek))
                replace hown1 : w0.ownsRow w.heap.size 3 1 v1 j (O.map (Value.int .i64)) := by simpa using hown1
                have SW2 : ∀ o, w.heap.size ≤ (w0.alloc o).heap.size := fun o => by have := BW.out.size; simp; omega
                clear hgrow1 hne1 NW LK
                go_wp2_with (first
                  | (at_builtin; refine wpList_append_own _ rfl _ _ 39 rfl w.heap.size 3 i0 (.int .i64 0) 1 8 Try.underlying39 hi hz0 hz1 hz2 rfl (by decide) _ _ _ rfl (hown1.alloc _) ⟨w0.heap.size, 0, none⟩ 1 1 [.int .i64 (i : Int)] rfl rfl (one_cell _) one_one (by unfold maxLen; omega) (by omega) (SW2 _) ?_))
                intro v' w1 hown' hgrow _
                have B1 : Below w.heap.size w w1 := (BW.out.alloc BW.out.size _).grown hgrow (SW2 _) (fun k ek => (World.ownsRow.lt hown1 k ek).1)
                replace hown' : w1.ownsRow w.heap.size 3 1 v' (j + 1) ((O ++ [(i : Int)]).map (Value.int .i64)) := by rw [List.map_append]; exact hown'
                clear hown1 SZ BW SW2 j0
                obtain ⟨q', d', rfl, nr⟩ := ownNums (M := O ++ [(i : Int)]) (by rw [LL.out]; exact hown')
                rw [LL.out]
                have CC := Lib.hid (IH.out q' d' (O ++ [(i : Int)]) w1 (by rw [LL.out]; have := HN.out; omega) (by rw [LL.out]; have := HN.out; omega) (by rw [HN.out.1]; exact SN.out) (fun h => absurd h (by simp)) (R.out.below B1) nr)
                rw [LL.out] at CC
                have B1 := Lib.hid B1
                clear hown' hgrow nr SN
                go_wp2_with fail
                refine CC.out.mono ?_
                rintro e w2 ⟨rfl, st⟩
                have B2 := Lib.hid (B1.out.trans (st.mono B1.out.size))
                clear CC st B1
                go_wp2_with fail
                go_roundw
                case rel => exact ⟨i + 1, by have := T1.out; omega, by go_num, B2⟩
                case measure => have := T1.out; simp [intOf]; omega
        · obtain rfl : i = n := by omega
          go_wp2_with fail
          go_ret
          exact ⟨rfl, HB.out⟩
end Go.Proofs.Ythbgeikdamajlaa
