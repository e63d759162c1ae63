/- The law PressOnTime: its walk. -/
import Derived.Test.YthbgeikdamajlaaOT4
import Derived.Test.YthbgeikdamajlaaPBA
/- Press: copies; rows that are the same. -/
namespace Go.Proofs.Ythbgeikdamajlaa
open Go.RowKit Go.Proofs.Ythbgeikdamajlaa.Prs Go.Proofs.Ythbgeikdamajlaa.Stb
set_option linter.unusedVariables false
set_option linter.unusedSimpArgs false

set_option maxRecDepth 100000 in
set_option maxHeartbeats 8000000 in
theorem copied_any (p : Option Addr) (c : Nat) (T : List Int) (w : World) (r : NumR w p T) (ln : T.length ≤ 64) :
    Calls Try.prog 37 #[.slice p T.length c] w fun e w' => ∃ b, e = .returned (.slice (some ⟨b, 0, none⟩) T.length T.length) ∧ w.heap.size ≤ b ∧ NumR w' (some ⟨b, 0, none⟩) T ∧ Below w.heap.size w w' := by
  obtain ⟨i0, hi, hz0, hz1, hz2⟩ := info_parts intInfo
  have R := Lib.hid r
  obtain ⟨n, hn⟩ : ∃ n, n = T.length := ⟨_, rfl⟩
  rw [← hn] at ln ⊢
  have HN := Lib.hid hn
  clear hn r
  go_enter Try.func37, Try.ntmps37
  go_upto_region 2 with (first
    | (at_make; refine wpList_make_full _ rfl _ _ 39 rfl w.heap.size 3 i0 (.int .i64 0) 1 Try.underlying39 hi hz0 hz1 .i64 .i64 _ _ n rfl rfl (by omega) (by omega) (by rw [hz2]; omega) (by unfold maxLen; omega) (Nat.le_refl _) ?_; intro w1 hown0 hgrow0))
  rw [made_ints] at hown0
  have I1 := Lib.hid (IR.of hown0)
  have B1 := Lib.hid (show Below w.heap.size w w1 from (Below.refl _ _).grown hgrow0 (Nat.le_refl _) (fun k e => by cases e))
  clear hown0 hgrow0
  obtain ⟨b, hb⟩ : ∃ b, b = w.heap.size := ⟨_, rfl⟩
  rw [← hb] at I1 ⊢
  have HBB := Lib.hid hb
  clear hb
  go_wp2_with fail
  go_loopw [4] (fun kv wr => ∃ i : Nat, i ≤ n ∧ kv = .int .i64 i ∧ Hid (IR wr b 3 n (fun j => if j < i then gi T j else 0)) ∧ Hid (Below w.heap.size w wr)) (fun kv _ => n - (intOf kv).toNat)
  case atStart => exact ⟨0, Nat.zero_le _, rfl, Lib.hid (I1.out.ext fun k _ => by rw [if_neg (by omega)]), B1⟩
  case round =>
    obtain ⟨i, hi', rfl, IS, HB⟩ := hrel
    clear I1 B1
    by_cases t1 : i < n
    · have i1 : (0 : Int) ≤ (i : Int) := by omega
      have i2 : (i : Int) < (n : Int) := by omega
      obtain ⟨x, rfl, kx, cx⟩ := (R.out.below HB.out) i (by have := HN.out; omega)
      have ci := IS.out.cell t1
      have fi := IS.out.frozen i
      have IS2 := Lib.hid (show IR (wr.setCell ⟨b, i, none⟩ (.int .i64 (gi T i))) b 3 n (fun j => if j < i + 1 then gi T j else 0) from (IS.out.set i _).ext fun k _ => by
        unfold upd
        by_cases e : k = i
        · subst e; rw [if_pos rfl, if_pos (by omega)]
        · rw [if_neg e]
          show (if k < i then gi T k else 0) = _
          by_cases l : k < i
          · rw [if_pos l, if_pos (by omega)]
          · rw [if_neg l, if_neg (by omega)])
      have HB2 := Lib.hid (show Below w.heap.size w (wr.setCell ⟨b, i, none⟩ (.int .i64 (gi T i))) from HB.out.setCell (by show w.heap.size ≤ b; rw [HBB.out]; exact Nat.le_refl _) _)
      clear IS HB kx
      generalize gi T i = t at cx IS2 HB2
      generalize (if i < i then t else (0 : Int)) = z at *
      go_wp2_with fail
      go_roundw
      case rel => exact ⟨i + 1, by omega, by go_num, IS2, HB2⟩
      case measure => simp [intOf]; omega
    · obtain rfl : i = n := by omega
      have NR := Lib.hid (show NumR wr (some ⟨b, 0, none⟩) T from by
        have := (IS.out.ext (f' := gi T) fun k hk => by rw [if_pos hk]).num (Nat.le_refl _)
        have e : (List.range i).map (gi T) = T := by
          rw [HN.out]
          apply List.ext_getElem
          · simp
          · intro j h1 h2; simp [gi, h2]
        rwa [e] at this)
      clear IS
      go_wp2_with fail
      go_ret
      exact ⟨b, rfl, Nat.le_of_eq HBB.out.symm, NR.out, HB.out⟩

set_option maxRecDepth 100000 in
set_option maxHeartbeats 8000000 in
theorem same_any (p : Option Addr) (c : Nat) (q : Option Addr) (d : Nat) (T : List Int) (n : Nat) (hn : n = T.length) (w : World) (r : NumR w p T) (r2 : NumR w q T) (ln : n ≤ 64) :
    Calls Try.prog 40 #[.slice p n c, .slice q n d] w fun e w' => e = .returned (.bool true) ∧ Below w.heap.size w w' := by
  have R := Lib.hid r
  have R2 := Lib.hid r2
  have HN := Lib.hid hn
  clear hn r r2
  have m1 : ((n : Int) != (n : Int)) = false := by simp
  go_enter Try.func40, Try.ntmps40
  go_wp2_with fail
  clear m1
  go_loopw [5] (fun kv wr => ∃ i : Nat, i ≤ n ∧ kv = .int .i64 i ∧ Hid (Below w.heap.size w wr)) (fun kv _ => n - (intOf kv).toNat)
  case atStart => exact ⟨0, Nat.zero_le _, rfl, Lib.hid (Below.refl _ _)⟩
  case round =>
    obtain ⟨i, hi', rfl, HB⟩ := hrel
    by_cases t1 : i < n
    · have i1 : (0 : Int) ≤ (i : Int) := by omega
      have i2 : (i : Int) < (n : Int) := by omega
      obtain ⟨x, rfl, kx, cx⟩ := (R.out.below HB.out) i (by have := HN.out; omega)
      obtain ⟨y, rfl, ky, cy⟩ := (R2.out.below HB.out) i (by have := HN.out; omega)
      clear kx ky
      generalize gi T i = t at *
      have e1 : (t != t) = false := by simp
      go_upto_region 6 with fail
      go_quiet (fail)
      go_wp2_with fail
      go_roundw
      case rel => exact ⟨i + 1, by omega, by go_num, Lib.hid (below_drewN HB.out _)⟩
      case measure => simp [intOf]; omega
    · obtain rfl : i = n := by omega
      go_wp2_with fail
      go_ret
      exact ⟨rfl, HB.out⟩

end Go.Proofs.Ythbgeikdamajlaa

/- The law PressOnTime: its walk. -/
namespace Go.Proofs.Ythbgeikdamajlaa
open Go.RowKit Go.Proofs.Ythbgeikdamajlaa.Prs Go.Proofs.Ythbgeikdamajlaa.Stb
set_option linter.unusedVariables false
set_option linter.unusedSimpArgs false

theorem KErr.fn {D : List (Int × Int)} {x y : Int} (h : KErr D x) (g : KErr D y) : x = y := by
  rcases h with ⟨a, b⟩ | ⟨a, b, c⟩ | ⟨a, b, c⟩ <;> rcases g with ⟨a', b'⟩ | ⟨a', b', c'⟩ | ⟨a', b', c'⟩ <;> first | omega | exact absurd b b' | exact absurd b' b
theorem left_len (K : List Int) (n : Nat) : (left K n).length ≤ n := by
  unfold left
  rw [List.length_map]
  exact Nat.le_trans (List.length_filter_le _ _) (by simp)

set_option maxRecDepth 100000 in
set_option maxHeartbeats 8000000 in
theorem pressOnTime_walk (p : Option Addr) (c : Nat) (D : List (Int × Int)) (w : World) (r : DmpR w p D) (ln : D.length ≤ 9223372036854775807) :
    Calls Try.prog 8 #[.slice p D.length c] w fun e w' => e = .returned (.bool true) ∧ Below w.heap.size w w' := by
  have AL := Lib.hid alive_any
  have C1 := Lib.hid (fun (l : D.length ≤ 1000000) => OnTime_any p c D w r l)
  have C2 := Lib.hid (fun W (st : Below w.heap.size w W) (l : D.length ≤ 1000000) => rOnTime_any p c D W (r.below st) l)
  obtain ⟨n, hn⟩ : ∃ n, n = D.length := ⟨_, rfl⟩
  have HN := Lib.hid hn
  rw [← hn] at C1 C2 ln ⊢
  clear hn r
  go_enter Try.func8, Try.ntmps8
  by_cases n80 : (80 : Int) < n
  · have d1 : decide ((80 : Int) < n) = true := decide_eq_true n80
    clear C1 C2
    go_wp2_with fail
    refine (AL.out _).mono ?_
    rintro e w6 ⟨rfl, st⟩
    go_wp2_with fail
    go_ret
    exact ⟨rfl, st⟩
  have d1 : decide ((80 : Int) < n) = false := decide_eq_false n80
  have N80 := Lib.hid (show n ≤ 80 by omega)
  go_wp2_with fail
  refine (C1.out (by have := N80.out; omega)).mono ?_
  rintro e w1 ⟨x, v1, v2, rfl, pe, st, k1, k2⟩
  have PE := Lib.hid pe
  have KB := Lib.hid st
  have Q1 := Lib.hid (And.intro k1 k2)
  clear pe st k1 k2 C1 d1 n80
  go_wp2_with fail
  refine (C2.out _ KB.out (by have := N80.out; omega)).mono ?_
  rintro e w2 ⟨x', u1, u2, rfl, pe', st, k1, k2⟩
  obtain rfl : x' = x := KErr.fn pe' PE.out
  have SM := Lib.hid (show (∀ W, Below w2.heap.size w2 W → Calls Try.prog 40 #[v1, u1] W fun e w' => e = .returned (.bool true) ∧ Below W.heap.size W w') ∧ (∀ W, Below w2.heap.size w2 W → Calls Try.prog 40 #[v2, u2] W fun e w' => e = .returned (.bool true) ∧ Below W.heap.size W w') from by
    by_cases x0 : x' = 0
    · subst x0
      obtain ⟨n64, -⟩ := PE.out.good
      obtain ⟨q1, c1, q2, c2, rfl, rfl, a1, a2⟩ := Q1.out.2 rfl
      obtain ⟨q3, c3, q4, c4, rfl, rfl, b1, b2⟩ := k2 rfl
      have l1 := kept_len (D := D) (O := dueO D D.length) D.length (by rw [dueO_len]; exact Nat.le_refl _)
      have l2 := left_len (kept D (dueO D D.length) D.length) D.length
      exact ⟨fun W B => same_any _ _ _ _ _ _ rfl W ((a1.below st).below B) (b1.below B) (by omega), fun W B => same_any _ _ _ _ _ _ rfl W ((a2.below st).below B) (b2.below B) (by omega)⟩
    · obtain ⟨rfl, rfl⟩ := Q1.out.1 x0
      obtain ⟨rfl, rfl⟩ := k1 x0
      exact ⟨fun W B => same_any none 0 none 0 [] 0 rfl W (fun i h => by simp at h) (fun i h => by simp at h) (by omega), fun W B => same_any none 0 none 0 [] 0 rfl W (fun i h => by simp at h) (fun i h => by simp at h) (by omega)⟩)
  have S1 := Lib.hid SM.out.1
  have S2 := Lib.hid SM.out.2
  replace KB := Lib.hid (KB.out.trans (st.mono KB.out.size))
  clear pe' st k1 k2 C2 SM Q1 PE
  have e2 : (x' == x') = true := by simp
  go_wp2_with fail
  refine (S1.out _ (Below.refl _ _)).mono ?_
  rintro e w4 ⟨rfl, st⟩
  have B4 := Lib.hid st
  replace KB := Lib.hid (KB.out.trans (st.mono KB.out.size))
  clear st S1
  go_wp2_with fail
  refine (S2.out _ B4.out).mono ?_
  rintro e w5 ⟨rfl, st⟩
  replace KB := Lib.hid (KB.out.trans (st.mono KB.out.size))
  clear st S2 B4
  go_wp2_with fail
  refine (AL.out _).mono ?_
  rintro e w6 ⟨rfl, st⟩
  go_wp2_with fail
  go_ret
  exact ⟨rfl, KB.out.trans (st.mono KB.out.size)⟩
end Go.Proofs.Ythbgeikdamajlaa
