/- Means: the plain part; num.Mean. -/
import Derived.Test.YtblaakjldpcjlaaDoorX1
import Derived.Test.YtblaakjldpcjlaaDoorM7
import Derived.Test.YtblaakjldpcjlaaDoorB9
namespace Go.Proofs.YtblaakjldpcjlaaDoor
open Go.RowKit
set_option linter.unusedVariables false
set_option linter.unusedSimpArgs false

/-- The sum of the first k products. -/
def dotp (a l : List Int) : Nat → Int
  | 0 => 0
  | k + 1 => dotp a l k + gd a k * gd l k
def ValOk (x : Int) : Prop := -16777216 ≤ x ∧ x ≤ 16777216
def WeiOk (x : Int) : Prop := 0 ≤ x ∧ x ≤ 1073741824
theorem prod_in {u v : Int} (hu : ValOk u) (hv : WeiOk v) : -(16777216 * v) ≤ u * v ∧ u * v ≤ 16777216 * v := by
  unfold ValOk at hu; unfold WeiOk at hv
  have a : u * v ≤ 16777216 * v := Int.mul_le_mul_of_nonneg_right hu.2 hv.1
  have b : -16777216 * v ≤ u * v := Int.mul_le_mul_of_nonneg_right hu.1 hv.1
  omega
theorem rz_in {n d m B : Int} (hd : 1 ≤ d) (h1 : -(B * d) ≤ n) (h2 : n ≤ B * d) : -B ≤ rz n d m ∧ rz n d m ≤ B := by
  have e := Int.emod_add_mul_ediv n d
  have r0 := Int.emod_nonneg n (show d ≠ 0 by omega)
  have q1 : -B ≤ n / d := by
    rw [Int.le_ediv_iff_mul_le (by omega), Int.neg_mul]; exact h1
  have q2 : n / d ≤ B := by
    have := Int.ediv_le_ediv (show 0 < d by omega) h2
    rwa [Int.mul_ediv_cancel _ (by omega)] at this
  have q3 : n / d = B → n % d = 0 := by
    intro hq
    rw [hq, Int.mul_comm] at e
    omega
  unfold rz
  split
  · omega
  · next h =>
    have : n / d < B := by
      rcases (by omega : n / d < B ∨ n / d = B) with t | t
      · exact t
      · exact absurd (q3 t) h
    cases rzU n (n / d) (n % d) d m
    · simp only [cond_false]; omega
    · simp only [cond_true]; omega
/-- What Mean returns. -/
def MeanR (a l : List Int) (m : Int) (V E : Int) : Prop :=
  ((256 < a.length ∨ 256 < l.length) ∧ V = 0 ∧ E = 3) ∨
  (¬ (256 < a.length ∨ 256 < l.length) ∧ (a.length ≠ l.length ∨ modB m = false ∨ (a.length = l.length ∧ ∃ i, i < l.length ∧ ¬ (ValOk (gd a i) ∧ WeiOk (gd l i)))) ∧ V = 0 ∧ E = 2) ∨
  (¬ (256 < a.length ∨ 256 < l.length) ∧ a.length = l.length ∧ modB m = true ∧ (∀ i, i < l.length → ValOk (gd a i) ∧ WeiOk (gd l i)) ∧ ((l.sum = 0 ∧ V = 0 ∧ E = 5) ∨ (l.sum ≠ 0 ∧ V = rz (dotp a l l.length) l.sum m ∧ E = 0)))
theorem MeanR.uniq {a l : List Int} {m V E V' E' : Int} (h : MeanR a l m V E) (h' : MeanR a l m V' E') : V = V' ∧ E = E' := by
  rcases h with ⟨x, y, z⟩ | ⟨x, t, y, z⟩ | ⟨x, t, u, g, k⟩ <;> rcases h' with ⟨x', y', z'⟩ | ⟨x', t', y', z'⟩ | ⟨x', t', u', g', k'⟩
  · exact ⟨by omega, by omega⟩
  · exact absurd x x'
  · exact absurd x x'
  · exact absurd x' x
  · exact ⟨by omega, by omega⟩
  · exfalso
    rcases t with t | t | ⟨_, i, hi, t⟩
    · exact t t'
    · rw [t] at u'; cases u'
    · exact t (g' i hi)
  · exact absurd x' x
  · exfalso
    rcases t' with t' | t' | ⟨_, i, hi, t'⟩
    · exact t' t
    · rw [t'] at u; cases u
    · exact t' (g i hi)
  · rcases k with ⟨a1, a2, a3⟩ | ⟨a1, a2, a3⟩ <;> rcases k' with ⟨b1, b2, b3⟩ | ⟨b1, b2, b3⟩
    · exact ⟨by omega, by omega⟩
    · exact absurd a1 b1
    · exact absurd b1 a1
    · exact ⟨by rw [a2, b2], by omega⟩
def MeanP (a l : List Int) (m : Int) (e : Ending) : Prop := ∃ V E, e = .returned (.tuple #[.int .i64 V, .int .i64 E]) ∧ MeanR a l m V E
/-- What a round of Mean keeps: the sum S of products, the sum W of weights. -/
structure MS (a l : List Int) (k : Nat) (S W : Int) : Prop where
  s : S = dotp a l k
  w : W = (l.take k).sum
  ok : ∀ j, j < k → ValOk (gd a j) ∧ WeiOk (gd l j)
  w0 : 0 ≤ W
  w1 : W ≤ k * 1073741824
  s0 : -(16777216 * W) ≤ S
  s1 : S ≤ 16777216 * W
theorem MS.next {a l : List Int} {k : Nat} {S W : Int} (h : MS a l k S W) (hk : k < l.length) (g : ValOk (gd a k) ∧ WeiOk (gd l k)) : MS a l (k + 1) (S + gd a k * gd l k) (W + gd l k) := by
  obtain ⟨p1, p2⟩ := prod_in g.1 g.2
  have gw := g.2
  unfold WeiOk at gw
  obtain ⟨h1, h2, h3, h4, h5, h6, h7⟩ := h
  refine ⟨by rw [h1]; rfl, by rw [sum_take_succ hk, h2], fun j hj => ?_, by omega, by push_cast; omega, by omega, by omega⟩
  rcases (by omega : j < k ∨ j = k) with t | t
  · exact h3 j t
  · subst t; exact g

set_option maxRecDepth 100000 in
set_option maxHeartbeats 4000000 in
theorem Mean_any (p q : Option Addr) (c d : Nat) (a l : List Int) (m : Int) (w : World) (r : RowA w p a) (s : RowA w q l) (la : a.length ≤ 1000000) (ll : l.length ≤ 1000000) :
    Calls Tryd.prog 26 #[.slice p a.length c, .slice q l.length d, .int .i64 m] w fun e w' => MeanP a l m e ∧ ∃ n, w' = w.drewN n := by
  obtain ⟨x, hx⟩ : ∃ x, x = l.length := ⟨_, rfl⟩
  obtain ⟨y, hy⟩ : ∃ y, y = a.length := ⟨_, rfl⟩
  by_cases h1 : 256 < a.length ∨ 256 < l.length
  · have F := Lib.hid (show MeanR a l m 0 3 from .inl ⟨h1, rfl, rfl⟩)
    rw [← hx, ← hy] at h1
    rw [← hx, ← hy] at ⊢
    clear hx hy r s la ll
    rcases (by omega : 256 < y ∨ (¬ 256 < y ∧ 256 < x)) with h | ⟨h, h'⟩
    · clear h1
      go_enter Tryd.func26, Tryd.ntmps26
      go_wp2_with fail
      go_ret2
      exact ⟨⟨_, _, rfl, F.out⟩, 0, rfl⟩
    · clear h1
      go_enter Tryd.func26, Tryd.ntmps26
      go_wp2_with fail
      go_ret2
      exact ⟨⟨_, _, rfl, F.out⟩, 0, rfl⟩
  by_cases h2 : a.length = l.length
  · have HL := Lib.hid h2
    cases hm : modB m
    · have F := Lib.hid (show MeanR a l m 0 2 from .inr (.inl ⟨h1, .inr (.inl hm), rfl, rfl⟩))
      have HM := Lib.hid hm
      have hxy : y = x := by omega
      subst hxy
      rw [← hx] at h1
      rw [← hy] at h1
      rw [← hx, ← hy]
      clear hx hy h2 r s la ll hm
      go_enter Tryd.func26, Tryd.ntmps26
      go_wp2_with fail
      refine (isMode_any _ _).mono ?_
      rintro e w1 ⟨rfl, rfl⟩
      rw [HM.out]
      go_wp2_with fail
      go_ret2
      exact ⟨⟨_, _, rfl, F.out⟩, 0, rfl⟩
    · have R := Lib.hid r
      have S := Lib.hid s
      have HM := Lib.hid hm
      obtain ⟨mo1, mo2⟩ := modB_true.1 hm
      have BAD : Hid (∀ i, i < x → ¬ (ValOk (gd a i) ∧ WeiOk (gd l i)) → MeanR a l m 0 2) := fun i hi hb => .inr (.inl ⟨h1, .inr (.inr ⟨h2, i, by omega, hb⟩), rfl, rfl⟩)
      have ZER : Hid ((∀ i, i < x → ValOk (gd a i) ∧ WeiOk (gd l i)) → l.sum = 0 → MeanR a l m 0 5) := fun h k => .inr (.inr ⟨h1, h2, hm, fun i hi => h i (by omega), .inl ⟨k, rfl, rfl⟩⟩)
      have FIN : Hid ((∀ i, i < x → ValOk (gd a i) ∧ WeiOk (gd l i)) → l.sum ≠ 0 → MeanR a l m (rz (dotp a l x) l.sum m) 0) := fun h k => .inr (.inr ⟨h1, h2, hm, fun i hi => h i (by omega), .inr ⟨k, by rw [hx], rfl⟩⟩)
      have hxy : y = x := by omega
      subst hxy
      rw [← hx] at h1
      rw [← hy] at h1
      rw [← hx, ← hy]
      have HX := Lib.hid hx
      have ln : y ≤ 256 := by omega
      clear hx hy h1 h2 r s la ll hm
      go_enter Tryd.func26, Tryd.ntmps26
      go_wp2_with fail
      refine (isMode_any _ _).mono ?_
      rintro e w1 ⟨rfl, rfl⟩
      rw [HM.out]
      go_wp2_with fail
      go_loop [8, 9, 32] (fun sv wv kv => ∃ (k : Nat) (S W : Int), k ≤ y ∧ sv = .int .i64 S ∧ wv = .int .i64 W ∧ kv = .int .i64 k ∧ Hid (MS a l k S W)) (fun _ _ kv => y - (intOf kv).toNat)
      case atStart => exact ⟨0, 0, 0, Nat.zero_le _, rfl, rfl, rfl, by show MS _ _ _ _ _; exact ⟨rfl, by simp, by omega, by omega, by omega, by omega, by omega⟩⟩
      case round =>
        obtain ⟨k, S0, W0, hk, rfl, rfl, rfl, HK⟩ := hrel
        obtain ⟨-, -, -, b1, b2, b3, b4⟩ := HK.out
        by_cases t2 : k < y
        · obtain ⟨xp, rfl, kp, cp⟩ := R.out k (by have := HX.out; have := HL.out; omega)
          obtain ⟨xq, rfl, kq, cq⟩ := S.out k (by have := HX.out; omega)
          have NX := Lib.hid (fun g => HK.out.next (by have := HX.out; omega) g)
          have BK := Lib.hid (BAD.out k t2)
          have PI := Lib.hid (fun (g : ValOk (gd a k) ∧ WeiOk (gd l k)) => prod_in g.1 g.2)
          have i3 : (k : Int) < (y : Int) := by omega
          have i4 : (0 : Int) ≤ (k : Int) := by omega
          clear HK
          generalize gd a k = u at *
          generalize gd l k = v at *
          by_cases ha : ValOk u
          · have DA : wthB u 16777216 = true := wthB_true.2 (by unfold ValOk at ha; exact ha)
            by_cases hb : WeiOk v
            · have DW : (decide (0 ≤ v) && decide (v ≤ 1073741824)) = true := by unfold WeiOk at hb; simp [hb]
              have F := Lib.hid (NX.out ⟨ha, hb⟩)
              obtain ⟨p1, p2⟩ := PI.out ⟨ha, hb⟩
              unfold WeiOk at hb
              obtain ⟨v0, v1⟩ := hb
              clear NX BK ha PI
              go_wp2_with fail
              refine (within_any _ _ (by omega) (by omega) _).mono ?_
              rintro e w1 ⟨rfl, rfl⟩
              rw [DA]
              go_wp2_with fail
              refine (isWeight_any _ _).mono ?_
              rintro e w1 ⟨rfl, rfl⟩
              rw [DW]
              go_wp2_with fail
              go_round
              case rel => exact ⟨k + 1, _, _, by omega, rfl, rfl, by go_num, F⟩
              case measure => simp [intOf]; omega
            · have DW : (decide (0 ≤ v) && decide (v ≤ 1073741824)) = false := by unfold WeiOk at hb; rw [Bool.and_eq_false_iff]; simp only [decide_eq_false_iff_not]; omega
              have F := Lib.hid (BK.out (fun h => hb h.2))
              clear NX BK ha hb PI
              go_wp2_with fail
              refine (within_any _ _ (by omega) (by omega) _).mono ?_
              rintro e w1 ⟨rfl, rfl⟩
              rw [DA]
              go_wp2_with fail
              refine (isWeight_any _ _).mono ?_
              rintro e w1 ⟨rfl, rfl⟩
              rw [DW]
              go_wp2_with fail
              go_ret2
              exact ⟨⟨_, _, rfl, F.out⟩, 0, rfl⟩
          · have DA : wthB u 16777216 = false := by
              cases h : wthB u 16777216
              · rfl
              · exact absurd (by have := wthB_true.1 h; unfold ValOk; exact this) ha
            have F := Lib.hid (BK.out (fun h => ha h.1))
            clear NX BK ha PI
            go_wp2_with fail
            refine (within_any _ _ (by omega) (by omega) _).mono ?_
            rintro e w1 ⟨rfl, rfl⟩
            rw [DA]
            go_wp2_with fail
            go_ret2
            exact ⟨⟨_, _, rfl, F.out⟩, 0, rfl⟩
        · have kx : k = y := by omega
          subst kx
          have GD := HK.out.ok
          have WE : W0 = l.sum := by rw [HK.out.w, HX.out, List.take_length]
          by_cases z : W0 = 0
          · have F := Lib.hid (ZER.out GD (by omega))
            subst z
            clear ZER FIN BAD HK GD WE
            go_wp2_with fail
            go_ret2
            exact ⟨⟨_, _, rfl, F.out⟩, 0, rfl⟩
          · have zb : (W0 == 0) = false := by simpa using z
            have F := FIN.out GD (by omega)
            rw [← HK.out.s, ← WE] at F
            have RR := rz_rnd (decide (S0 < 0)) (S0.natAbs * 1) W0 m (by omega) (by omega) mo1 mo2
            rw [show (bif decide (S0 < 0) then -((S0.natAbs : Int) * 1) else (S0.natAbs : Int) * 1) = S0 by
              by_cases hs : S0 < 0
              · simp only [hs, decide_true, cond_true]; omega
              · simp only [hs, decide_false, cond_false]; omega] at RR
            obtain ⟨i1, i2⟩ := rz_in (m := m) (show 1 ≤ W0 by omega) b3 b4
            have Q0 : 0 ≤ rndQ (decide (S0 < 0)) ((S0.natAbs : Int) * 1) W0 m := by
              have : 0 ≤ (S0.natAbs : Int) * 1 / W0 := Int.ediv_nonneg (by omega) (by omega)
              unfold rndQ
              cases upB (decide (S0 < 0)) ((S0.natAbs : Int) * 1 / W0) ((S0.natAbs : Int) * 1 % W0) W0 m
              · simp only [cond_false]; omega
              · simp only [cond_true]; omega
            have Q1 : rndQ (decide (S0 < 0)) ((S0.natAbs : Int) * 1) W0 m ≤ 1125899906842624 := by
              cases hs : decide (S0 < 0)
              · rw [hs] at RR Q0; simp only [cond_false] at RR; omega
              · rw [hs] at RR Q0; simp only [cond_true] at RR; omega
            obtain ⟨k1, k2⟩ := rnd_ok Q1
            rw [← RR] at k1
            have RD := fun W => rounded_all (decide (S0 < 0)) S0.natAbs 1 W0 m (by omega) (by omega) (by omega) (by omega) (by omega) (by omega) W
            rw [k1, k2] at RD
            replace RD := Lib.hid RD
            replace F := Lib.hid F
            have EW := Lib.hid (show (W0.natAbs : Int) = W0 by omega)
            clear ZER FIN BAD HK GD WE RR Q0 Q1 k1 k2 z i1 i2
            generalize rz S0 W0 m = Z at *
            generalize hsb : decide (S0 < 0) = sb at *
            have HSB := Lib.hid hsb
            clear hsb
            go_wp2_with fail
            refine (size_any _ (by omega) (by omega) _).mono ?_
            rintro e w1 ⟨rfl, rfl⟩
            go_wp2_with fail
            refine (size_any _ (by omega) (by omega) _).mono ?_
            rintro e w1 ⟨rfl, rfl⟩
            rw [EW.out]
            go_wp2_with fail
            try rw [HSB.out]
            refine (RD.out _).mono ?_
            rintro e w2 ⟨rfl, n, rfl⟩
            go_wp2_with fail
            go_ret2
            exact ⟨⟨_, _, rfl, F.out⟩, _, rfl⟩
  · have F := Lib.hid (show MeanR a l m 0 2 from .inr (.inl ⟨h1, .inl h2, rfl, rfl⟩))
    rw [← hx, ← hy] at h1 h2
    rw [← hx, ← hy] at ⊢
    have hb : ((y : Int) != (x : Int)) = true := by simp; omega
    clear hx hy r s la ll
    go_enter Tryd.func26, Tryd.ntmps26
    go_wp2_with fail
    go_ret2
    exact ⟨⟨_, _, rfl, F.out⟩, 0, rfl⟩
end Go.Proofs.YtblaakjldpcjlaaDoor
