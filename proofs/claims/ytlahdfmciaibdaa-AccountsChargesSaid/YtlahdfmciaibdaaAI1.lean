/- Several texts in one: M7 AH0 R2 R4. -/
import Derived.Test.YtlahdfmciaibdaaM6
import Derived.Test.YtlahdfmciaibdaaB2
import Derived.Test.YtlahdfmciaibdaaAG1
import Derived.Test.YtlahdfmciaibdaaAP0
import Derived.Laws.AppendOwnNone
import Derived.Deep.RegionWith
import Derived.Deep.RegionHeld3
import Derived.Deep.CutBlock

/- Rounding by the floor and what is left over is rounding by size and sign. -/
namespace Go.Proofs.Ytlahdfmciaibdaa
open Go.RowKit
set_option linter.unusedVariables false
set_option linter.unusedSimpArgs false

/-- Is the next whole number taken? -/
def rzU (n q r d m : Int) : Bool := decide (m = 1) || (decide (m = 2) && decide (n < 0)) || (decide (m = 3) && decide (d ≤ 2 * r)) || (decide (m = 4) && (decide (d < 2 * r) || (decide (2 * r = d) && decide (q % 2 ≠ 0))))
/-- n/d rounded, of a d above 0. -/
def rz (n d m : Int) : Int := n / d + (if n % d = 0 then 0 else bif rzU n (n / d) (n % d) d m then 1 else 0)
theorem rz_exact {n d m : Int} (h : n % d = 0) : rz n d m = n / d := by unfold rz; rw [if_pos h]; omega
theorem rz_up {n d m : Int} (h : n % d ≠ 0) (u : rzU n (n / d) (n % d) d m = true) : rz n d m = n / d + 1 := by unfold rz; rw [if_neg h, u]; rfl
theorem rz_down {n d m : Int} (h : n % d ≠ 0) (u : rzU n (n / d) (n % d) d m = false) : rz n d m = n / d := by unfold rz; rw [if_neg h, u]; exact Int.add_zero _

theorem rz_rnd (neg : Bool) (p d m : Int) (hp : 0 ≤ p) (hd : 1 ≤ d) (hm1 : 0 ≤ m) (hm2 : m ≤ 4) :
    rz (bif neg then -p else p) d m = bif neg then -(rndQ neg p d m) else rndQ neg p d m := by
  have r0 : 0 ≤ p % d := Int.emod_nonneg _ (by omega)
  have r1 : p % d < d := Int.emod_lt_of_pos _ (by omega)
  have q0 : 0 ≤ p / d := Int.ediv_nonneg hp (by omega)
  have e := Int.mul_ediv_add_emod p d
  have hpq : p = 0 → p / d = 0 := by intro h; rw [h]; exact Int.zero_ediv d
  have pr : p % d ≠ 0 → 0 < p := by
    intro hr
    rcases (by omega : p = 0 ∨ 0 < p) with h | h
    · rw [h] at hr; simp at hr
    · exact h
  cases neg
  · have hn : ¬ p < 0 := by omega
    simp only [cond_false]
    unfold rz rndQ rzU upB
    generalize p / d = q at *
    generalize p % d = r at *
    clear e
    rcases (by omega : m = 0 ∨ m = 1 ∨ m = 2 ∨ m = 3 ∨ m = 4) with rfl | rfl | rfl | rfl | rfl
    all_goals simp [cond_eq_ite, Bool.or_eq_true, Bool.and_eq_true, hn]
    all_goals (repeat' split)
    all_goals omega
  · simp only [cond_true]
    by_cases hr : p % d = 0
    · have k := div_end (A := -p) (B := d) (q := -(p / d)) (r := 0) (by rw [Int.mul_neg]; omega) (by omega) (by omega)
      unfold rz rndQ upB
      rw [← k.1, ← k.2, hr]
      generalize p / d = q at *
      clear e k
      rcases (by omega : m = 0 ∨ m = 1 ∨ m = 2 ∨ m = 3 ∨ m = 4) with rfl | rfl | rfl | rfl | rfl
      all_goals simp [cond_eq_ite, Bool.or_eq_true, Bool.and_eq_true]
      all_goals omega
    · have k := div_end (A := -p) (B := d) (q := -(p / d) - 1) (r := d - p % d) (by rw [Int.mul_sub, Int.mul_neg]; omega) (by omega) (by omega)
      unfold rz rndQ rzU upB
      rw [← k.1, ← k.2]
      have pp := pr hr
      generalize p / d = q at *
      generalize p % d = r at *
      clear e k pr
      have n1 : -p < 0 := by omega
      have n2 : ¬ d - r = 0 := by omega
      rcases (by omega : m = 0 ∨ m = 1 ∨ m = 2 ∨ m = 3 ∨ m = 4) with rfl | rfl | rfl | rfl | rfl
      all_goals simp [cond_eq_ite, Bool.or_eq_true, Bool.and_eq_true, n1, n2, pp]
      all_goals (repeat' split)
      all_goals omega
end Go.Proofs.Ytlahdfmciaibdaa

/- Accounts: interest, plain and the program's. -/
namespace Go.Proofs.Ytlahdfmciaibdaa
open Go.RowKit
set_option linter.unusedVariables false
set_option linter.unusedSimpArgs false

theorem rz_half {P : Int} (h : 0 ≤ P) : rz P 10000 3 = chg P := by
  unfold rz rzU chg
  simp [cond_eq_ite]
  repeat' split
  all_goals omega
theorem rz_shift {D : Int} (hD : 0 < D) (x t : Int) : rz (x + D * (2 * t)) D 4 = 2 * t + rz x D 4 := by
  have q : (x + D * (2 * t)) / D = x / D + 2 * t := Int.add_mul_ediv_left x (2 * t) (by omega)
  have r : (x + D * (2 * t)) % D = x % D := Int.add_mul_emod_self_left x D (2 * t)
  unfold rz rzU
  rw [q, r]
  generalize x / D = a
  generalize x % D = b
  have p : (a + 2 * t) % 2 = a % 2 := by omega
  simp [p, cond_eq_ite]
  repeat' split
  all_goals omega
def iOk (n r a b : Int) : Prop := (-1099511627776 ≤ n ∧ n ≤ 1099511627776) ∧ (0 ≤ r ∧ r ≤ 10000) ∧ (0 ≤ a ∧ a ≤ 1000000) ∧ (0 ≤ b ∧ b ≤ 1000000) ∧ a ≤ b
/-- What Interest answers. -/
def InQ (n r a b x E : Int) : Prop := (¬ iOk n r a b ∧ x = 0 ∧ E = 2) ∨ (iOk n r a b ∧ x = rz (n * (r * (b - a))) 3650000 4 ∧ E = 0)
theorem InQ.det {n r a b x y E F : Int} (h : InQ n r a b x E) (g : InQ n r a b y F) : x = y ∧ E = F := by
  rcases h with ⟨h1, h2, h3⟩ | ⟨h1, h2, h3⟩ <;> rcases g with ⟨g1, g2, g3⟩ | ⟨g1, g2, g3⟩
  · exact ⟨h2.trans g2.symm, h3.trans g3.symm⟩
  · exact absurd g1 h1
  · exact absurd h1 g1
  · exact ⟨h2.trans g2.symm, h3.trans g3.symm⟩
theorem rndQ_four (neg : Bool) (p : Int) (p0 : 0 ≤ p) (p1 : p ≤ 8026434882764800000) : 0 ≤ rndQ neg p 3650000 4 ∧ rndQ neg p 3650000 4 ≤ 2199023255553 := by
  unfold rndQ
  cases upB neg (p / 3650000) (p % 3650000) 3650000 4
  · simp only [cond_false]; omega
  · simp only [cond_true]; omega
theorem int_rnd (n m : Int) (n0 : -1099511627776 ≤ n) (n1 : n ≤ 1099511627776) (m0 : 0 ≤ m) (m1 : m < 7300000) :
    rndV (!((!(decide (n < 0) == decide (m < 0))) == decide ((3650000 : Int) < 0))) ((n.natAbs : Int) * (m.natAbs : Int)) ((3650000 : Int).natAbs : Int) 4 = rz (n * m) 3650000 4 ∧
    rndE (!((!(decide (n < 0) == decide (m < 0))) == decide ((3650000 : Int) < 0))) ((n.natAbs : Int) * (m.natAbs : Int)) ((3650000 : Int).natAbs : Int) 4 = 0 ∧
    -2199023255553 ≤ rz (n * m) 3650000 4 ∧ rz (n * m) 3650000 4 ≤ 2199023255553 := by
  have e1 : (!((!(decide (n < 0) == decide (m < 0))) == decide ((3650000 : Int) < 0))) = decide (n < 0) := by
    rw [decide_eq_false (show ¬ m < 0 by omega), decide_eq_false (show ¬ (3650000 : Int) < 0 by decide)]
    cases decide (n < 0) <;> rfl
  have e2 : ((3650000 : Int).natAbs : Int) = 3650000 := rfl
  have e3 : (m.natAbs : Int) = m := by omega
  rw [e1, e2, e3]
  obtain ⟨k, hk⟩ : ∃ k : Int, k = (n.natAbs : Int) := ⟨_, rfl⟩
  rw [← hk]
  have p0 : 0 ≤ k * m := Int.mul_nonneg (by omega) m0
  have p1 : k * m ≤ 1099511627776 * 7300000 := Int.mul_le_mul (by omega) (by omega) m0 (by omega)
  obtain ⟨q0, q1⟩ := rndQ_four (decide (n < 0)) (k * m) p0 (by omega)
  have R := rz_rnd (decide (n < 0)) (k * m) 3650000 4 p0 (by omega) (by omega) (by omega)
  have S : (bif decide (n < 0) then -(k * m) else k * m) = n * m := by
    by_cases h : n < 0
    · rw [decide_eq_true h, cond_true, ← Int.neg_mul]; congr 1; omega
    · rw [decide_eq_false h, cond_false]; congr 1; omega
  rw [S] at R
  obtain ⟨a, b⟩ := rnd_ok (neg := decide (n < 0)) (p := k * m) (c := 3650000) (m := 4) (by omega)
  rw [a, b, R]
  refine ⟨rfl, rfl, ?_⟩
  clear a b R S e1
  generalize rndQ (decide (n < 0)) (k * m) 3650000 4 = Q at *
  cases decide (n < 0)
  · simp only [cond_false]; omega
  · simp only [cond_true]; omega
theorem int_whole {n r a b k m v : Int} (e : r * (b - a) = 7300000 * k + m) (hv : v = rz (n * m) 3650000 4) : k * 2 * n + v = rz (n * (r * (b - a))) 3650000 4 := by
  rw [e, hv, Int.mul_add, show n * (7300000 * k) + n * m = n * m + 3650000 * (2 * (k * n)) by
    have : n * (7300000 * k) = 7300000 * (k * n) := by rw [Int.mul_left_comm, Int.mul_comm n k]
    omega, rz_shift (by omega)]
  have : k * 2 * n = 2 * (k * n) := by rw [Int.mul_comm k 2, Int.mul_assoc]
  omega

def cenB (n : Int) : Bool := decide (-1099511627776 ≤ n) && decide (n ≤ 1099511627776)
theorem cenB_t {n : Int} (h : -1099511627776 ≤ n ∧ n ≤ 1099511627776) : cenB n = true := by unfold cenB; simp [h]
theorem cenB_f {n : Int} (h : ¬ (-1099511627776 ≤ n ∧ n ≤ 1099511627776)) : cenB n = false := by
  unfold cenB
  rw [Bool.and_eq_false_iff]
  by_cases g : -1099511627776 ≤ n
  · exact .inr (decide_eq_false fun k => h ⟨g, k⟩)
  · exact .inl (decide_eq_false g)
theorem rateB_t {n : Int} (h : 0 ≤ n ∧ n ≤ 10000) : rateB n = true := by unfold rateB; simp [h]
theorem rateB_f {n : Int} (h : ¬ (0 ≤ n ∧ n ≤ 10000)) : rateB n = false := by
  unfold rateB
  rw [Bool.and_eq_false_iff]
  by_cases g : 0 ≤ n
  · exact .inr (decide_eq_false fun k => h ⟨g, k⟩)
  · exact .inl (decide_eq_false g)
theorem isCents_any (n : Int) (w : World) :
    Calls Try.prog 55 #[.int .i64 n] w fun e w' => e = .returned (.bool (cenB n)) ∧ w = w' := by
  go_enter Try.func55, Try.ntmps55
  go_wp2
  all_goals go_ret
  all_goals exact ⟨ret_b (by unfold cenB; rw [Bool.eq_iff_iff]; simp; try omega), rfl⟩
theorem isCents_b (n : Int) (r : Bool) (h : cenB n = r) (w : World) :
    Calls Try.prog 55 #[.int .i64 n] w fun e w' => e = .returned (.bool r) ∧ w = w' := by rw [← h]; exact isCents_any n w
def spaB (a b : Int) : Bool := dayB a && dayB b && decide (a ≤ b)
theorem spaB_t {a b : Int} (h : (0 ≤ a ∧ a ≤ 1000000) ∧ (0 ≤ b ∧ b ≤ 1000000) ∧ a ≤ b) : spaB a b = true := by
  unfold spaB; rw [(dayB_iff a).2 h.1, (dayB_iff b).2 h.2.1, decide_eq_true h.2.2]; rfl
theorem spaB_f {a b : Int} (h : ¬ ((0 ≤ a ∧ a ≤ 1000000) ∧ (0 ≤ b ∧ b ≤ 1000000) ∧ a ≤ b)) : spaB a b = false := by
  cases e : spaB a b with
  | false => rfl
  | true =>
    unfold spaB at e
    rw [Bool.and_eq_true, Bool.and_eq_true] at e
    exact absurd ⟨(dayB_iff a).1 e.1.1, (dayB_iff b).1 e.1.2, of_decide_eq_true e.2⟩ h
theorem isSpan_any (a b : Int) (w : World) :
    Calls Try.prog 56 #[.int .i64 a, .int .i64 b] w fun e w' => e = .returned (.bool (spaB a b)) ∧ w = w' := by
  obtain ⟨x, hx⟩ : ∃ x, x = dayB a := ⟨_, rfl⟩
  obtain ⟨y, hy⟩ : ∃ y, y = dayB b := ⟨_, rfl⟩
  have C1 := Lib.hid (fun W => isDay_b a x hx.symm W)
  have C2 := Lib.hid (fun W => isDay_b b y hy.symm W)
  have E := Lib.hid (show spaB a b = (x && y && decide (a ≤ b)) from by rw [hx, hy]; rfl)
  clear hx hy
  cases x
  · go_enter Try.func56, Try.ntmps56
    go_wp2_with fail
    refine (C1.out _).mono ?_
    rintro e wb ⟨rfl, rfl⟩
    go_wp2_with fail
    try (go_quiet (fail))
    try (go_wp2_with fail)
    go_ret
    exact ⟨ret_b (by rw [E.out]; rfl), rfl⟩
  cases y
  · go_enter Try.func56, Try.ntmps56
    go_wp2_with fail
    refine (C1.out _).mono ?_
    rintro e wb ⟨rfl, rfl⟩
    go_wp2_with fail
    refine (C2.out _).mono ?_
    rintro e wb ⟨rfl, rfl⟩
    go_wp2_with fail
    try (go_quiet (fail))
    try (go_wp2_with fail)
    go_ret
    exact ⟨ret_b (by rw [E.out]; rfl), rfl⟩
  obtain ⟨z, hz⟩ : ∃ z, decide (a ≤ b) = z := ⟨_, rfl⟩
  rw [hz] at E
  cases z
  all_goals go_enter Try.func56, Try.ntmps56
  all_goals go_wp2_with fail
  all_goals refine (C1.out _).mono ?_
  all_goals rintro e wb ⟨rfl, rfl⟩
  all_goals go_wp2_with fail
  all_goals refine (C2.out _).mono ?_
  all_goals rintro e wb ⟨rfl, rfl⟩
  all_goals go_wp2_with fail
  all_goals try (go_quiet (fail))
  all_goals try (go_wp2_with fail)
  all_goals go_ret
  all_goals exact ⟨ret_b (by rw [E.out]; rfl), rfl⟩
theorem isSpan_b (a b : Int) (r : Bool) (h : spaB a b = r) (w : World) :
    Calls Try.prog 56 #[.int .i64 a, .int .i64 b] w fun e w' => e = .returned (.bool r) ∧ w = w' := by rw [← h]; exact isSpan_any a b w

set_option maxRecDepth 100000 in
set_option maxHeartbeats 8000000 in
theorem Interest_any (n r a b : Int) (w : World) :
    Calls Try.prog 24 #[.int .i64 n, .int .i64 r, .int .i64 a, .int .i64 b] w fun e w' => ∃ x E, e = .returned (.tuple #[.int .i64 x, .int .i64 E]) ∧ InQ n r a b x E ∧ Below w.heap.size w w' := by
  by_cases u1 : -1099511627776 ≤ n ∧ n ≤ 1099511627776
  case neg =>
    have C1 := Lib.hid (fun W => isCents_b n false (cenB_f u1) W)
    have Q := Lib.hid (show InQ n r a b 0 2 from .inl ⟨fun h => u1 h.1, rfl, rfl⟩)
    clear u1
    go_enter Try.func24, Try.ntmps24
    go_wp2_with fail
    try (go_quiet (fail))
    try (go_wp2_with fail)
    refine (C1.out _).mono ?_
    rintro e wb ⟨rfl, rfl⟩
    go_wp2_with fail
    try (go_quiet (fail))
    try (go_wp2_with fail)
    go_ret2
    exact ⟨_, _, rfl, Q.out, (by first | exact Below.refl _ _ | exact (Below.refl _ _).drew | exact below_drewN (Below.refl _ _) _)⟩
  have C1 := Lib.hid (fun W => isCents_b n true (cenB_t u1) W)
  by_cases u2 : 0 ≤ r ∧ r ≤ 10000
  case neg =>
    have C2 := Lib.hid (fun W => isRate_b r false (rateB_f u2) W)
    have Q := Lib.hid (show InQ n r a b 0 2 from .inl ⟨fun h => u2 h.2.1, rfl, rfl⟩)
    clear u1 u2
    go_enter Try.func24, Try.ntmps24
    go_wp2_with fail
    try (go_quiet (fail))
    try (go_wp2_with fail)
    refine (C1.out _).mono ?_
    rintro e wb ⟨rfl, rfl⟩
    go_wp2_with fail
    refine (C2.out _).mono ?_
    rintro e wb ⟨rfl, rfl⟩
    go_wp2_with fail
    try (go_quiet (fail))
    try (go_wp2_with fail)
    go_ret2
    exact ⟨_, _, rfl, Q.out, (by first | exact Below.refl _ _ | exact (Below.refl _ _).drew | exact below_drewN (Below.refl _ _) _)⟩
  have C2 := Lib.hid (fun W => isRate_b r true (rateB_t u2) W)
  by_cases u3 : (0 ≤ a ∧ a ≤ 1000000) ∧ (0 ≤ b ∧ b ≤ 1000000) ∧ a ≤ b
  case neg =>
    have C3 := Lib.hid (fun W => isSpan_b a b false (spaB_f u3) W)
    have Q := Lib.hid (show InQ n r a b 0 2 from .inl ⟨fun h => u3 ⟨h.2.2.1, h.2.2.2.1, h.2.2.2.2⟩, rfl, rfl⟩)
    clear u1 u2 u3
    go_enter Try.func24, Try.ntmps24
    go_wp2_with fail
    try (go_quiet (fail))
    try (go_wp2_with fail)
    refine (C1.out _).mono ?_
    rintro e wb ⟨rfl, rfl⟩
    go_wp2_with fail
    refine (C2.out _).mono ?_
    rintro e wb ⟨rfl, rfl⟩
    go_wp2_with fail
    refine (C3.out _).mono ?_
    rintro e wb ⟨rfl, rfl⟩
    go_wp2_with fail
    try (go_quiet (fail))
    try (go_wp2_with fail)
    go_ret2
    exact ⟨_, _, rfl, Q.out, (by first | exact Below.refl _ _ | exact (Below.refl _ _).drew | exact below_drewN (Below.refl _ _) _)⟩
  have C3 := Lib.hid (fun W => isSpan_b a b true (spaB_t u3) W)
  have OK := Lib.hid (show iOk n r a b from ⟨u1, u2, u3⟩)
  obtain ⟨F, hF⟩ : ∃ F, F = r * (b - a) := ⟨_, rfl⟩
  have F0 : 0 ≤ F := by rw [hF]; exact Int.mul_nonneg u2.1 (by omega)
  have F1 : F ≤ 10000 * 1000000 := by rw [hF]; exact Int.mul_le_mul (by omega) (by omega) (by omega) (by omega)
  have w1 : IntKind.i64.wrap (b - a) = b - a := IntWalk.i64_in _ (by omega)
  have w2 : IntKind.i64.wrap (r * (b - a)) = F := by rw [← hF]; exact IntWalk.i64_in _ (by omega)
  have w2' : wrap64 (r * (b - a)) = F := by rw [← hF]; exact IntWalk.wrap64_in _ (by omega)
  obtain ⟨k, hk⟩ : ∃ k, k = F / 7300000 := ⟨_, rfl⟩
  obtain ⟨m, hm⟩ : ∃ m, m = F % 7300000 := ⟨_, rfl⟩
  have k0 : 0 ≤ k := by omega
  have k1 : k ≤ 1370 := by omega
  have m0 : 0 ≤ m := by omega
  have m1 : m < 7300000 := by omega
  have tq : F.tdiv 7300000 = k := by rw [Int.tdiv_eq_ediv_of_nonneg F0, hk]
  have tr : F.tmod 7300000 = m := by rw [Int.tmod_eq_emod_of_nonneg F0, hm]
  have eF : F = 7300000 * k + m := by omega
  obtain ⟨c1, c2, c3, c4⟩ := int_rnd n m u1.1 u1.2 m0 m1
  obtain ⟨v, hv⟩ : ∃ v, v = rz (n * m) 3650000 4 := ⟨_, rfl⟩
  rw [← hv] at c1 c3 c4
  have RV := Lib.hid (int_whole (n := n) (r := r) (a := a) (b := b) (hF.symm.trans eF) hv)
  have MD := Lib.hid (fun W => (show Calls Try.prog 48 #[.int .i64 n, .int .i64 m, .int .i64 3650000, .int .i64 4] W fun e w' => e = .returned (.tuple #[.int .i64 v, .int .i64 0]) ∧ ∃ k, w' = W.drewN k from by
    have := MulDiv_ok n m 3650000 4 (wthB_true.2 ⟨by omega, by omega⟩) (wthB_true.2 ⟨by omega, by omega⟩) (by decide) (by decide) (by decide) W
    rw [c1, c2] at this
    exact this))
  have wm : IntKind.i64.wrap m = m := IntWalk.i64_in _ (by omega)
  have wk : IntKind.i64.wrap k = k := IntWalk.i64_in _ (by omega)
  have wk2 : IntKind.i64.wrap (k * 2) = k * 2 := IntWalk.i64_in _ (by omega)
  have wk2' : wrap64 (k * 2) = k * 2 := IntWalk.wrap64_in _ (by omega)
  have g1 : k * 2 * n ≤ 2740 * 1099511627776 := by
    have h1 : k * 2 * n ≤ k * 2 * 1099511627776 := Int.mul_le_mul_of_nonneg_left u1.2 (by omega)
    omega
  have g0 : -(2740 * 1099511627776) ≤ k * 2 * n := by
    have h1 : k * 2 * (-1099511627776) ≤ k * 2 * n := Int.mul_le_mul_of_nonneg_left u1.1 (by omega)
    omega
  obtain ⟨G, hG⟩ : ∃ G, k * 2 * n = G := ⟨_, rfl⟩
  rw [hG] at g0 g1 RV
  have w3 : IntKind.i64.wrap (k * 2 * n) = G := by rw [hG]; exact IntWalk.i64_in _ (by omega)
  have w3' : wrap64 (k * 2 * n) = G := by rw [hG]; exact IntWalk.wrap64_in _ (by omega)
  have w4 : IntKind.i64.wrap (G + v) = G + v := IntWalk.i64_in _ (by omega)
  clear hF hk hm eF hv c1 c2 hG u1 u2 u3
  go_enter Try.func24, Try.ntmps24
  go_wp2_with fail
  try (go_quiet (fail))
  try (go_wp2_with fail)
  refine (C1.out _).mono ?_
  rintro e wb ⟨rfl, rfl⟩
  go_wp2_with fail
  refine (C2.out _).mono ?_
  rintro e wb ⟨rfl, rfl⟩
  go_wp2_with fail
  refine (C3.out _).mono ?_
  rintro e wb ⟨rfl, rfl⟩
  go_wp2_with fail
  refine (MD.out _).mono ?_
  rintro e wb ⟨rfl, j, rfl⟩
  clear MD C1 C2 C3
  go_wp2_with fail
  try (go_quiet (fail))
  try (go_wp2_with fail)
  go_ret2
  exact ⟨_, _, rfl, .inr ⟨OK.out, RV.out, rfl⟩, (by first | exact Below.refl _ _ | exact (Below.refl _ _).drew | exact below_drewN (Below.refl _ _) _)⟩
end Go.Proofs.Ytlahdfmciaibdaa

/- The reference's rows of digits: cmpD. -/
namespace Go.Proofs.Ytlahdfmciaibdaa
open Go.RowKit
set_option linter.unusedVariables false
set_option linter.unusedSimpArgs false

/-- The slice reads as this row. -/
def RowR (w : World) (p : Option Addr) (l : List Int) : Prop := ∀ i (h : i < l.length), ∃ g, p = some ⟨g, 0, none⟩ ∧ g < w.heap.size ∧ w.cell? ⟨g, i, none⟩ = some (.int .i64 l[i])

theorem RowR.below {w w' : World} {p : Option Addr} {l : List Int} (r : RowR w p l) (hb : Below w.heap.size w w') : RowR w' p l := fun i h => by
  obtain ⟨g, e, k, c⟩ := r i h
  exact ⟨g, e, Nat.lt_of_lt_of_le k hb.size, by rw [(bcell hb).1 g i k]; exact c⟩

/-- cmpD's answer. -/
def cmpZ (a b : Int) : Int := if a < b then -1 else if b < a then 1 else 0

theorem cmpD_any (pa pb : Option Addr) (ca cb : Nat) (a b : List Int) (w : World) (ha : Digs a) (hb : Digs b) (na : Norm a) (nb : Norm b) (ra : RowR w pa a) (rb : RowR w pb b) (la : a.length ≤ 1000000) (lb : b.length ≤ 1000000) :
    Calls Try.prog 88 #[.slice pa a.length ca, .slice pb b.length cb] w fun e w' => e = .returned (.int .i64 (cmpZ (dval a) (dval b))) ∧ ∃ n, w' = w.drewN n := by
  by_cases h1 : a.length < b.length
  · have k := dval_shorter ha hb nb h1
    have K : Hid (-1 = cmpZ (dval a) (dval b)) := by show -1 = cmpZ _ _; unfold cmpZ; rw [if_pos k]
    clear k ra rb na nb ha hb
    generalize cmpZ (dval a) (dval b) = V at *
    generalize a.length = x at *
    generalize b.length = y at *
    go_enter Try.func88, Try.ntmps88
    go_wp2
    go_ret
    exact ⟨ret_i K.out, 0, rfl⟩
  by_cases h2 : b.length < a.length
  · have k := dval_shorter hb ha na h2
    have K : Hid (1 = cmpZ (dval a) (dval b)) := by show 1 = cmpZ _ _; unfold cmpZ; rw [if_neg (by omega), if_pos k]
    clear k ra rb na nb ha hb
    generalize cmpZ (dval a) (dval b) = V at *
    generalize a.length = x at *
    generalize b.length = y at *
    go_enter Try.func88, Try.ntmps88
    go_wp2
    go_ret
    exact ⟨ret_i K.out, 0, rfl⟩
  have h3 : a.length = b.length := by omega
  have H3 := Lib.hid h3
  generalize hx : a.length = x at *
  rw [← h3]
  clear h3 h1 h2
  generalize hV : cmpZ (dval a) (dval b) = V
  have HV := Lib.hid hV
  clear hV
  have Ra := Lib.hid ra
  have Rb := Lib.hid rb
  have Da := Lib.hid ha
  have Db := Lib.hid hb
  have Hx := Lib.hid hx
  clear ra rb ha hb na nb hx
  go_enter Try.func88, Try.ntmps88
  go_wp2
  go_loopw [5] (fun v wr => ∃ k : Nat, k ≤ x ∧ v = .int .i64 ((k : Int) - 1) ∧ Hid (a.drop k = b.drop k) ∧ ∃ n, wr = w.drewN n) (fun v _ => (intOf v + 1).toNat)
  case atStart => exact ⟨x, Nat.le_refl _, rfl, by show a.drop x = b.drop x; rw [List.drop_of_length_le (by have := Hx.out; omega), List.drop_of_length_le (by have := H3.out; omega)], 0, rfl⟩
  case round =>
    obtain ⟨k, hk, rfl, hd, n, rfl⟩ := hrel
    rcases k with _ | j
    · have K : Hid (0 = V) := by
        have e : a = b := by simpa using hd.out
        show 0 = V
        rw [← HV.out, e]; unfold cmpZ; rw [if_neg (by omega), if_neg (by omega)]
      clear hd
      go_wp2
      go_ret
      exact ⟨ret_i K.out, n, rfl⟩
    · have ja : j < a.length := by have := Hx.out; omega
      have jb : j < b.length := by have := H3.out; omega
      obtain ⟨ga, rfl, ka, cA⟩ := Ra.out j ja
      obtain ⟨gb, rfl, kb, cB⟩ := Rb.out j jb
      have eA : a = a.take j ++ a[j] :: a.drop (j + 1) := by simp
      have eB : b = b.take j ++ b[j] :: b.drop (j + 1) := by simp
      have dA : Digs (a.take j) := fun x m => Da.out x (List.mem_of_mem_take m)
      have dB : Digs (b.take j) := fun x m => Db.out x (List.mem_of_mem_take m)
      have rA := Da.out a[j] (List.getElem_mem ja)
      have rB := Db.out b[j] (List.getElem_mem jb)
      have lenE : (a.take j).length = (b.take j).length := by simp; omega
      have kLt : a[j] < b[j] → Hid (-1 = V) := fun t => by
        have := dval_at (c := b.drop (j + 1)) dA dB lenE t
        rw [← hd.out, ← eA, hd.out, ← eB] at this
        show -1 = V
        rw [← HV.out]; unfold cmpZ; rw [if_pos this]
      have kGt : b[j] < a[j] → Hid (1 = V) := fun t => by
        have := dval_at (c := b.drop (j + 1)) dB dA lenE.symm t
        rw [← eB, ← hd.out, ← eA] at this
        show 1 = V
        rw [← HV.out]; unfold cmpZ; rw [if_neg (by omega), if_pos this]
      have kEq : a[j] = b[j] → Hid (a.drop j = b.drop j) := fun t => by
        show a.drop j = b.drop j
        rw [List.drop_eq_getElem_cons ja, List.drop_eq_getElem_cons jb, t, hd.out]
      have e1 : (((j + 1 : Nat) : Int) - 1) = (j : Int) := by omega
      have j0 : (0 : Int) ≤ (j : Int) := by omega
      have jx : (j : Int) < (x : Int) := by omega
      rw [e1]
      generalize a[j] = u at *
      generalize b[j] = v at *
      clear eA eB dA dB lenE hd e1 ka kb
      rcases (by omega : u < v ∨ v < u ∨ (u ≤ v ∧ v ≤ u)) with t | t | ⟨t, t'⟩
      · have K := kLt t
        clear kLt kGt kEq
        go_wp2
        go_quiet (fail)
        go_wp2
        go_ret
        exact ⟨ret_i K.out, _, World.drewN_drewN _ _ _⟩
      · have K := kGt t
        clear kLt kGt kEq
        go_wp2
        go_quiet (fail)
        go_wp2
        go_quiet (fail)
        go_wp2
        go_ret
        exact ⟨ret_i K.out, _, by rw [World.drewN_drewN, World.drewN_drewN]⟩
      · have K := kEq (by omega)
        clear kLt kGt kEq
        go_wp2
        go_quiet (fail)
        go_wp2
        go_quiet (fail)
        go_wp2
        go_roundw
        case rel => exact ⟨j, by omega, rfl, K, _, by first | rfl | rw [World.drewN_drewN, World.drewN_drewN]⟩
        case measure => simp [intOf]
end Go.Proofs.Ytlahdfmciaibdaa

/- The reference's rows: trim. -/
namespace Go.Proofs.Ytlahdfmciaibdaa
open Go.RowKit
set_option linter.unusedVariables false
set_option linter.unusedSimpArgs false

theorem intInfo : (Try.prog.info? 3).map (fun i => (i.zero, i.size, i.bytes)) = some (some (.int .i64 0), 1, 8) := by kernel_rfl

/-- A call's result is a slice in new memory that reads as the digits of x. -/
def RowRes (x : Int) (n : Nat) (w : World) (e : Ending) (w' : World) : Prop :=
  ∃ t p c, e = .returned (.slice p t.length c) ∧ Can t x ∧ t.length ≤ n ∧ RowR w' p t ∧ (p = none → c = 0) ∧ (∀ a, p = some a → w.heap.size ≤ a.block) ∧ Below w.heap.size w w'

/-- What an owned row reads as. -/
theorem own_row {w : World} {base E : Nat} {v : Value} {n : Nat} {l : List Int} (h : w.ownsRow base E 1 v n (l.map (Value.int .i64))) :
    ∃ p c, v = .slice p l.length c ∧ l.length = n ∧ RowR w p l ∧ (p = none → c = 0) ∧ (∀ a, p = some a → base ≤ a.block) := by
  have hn : l.length = n := by have := h.1; simpa using this
  rcases h.2 with ⟨rfl, h0⟩ | ⟨g, cap, cur, rfl, hb, hg, _⟩
  · have l0 : l = [] := List.eq_nil_of_length_eq_zero (by omega)
    subst l0
    exact ⟨none, 0, rfl, hn, fun i hi => by simp at hi, fun _ => rfl, fun a ha => by cases ha⟩
  · refine ⟨some ⟨g, 0, none⟩, cap, by rw [hn], hn, fun i hi => ⟨g, rfl, (Array.getElem?_eq_some_iff.1 hg).1, ?_⟩, (fun e => by cases e), (fun a ha => by cases ha; exact hb)⟩
    rw [h.cellAt i (by omega)]
    simp [hi]

theorem own_lt {w : World} {base E : Nat} {v : Value} {n : Nat} {xs : List Value} (h : w.ownsRow base E 1 v n xs) : ∀ k, v.ownBlock = some k → base ≤ k := fun k hk => (h.lt k hk).1
theorem own_below {w w' : World} {base E : Nat} {v : Value} {n : Nat} {xs : List Value} (h : w.ownsRow base E 1 v n xs) (hb : Below w.heap.size w w') : w'.ownsRow base E 1 v n xs :=
  h.kept (row := none) ⟨hb.os, hb.tape, hb.output, hb.size, fun k hk _ => hb.block k hk⟩ (by
    rcases h.2 with ⟨rfl, _⟩ | ⟨g, cap, cur, rfl, _⟩
    · exact .inl rfl
    · exact .inr (by simp [Value.ownBlock]))

/-- One more element: what the laws on append leave, put together. -/
theorem own_snoc {W w w2 : World} {E : Nat} {v v' : Value} {k : Nat} {l : List Int} {x : Int} {xs : List Value} (o : Obj) (e : xs = l.map (Value.int .i64))
    (hb : Below W.heap.size W w) (hown : w.ownsRow W.heap.size E 1 v k (l.map (Value.int .i64)))
    (h1 : w2.ownsRow W.heap.size E 1 v' (k + 1) (xs ++ [.int .i64 x])) (h2 : (w.alloc o).grownBy w2 v.ownBlock) :
    w2.ownsRow W.heap.size E 1 v' (k + 1) ((l ++ [x]).map (Value.int .i64)) ∧ Below W.heap.size W w2 :=
  ⟨by subst e; simpa using h1, (hb.alloc hb.size o).grown h2 (by have := hb.size; simp; omega) (own_lt hown)⟩

theorem take_norm {l : List Int} {j : Nat} (h : j < l.length) (z : l[j] ≠ 0) : Norm (l.take (j + 1)) := by
  intro e
  rw [List.getLast_eq_getElem]
  simp only [List.length_take, Nat.min_eq_left (show j + 1 ≤ l.length by omega), Nat.add_sub_cancel, List.getElem_take]
  exact z

theorem trim_can {l : List Int} {k : Nat} (hd : Digs l) (hz : ∀ y ∈ l.drop k, y = 0) (hn : Norm (l.take k)) : Can (l.take k) (dval l) := ⟨hd.take k, hn, dval_take_zeros hz⟩

set_option maxHeartbeats 400000 in
theorem trim_any (p : Option Addr) (c : Nat) (l : List Int) (w : World) (hd : Digs l) (r : RowR w p l) (ln : l.length ≤ 1000000) :
    Calls Try.prog 116 #[.slice p l.length c] w (RowRes (dval l) l.length w) := by
  obtain ⟨i0, hi, hz0, hz1, hz2⟩ := info_parts intInfo
  generalize hx : l.length = x at *
  have Hx := Lib.hid hx; clear hx
  have R := Lib.hid r; clear r
  have D := Lib.hid hd; clear hd
  go_enter Try.func116, Try.ntmps116
  go_upto_block 0 with fail
  go_cut [3] from 8 to 19 (fun n wx => ∃ k : Nat, k ≤ x ∧ n = .int .i64 k ∧ Hid (Can (l.take k) (dval l)) ∧ wx = w)
  case first =>
    go_wp2_with fail
    go_loop [3] (fun n => ∃ k : Nat, k ≤ x ∧ n = .int .i64 k ∧ Hid (∀ y ∈ l.drop k, y = 0)) (fun n => (intOf n).toNat)
    case atStart => exact ⟨x, Nat.le_refl _, rfl, by show ∀ y ∈ l.drop x, y = 0; rw [List.drop_of_length_le (by have := Hx.out; omega)]; intro y m; cases m⟩
    case round =>
      obtain ⟨k, hk, rfl, hz⟩ := hrel
      rcases k with _ | j
      · have K := Lib.hid (trim_can D.out hz.out (by rw [List.take_zero]; exact Norm.nil))
        clear hz
        go_wp2_with fail
        go_meet
        exact ⟨0, Nat.zero_le _, rfl, K, rfl⟩
      · have ja : j < l.length := by have := Hx.out; omega
        obtain ⟨ga, rfl, ka, cA⟩ := R.out j ja
        have j0 : (0 : Int) ≤ (j : Int) := by omega
        have jx : (j : Int) < (x : Int) := by omega
        have K1 := Lib.hid (fun (z : l[j] ≠ 0) => trim_can D.out hz.out (take_norm ja z))
        have K2 := Lib.hid (fun (z : l[j] = 0) => show ∀ y ∈ l.drop j, y = 0 by
          rw [List.drop_eq_getElem_cons ja]; intro y m; rcases List.mem_cons.1 m with m | m; exact m.trans z; exact hz.out y m)
        generalize l[j] = u at *
        clear hz ka
        by_cases t : u = 0
        · subst t
          go_wp2_with fail
          go_round
          case rel => exact ⟨j, by omega, by go_num, K2.out rfl⟩
          case measure => simp [intOf]
        · have t' : (u == 0) = false := by simpa using t
          have T := Lib.hid t; clear t
          go_wp2_with fail
          go_meet
          exact ⟨j + 1, hk, by go_num, K1.out T.out, rfl⟩
  case rest =>
    obtain ⟨k, hk, rfl, hc, rfl⟩ := hcut
    go_wp2_with fail
    go_loopw [4, 5] (fun v i wr => ∃ m : Nat, m ≤ k ∧ i = .int .i64 m ∧ wr.ownsRow wc.heap.size 3 1 v m ((l.take m).map (Value.int .i64)) ∧ Below wc.heap.size wc wr) (fun _ i _ => k - (intOf i).toNat)
    case atStart => exact ⟨0, Nat.zero_le _, rfl, World.ownsRow_nil _ _ _ _, Below.refl _ _⟩
    case round =>
      obtain ⟨m, hm, rfl, hown, hb⟩ := hrel
      by_cases hmk : m < k
      · have ja : m < l.length := by have := Hx.out; omega
        obtain ⟨ga, rfl, ka, cA⟩ := R.out m ja
        have j0 : (0 : Int) ≤ (m : Int) := by omega
        have jx : (m : Int) < (x : Int) := by omega
        have cB : wr.cell? ⟨ga, m, none⟩ = some (.int .i64 l[m]) := by rw [hb.cell (by exact ka)]; exact cA
        have ET := Lib.hid (show l.take m ++ [l[m]] = l.take (m + 1) by simp)
        generalize l[m] = u at *
        clear cA ka
        go_wp2_with (first
          | (at_builtin; refine wpList_append_own _ rfl _ _ 31 rfl wc.heap.size 3 i0 (.int .i64 0) 1 8 Try.underlying31 hi hz0 hz1 hz2 rfl (by decide) _ _ _ rfl (hown.alloc _) ⟨wr.heap.size, 0, none⟩ 1 1 [.int .i64 u] rfl rfl ?c1 ?c2 ?c3 ?c4 ?c5 ?_))
        case c1 =>
          intro j u hj
          match j, hj with
          | 0, hj => simp at hj; subst hj; simp [Addr.add]
        case c2 => intro u hu; simp at hu; subst hu; rfl
        case c3 => unfold maxLen; omega
        case c4 => omega
        case c5 => have := hb.size; simp; omega
        intro v' w1 hown' hgrow _
        have RR := own_snoc (l := l.take m) _ (by simp) hb hown hown' hgrow
        rw [ET.out] at RR
        clear hown' hgrow hown hb cB
        go_wp2
        go_roundw
        case rel => exact ⟨m + 1, by omega, by go_num, RR.1, RR.2⟩
        case measure => simp [intOf]; omega
      · have e : m = k := by omega
        obtain ⟨q, cc, hv, hlen, hr, hn, hf⟩ := own_row hown
        have E := Lib.hid e
        subst hv
        have HL := Lib.hid hlen; clear hlen e
        go_wp2
        go_ret
        refine ⟨_, q, cc, rfl, ?_, ?_, hr, hn, hf, hb⟩
        · rw [E.out]; exact hc.out
        · have := HL.out; omega
end Go.Proofs.Ytlahdfmciaibdaa
