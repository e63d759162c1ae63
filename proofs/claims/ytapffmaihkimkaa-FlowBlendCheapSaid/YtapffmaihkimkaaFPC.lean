/- Flow: what the law of cheap blends makes of a blend. -/
import Derived.Test.YtapffmaihkimkaaFP7
namespace Go.Proofs.Ytapffmaihkimkaa
open Go.RowKit
set_option linter.unusedVariables false
set_option linter.unusedSimpArgs false

theorem psum_le {w O : Nat → Int} {a m : Int} : ∀ {k : Nat}, (∀ j, j < k → (0 ≤ O j ∧ O j ≤ a) ∧ 0 ≤ w j ∧ w j ≤ m) → 0 ≤ psum w O k ∧ psum w O k ≤ k * (a * m)
  | 0, _ => ⟨Int.le_refl _, by show (0 : Int) ≤ _; simp⟩
  | k + 1, h => by
    have h1 := psum_le (k := k) fun j hj => h j (by omega)
    obtain ⟨⟨p, b⟩, c, d⟩ := h k (by omega)
    have h2 := Int.mul_nonneg p c
    have h3 := Int.mul_le_mul b d c (by omega)
    have e : ((k + 1 : Nat) : Int) * (a * m) = k * (a * m) + a * m := by rw [Int.natCast_add, Int.add_mul]; simp
    rw [e]
    show 0 ≤ psum w O k + O k * w k ∧ psum w O k + O k * w k ≤ _
    omega
/-- The numbers are a blend. -/
def LB (m : Nat) (A : Nat → Pa) (b l h : Int) (k : Nat) (M : Nat → Int) : Prop := k = m ∧ (∀ i, i < m → 0 ≤ M i ∧ M i ≤ (A i).ba) ∧ psum (fun _ => 1) M m = b ∧ l * b ≤ psum (fun j => (A j).mi) M m ∧ psum (fun j => (A j).mi) M m ≤ h * b

set_option maxRecDepth 100000 in
set_option maxHeartbeats 8000000 in
theorem lblend_any (p : Option Addr) (c m : Nat) (A : Nat → Pa) (b l h : Int) (q : Option Addr) (d k : Nat) (M : Nat → Int) (w : World) (r : PaR w p m A) (r2 : NmR w q k M) (m6 : m ≤ 6) (ok : ∀ i, i < m → paOk (A i)) (bb : 1 ≤ b ∧ b ≤ 24) (bl : 0 ≤ l ∧ l ≤ 10000) (bh : 0 ≤ h ∧ h ≤ 10000) (lk : k ≤ 9223372036854775807) :
    Calls Try.prog 9 #[.slice p m c, .int .i64 b, .int .i64 l, .int .i64 h, .slice q k d] w fun e w' => ∃ x R, e = .returned (.tuple #[.int .i64 x, .bool R]) ∧ (R = true ↔ LB m A b l h k M) ∧ (R = true → x = psum (fun j => (A j).pr) M m) ∧ Below w.heap.size w w' := by
  by_cases km : k = m
  case neg =>
    have e1 : ((k : Int) == (m : Int)) = false := by simp; omega
    have e2 : ((k : Int) != (m : Int)) = true := by simp; omega
    have HB := Lib.hid (Below.refl w.heap.size w)
    have FF := Lib.hid (show false = true ↔ LB m A b l h k M from ⟨(fun h => by cases h), fun h => absurd h.1 km⟩)
    clear km r r2 ok bb bl bh
    go_enter Try.func9, Try.ntmps9
    go_wp2_with fail
    go_ret2
    exact ⟨_, _, rfl, (by simpa using FF.out), (fun h => by cases h), HB.out⟩
  subst km
  have e1 : ((k : Int) == (k : Int)) = true := by simp
  have e2 : ((k : Int) != (k : Int)) = false := by simp
  have R := Lib.hid r
  have R2 := Lib.hid r2
  have AOK := Lib.hid ok
  have wl : IntKind.i64.wrap (l * b) = l * b := hwI (by have := Int.mul_nonneg bl.1 (show 0 ≤ b by omega); omega) (by have := Int.mul_le_mul bl.2 bb.2 (by omega) (by omega); omega)
  have wh : IntKind.i64.wrap (h * b) = h * b := hwI (by have := Int.mul_nonneg bh.1 (show 0 ≤ b by omega); omega) (by have := Int.mul_le_mul bh.2 bb.2 (by omega) (by omega); omega)
  clear r r2 ok bl bh
  go_enter Try.func9, Try.ntmps9
  go_wp2_with fail
  go_loopw [12, 13, 14, 15] (fun nv sv cv iv wr => ∃ (i : Nat) (sn sm sp : Int), i ≤ k ∧ iv = .int .i64 i ∧ nv = .int .i64 sn ∧ sv = .int .i64 sm ∧ cv = .int .i64 sp ∧ Hid (sn = psum (fun _ => 1) M i) ∧ Hid (sm = psum (fun j => (A j).mi) M i) ∧ Hid (sp = psum (fun j => (A j).pr) M i) ∧ Hid (∀ j, j < i → 0 ≤ M j ∧ M j ≤ (A j).ba) ∧ Hid (Below w.heap.size w wr)) (fun _ _ _ iv _ => k - (intOf iv).toNat)
  case atStart => exact ⟨0, 0, 0, 0, Nat.zero_le _, rfl, rfl, rfl, rfl, Lib.hid rfl, Lib.hid rfl, Lib.hid rfl, Lib.hid (fun j hj => by omega), Lib.hid (Below.refl _ _)⟩
  case round =>
    obtain ⟨i, sn, sm, sp, hi2, rfl, rfl, rfl, rfl, SN, SM, SP, ALL, HB⟩ := hrel
    have bn := psum_le (w := (fun _ => 1)) (O := M) (a := 4096) (m := 1) (k := i) fun j hj => ⟨⟨(ALL.out j hj).1, Int.le_trans (ALL.out j hj).2 (AOK.out j (by omega)).1.2⟩, by decide, by decide⟩
    have bm := psum_le (w := (fun j => (A j).mi)) (O := M) (a := 4096) (m := 10000) (k := i) fun j hj => ⟨⟨(ALL.out j hj).1, Int.le_trans (ALL.out j hj).2 (AOK.out j (by omega)).1.2⟩, (AOK.out j (by omega)).2.2.1⟩
    have bp := psum_le (w := (fun j => (A j).pr)) (O := M) (a := 4096) (m := 16384) (k := i) fun j hj => ⟨⟨(ALL.out j hj).1, Int.le_trans (ALL.out j hj).2 (AOK.out j (by omega)).1.2⟩, (AOK.out j (by omega)).2.1⟩
    rw [← SN.out] at bn
    rw [← SM.out] at bm
    rw [← SP.out] at bp
    by_cases t1 : i < k
    · have i1 : (0 : Int) ≤ (i : Int) := by omega
      have i2 : (i : Int) < (k : Int) := by omega
      obtain ⟨xa, rfl, -, a0, a1, a2, -, -⟩ := (R.out.below HB.out) i t1
      obtain ⟨xb, rfl, -, cr⟩ := (R2.out.below HB.out) i t1
      obtain ⟨⟨o0, o1⟩, ⟨o2, o3⟩, ⟨o4, o5⟩, -⟩ := AOK.out i t1
      have SN2 := Lib.hid (show sn + M i = psum (fun _ => 1) M (i + 1) from by rw [SN.out]; show _ = psum (fun _ => 1) M i + M i * 1; rw [Int.mul_one])
      have SM2 := Lib.hid (show sm + M i * (A i).mi = psum (fun j => (A j).mi) M (i + 1) from by rw [SM.out]; rfl)
      have SP2 := Lib.hid (show sp + M i * (A i).pr = psum (fun j => (A j).pr) M (i + 1) from by rw [SP.out]; rfl)
      have AL2 := Lib.hid (show 0 ≤ M i ∧ M i ≤ (A i).ba → ∀ j, j < i + 1 → 0 ≤ M j ∧ M j ≤ (A j).ba from fun g j hj => by
        by_cases e : j = i
        · rw [e]; exact g
        · exact ALL.out j (by omega))
      have NB := Lib.hid (show ¬ (0 ≤ M i ∧ M i ≤ (A i).ba) → (false = true ↔ LB k A b l h k M) from fun g => ⟨(fun h => by cases h), fun h => absurd (h.2.1 i t1) g⟩)
      clear SN SM SP ALL
      generalize M i = y at *
      generalize (A i).ba = v0 at *
      generalize (A i).mi = v2 at *
      generalize (A i).pr = v1 at *
      by_cases t2 : y < 0
      · have d2 : decide (y < 0) = true := decide_eq_true t2
        have FF := Lib.hid (NB.out (by omega))
        clear NB AL2 SN2 SM2 SP2 bn bm bp t2
        go_upto_region 7 with fail
        go_quiet (fail)
        go_wp2_with fail
        go_ret2
        exact ⟨_, _, rfl, (by simpa using FF.out), (fun h => by cases h), (by first | exact below_drewN HB.out _ | exact HB.out)⟩
      have d2 : decide (y < 0) = false := decide_eq_false t2
      by_cases t3 : v0 < y
      · have d3 : decide (v0 < y) = true := decide_eq_true t3
        have FF := Lib.hid (NB.out (by omega))
        clear NB AL2 SN2 SM2 SP2 bn bm bp t2 t3
        go_upto_region 7 with fail
        go_quiet (fail)
        go_wp2_with fail
        go_ret2
        exact ⟨_, _, rfl, (by simpa using FF.out), (fun h => by cases h), (by first | exact below_drewN HB.out _ | exact HB.out)⟩
      have d3 : decide (v0 < y) = false := decide_eq_false t3
      have m1 := Int.mul_nonneg (show 0 ≤ y by omega) o4
      have m2 := Int.mul_le_mul (show y ≤ 4096 by omega) o5 o4 (by omega)
      have m3 := Int.mul_nonneg (show 0 ≤ y by omega) o2
      have m4 := Int.mul_le_mul (show y ≤ 4096 by omega) o3 o2 (by omega)
      have ww0 : IntKind.i64.wrap (sn + y) = sn + y := hwI (by omega) (by omega)
      have ww1 : IntKind.i64.wrap (y * v2) = y * v2 := hwI (by omega) (by omega)
      have ww2 : IntKind.i64.wrap (sm + y * v2) = sm + y * v2 := hwI (by omega) (by omega)
      have ww3 : IntKind.i64.wrap (y * v1) = y * v1 := hwI (by omega) (by omega)
      have ww4 : IntKind.i64.wrap (sp + y * v1) = sp + y * v1 := hwI (by omega) (by omega)
      have AL3 := Lib.hid (AL2.out ⟨by omega, by omega⟩)
      clear NB AL2 m1 m2 m3 m4 bn bm bp o0 o1 o2 o3 o4 o5 t2 t3
      go_upto_region 7 with fail
      go_quiet (fail)
      go_upto_region 10 with fail
      go_quiet (fail)
      go_upto_region 11 with fail
      go_quiet (fail)
      go_wp2_with fail
      go_roundw
      case rel => exact ⟨i + 1, _, _, _, by omega, by go_num, rfl, rfl, rfl, SN2, SM2, SP2, AL3, (by first | exact Lib.hid (below_drewN (below_drewN (below_drewN HB.out _) _) _) | exact Lib.hid (below_drewN (below_drewN HB.out _) _) | exact Lib.hid (below_drewN HB.out _))⟩
      case measure => simp [intOf]; omega
    · obtain rfl : i = k := by omega
      have LQ := Lib.hid (show LB i A b l h i M ↔ (sn = b ∧ l * b ≤ sm ∧ sm ≤ h * b) from by
        rw [SN.out, SM.out]
        exact ⟨fun g => ⟨g.2.2.1, g.2.2.2.1, g.2.2.2.2⟩, fun g => ⟨rfl, ALL.out, g.1, g.2.1, g.2.2⟩⟩)
      have SPo := Lib.hid (show sp = psum (fun j => (A j).pr) M i from SP.out)
      clear SN SM SP ALL bn bm bp bb
      by_cases c1 : sn = b
      case neg =>
        have g1 : (sn == b) = false := by simpa using c1
        have FF := Lib.hid (show false = true ↔ LB i A b l h i M from ⟨(fun h => by cases h), fun h => absurd (LQ.out.1 h).1 c1⟩)
        clear c1 LQ
        go_wp2_with fail
        go_ret2
        exact ⟨_, _, rfl, (by simpa using FF.out), (fun h => by cases h), HB.out⟩
      have g1 : (sn == b) = true := by simpa using c1
      by_cases c2 : l * b ≤ sm
      case neg =>
        have g2 : decide (l * b ≤ sm) = false := decide_eq_false c2
        have FF := Lib.hid (show false = true ↔ LB i A b l h i M from ⟨(fun h => by cases h), fun h => absurd (LQ.out.1 h).2.1 c2⟩)
        clear c1 c2 LQ
        go_wp2_with fail
        go_ret2
        exact ⟨_, _, rfl, (by simpa using FF.out), (fun h => by cases h), HB.out⟩
      have g2 : decide (l * b ≤ sm) = true := decide_eq_true c2
      by_cases c3 : sm ≤ h * b
      case neg =>
        have g3 : decide (sm ≤ h * b) = false := decide_eq_false c3
        have FF := Lib.hid (show false = true ↔ LB i A b l h i M from ⟨(fun h => by cases h), fun h => absurd (LQ.out.1 h).2.2 c3⟩)
        clear c1 c2 c3 LQ
        go_wp2_with fail
        go_ret2
        exact ⟨_, _, rfl, (by simpa using FF.out), (fun h => by cases h), HB.out⟩
      have g3 : decide (sm ≤ h * b) = true := decide_eq_true c3
      have FF := Lib.hid (LQ.out.2 ⟨c1, c2, c3⟩)
      clear c1 c2 c3 LQ
      go_wp2_with fail
      go_ret2
      exact ⟨_, _, rfl, (by simpa using FF.out), fun _ => SPo.out, HB.out⟩
end Go.Proofs.Ytapffmaihkimkaa
