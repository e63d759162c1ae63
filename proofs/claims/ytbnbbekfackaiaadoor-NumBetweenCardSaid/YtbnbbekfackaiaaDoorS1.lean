/- num.simplest: the simplest fraction strictly between two. -/
import Derived.Test.YtbnbbekfackaiaaDoorB0
namespace Go.Proofs.YtbnbbekfackaiaaDoor
open Go.RowKit
set_option linter.unusedVariables false
set_option linter.unusedSimpArgs false

/-- p/q lies strictly between an/ad and bn/bd. -/
def Betw (an ad bn bd p q : Int) : Prop := an * q < p * ad ∧ p * bd < bn * q
/-- n/d is the simplest fraction strictly between. -/
def Simp (an ad bn bd n d : Int) : Prop := 1 ≤ n ∧ 1 ≤ d ∧ Betw an ad bn bd n d ∧ ∀ p q : Int, 1 ≤ q → Betw an ad bn bd p q → d ≤ q ∧ n ≤ p
theorem betw_med {an ad bn bd : Int} (h : an * bd < bn * ad) : Betw an ad bn bd (an + bn) (ad + bd) := by
  unfold Betw; constructor <;> grind
/-- A numerator strictly between is above the floor of the first times its denominator. -/
theorem betw_above {an ad bn bd p q k : Int} (ha : 1 ≤ ad) (hq : 1 ≤ q) (hk : k * ad ≤ an) (h : Betw an ad bn bd p q) : k * q + 1 ≤ p := by
  have h1 := h.1
  have h2 : k * ad * q ≤ an * q := Int.mul_le_mul_of_nonneg_right hk (by omega)
  have h3 : (k * q) * ad < p * ad := by grind
  have := Int.lt_of_mul_lt_mul_right h3 (by omega)
  omega
theorem simp_base {an ad bn bd k : Int} (ha : 1 ≤ ad) (h0 : 0 ≤ k) (hk : k * ad ≤ an) (hk2 : an < (k + 1) * ad) (h : (k + 1) * bd < bn) : Simp an ad bn bd (k + 1) 1 := by
  refine ⟨by omega, by omega, ⟨by omega, by omega⟩, fun p q hq hb => ⟨hq, ?_⟩⟩
  have h1 := betw_above ha hq hk hb
  have h2 : k * 1 ≤ k * q := Int.mul_le_mul_of_nonneg_left hq h0
  omega
theorem simp_step {an ad bn bd k n d : Int} (ha : 1 ≤ ad) (h0 : 0 ≤ k) (hk : k * ad ≤ an)
    (h : Simp bd (bn - k * bd) ad (an - k * ad) n d) : Simp an ad bn bd (k * n + d) n := by
  obtain ⟨hn, hd, ⟨b1, b2⟩, hm⟩ := h
  have kn : 0 ≤ k * n := Int.mul_nonneg h0 (by omega)
  refine ⟨by omega, hn, ⟨by grind, by grind⟩, fun p q hq hb => ?_⟩
  have h1 := betw_above ha hq hk hb
  obtain ⟨c1, c2⟩ := hb
  obtain ⟨e1, e2⟩ := hm q (p - k * q) (by omega) ⟨by grind, by grind⟩
  have h2 : k * n ≤ k * q := Int.mul_le_mul_of_nonneg_left e2 h0
  refine ⟨e2, by omega⟩

/-- The first numbers of a walk through simplest. -/
theorem simp_nums {an ad bn bd : Int} (h1 : 0 ≤ an) (h2 : an ≤ 1099511627776) (h3 : 1 ≤ ad) (h4 : ad ≤ 1048576) (h5 : bn ≤ 1099511627776) (h6 : 0 ≤ bd) (h7 : bd ≤ 1048576) (h8 : an * bd < bn * ad) :
    0 ≤ an / ad ∧ an / ad ≤ 1099511627776 ∧ an / ad * ad ≤ an ∧ an < (an / ad + 1) * ad ∧ 0 ≤ an / ad * bd ∧ an / ad * bd < bn ∧ 0 ≤ (an / ad + 1) * bd ∧ (an / ad + 1) * bd ≤ 1152921504608649216 ∧ 1 ≤ bn ∧ 0 ≤ an / ad * ad := by
  have k0 : 0 ≤ an / ad := Int.ediv_nonneg h1 (by omega)
  have k1 : an / ad * ad ≤ an := Int.ediv_mul_le an (by omega)
  have k2 : an < (an / ad + 1) * ad := Int.lt_ediv_add_one_mul_self an (by omega)
  generalize an / ad = k at *
  have k3 : k * 1 ≤ k * ad := Int.mul_le_mul_of_nonneg_left h3 k0
  have k4 : 0 ≤ k * bd := Int.mul_nonneg k0 h6
  have k5 : (k + 1) * bd ≤ 1099511627777 * 1048576 := Int.mul_le_mul (by omega) h7 h6 (by omega)
  have k6 : 0 ≤ (k + 1) * bd := Int.mul_nonneg (by omega) h6
  have k7 : k * ad * bd ≤ an * bd := Int.mul_le_mul_of_nonneg_right k1 h6
  have k8 : (k * bd) * ad < bn * ad := by grind
  have k9 := Int.lt_of_mul_lt_mul_right k8 (by omega)
  refine ⟨k0, by omega, k1, k2, k4, k9, k6, by omega, by omega, by omega⟩
def SimpR (an ad bn bd : Int) (w : World) (e : Ending) (w' : World) : Prop := ∃ n d, e = .returned (.tuple #[.int .i64 n, .int .i64 d]) ∧ Simp an ad bn bd n d ∧ Below w.heap.size w w'

set_option maxRecDepth 100000 in
set_option maxHeartbeats 1000000 in
theorem simplest_any (m : Nat) : ∀ (an ad bn bd : Int), (ad + bd).toNat ≤ m → 0 ≤ an → an ≤ 1099511627776 → 1 ≤ ad → ad ≤ 1048576 → bn ≤ 1099511627776 → 0 ≤ bd → bd ≤ 1048576 → an * bd < bn * ad → ∀ w,
    Calls Tryd.prog 74 #[.int .i64 an, .int .i64 ad, .int .i64 bn, .int .i64 bd] w (SimpR an ad bn bd w) := by
  induction m with
  | zero => intro an ad bn bd hm; omega
  | succ m ih =>
    intro an ad bn bd hm h1 h2 h3 h4 h5 h6 h7 h8 w
    obtain ⟨k0, k1, k2, k3, k4, k5, k6, k7, k8, k9⟩ := simp_nums h1 h2 h3 h4 h5 h6 h7 h8
    have H8 := Lib.hid h8
    have HM := Lib.hid hm
    have K3 := Lib.hid k3
    clear h8 hm k3
    rcases (by omega : bd = 0 ∨ 1 ≤ bd) with hb | hb
    · subst hb
      have FIN : Hid (Simp an ad bn 0 (an / ad + 1) 1) := simp_base h3 k0 k2 K3.out (by omega)
      clear ih
      go_enter Tryd.func74, Tryd.ntmps74
      go_wp2
      go_ret2
      exact ⟨_, _, rfl, FIN.out, by go_grown⟩
    · by_cases hc : (an / ad + 1) * bd < bn
      · have FIN : Hid (Simp an ad bn bd (an / ad + 1) 1) := simp_base h3 k0 k2 K3.out hc
        clear ih
        go_enter Tryd.func74, Tryd.ntmps74
        go_wp2
        go_ret2
        exact ⟨_, _, rfl, FIN.out, by go_grown⟩
      · have q1 : (an / ad + 1) * bd = an / ad * bd + bd := by rw [Int.add_mul]; omega
        have q2 : (an / ad + 1) * ad = an / ad * ad + ad := by rw [Int.add_mul]; omega
        have q3 : an - an / ad * ad < ad := by have := K3.out; omega
        have IH := Lib.hid (fun w => ih bd (bn - an / ad * bd) ad (an - an / ad * ad) (by have := HM.out; omega) h6 (by omega) (by omega) (by omega) (by omega) (by omega) (by omega) (by have := H8.out; grind) w)
        have MED := Lib.hid (betw_med H8.out)
        have STEP : Hid (∀ n d, Simp bd (bn - an / ad * bd) ad (an - an / ad * ad) n d → Simp an ad bn bd (an / ad * n + d) n) := fun n d h => simp_step h3 k0 k2 h
        clear ih q1 q2
        go_enter Tryd.func74, Tryd.ntmps74
        go_wp2_with fail
        refine (IH.out _).mono ?_
        rintro e w1 ⟨n, d, rfl, hs, hbel⟩
        have n1 := hs.1
        have n2 := hs.2.1
        have HS := Lib.hid (STEP.out n d hs)
        have n3 : 0 ≤ an / ad * n := Int.mul_nonneg k0 (by omega)
        have n4 : an / ad * n + d ≤ an + bn := (HS.out.2.2.2 _ _ (by omega) MED.out).2
        have HB := Lib.hid hbel
        clear hs hbel IH STEP MED
        go_wp2_with fail
        go_ret2
        exact ⟨_, _, rfl, HS.out, HB.out⟩
end Go.Proofs.YtbnbbekfackaiaaDoor
