/- Make, Add, Sub, Mul, Div and Cmp of package num, by what their results are. -/
import Derived.Test.YtbcfafihkdddeaaM1
namespace Go.Proofs.Ytbcfafihkdddeaa
open Go.RowKit
set_option linter.unusedVariables false
set_option linter.unusedSimpArgs false

/-- A struct result's value. -/
def fracV (V D E : Int) : Value := .tuple #[.agg #[.int .i64 V, .int .i64 D], .int .i64 E]

/-- What a call of a fraction's function leaves: a result of which R holds; old memory untouched. -/
def Res (R : Int → Int → Int → Prop) (w : World) (e : Ending) (w' : World) : Prop := ∃ V D E, R V D E ∧ e = .returned (fracV V D E) ∧ Below w.heap.size w w'

theorem lowest_rel (neg : Bool) (n d : Int) (h1 : 0 ≤ n) (h2 : n ≤ 18446744073709551615) (h3 : 1 ≤ d) (h4 : d ≤ 18446744073709551615) (w : World) :
    Calls Try.prog 120 #[.bool neg, .int .u64 n, .int .u64 d] w (Res (IsFrac (bif neg then -n else n) d) w) :=
  (lowest_any neg n d h1 h2 h3 h4 w).mono fun _ _ ⟨a, b⟩ => ⟨_, _, _, low_frac neg n d h1 h3, a, b⟩

theorem Make_zero (n : Int) (w : World) :
    Calls Try.prog 69 #[.int .i64 n, .int .i64 0] w (Res (fun V D E => V = 0 ∧ D = 0 ∧ E = 5) w) := by
  go_enter Try.func69, Try.ntmps69
  go_wp2_with fail
  exact bodyPost_ret (v := fracV 0 0 5) (by simp [results, Try.results69, go_sem, fracV]) rfl ⟨0, 0, 5, ⟨rfl, rfl, rfl⟩, rfl, (Below.refl _ _).alloc (Nat.le_refl _) _⟩

theorem Make_any (n d : Int) (n1 : -9223372036854775808 ≤ n) (n2 : n ≤ 9223372036854775807) (d1 : -9223372036854775808 ≤ d) (d2 : d ≤ 9223372036854775807) (hd : d ≠ 0) (w : World) :
    Calls Try.prog 69 #[.int .i64 n, .int .i64 d] w (Res (IsFrac n d) w) := by
  have hd' : (d == 0) = false := by simpa using hd
  have HD := Lib.hid hd; clear hd
  have z : (1 : Int) ≤ d.natAbs := by have := HD.out; omega
  go_enter Try.func69, Try.ntmps69
  go_wp2_with fail
  refine (size_any _ n1 n2 _).mono ?_
  rintro e w' ⟨rfl, rfl⟩
  go_wp2_with fail
  refine (size_any _ d1 d2 _).mono ?_
  rintro e w' ⟨rfl, rfl⟩
  go_wp2_with fail
  refine (lowest_rel _ _ _ (by omega) (by omega) z (by omega) _).mono ?_
  rintro e w1 ⟨V, D, E, hF, rfl, hb⟩
  unfold fracV
  have HF := Lib.hid (frac_size HD.out hF); clear hF
  obtain ⟨hc, hf⟩ := bcell hb
  have hz : w.heap.size < w1.heap.size := by have := hb.size; simp at this; omega
  go_wp2_with fail
  refine bodyPost_ret (v := fracV V D E) (by simp [results, Try.results69, go_sem, fracV, hc, hz]) rfl ⟨V, D, E, HF.out, rfl, ?_⟩
  exact ((((Below.refl _ _).alloc (Nat.le_refl _) _).trans (hb.mono (by simp))).setCell (by simp) _).setCell (by simp) _
end Go.Proofs.Ytbcfafihkdddeaa
