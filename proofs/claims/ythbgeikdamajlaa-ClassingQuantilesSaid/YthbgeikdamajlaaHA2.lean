/- Classing: the first moment; Micron. -/
import Derived.Test.YthbgeikdamajlaaHA1
import Derived.Test.YthbgeikdamajlaaB10
namespace Go.Proofs.Ythbgeikdamajlaa
open Go.RowKit
set_option linter.unusedVariables false
set_option linter.unusedSimpArgs false

/-- The first moment of the first k counts. -/
def hmom (H : Nat → Int) (k : Nat) : Int := hsum (fun j => H j * (j : Int)) k
theorem hmom_bd {H : Nat → Int} : ∀ {n : Nat}, n ≤ 64 → HOk H n → 0 ≤ hmom H n ∧ hmom H n ≤ 63 * hsum H n
  | 0, _, _ => by simp [hmom, hsum]
  | n + 1, hn, h => by
    have ih := hmom_bd (n := n) (by omega) (h.less (by omega))
    have h0 := h.1 n (by omega)
    have e1 : hmom H (n + 1) = hmom H n + H n * (n : Int) := rfl
    have e2 : hsum H (n + 1) = hsum H n + H n := rfl
    have p0 : 0 ≤ H n * (n : Int) := Int.mul_nonneg h0 (by omega)
    have p1 : H n * (n : Int) ≤ H n * 63 := Int.mul_le_mul_of_nonneg_left (by omega) h0
    rw [e1, e2]; omega

set_option maxRecDepth 100000 in
set_option maxHeartbeats 4000000 in
theorem moment_any (H : Nat → Int) (ok : HOk H 64) (w : World) :
    Calls Try.prog 60 #[hV H, .int .i64 1] w fun e w' => e = .returned (.int .i64 (hmom H 64)) ∧ Below w.heap.size w w' := by
  have IX := Lib.hid (fun (k : Nat) (hk : k < 64) => index_hist H hk)
  have OK := Lib.hid ok
  have BD := Lib.hid (heap_alloc_new w (Obj.cells (hC H) 23))
  have B1 := Lib.hid (show Below w.heap.size w (w.alloc (Obj.cells (hC H) 23)) from (Below.refl _ w).alloc (Nat.le_refl _) _)
  clear ok
  go_enter Try.func60, Try.ntmps60
  go_upto_region 2 with fail
  generalize w.alloc (Obj.cells (hC H) 23) = w1 at *
  obtain ⟨g, hg⟩ : ∃ g, g = w.heap.size := ⟨_, rfl⟩
  rw [← hg] at BD ⊢
  clear hg
  go_upto_region 3 with (refine wpList_load_row rfl _ _ rfl g rfl _ (hC H) (0, 0) _ BD.out Try.underlying23 rfl (histSize' H) ?_)
  clear BD
  go_loopw [5, 9] (fun sv kv wr => ∃ k : Nat, k ≤ 64 ∧ kv = .int .i64 k ∧ sv = .int .i64 (hmom H k) ∧ wr = w1) (fun _ kv _ => 64 - (intOf kv).toNat)
  case atStart => exact ⟨0, by omega, rfl, rfl, rfl⟩
  case round =>
    obtain ⟨k, hk, rfl, rfl, rfl⟩ := hrel
    by_cases t1 : k < 64
    · have k2 : (k : Int) < 64 := by omega
      have ix := IX.out k t1
      have SS := Lib.hid (show hmom H (k + 1) = hmom H k + H k * (k : Int) from rfl)
      have b1 := hmom_bd (n := k) (by omega) (OK.out.less (by omega))
      have b2 := (OK.out.less (k := k) (by omega)).2
      have b3 := hmom_bd (n := k + 1) (by omega) (OK.out.less (by omega))
      have b4 := (OK.out.less (k := k + 1) (by omega)).2
      rw [SS.out] at b3
      have xb : 0 ≤ H k ∧ H k ≤ 1048576 := by
        have h0 := OK.out.1 k (by omega)
        have h1 : hsum H (k + 1) = hsum H k + H k := rfl
        have h2 : 0 ≤ hsum H k := by have := hsum_mono (k := 0) (fun j hj => OK.out.1 j (by omega)) (Nat.zero_le k); exact this
        omega
      generalize hmom H k = S at *
      obtain ⟨z, hz⟩ : ∃ z, z = H k * (k : Int) := ⟨_, rfl⟩
      rw [← hz] at SS b3
      have wM : IntKind.i64.wrap (H k * (k : Int)) = z := by rw [← hz]; exact hwI (by omega) (by omega)
      have wM2 : wrap64 (H k * (k : Int)) = z := by rw [← IntWalk.i64_left]; exact wM
      have wS : IntKind.i64.wrap (S + z) = S + z := hwI (by omega) (by omega)
      generalize H k = x at *
      clear hz b2 b4
      go_upto_region 6 with fail
      rename World => wv
      go_loopw [7, 14] (fun cv jv wq => ((jv = .int .i64 0 ∧ cv = .int .i64 x) ∨ (jv = .int .i64 1 ∧ cv = .int .i64 z)) ∧ wq = wv) (fun _ jv _ => 1 - (intOf jv).toNat)
      case atStart => exact ⟨.inl ⟨rfl, rfl⟩, rfl⟩
      case round =>
        obtain ⟨h, rfl⟩ := hrel
        rcases h with ⟨rfl, rfl⟩ | ⟨rfl, rfl⟩
        · clear wS SS
          go_wp2_with fail
          go_roundw
          case rel => exact ⟨.inr ⟨by go_num, by first | rfl | trivial⟩, by first | rfl | trivial⟩
          case measure => simp [intOf]
        · clear wM wM2
          go_wp2_with fail
          go_roundw
          case rel => exact ⟨k + 1, by omega, by go_num, by rw [SS.out], by first | rfl | trivial⟩
          case measure => simp [intOf]; omega
    obtain rfl : k = 64 := by omega
    clear OK IX
    go_wp2_with fail
    go_ret
    exact ⟨rfl, B1.out⟩
end Go.Proofs.Ythbgeikdamajlaa
