/- Classing: Micron. -/
import Derived.Test.YthbgeikdamajlaaHA3
namespace Go.Proofs.Ythbgeikdamajlaa
open Go.RowKit
set_option linter.unusedVariables false
set_option linter.unusedSimpArgs false

/-- What Micron answers. -/
def MicQ (H : Nat → Int) (z e : Int) : Prop := (¬ HOk H 64 ∧ e = 2 ∧ z = 0) ∨ (HOk H 64 ∧ hsum H 64 = 0 ∧ e = 5 ∧ z = 0) ∨ (HOk H 64 ∧ 0 < hsum H 64 ∧ e = 0 ∧ z = hev (hmom H 64 * 100) (hsum H 64))
theorem hsum_nonneg {H : Nat → Int} {n : Nat} (h : HOk H n) : 0 ≤ hsum H n := by
  have := hsum_mono (k := 0) h.1 (Nat.zero_le n); exact this
theorem hb_drewN (w : World) : ∀ n, Below w.heap.size w (w.drewN n) := fun n => ⟨rfl, rfl, rfl, Nat.le_refl _, fun _ _ => rfl⟩
theorem muldiv_mic (M S : Int) (h1 : 0 ≤ M) (h2 : M ≤ 63 * S) (h3 : 0 < S) (h4 : S ≤ 1048576) (w : World) :
    Calls Try.prog 59 #[.int .i64 M, .int .i64 100, .int .i64 S, .int .i64 4] w fun e w' => e = .returned (.tuple #[.int .i64 (hev (M * 100) S), .int .i64 0]) ∧ Below w.heap.size w w' := by
  refine (MulDiv_ok M 100 S 4 (wthB_true.2 (by omega)) (by decide) (wthB_true.2 (by omega)) (by decide) (by omega) w).mono ?_
  rintro e w' ⟨rfl, n, rfl⟩
  refine ⟨?_, hb_drewN w n⟩
  have e1 : decide (M < 0) = false := decide_eq_false (by omega)
  have e2 : decide (S < 0) = false := decide_eq_false (by omega)
  have e3 : (!((!(decide (M < 0) == decide ((100 : Int) < 0))) == decide (S < 0))) = false := by rw [e1, e2]; decide
  have e4 : ((M.natAbs : Int) * ((100 : Int).natAbs : Int)) = M * 100 := by rw [show ((100 : Int).natAbs : Int) = 100 from rfl]; omega
  have e5 : ((S.natAbs : Nat) : Int) = S := by omega
  rw [e3, e4, e5]
  have t := hev_two (M * 100) S h3
  have q : M * 100 / S ≤ 6300 := by
    have : M * 100 ≤ 6300 * S := by omega
    exact Int.ediv_le_of_le_mul h3 this
  have b : rndQ false (M * 100) S 4 ≤ 1125899906842624 := by
    show hev (M * 100) S ≤ _
    omega
  obtain ⟨v1, v2⟩ := rnd_ok b
  rw [v1, v2]
  rfl

set_option maxRecDepth 100000 in
set_option maxHeartbeats 4000000 in
theorem Micron_any (H : Nat → Int) (w : World) :
    Calls Try.prog 18 #[hV H] w fun e w' => ∃ z x, e = .returned (.tuple #[.int .i64 z, .int .i64 x]) ∧ MicQ H z x ∧ Below w.heap.size w w' := by
  have HQ := Lib.hid (show ∀ z e, MicQ H z e = ((¬ HOk H 64 ∧ e = 2 ∧ z = 0) ∨ (HOk H 64 ∧ hsum H 64 = 0 ∧ e = 5 ∧ z = 0) ∨ (HOk H 64 ∧ 0 < hsum H 64 ∧ e = 0 ∧ z = hev (hmom H 64 * 100) (hsum H 64))) from fun _ _ => rfl)
  have CT := Lib.hid (fun W => Total_any H W)
  have CM := Lib.hid (fun (ok : HOk H 64) W => moment_any H ok W)
  have BD := Lib.hid (show HB (w.alloc (Obj.cells (hC H) 23)) w.heap.size H ∧ Below w.heap.size w (w.alloc (Obj.cells (hC H) 23)) from ⟨heap_alloc_new w (Obj.cells (hC H) 23), (Below.refl _ w).alloc (Nat.le_refl _) _⟩)
  go_enter Try.func18, Try.ntmps18
  go_upto_region 1 with fail
  generalize w.alloc (Obj.cells (hC H) 23) = w1 at *
  obtain ⟨g, hg⟩ : ∃ g, g = w.heap.size := ⟨_, rfl⟩
  have BD := Lib.hid (show HB w1 g H ∧ Below w.heap.size w w1 from by rw [hg]; exact BD.out)
  rw [← hg]
  clear hg
  go_wp2_with (refine wpList_load_row rfl _ _ rfl g rfl _ (hC H) (0, 0) _ BD.out.1 Try.underlying23 rfl (histSize' H) ?_)
  refine (CT.out w1).mono ?_
  rintro e w2 ⟨n, x, rfl, tq, st⟩
  have TQ := Lib.hid tq
  have BD2 := Lib.hid (show HB w2 g H ∧ Below w.heap.size w w2 from ⟨BD.out.1.keep (st.block _ BD.out.1.lt), BD.out.2.trans (st.mono BD.out.2.size)⟩)
  clear tq st BD CT
  by_cases x0 : x = 0
  case neg =>
    have x1 : (x == 0) = false := by simpa using x0
    have x2 : (x != 0) = true := by simpa using x0
    have FF := Lib.hid (show MicQ H 0 x from by
      rw [HQ.out]
      rcases TQ.out with ⟨_, a, _⟩ | ⟨a, b, _⟩
      · exact absurd a x0
      · exact .inl ⟨a, b, rfl⟩)
    clear x0 CM HQ
    go_wp2_with fail
    go_ret2
    exact ⟨0, x, rfl, FF.out, BD2.out.2⟩
  subst x0
  obtain ⟨ok, rfl⟩ : HOk H 64 ∧ n = hsum H 64 := by
    rcases TQ.out with ⟨a, _, b⟩ | ⟨_, a, _⟩
    · exact ⟨a, b⟩
    · omega
  have OK := Lib.hid ok
  have S0 := hsum_nonneg ok
  have S1 := ok.2
  have MB := hmom_bd (n := 64) (by omega) ok
  have CM2 := Lib.hid (CM.out ok)
  have MD := Lib.hid (fun (h : 0 < hsum H 64) W => muldiv_mic (hmom H 64) (hsum H 64) MB.1 MB.2 h S1 W)
  have MZ := Lib.hid (fun W => MulDiv_zero (hmom H 64) 100 4 (wthB_true.2 (by omega)) (by decide) (by decide) W)
  have FZ := Lib.hid (show hsum H 64 = 0 → MicQ H 0 5 from fun h => by rw [HQ.out]; exact .inr (.inl ⟨OK.out, h, rfl, rfl⟩))
  have FG := Lib.hid (show 0 < hsum H 64 → MicQ H (hev (hmom H 64 * 100) (hsum H 64)) 0 from fun h => by rw [HQ.out]; exact .inr (.inr ⟨OK.out, h, rfl, rfl⟩))
  have x1 : ((0 : Int) == 0) = true := by decide
  have x2 : ((0 : Int) != 0) = false := by decide
  clear ok CM TQ HQ MB
  generalize hev (hmom H 64 * 100) (hsum H 64) = z at *
  generalize hmom H 64 = M at *
  generalize hsum H 64 = S at *
  go_wp2_with (refine wpList_load_row rfl _ _ rfl g rfl _ (hC H) (0, 0) _ BD2.out.1 Try.underlying23 rfl (histSize' H) ?_)
  refine (CM2.out w2).mono ?_
  rintro e w3 ⟨rfl, st⟩
  have BD3 := Lib.hid (show Below w.heap.size w w3 from BD2.out.2.trans (st.mono BD2.out.2.size))
  clear st CM2 BD2
  by_cases s0 : S = 0
  · have FF := Lib.hid (FZ.out s0)
    subst s0
    clear FZ FG MD
    go_wp2_with fail
    refine (MZ.out w3).mono ?_
    rintro e w4 ⟨rfl, rfl⟩
    go_wp2_with fail
    go_ret2
    exact ⟨0, 5, rfl, FF.out, BD3.out⟩
  · have FF := Lib.hid (FG.out (by omega))
    have MC := Lib.hid (MD.out (by omega))
    clear FZ FG MZ MD
    go_wp2_with fail
    refine (MC.out w3).mono ?_
    rintro e w4 ⟨rfl, st⟩
    have BD4 := Lib.hid (BD3.out.trans (st.mono BD3.out.size))
    clear st BD3
    go_wp2_with fail
    go_ret2
    exact ⟨z, 0, rfl, FF.out, BD4.out⟩
end Go.Proofs.Ythbgeikdamajlaa
