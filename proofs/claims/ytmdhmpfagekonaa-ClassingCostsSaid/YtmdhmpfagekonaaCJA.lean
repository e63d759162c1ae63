/- The law ClassingCosts: its walk. -/
import Derived.Test.YtmdhmpfagekonaaLH
import Derived.Test.YtmdhmpfagekonaaLJ
import Derived.Test.YtmdhmpfagekonaaCAA
namespace Go.Proofs.Ytmdhmpfagekonaa
open Go.RowKit Go.Proofs.Ytmdhmpfagekonaa.Ct Go.Proofs.Ytmdhmpfagekonaa.Ce Go.Proofs.Ytmdhmpfagekonaa.Stb
set_option linter.unusedVariables false
set_option linter.unusedSimpArgs false

theorem own_fl {W : World} {b n : Nat} {F : Nat → Fl} (h : OB W b 55 ((n + 1) * 6) (rowF (mkd F n))) : FlR W (some ⟨b, 0, none⟩) n F := fun i hi => by
  obtain ⟨x, e, k⟩ := (h.fl (n := n) (by omega)) i hi
  rw [show mkd F n i = F i from if_pos hi] at k
  exact ⟨x, e, k⟩

set_option maxRecDepth 100000 in
set_option maxHeartbeats 16000000 in
theorem classingCosts_walk (p : Option Addr) (c n : Nat) (F : Nat → Fl) (w : World) (r : FlR w p n F) (z : n ≤ 9223372036854775807) (kok : ∀ k, k < n → (F k).kok) (ls le sp : Int) (q : Option Addr) (d m : Nat) (L : Nat → Int) (rl : NmR w q m L) (zm : m ≤ 9223372036854775807) (pr : Int) (bp : -9223372036854775808 ≤ pr ∧ pr ≤ 9223372036854775807) :
    Calls Try.prog 4 #[.slice p n c, .agg #[.int .i64 ls, .int .i64 le, .int .i64 sp], .slice q m d, .int .i64 pr] w fun e w' => e = .returned (.bool true) ∧ Below w.heap.size w w' := by
  have AL := Lib.hid alive_any
  have R := Lib.hid r
  have RL := Lib.hid rl
  have KOK := Lib.hid kok
  have B1 := Lib.hid (show Below w.heap.size w (w.alloc (Obj.cells #[.int .i64 ls, .int .i64 le, .int .i64 sp] 24)) from (Below.refl _ _).alloc (Nat.le_refl _) _)
  have OS := Lib.hid (spBx w ls le sp)
  have FW := Lib.hid (fun W => few_any p c n W)
  clear r rl kok
  go_enter Try.func4, Try.ntmps4
  go_upto_region 1 with fail
  generalize (w.alloc (Obj.cells #[.int .i64 ls, .int .i64 le, .int .i64 sp] 24)) = wa at *
  by_cases t0 : n ≤ 140
  case neg =>
    rw [decide_eq_false t0] at FW
    go_wp2_with fail
    refine (FW.out _).mono ?_
    rintro e w1 ⟨rfl, rfl⟩
    go_wp2_with fail
    refine (AL.out _).mono ?_
    rintro e w2 ⟨rfl, st⟩
    have BB := Lib.hid (B1.out.trans (st.mono B1.out.size))
    go_wp2_with fail
    go_ret
    exact ⟨rfl, BB.out⟩
  rw [decide_eq_true t0] at FW
  by_cases t1 : 300 < m
  case pos =>
    have d1 : decide ((300 : Int) < (m : Int)) = true := decide_eq_true (by omega)
    go_wp2_with fail
    refine (FW.out _).mono ?_
    rintro e w1 ⟨rfl, rfl⟩
    go_wp2_with fail
    refine (AL.out _).mono ?_
    rintro e w2 ⟨rfl, st⟩
    have BB := Lib.hid (B1.out.trans (st.mono B1.out.size))
    go_wp2_with fail
    go_ret
    exact ⟨rfl, BB.out⟩
  have d1 : decide ((300 : Int) < (m : Int)) = false := decide_eq_false (by omega)
  have OW := Lib.hid (own_any p c n F wa (R.out.below B1.out) t0)
  go_wp2_with fail
  refine (FW.out _).mono ?_
  rintro e w1 ⟨rfl, rfl⟩
  go_wp2_with fail
  refine OW.out.mono ?_
  rintro e w1 ⟨b, rfl, ob, b1, lb⟩
  have HB := Lib.hid (B1.out.trans (b1.mono B1.out.size))
  have OS1 := Lib.hid (OS.out.below b1)
  have OB1 := Lib.hid ob
  have LB := Lib.hid ob.lt
  clear b1 B1 OS ob lb OW FW
  have s0 : w1.cell? ⟨w.heap.size, 0, none⟩ = some (.int .i64 ls) := OS1.out.cell (k := 0) (by decide)
  have s1 : w1.cell? ⟨w.heap.size, 1, none⟩ = some (.int .i64 le) := OS1.out.cell (k := 1) (by decide)
  have s2 : w1.cell? ⟨w.heap.size, 2, none⟩ = some (.int .i64 sp) := OS1.out.cell (k := 2) (by decide)
  have C1 := Lib.hid (Cost_any (some ⟨b, 0, none⟩) (n + 1) n F ls le sp q d m L w1 (own_fl OB1.out) (RL.out.below HB.out) t0 (by omega) KOK.out (fun x hx => by cases hx; exact LB.out))
  go_wp2_with fail
  refine C1.out.mono ?_
  rintro e w2 ⟨rfl, b1⟩
  replace HB := Lib.hid (HB.out.trans (b1.mono HB.out.size))
  replace OS1 := Lib.hid (OS1.out.below b1)
  replace OB1 := Lib.hid (OB1.out.below b1)
  replace LB := Lib.hid OB1.out.lt
  clear b1 C1 s0 s1 s2
  have s0 : w2.cell? ⟨w.heap.size, 0, none⟩ = some (.int .i64 ls) := OS1.out.cell (k := 0) (by decide)
  have s1 : w2.cell? ⟨w.heap.size, 1, none⟩ = some (.int .i64 le) := OS1.out.cell (k := 1) (by decide)
  have s2 : w2.cell? ⟨w.heap.size, 2, none⟩ = some (.int .i64 sp) := OS1.out.cell (k := 2) (by decide)
  have C2 := Lib.hid (rCost_any p c n F ls le sp q d m L w2 (R.out.below HB.out) (RL.out.below HB.out) t0 (by omega) KOK.out)
  generalize coV ls le sp F n L m = cv at *
  obtain ⟨cv1, cv2⟩ := cv
  go_wp2_with fail
  refine C2.out.mono ?_
  rintro e w3 ⟨rfl, b1⟩
  replace HB := Lib.hid (HB.out.trans (b1.mono HB.out.size))
  replace OS1 := Lib.hid (OS1.out.below b1)
  replace OB1 := Lib.hid (OB1.out.below b1)
  replace LB := Lib.hid OB1.out.lt
  clear b1 C2 s0 s1 s2
  have s0 : w3.cell? ⟨w.heap.size, 0, none⟩ = some (.int .i64 ls) := OS1.out.cell (k := 0) (by decide)
  have s1 : w3.cell? ⟨w.heap.size, 1, none⟩ = some (.int .i64 le) := OS1.out.cell (k := 1) (by decide)
  have s2 : w3.cell? ⟨w.heap.size, 2, none⟩ = some (.int .i64 sp) := OS1.out.cell (k := 2) (by decide)
  have C3 := Lib.hid (Price_any (some ⟨b, 0, none⟩) (n + 1) n F ls le sp pr w3 (own_fl OB1.out) t0 KOK.out (fun x hx => by cases hx; exact LB.out))
  go_wp2_with fail
  refine C3.out.mono ?_
  rintro e w4 ⟨rfl, b1⟩
  replace HB := Lib.hid (HB.out.trans (b1.mono HB.out.size))
  replace OS1 := Lib.hid (OS1.out.below b1)
  replace OB1 := Lib.hid (OB1.out.below b1)
  clear b1 C3 s0 s1 s2
  have s0 : w4.cell? ⟨w.heap.size, 0, none⟩ = some (.int .i64 ls) := OS1.out.cell (k := 0) (by decide)
  have s1 : w4.cell? ⟨w.heap.size, 1, none⟩ = some (.int .i64 le) := OS1.out.cell (k := 1) (by decide)
  have s2 : w4.cell? ⟨w.heap.size, 2, none⟩ = some (.int .i64 sp) := OS1.out.cell (k := 2) (by decide)
  have C4 := Lib.hid (rPrice_any p c n F ls le sp pr w4 (R.out.below HB.out) t0 KOK.out)
  generalize prV ls le sp F n pr = pv at *
  obtain ⟨pv1, pv2⟩ := pv
  go_wp2_with fail
  refine C4.out.mono ?_
  rintro e w5 ⟨rfl, b1⟩
  replace HB := Lib.hid (HB.out.trans (b1.mono HB.out.size))
  replace OB1 := Lib.hid (OB1.out.below b1)
  clear b1 C4 s0 s1 s2 OS1 LB
  have C5 := Lib.hid (kept_any b p c n F w5 OB1.out (R.out.below HB.out) t0)
  go_wp2_with fail
  refine C5.out.mono ?_
  rintro e w6 ⟨rfl, b1⟩
  replace HB := Lib.hid (HB.out.trans (b1.mono HB.out.size))
  clear b1 C5
  go_wp2_with fail
  refine (AL.out _).mono ?_
  rintro e w7 ⟨rfl, b1⟩
  replace HB := Lib.hid (HB.out.trans (b1.mono HB.out.size))
  clear b1
  go_wp2_with fail
  go_ret
  exact ⟨rfl, HB.out⟩
end Go.Proofs.Ytmdhmpfagekonaa
