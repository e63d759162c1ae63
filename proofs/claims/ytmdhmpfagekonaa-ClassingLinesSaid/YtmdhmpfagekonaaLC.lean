/- Classing's lines: the checks, costWith, leastFrom, the comparison of the sort. -/
import Derived.Test.YtmdhmpfagekonaaLP
import Derived.Test.YtmdhmpfagekonaaLB
import Derived.Test.YtmdhmpfagekonaaCE4
import Derived.Lib.BytesEntry
import Derived.Laws.Externs
/- Classing's lines: the checks of fleeces and of lengths, on both sides. -/
namespace Go.Proofs.Ytmdhmpfagekonaa
open Go.RowKit Go.Proofs.Ytmdhmpfagekonaa.Ct Go.Proofs.Ytmdhmpfagekonaa.Ce Go.Proofs.Ytmdhmpfagekonaa.Stb
set_option linter.unusedVariables false
set_option linter.unusedSimpArgs false

theorem FlR.at1 {w : World} {p : Option Addr} {n : Nat} {A : Nat → Fl} (h : FlR w p n A) {i : Nat} (hi : i < n) {x : Addr} (e : p = some x) : FlAt w (x.add (i * 6)) (A i) := by
  obtain ⟨y, e', k⟩ := h i hi
  rw [e] at e'
  cases e'
  exact k
set_option maxRecDepth 100000 in
set_option maxHeartbeats 8000000 in
theorem check_any (p : Option Addr) (c n : Nat) (F : Nat → Fl) (ls le sp : Int) (w : World) (r : FlR w p n F) (ln : n ≤ 1000000) :
    Calls Try.prog 32 #[.slice p n c, .agg #[.int .i64 ls, .int .i64 le, .int .i64 sp]] w fun e w' => e = .returned (.int .i64 (flE ls le sp F n)) ∧ Below w.heap.size w w' := by
  have R := Lib.hid r
  clear r
  have B1 := Lib.hid (show Below w.heap.size w (w.alloc (Obj.cells #[.int .i64 ls, .int .i64 le, .int .i64 sp] 24)) from (Below.refl _ _).alloc (Nat.le_refl _) _)
  by_cases t0 : 128 < n
  case pos =>
    have t1 : decide ((128 : Int) < (n : Int)) = true := decide_eq_true (by omega)
    have E := Lib.hid (flE_3 (ls := ls) (le := le) (sp := sp) (F := F) t0)
    go_enter Try.func32, Try.ntmps32
    go_wp2_with fail
    go_ret
    exact ⟨ret_i E.out.symm, B1.out⟩
  have t1 : decide ((128 : Int) < (n : Int)) = false := decide_eq_false (by omega)
  have T0 := Lib.hid t0
  clear t0
  by_cases z0 : ls < 1
  case pos =>
    have d0 : decide (ls < 1) = true := decide_eq_true z0
    have E := Lib.hid (flE_s (ls := ls) (le := le) (sp := sp) (F := F) T0.out (fun h => by unfold spOk at h; omega))
    clear z0
    go_enter Try.func32, Try.ntmps32
    go_wp2_with fail
    go_ret
    exact ⟨ret_i E.out.symm, B1.out⟩
  have d0 : decide (ls < 1) = false := decide_eq_false z0
  by_cases z1 : 16 < ls
  case pos =>
    have d1 : decide (16 < ls) = true := decide_eq_true z1
    have E := Lib.hid (flE_s (ls := ls) (le := le) (sp := sp) (F := F) T0.out (fun h => by unfold spOk at h; omega))
    clear z0 z1
    go_enter Try.func32, Try.ntmps32
    go_wp2_with fail
    go_ret
    exact ⟨ret_i E.out.symm, B1.out⟩
  have d1 : decide (16 < ls) = false := decide_eq_false z1
  by_cases z2 : le < 0
  case pos =>
    have d2 : decide (le < 0) = true := decide_eq_true z2
    have E := Lib.hid (flE_s (ls := ls) (le := le) (sp := sp) (F := F) T0.out (fun h => by unfold spOk at h; omega))
    clear z0 z1 z2
    go_enter Try.func32, Try.ntmps32
    go_wp2_with fail
    go_ret
    exact ⟨ret_i E.out.symm, B1.out⟩
  have d2 : decide (le < 0) = false := decide_eq_false z2
  by_cases z3 : 1073741824 < le
  case pos =>
    have d3 : decide (1073741824 < le) = true := decide_eq_true z3
    have E := Lib.hid (flE_s (ls := ls) (le := le) (sp := sp) (F := F) T0.out (fun h => by unfold spOk at h; omega))
    clear z0 z1 z2 z3
    go_enter Try.func32, Try.ntmps32
    go_wp2_with fail
    go_ret
    exact ⟨ret_i E.out.symm, B1.out⟩
  have d3 : decide (1073741824 < le) = false := decide_eq_false z3
  by_cases z4 : sp < 0
  case pos =>
    have d4 : decide (sp < 0) = true := decide_eq_true z4
    have E := Lib.hid (flE_s (ls := ls) (le := le) (sp := sp) (F := F) T0.out (fun h => by unfold spOk at h; omega))
    clear z0 z1 z2 z3 z4
    go_enter Try.func32, Try.ntmps32
    go_wp2_with fail
    go_ret
    exact ⟨ret_i E.out.symm, B1.out⟩
  have d4 : decide (sp < 0) = false := decide_eq_false z4
  by_cases z5 : 10000 < sp
  case pos =>
    have d5 : decide (10000 < sp) = true := decide_eq_true z5
    have E := Lib.hid (flE_s (ls := ls) (le := le) (sp := sp) (F := F) T0.out (fun h => by unfold spOk at h; omega))
    clear z0 z1 z2 z3 z4 z5
    go_enter Try.func32, Try.ntmps32
    go_wp2_with fail
    go_ret
    exact ⟨ret_i E.out.symm, B1.out⟩
  have d5 : decide (10000 < sp) = false := decide_eq_false z5
  have SO := Lib.hid (show spOk ls le sp from by unfold spOk; omega)
  clear z0 z1 z2 z3 z4 z5
  go_enter Try.func32, Try.ntmps32
  go_wp2_with fail
  go_loopw [38] (fun kv wr => ∃ i : Nat, i ≤ n ∧ kv = .int .i64 i ∧ Hid (∀ k, k < i → (F k).ok) ∧ Hid (Below w.heap.size w wr)) (fun kv _ => n - (intOf kv).toNat)
  case atStart => exact ⟨0, Nat.zero_le _, rfl, Lib.hid (fun k h => absurd h (by omega)), B1⟩
  case round =>
    obtain ⟨i, hi, rfl, HO, HB⟩ := hrel
    by_cases t2 : i < n
    case pos =>
      have i1 : (0 : Int) ≤ (i : Int) := by omega
      have i2 : (i : Int) < (n : Int) := by omega
      obtain ⟨x, rfl, -⟩ := R.out i t2
      obtain ⟨-, a0, a1, a2, a3, a4, a5⟩ := (R.out.below HB.out).at1 t2 rfl
      have GO := Lib.hid (show (F i).ok → ∀ k, k < i + 1 → (F k).ok from fun h k hk => by
        by_cases e : k = i
        · rw [e]; exact h
        · exact HO.out k (by omega))
      have BA := Lib.hid (show ¬ (F i).ok → flE ls le sp F n = 2 from fun h => flE_f T0.out t2 h)
      have OK := Lib.hid (show (F i).ok ↔ (1 ≤ (F i).mic ∧ (F i).mic ≤ 10000) ∧ 1 ≤ (F i).gr ∧ (F i).gr ≤ 1073741824 from Iff.rfl)
      clear HO
      generalize F i = s at *
      have OBX := Lib.hid (ob_n6 wr s 55)
      have HB2 := Lib.hid (HB.out.alloc HB.out.size (Obj.cells #[.int .u8 s.ka, .int .u8 s.kb, .int .u8 s.kc, .int .u8 s.kd, .int .i64 s.mic, .int .i64 s.gr] 55))
      clear HB
      go_upto_region 10 with fail
      generalize (wr.alloc (Obj.cells #[.int .u8 s.ka, .int .u8 s.kb, .int .u8 s.kc, .int .u8 s.kd, .int .i64 s.mic, .int .i64 s.gr] 55)) = wa at *
      have b4 : wa.cell? ⟨wr.heap.size, 4, none⟩ = some (.int .i64 s.mic) := OBX.out.cell (k := 4) (by decide)
      have b5 : wa.cell? ⟨wr.heap.size, 5, none⟩ = some (.int .i64 s.gr) := OBX.out.cell (k := 5) (by decide)
      clear OBX a0 a1 a2 a3 a4 a5
      generalize s.mic = mi at *
      generalize s.gr = gr at *
      by_cases z0 : mi < 1
      case pos =>
        have d0 : decide (mi < 1) = true := decide_eq_true z0
        have E := Lib.hid (BA.out fun h => by have := OK.out.1 h; omega)
        clear BA GO OK z0
        go_wp2_with fail
        go_ret
        exact ⟨ret_i E.out.symm, HB2.out⟩
      have d0 : decide (mi < 1) = false := decide_eq_false z0
      by_cases z1 : 10000 < mi
      case pos =>
        have d1 : decide (10000 < mi) = true := decide_eq_true z1
        have E := Lib.hid (BA.out fun h => by have := OK.out.1 h; omega)
        clear BA GO OK z0 z1
        go_wp2_with fail
        go_ret
        exact ⟨ret_i E.out.symm, HB2.out⟩
      have d1 : decide (10000 < mi) = false := decide_eq_false z1
      by_cases z2 : gr < 1
      case pos =>
        have d2 : decide (gr < 1) = true := decide_eq_true z2
        have E := Lib.hid (BA.out fun h => by have := OK.out.1 h; omega)
        clear BA GO OK z0 z1 z2
        go_wp2_with fail
        go_ret
        exact ⟨ret_i E.out.symm, HB2.out⟩
      have d2 : decide (gr < 1) = false := decide_eq_false z2
      by_cases z3 : 1073741824 < gr
      case pos =>
        have d3 : decide (1073741824 < gr) = true := decide_eq_true z3
        have E := Lib.hid (BA.out fun h => by have := OK.out.1 h; omega)
        clear BA GO OK z0 z1 z2 z3
        go_wp2_with fail
        go_ret
        exact ⟨ret_i E.out.symm, HB2.out⟩
      have d3 : decide (1073741824 < gr) = false := decide_eq_false z3
      have G := Lib.hid (GO.out (OK.out.2 (by omega)))
      clear BA GO OK z0 z1 z2 z3
      go_wp2_with fail
      go_roundw
      case rel => exact ⟨i + 1, by omega, by go_num, G, HB2⟩
      case measure => simp [intOf]; omega
    obtain rfl : i = n := by omega
    have E := Lib.hid (flE_0 T0.out SO.out HO.out)
    go_wp2_with fail
    go_ret
    exact ⟨ret_i E.out.symm, HB.out⟩
set_option maxRecDepth 100000 in
set_option maxHeartbeats 8000000 in
theorem errors_any (p : Option Addr) (c n : Nat) (F : Nat → Fl) (ls le sp : Int) (w : World) (r : FlR w p n F) (ln : n ≤ 1000000) :
    Calls Try.prog 27 #[.slice p n c, .agg #[.int .i64 ls, .int .i64 le, .int .i64 sp]] w fun e w' => e = .returned (.int .i64 (flE ls le sp F n)) ∧ Below w.heap.size w w' := by
  have R := Lib.hid r
  clear r
  have B1 := Lib.hid (show Below w.heap.size w (w.alloc (Obj.cells #[.int .i64 ls, .int .i64 le, .int .i64 sp] 24)) from (Below.refl _ _).alloc (Nat.le_refl _) _)
  by_cases t0 : 128 < n
  case pos =>
    have t1 : decide ((128 : Int) < (n : Int)) = true := decide_eq_true (by omega)
    have E := Lib.hid (flE_3 (ls := ls) (le := le) (sp := sp) (F := F) t0)
    go_enter Try.func27, Try.ntmps27
    go_wp2_with fail
    go_ret
    exact ⟨ret_i E.out.symm, B1.out⟩
  have t1 : decide ((128 : Int) < (n : Int)) = false := decide_eq_false (by omega)
  have T0 := Lib.hid t0
  clear t0
  by_cases z0 : ls < 1
  case pos =>
    have d0 : decide (ls < 1) = true := decide_eq_true z0
    have E := Lib.hid (flE_s (ls := ls) (le := le) (sp := sp) (F := F) T0.out (fun h => by unfold spOk at h; omega))
    clear z0
    go_enter Try.func27, Try.ntmps27
    go_wp2_with fail
    go_ret
    exact ⟨ret_i E.out.symm, B1.out⟩
  have d0 : decide (ls < 1) = false := decide_eq_false z0
  by_cases z1 : 16 < ls
  case pos =>
    have d1 : decide (16 < ls) = true := decide_eq_true z1
    have E := Lib.hid (flE_s (ls := ls) (le := le) (sp := sp) (F := F) T0.out (fun h => by unfold spOk at h; omega))
    clear z0 z1
    go_enter Try.func27, Try.ntmps27
    go_wp2_with fail
    go_ret
    exact ⟨ret_i E.out.symm, B1.out⟩
  have d1 : decide (16 < ls) = false := decide_eq_false z1
  by_cases z2 : le < 0
  case pos =>
    have d2 : decide (le < 0) = true := decide_eq_true z2
    have E := Lib.hid (flE_s (ls := ls) (le := le) (sp := sp) (F := F) T0.out (fun h => by unfold spOk at h; omega))
    clear z0 z1 z2
    go_enter Try.func27, Try.ntmps27
    go_wp2_with fail
    go_ret
    exact ⟨ret_i E.out.symm, B1.out⟩
  have d2 : decide (le < 0) = false := decide_eq_false z2
  by_cases z3 : 1073741824 < le
  case pos =>
    have d3 : decide (1073741824 < le) = true := decide_eq_true z3
    have E := Lib.hid (flE_s (ls := ls) (le := le) (sp := sp) (F := F) T0.out (fun h => by unfold spOk at h; omega))
    clear z0 z1 z2 z3
    go_enter Try.func27, Try.ntmps27
    go_wp2_with fail
    go_ret
    exact ⟨ret_i E.out.symm, B1.out⟩
  have d3 : decide (1073741824 < le) = false := decide_eq_false z3
  by_cases z4 : sp < 0
  case pos =>
    have d4 : decide (sp < 0) = true := decide_eq_true z4
    have E := Lib.hid (flE_s (ls := ls) (le := le) (sp := sp) (F := F) T0.out (fun h => by unfold spOk at h; omega))
    clear z0 z1 z2 z3 z4
    go_enter Try.func27, Try.ntmps27
    go_wp2_with fail
    go_ret
    exact ⟨ret_i E.out.symm, B1.out⟩
  have d4 : decide (sp < 0) = false := decide_eq_false z4
  by_cases z5 : 10000 < sp
  case pos =>
    have d5 : decide (10000 < sp) = true := decide_eq_true z5
    have E := Lib.hid (flE_s (ls := ls) (le := le) (sp := sp) (F := F) T0.out (fun h => by unfold spOk at h; omega))
    clear z0 z1 z2 z3 z4 z5
    go_enter Try.func27, Try.ntmps27
    go_wp2_with fail
    go_ret
    exact ⟨ret_i E.out.symm, B1.out⟩
  have d5 : decide (10000 < sp) = false := decide_eq_false z5
  have SO := Lib.hid (show spOk ls le sp from by unfold spOk; omega)
  clear z0 z1 z2 z3 z4 z5
  go_enter Try.func27, Try.ntmps27
  go_wp2_with fail
  go_loopw [5] (fun kv wr => ∃ i : Nat, i ≤ n ∧ kv = .int .i64 i ∧ Hid (∀ k, k < i → (F k).ok) ∧ Hid (Below w.heap.size w wr)) (fun kv _ => n - (intOf kv).toNat)
  case atStart => exact ⟨0, Nat.zero_le _, rfl, Lib.hid (fun k h => absurd h (by omega)), B1⟩
  case round =>
    obtain ⟨i, hi, rfl, HO, HB⟩ := hrel
    by_cases t2 : i < n
    case pos =>
      have i1 : (0 : Int) ≤ (i : Int) := by omega
      have i2 : (i : Int) < (n : Int) := by omega
      obtain ⟨x, rfl, -⟩ := R.out i t2
      obtain ⟨-, a0, a1, a2, a3, a4, a5⟩ := (R.out.below HB.out).at1 t2 rfl
      have GO := Lib.hid (show (F i).ok → ∀ k, k < i + 1 → (F k).ok from fun h k hk => by
        by_cases e : k = i
        · rw [e]; exact h
        · exact HO.out k (by omega))
      have BA := Lib.hid (show ¬ (F i).ok → flE ls le sp F n = 2 from fun h => flE_f T0.out t2 h)
      have OK := Lib.hid (show (F i).ok ↔ (1 ≤ (F i).mic ∧ (F i).mic ≤ 10000) ∧ 1 ≤ (F i).gr ∧ (F i).gr ≤ 1073741824 from Iff.rfl)
      clear HO
      generalize F i = s at *
      have HB2 := HB
      clear a0 a1 a2 a3
      generalize s.mic = mi at *
      generalize s.gr = gr at *
      by_cases z0 : mi < 1
      case pos =>
        have d0 : decide (mi < 1) = true := decide_eq_true z0
        have E := Lib.hid (BA.out fun h => by have := OK.out.1 h; omega)
        clear BA GO OK z0
        go_wp2_with fail
        go_ret
        exact ⟨ret_i E.out.symm, HB2.out⟩
      have d0 : decide (mi < 1) = false := decide_eq_false z0
      by_cases z1 : 10000 < mi
      case pos =>
        have d1 : decide (10000 < mi) = true := decide_eq_true z1
        have E := Lib.hid (BA.out fun h => by have := OK.out.1 h; omega)
        clear BA GO OK z0 z1
        go_wp2_with fail
        go_ret
        exact ⟨ret_i E.out.symm, HB2.out⟩
      have d1 : decide (10000 < mi) = false := decide_eq_false z1
      by_cases z2 : gr < 1
      case pos =>
        have d2 : decide (gr < 1) = true := decide_eq_true z2
        have E := Lib.hid (BA.out fun h => by have := OK.out.1 h; omega)
        clear BA GO OK z0 z1 z2
        go_wp2_with fail
        go_ret
        exact ⟨ret_i E.out.symm, HB2.out⟩
      have d2 : decide (gr < 1) = false := decide_eq_false z2
      by_cases z3 : 1073741824 < gr
      case pos =>
        have d3 : decide (1073741824 < gr) = true := decide_eq_true z3
        have E := Lib.hid (BA.out fun h => by have := OK.out.1 h; omega)
        clear BA GO OK z0 z1 z2 z3
        go_wp2_with fail
        go_ret
        exact ⟨ret_i E.out.symm, HB2.out⟩
      have d3 : decide (1073741824 < gr) = false := decide_eq_false z3
      have G := Lib.hid (GO.out (OK.out.2 (by omega)))
      clear BA GO OK z0 z1 z2 z3
      go_wp2_with fail
      go_roundw
      case rel => exact ⟨i + 1, by omega, by go_num, G, HB2⟩
      case measure => simp [intOf]; omega
    obtain rfl : i = n := by omega
    have E := Lib.hid (flE_0 T0.out SO.out HO.out)
    go_wp2_with fail
    go_ret
    exact ⟨ret_i E.out.symm, HB.out⟩
set_option maxRecDepth 100000 in
set_option maxHeartbeats 8000000 in
theorem checkLengths_any (p : Option Addr) (c m n : Nat) (L : Nat → Int) (w : World) (r : NmR w p m L) (lm : m ≤ 1000000) (ln : n ≤ 1000000) :
    Calls Try.prog 37 #[.slice p m c, .int .i64 n] w fun e w' => e = .returned (.int .i64 (lnE L m n)) ∧ Below w.heap.size w w' := by
  have R := Lib.hid r
  clear r
  by_cases t0 : 128 < m
  case pos =>
    have t1 : decide ((128 : Int) < (m : Int)) = true := decide_eq_true (by omega)
    have E := Lib.hid (lnE_3 (L := L) (n := n) t0)
    go_enter Try.func37, Try.ntmps37
    go_wp2_with fail
    go_ret
    exact ⟨ret_i E.out.symm, Below.refl _ _⟩
  have t1 : decide ((128 : Int) < (m : Int)) = false := decide_eq_false (by omega)
  go_enter Try.func37, Try.ntmps37
  go_wp2_with fail
  go_loopw [1, 12] (fun nv kv wr => ∃ i : Nat, i ≤ m ∧ kv = .int .i64 i ∧ nv = .int .i64 (n - sm L i) ∧ Hid (∀ k, k < i → 1 ≤ L k ∧ L k ≤ n - sm L k) ∧ Hid (0 ≤ sm L i ∧ sm L i ≤ n) ∧ Hid (Below w.heap.size w wr)) (fun _ kv _ => m - (intOf kv).toNat)
  case atStart => exact ⟨0, Nat.zero_le _, rfl, by simp [sm], Lib.hid (fun k h => absurd h (by omega)), Lib.hid (by simp [sm]), Lib.hid (Below.refl _ _)⟩
  case round =>
    obtain ⟨i, hi, rfl, rfl, HO, HS, HB⟩ := hrel
    by_cases t2 : i < m
    case pos =>
      have i1 : (0 : Int) ≤ (i : Int) := by omega
      have i2 : (i : Int) < (m : Int) := by omega
      obtain ⟨x, rfl, -, cx⟩ := (R.out.below HB.out) i t2
      have GO := Lib.hid (show 1 ≤ L i ∧ L i ≤ n - sm L i → ∀ k, k < i + 1 → 1 ≤ L k ∧ L k ≤ n - sm L k from fun h k hk => by
        by_cases e : k = i
        · rw [e]; exact h
        · exact HO.out k (by omega))
      have BA := Lib.hid (show ¬ (1 ≤ L i ∧ L i ≤ n - sm L i) → lnE L m n = 2 from fun h => lnE_l t0 t2 h)
      have NX := Lib.hid (show sm L (i + 1) = sm L i + L i from rfl)
      have hs := HS.out
      clear HO
      generalize sm L i = s at *
      generalize L i = v at *
      by_cases z0 : v < 1
      case pos =>
        have d0 : decide (v < 1) = true := decide_eq_true z0
        have E := Lib.hid (BA.out fun h => by omega)
        clear BA GO hs z0
        go_wp2_with fail
        go_ret
        exact ⟨ret_i E.out.symm, HB.out⟩
      have d0 : decide (v < 1) = false := decide_eq_false z0
      by_cases z1 : (n : Int) - s < v
      case pos =>
        have d1 : decide ((n : Int) - s < v) = true := decide_eq_true z1
        have E := Lib.hid (BA.out fun h => by omega)
        clear BA GO hs z0 z1
        go_wp2_with fail
        go_ret
        exact ⟨ret_i E.out.symm, HB.out⟩
      have d1 : decide ((n : Int) - s < v) = false := decide_eq_false z1
      have G := Lib.hid (GO.out (by omega))
      have e1 : IntKind.i64.wrap ((n : Int) - s - v) = (n : Int) - s - v := hwI (by omega) (by omega)
      have HS2 := Lib.hid (show 0 ≤ sm L (i + 1) ∧ sm L (i + 1) ≤ n from by rw [NX.out]; omega)
      clear BA GO hs z0 z1
      go_wp2_with fail
      go_roundw
      case rel => exact ⟨i + 1, by omega, by go_num, by rw [NX.out, Int.sub_sub], G, HS2, HB⟩
      case measure => simp [intOf]; omega
    obtain rfl : i = m := by omega
    have hs := HS.out
    by_cases z : sm L i < (n : Int)
    · have d : decide (sm L i < (n : Int)) = true := decide_eq_true z
      have E := Lib.hid (lnE_n (L := L) (n := n) t0 (by omega))
      clear hs z
      go_wp2_with fail
      go_ret
      exact ⟨ret_i E.out.symm, HB.out⟩
    · have d : decide (sm L i < (n : Int)) = false := decide_eq_false z
      have E := Lib.hid (lnE_0 t0 HO.out (by omega))
      clear hs z
      go_wp2_with fail
      go_ret
      exact ⟨ret_i E.out.symm, HB.out⟩
end Go.Proofs.Ytmdhmpfagekonaa

/- Classing's lines: rows of costs in memory; costWith, leastFrom. -/
namespace Go.Proofs.Ytmdhmpfagekonaa
open Go.RowKit Go.Proofs.Ytmdhmpfagekonaa.Ct Go.Proofs.Ytmdhmpfagekonaa.Ce Go.Proofs.Ytmdhmpfagekonaa.Stb
set_option linter.unusedVariables false
set_option linter.unusedSimpArgs false

/-- Rows of numbers: n rows, each of m numbers. -/
def CoR (w : World) (p : Option Addr) (n m : Nat) (C : Nat → Nat → Int) : Prop := ∀ i, i < n → ∃ (x : Addr) (q : Option Addr) (d : Nat), p = some x ∧ x.block < w.heap.size ∧ w.cell? (x.add i) = some (.slice q m d) ∧ NmR w q m (C i)
theorem CoR.below {w w' : World} {p : Option Addr} {n m : Nat} {C : Nat → Nat → Int} (r : CoR w p n m C) (hb : Below w.heap.size w w') : CoR w' p n m C := fun i h => by
  obtain ⟨x, q, d, e, k, c, y⟩ := r i h
  exact ⟨x, q, d, e, Nat.lt_of_lt_of_le k hb.size, by rw [hb.cell (p := x.add i) (by rw [addB]; exact k)]; exact c, y.below hb⟩
/-- A clip by value. -/
def clV (ls le sp : Int) (a b d : Value) : Value := .agg #[.int .i64 ls, .int .i64 le, .int .i64 sp, a, b, d]
def clC (ls le sp : Int) (a b d : Value) (k : Nat) : Value := if k = 0 then .int .i64 ls else if k = 1 then .int .i64 le else if k = 2 then .int .i64 sp else if k = 3 then a else if k = 4 then b else d
theorem ob_cl (W : World) (ls le sp : Int) (a b d : Value) (t : TypeId) : OB (W.alloc (Obj.cells #[.int .i64 ls, .int .i64 le, .int .i64 sp, a, b, d] t)) W.heap.size t 6 (clC ls le sp a b d) := by
  unfold OB
  rw [heap_alloc_new]
  rfl

set_option maxRecDepth 100000 in
set_option maxHeartbeats 8000000 in
theorem costWith_any (ls le sp : Int) (pa pb pc q : Option Addr) (na ca nb cb n m cc cr i j : Nat) (C : Nat → Nat → Int) (r : Nat → Int) (w : World) (hC : CoR w pc n m C) (hr : NmR w q m r) (hi : i < n) (hj : j < m) (lm : m ≤ 1000000) (ln : n ≤ 1000000)
    (b1 : -1 ≤ C i j ∧ C i j ≤ 4611686018427387904) (b2 : -1 ≤ r j ∧ r j ≤ 4611686018427387903) :
    Calls Try.prog 49 #[clV ls le sp (.slice pa na ca) (.slice pb nb cb) (.slice pc n cc), .int .i64 i, .int .i64 j, .slice q m cr] w fun e w' => e = .returned (.int .i64 (both (C i j) (r j))) ∧ Below w.heap.size w w' := by
  obtain ⟨x, y, d, rfl, kx, cx, hy⟩ := hC i hi
  obtain ⟨y, rfl, ky, cy⟩ := hy j hj
  obtain ⟨z, rfl, kz, cz⟩ := hr j hj
  have B1 : Below w.heap.size w (w.alloc (Obj.cells #[.int .i64 ls, .int .i64 le, .int .i64 sp, .slice pa na ca, .slice pb nb cb, .slice (some x) n cc] 67)) := (Below.refl _ _).alloc (Nat.le_refl _) _
  have OC := ob_cl w ls le sp (.slice pa na ca) (.slice pb nb cb) (.slice (some x) n cc) 67
  have c5 := OC.cell (k := 5) (by decide)
  replace c5 : (w.alloc (Obj.cells #[.int .i64 ls, .int .i64 le, .int .i64 sp, .slice pa na ca, .slice pb nb cb, .slice (some x) n cc] 67)).cell? ⟨w.heap.size, 5, none⟩ = some (.slice (some x) n cc) := c5
  have cx := cellGr B1 cx
  have cy := cellGr B1 cy
  have cz := cellGr B1 cz
  have i1 : (0 : Int) ≤ (i : Int) := by omega
  have i2 : (i : Int) < (n : Int) := by omega
  have j1 : (0 : Int) ≤ (j : Int) := by omega
  have j2 : (j : Int) < (m : Int) := by omega
  have HB := Lib.hid B1
  unfold clV
  clear hC hr hi hj OC B1
  have TT := Lib.hid (show ∀ e w', e = Ending.returned (.int .i64 (both (C i j) (r j))) → Below w.heap.size w w' → e = Ending.returned (.int .i64 (both (C i j) (r j))) ∧ Below w.heap.size w w' from fun e w' a b => ⟨a, b⟩)
  generalize C i j = u at *
  generalize r j = v at *
  go_enter Try.func49, Try.ntmps49
  go_upto_region 1 with fail
  generalize (w.alloc (Obj.cells #[.int .i64 ls, .int .i64 le, .int .i64 sp, .slice pa na ca, .slice pb nb cb, .slice (some x) n cc] 67)) = wa at *
  by_cases z1 : u = -1
  · subst z1
    have E := Lib.hid (show both (-1) v = -1 from both_n (.inl rfl))
    go_wp2_with fail
    go_ret
    exact ⟨ret_i E.out.symm, HB.out⟩
  have d1 : (u == -1) = false := by simpa using z1
  by_cases z2 : v = -1
  · subst z2
    have E := Lib.hid (show both u (-1) = -1 from both_n (.inr rfl))
    clear z1
    go_wp2_with fail
    go_ret
    exact ⟨ret_i E.out.symm, HB.out⟩
  have d2 : (v == -1) = false := by simpa using z2
  have E := Lib.hid (both_pos z1 z2)
  have e1 : IntKind.i64.wrap (u + v) = u + v := hwI (by omega) (by omega)
  clear z1 z2 b1 b2
  go_wp2_with fail
  go_region_held3 (fun w' => w'.cell? ⟨w.heap.size, 5, none⟩ = some (.slice (some x) n cc) ∧ w'.cell? (x.add i) = some (.slice (some y) m d) ∧ w'.cell? (y.add j) = some (.int .i64 u) ∧ w'.cell? (z.add j) = some (.int .i64 v)) (first | exact ⟨c5, cx, cy, cz⟩ | exact ⟨cellDr c5, cellDr cx, cellDr cy, cellDr cz⟩) (fail)
  go_wp2_with fail
  go_ret
  exact ⟨ret_i E.out.symm, HB.out.drew⟩

set_option maxRecDepth 100000 in
set_option maxHeartbeats 8000000 in
theorem leastFrom_any (ls le sp : Int) (pa pb pc q : Option Addr) (na ca nb cb n cc cr i : Nat) (C : Nat → Nat → Int) (r : Nat → Int) (w : World) (hC : CoR w pc n (n + 1) C) (hr : NmR w q (n + 1) r) (hi : i < n + 1) (ln : n ≤ 1000)
    (b1 : ∀ a j, a < n → j < n + 1 → -1 ≤ C a j ∧ C a j ≤ 4611686018427387904) (b2 : ∀ j, j < n + 1 → -1 ≤ r j ∧ r j ≤ 4611686018427387903) :
    Calls Try.prog 38 #[clV ls le sp (.slice pa na ca) (.slice pb nb cb) (.slice pc n cc), .int .i64 i, .slice q (n + 1) cr] w fun e w' => e = .returned (.int .i64 (lfm (C i) r i (n - i))) ∧ Below w.heap.size w w' := by
  have CW := Lib.hid (fun (j : Nat) (hi : i < n) (hj : j < n + 1) W (h : Below w.heap.size w W) => costWith_any ls le sp pa pb pc q na ca nb cb n (n + 1) cc cr i j C r W (hC.below h) (hr.below h) hi hj (by omega) (by omega) (b1 i j hi hj) (b2 j hj))
  have B1 : Below w.heap.size w (w.alloc (Obj.cells #[.int .i64 ls, .int .i64 le, .int .i64 sp, .slice pa na ca, .slice pb nb cb, .slice pc n cc] 67)) := (Below.refl _ _).alloc (Nat.le_refl _) _
  have OC := Lib.hid (ob_cl w ls le sp (.slice pa na ca) (.slice pb nb cb) (.slice pc n cc) 67)
  have HB1 := Lib.hid B1
  have e1 : IntKind.i64.wrap ((i : Int) + 1) = (i : Int) + 1 := hwI (by omega) (by omega)
  clear hC hr b1 b2 B1
  unfold clV at *
  go_enter Try.func38, Try.ntmps38
  go_upto_region 1 with fail
  generalize (w.alloc (Obj.cells #[.int .i64 ls, .int .i64 le, .int .i64 sp, .slice pa na ca, .slice pb nb cb, .slice pc n cc] 67)) = wa at *
  go_wp2_with fail
  go_loopw [7, 8] (fun lv jv wr => ∃ t : Nat, t ≤ n - i ∧ jv = .int .i64 ((i : Int) + 1 + t) ∧ lv = .int .i64 (lfm (C i) r i t) ∧ Hid (Below wa.heap.size wa wr)) (fun _ jv _ => n + 1 - (intOf jv).toNat)
  case atStart => exact ⟨0, Nat.zero_le _, by simp, rfl, Lib.hid (Below.refl _ _)⟩
  case round =>
    obtain ⟨t, ht, rfl, rfl, HB⟩ := hrel
    have HH := Lib.hid (HB1.out.trans (HB.out.mono HB1.out.size))
    by_cases t1 : t < n - i
    · have hj : i + t + 1 < n + 1 := by omega
      have d1 : decide ((i : Int) + 1 + t < (n : Int) + 1) = true := decide_eq_true (by omega)
      have d2 : decide ((i : Int) + 1 + t < ((n + 1 : Nat) : Int)) = true := decide_eq_true (by omega)
      have C1 := Lib.hid (CW.out (i + t + 1) (by omega) hj wr HH.out)
      have ej : ((i + t + 1 : Nat) : Int) = (i : Int) + 1 + t := by omega
      rw [ej] at C1
      have e2 : IntKind.i64.wrap ((i : Int) + 1 + t + 1) = (i : Int) + 1 + t + 1 := hwI (by omega) (by omega)
      have OX := OC.out.below HB.out
      have c0 : wr.cell? ⟨w.heap.size, 0, none⟩ = some (.int .i64 ls) := OX.cell (k := 0) (by decide)
      have c1 : wr.cell? ⟨w.heap.size, 1, none⟩ = some (.int .i64 le) := OX.cell (k := 1) (by decide)
      have c2 : wr.cell? ⟨w.heap.size, 2, none⟩ = some (.int .i64 sp) := OX.cell (k := 2) (by decide)
      have c3 : wr.cell? ⟨w.heap.size, 3, none⟩ = some (.slice pa na ca) := OX.cell (k := 3) (by decide)
      have c4 : wr.cell? ⟨w.heap.size, 4, none⟩ = some (.slice pb nb cb) := OX.cell (k := 4) (by decide)
      have c5 : wr.cell? ⟨w.heap.size, 5, none⟩ = some (.slice pc n cc) := OX.cell (k := 5) (by decide)
      have NX := Lib.hid (show lfm (C i) r i (t + 1) = if lss (both (C i (i + t + 1)) (r (i + t + 1))) (lfm (C i) r i t) then both (C i (i + t + 1)) (r (i + t + 1)) else lfm (C i) r i t from rfl)
      generalize both (C i (i + t + 1)) (r (i + t + 1)) = v at *
      generalize lfm (C i) r i t = u at *
      clear OX CW hj ej
      go_wp2_with fail
      refine C1.out.mono ?_
      rintro e w1 ⟨rfl, q1⟩
      have HB2 := Lib.hid (HB.out.trans (q1.mono HB.out.size))
      clear q1 c0 c1 c2 c3 c4 c5 C1
      by_cases z : lss v u
      · have I1 := fun W => isLess_any v u W
        rw [decide_eq_true z] at I1
        have NX2 := Lib.hid (NX.out.trans (if_pos z))
        go_wp2_with fail
        refine (I1 _).mono ?_
        rintro e w2 ⟨rfl, rfl⟩
        go_wp2_with fail
        go_roundw
        case rel => exact ⟨t + 1, by omega, by go_num, by rw [NX2.out], HB2⟩
        case measure => simp [intOf]; omega
      · have I1 := fun W => isLess_any v u W
        rw [decide_eq_false z] at I1
        have NX2 := Lib.hid (NX.out.trans (if_neg z))
        go_wp2_with fail
        refine (I1 _).mono ?_
        rintro e w2 ⟨rfl, rfl⟩
        go_wp2_with fail
        go_roundw
        case rel => exact ⟨t + 1, by omega, by go_num, by rw [NX2.out], HB2⟩
        case measure => simp [intOf]; omega
    · obtain rfl : t = n - i := by omega
      have d1 : decide ((i : Int) + 1 + ((n - i : Nat) : Int) < (n : Int) + 1) = false := decide_eq_false (by omega)
      have d2 : decide ((i : Int) + 1 + ((n - i : Nat) : Int) < ((n + 1 : Nat) : Int)) = false := decide_eq_false (by omega)
      clear CW
      go_wp2_with fail
      go_ret
      exact ⟨rfl, HH.out⟩
end Go.Proofs.Ytmdhmpfagekonaa

/- Classing's lines: bytes.Compare, cmp.Compare, cmp.Or. -/
namespace Go.Proofs.Ytmdhmpfagekonaa
open Go.RowKit Go.Proofs.Ytmdhmpfagekonaa.Ct Go.Proofs.Ytmdhmpfagekonaa.Ce Go.Proofs.Ytmdhmpfagekonaa.Stb
set_option linter.unusedVariables false
set_option linter.unusedSimpArgs false

namespace Ce
def cmpV (a b : Int) : Int := if a < b then -1 else if b < a then 1 else 0
/-- Of two kinds, how the first stands to the second. -/
def kcmp (a b : Fl) : Int := cmpV a.kk b.kk
end Ce
theorem isNaN_any (a : Int) (w : World) : Calls Try.prog 57 #[.int .i64 a] w fun e w' => e = .returned (.bool false) ∧ w = w' := by
  have h : (a == a) = true := by simp
  go_enter Try.func57, Try.ntmps57
  go_wp2
  all_goals go_ret
  all_goals exact ⟨ret_b (by simp), rfl⟩
theorem cmpI_any (a b : Int) (w : World) : Calls Try.prog 46 #[.int .i64 a, .int .i64 b] w fun e w' => e = .returned (.int .i64 (cmpV a b)) ∧ w = w' := by
  unfold cmpV
  by_cases h1 : a < b
  · have d1 : decide (a < b) = true := decide_eq_true h1
    rw [if_pos h1]
    go_enter Try.func46, Try.ntmps46
    go_wp2_with fail
    refine (isNaN_any a _).mono ?_
    rintro e w1 ⟨rfl, rfl⟩
    go_wp2_with fail
    refine (isNaN_any b _).mono ?_
    rintro e w1 ⟨rfl, rfl⟩
    go_wp2_with fail
    go_ret
    exact ⟨rfl, rfl⟩
  · have d1 : decide (a < b) = false := decide_eq_false h1
    rw [if_neg h1]
    by_cases h2 : b < a
    · have d2 : decide (b < a) = true := decide_eq_true h2
      rw [if_pos h2]
      go_enter Try.func46, Try.ntmps46
      go_wp2_with fail
      refine (isNaN_any a _).mono ?_
      rintro e w1 ⟨rfl, rfl⟩
      go_wp2_with fail
      refine (isNaN_any b _).mono ?_
      rintro e w1 ⟨rfl, rfl⟩
      go_wp2_with fail
      go_ret
      exact ⟨rfl, rfl⟩
    · have d2 : decide (b < a) = false := decide_eq_false h2
      rw [if_neg h2]
      go_enter Try.func46, Try.ntmps46
      go_wp2_with fail
      refine (isNaN_any a _).mono ?_
      rintro e w1 ⟨rfl, rfl⟩
      go_wp2_with fail
      refine (isNaN_any b _).mono ?_
      rintro e w1 ⟨rfl, rfl⟩
      go_wp2_with fail
      go_ret
      exact ⟨rfl, rfl⟩
/-- The first that is not 0. -/
def orV (x y : Int) : Int := if x = 0 then y else x
set_option maxRecDepth 100000 in
set_option maxHeartbeats 4000000 in
theorem or_any (p : Option Addr) (c : Nat) (x y : Int) (w : World) (r : NmR w p 2 (fun k => if k = 0 then x else y)) :
    Calls Try.prog 44 #[.slice p 2 c] w fun e w' => e = .returned (.int .i64 (orV x y)) ∧ w = w' := by
  obtain ⟨a, rfl, ka, c0⟩ := r 0 (by omega)
  obtain ⟨a', ea, -, c1⟩ := r 1 (by omega)
  cases ea
  simp [Addr.add] at c0 c1
  clear r
  go_enter Try.func44, Try.ntmps44
  go_wp2_with fail
  go_loopw [8] (fun kv wr => wr = w ∧ ((kv = .int .i64 0) ∨ (kv = .int .i64 1 ∧ x = 0) ∨ (kv = .int .i64 2 ∧ x = 0 ∧ y = 0))) (fun kv _ => 2 - (intOf kv).toNat)
  case atStart => exact ⟨rfl, .inl rfl⟩
  case round =>
    obtain ⟨rfl, h⟩ := hrel
    rcases h with rfl | ⟨rfl, rfl⟩ | ⟨rfl, rfl, rfl⟩
    · by_cases z : x = 0
      · subst z
        go_wp2_with fail
        go_roundw
        case rel => simp
        case measure => simp [intOf]
      · have d : (x == 0) = false := by simpa using z
        have E := Lib.hid (show orV x y = x from if_neg z)
        clear z
        go_wp2_with fail
        go_ret
        exact ⟨ret_i E.out.symm, rfl⟩
    · have E := Lib.hid (show orV 0 y = y from if_pos rfl)
      by_cases z : y = 0
      · subst z
        go_wp2_with fail
        go_roundw
        case rel => simp
        case measure => simp [intOf]
      · have d : (y == 0) = false := by simpa using z
        clear z
        go_wp2_with fail
        go_ret
        exact ⟨ret_i E.out.symm, rfl⟩
    · have E := Lib.hid (show orV 0 0 = 0 from rfl)
      go_wp2_with fail
      go_ret
      exact ⟨ret_i E.out.symm, rfl⟩

/-- The four bytes of a kind, at the beginning of a block. -/
structure KdAt (w : World) (g : Nat) (s : Fl) : Prop where
  c0 : w.cell? ⟨g, 0, none⟩ = some (.int .u8 s.ka)
  c1 : w.cell? ⟨g, 1, none⟩ = some (.int .u8 s.kb)
  c2 : w.cell? ⟨g, 2, none⟩ = some (.int .u8 s.kc)
  c3 : w.cell? ⟨g, 3, none⟩ = some (.int .u8 s.kd)
def fourB (s : Fl) : List Int := [s.ka, s.kb, s.kc, s.kd]
theorem u8_lt {a b : Int} (ha : 0 ≤ a ∧ a ≤ 255) (hb : 0 ≤ b ∧ b ≤ 255) : a.toNat.toUInt8 < b.toNat.toUInt8 ↔ a < b := by
  obtain ⟨x, rfl⟩ := Int.eq_ofNat_of_zero_le ha.1
  obtain ⟨y, rfl⟩ := Int.eq_ofNat_of_zero_le hb.1
  rw [UInt8.lt_iff_toNat_lt]
  simp only [Int.toNat_natCast]
  rw [show x.toUInt8.toNat = x from by simp [Nat.toUInt8]; omega, show y.toUInt8.toNat = y from by simp [Nat.toUInt8]; omega]
  omega
theorem cmpB_cons {a b : Int} (ha : 0 ≤ a ∧ a ≤ 255) (hb : 0 ≤ b ∧ b ≤ 255) (l m : List UInt8) : Lib.compareBytes (a.toNat.toUInt8 :: l) (b.toNat.toUInt8 :: m) = if a < b then -1 else if b < a then 1 else Lib.compareBytes l m := by
  show (if a.toNat.toUInt8 < b.toNat.toUInt8 then -1 else if b.toNat.toUInt8 < a.toNat.toUInt8 then 1 else Lib.compareBytes l m) = _
  by_cases h1 : a < b
  · rw [if_pos ((u8_lt ha hb).2 h1), if_pos h1]
  · rw [if_neg (fun h => h1 ((u8_lt ha hb).1 h)), if_neg h1]
    by_cases h2 : b < a
    · rw [if_pos ((u8_lt hb ha).2 h2), if_pos h2]
    · rw [if_neg (fun h => h2 ((u8_lt hb ha).1 h)), if_neg h2]
theorem kcmp_bytes {s u : Fl} (hs : s.kok) (hu : u.kok) : Lib.compareBytes (Lib.bytesOf (fourB s)) (Lib.bytesOf (fourB u)) = kcmp s u := by
  have l := kk_lt hs hu
  have l' := kk_lt hu hs
  obtain ⟨a1, a2, a3, a4⟩ := hs
  obtain ⟨b1, b2, b3, b4⟩ := hu
  show Lib.compareBytes (s.ka.toNat.toUInt8 :: s.kb.toNat.toUInt8 :: s.kc.toNat.toUInt8 :: s.kd.toNat.toUInt8 :: []) (u.ka.toNat.toUInt8 :: u.kb.toNat.toUInt8 :: u.kc.toNat.toUInt8 :: u.kd.toNat.toUInt8 :: []) = cmpV s.kk u.kk
  rw [cmpB_cons a1 b1, cmpB_cons a2 b2, cmpB_cons a3 b3, cmpB_cons a4 b4]
  unfold cmpV
  show _ = _
  rw [show Lib.compareBytes [] [] = 0 from rfl]
  repeat' split
  all_goals first
    | rfl
    | omega
theorem kdRead {w : World} {g : Nat} {s : Fl} (h : KdAt w g s) : (Extern.Bytes.bytesOf (.slice (some ⟨g, 0, none⟩) 4 4)).run Try.prog w = .ok ⟨(Lib.bytesOf (fourB s)).toArray⟩ w := by
  have := Lib.run_loadBytesX (P := Try.prog) w (fourB s) ⟨g, 0, none⟩ .empty (fun j x hj => by
    rcases j with _ | _ | _ | _ | j
    · simp [fourB] at hj; subst hj; simpa [Addr.add] using h.c0
    · simp [fourB] at hj; subst hj; simpa [Addr.add] using h.c1
    · simp [fourB] at hj; subst hj; simpa [Addr.add] using h.c2
    · simp [fourB] at hj; subst hj; simpa [Addr.add] using h.c3
    · simp [fourB] at hj)
  show (Extern.Bytes.loadBytes ⟨g, 0, none⟩ (fourB s).length .empty).run Try.prog w = _
  rw [this]
  first
    | rfl
    | (congr 1
       apply ByteArray.ext
       show (#[] : Array UInt8) ++ (Lib.bytesOf (fourB s)).toArray = (Lib.bytesOf (fourB s)).toArray
       simp)
theorem run_cmpKinds {w : World} {g h : Nat} {s u : Fl} (hs : s.kok) (hu : u.kok) (k1 : KdAt w g s) (k2 : KdAt w h u) : (Extern.BytealgCompare.compare #[.slice (some ⟨g, 0, none⟩) 4 4, .slice (some ⟨h, 0, none⟩) 4 4]).run Try.prog w = .ok (.int .i64 (kcmp s u)) w := by
  change Sem.run Try.prog (do pure (goInt (Extern.BytealgCompare.cmp (← Extern.Bytes.bytesOf (.slice (some ⟨g, 0, none⟩) 4 4)) (← Extern.Bytes.bytesOf (.slice (some ⟨h, 0, none⟩) 4 4))))) w = _
  simp only [Sem.run_bind, kdRead k1, kdRead k2, Sem.run_pure, Result.andThen]
  rw [Lib.cmp_eq]
  rw [← kcmp_bytes hs hu]
  rfl
set_option maxRecDepth 100000 in
set_option maxHeartbeats 4000000 in
theorem compare_any {w : World} {g h : Nat} {s u : Fl} (hs : s.kok) (hu : u.kok) (k1 : KdAt w g s) (k2 : KdAt w h u) :
    Calls Try.prog 45 #[.slice (some ⟨g, 0, none⟩) 4 4, .slice (some ⟨h, 0, none⟩) 4 4] w fun e w' => e = .returned (.int .i64 (kcmp s u)) ∧ w = w' := by
  have RR := run_cmpKinds hs hu k1 k2
  clear k1 k2
  go_enter Try.func45, Try.ntmps45
  go_wp2_with fail
  rw [run_callFunc_extern Try.func56 (by kernel_rfl) (by kernel_rfl) (by kernel_rfl) (e := Extern.BytealgCompare.compare) (by kernel_rfl), RR]
  simp only [Result.andThen]
  rw [Oper.upon_value]
  go_wp2_with fail
  go_ret
  exact ⟨rfl, rfl⟩
end Go.Proofs.Ytmdhmpfagekonaa

/- Classing's lines: the comparison of the sort. -/
namespace Go.Proofs.Ytmdhmpfagekonaa
open Go.RowKit Go.Proofs.Ytmdhmpfagekonaa.Ct Go.Proofs.Ytmdhmpfagekonaa.Ce Go.Proofs.Ytmdhmpfagekonaa.Stb
set_option linter.unusedVariables false
set_option linter.unusedSimpArgs false

def ocK (F : Nat → Fl) (x y : Int) : Int := orV (kcmp (F x.toNat) (F y.toNat)) (cmpV (F x.toNat).mic (F y.toNat).mic)
theorem ocK_lt {F : Nat → Fl} {n : Nat} (ok : ∀ k, k < n → (F k).ok) {x y : Int} (hx : 0 ≤ x ∧ x < n) (hy : 0 ≤ y ∧ y < n) : ocK F x y < 0 ↔ dk (fun k => (F k).key) x y < 0 := by
  have l := key_lt (ok x.toNat (by omega)) (ok y.toNat (by omega))
  have : dk (fun k => (F k).key) x y < 0 ↔ (F x.toNat).key < (F y.toNat).key := by unfold dk; dsimp only; omega
  rw [this, l]
  unfold ocK orV kcmp cmpV
  by_cases a : (F x.toNat).kk < (F y.toNat).kk
  · simp [a]
  · by_cases b : (F y.toNat).kk < (F x.toNat).kk
    · simp [a, b]; omega
    · by_cases c : (F x.toNat).mic < (F y.toNat).mic
      · simp [a, b, c]; omega
      · by_cases d : (F y.toNat).mic < (F x.toNat).mic
        · simp [a, b, c, d]
        · simp [a, b, c, d]
theorem rk_Tot (q : Nat → Int) (V : Int → Prop) : Tot (RK q) V :=
  ⟨fun x y z _ _ _ a b => rk_tr a b, fun x y _ _ ne n => by
    rcases rk_tot3 (q := q) ne with h | h
    · exact absurd h n
    · exact h⟩
/-- What the comparison reads. -/
structure KpF (X : Nat) (p : Option Addr) (n c : Nat) (F : Nat → Fl) (B : Nat) (w : World) : Prop where
  cX : w.cell? ⟨X, 0, none⟩ = some (.slice p n c)
  fr : FlR w p n F
  xB : X ≠ B
  bB : ∀ x, p = some x → x.block ≠ B
  xl : X < w.heap.size
theorem FlR.keep {w w' : World} {p : Option Addr} {n : Nat} {F : Nat → Fl} {B : Nat} (h : FlR w p n F) (sz : w.heap.size ≤ w'.heap.size) (e : ∀ k, k ≠ B → k < w.heap.size → w'.heap[k]? = w.heap[k]?) (q : ∀ x, p = some x → x.block ≠ B) : FlR w' p n F := fun i hi => by
  obtain ⟨x, ex, k⟩ := h i hi
  exact ⟨x, ex, k.keep sz (e _ (by rw [addB]; exact q x ex) k.blk)⟩
theorem KpF.keep {X : Nat} {p : Option Addr} {n c : Nat} {F : Nat → Fl} {B : Nat} {w w' : World} (sz : w.heap.size ≤ w'.heap.size) (e : ∀ k, k ≠ B → k < w.heap.size → w'.heap[k]? = w.heap[k]?) (h : KpF X p n c F B w) : KpF X p n c F B w' := by
  refine ⟨?_, h.fr.keep sz e h.bB, h.xB, h.bB, Nat.lt_of_lt_of_le h.xl sz⟩
  have := h.cX
  unfold World.cell? at *
  rw [e X h.xB h.xl]; exact this
theorem ob_old' {W : World} {g n : Nat} {t : TypeId} {c : Nat → Value} (h : OB W g t n c) (o : Obj) : OB (W.alloc o) g t n c := h.below ((Below.refl _ _).alloc (Nat.le_refl _) _)
theorem ob_n6' (W : World) (o : Obj) (s : Fl) (t : TypeId) : OB ((W.alloc o).alloc (Obj.cells #[.int .u8 s.ka, .int .u8 s.kb, .int .u8 s.kc, .int .u8 s.kd, .int .i64 s.mic, .int .i64 s.gr] t)) (W.heap.size + 1) t 6 (flC s) := by
  have := ob_n6 (W.alloc o) s t
  simpa using this
/-- Two fleeces' boxes. -/
def TwoF (w0 W : World) (g h : Nat) (s t : Fl) : Prop := OB W g 55 6 (flC s) ∧ OB W h 55 6 (flC t) ∧ Below w0.heap.size w0 W
theorem twoF_a (w0 W : World) (s t : Fl) (h : Below w0.heap.size w0 W) : TwoF w0 ((W.alloc (Obj.cells #[.int .u8 s.ka, .int .u8 s.kb, .int .u8 s.kc, .int .u8 s.kd, .int .i64 s.mic, .int .i64 s.gr] 55)).alloc (Obj.cells #[.int .u8 t.ka, .int .u8 t.kb, .int .u8 t.kc, .int .u8 t.kd, .int .i64 t.mic, .int .i64 t.gr] 55)) W.heap.size (W.heap.size + 1) s t :=
  ⟨ob_old' (ob_n6 W s _) _, ob_n6' W _ t _, (h.alloc h.size _).alloc (by have := h.size; simp; omega) _⟩
theorem twoF_b (w0 W : World) (s t : Fl) (h : Below w0.heap.size w0 W) : TwoF w0 ((W.alloc (Obj.cells #[.int .u8 t.ka, .int .u8 t.kb, .int .u8 t.kc, .int .u8 t.kd, .int .i64 t.mic, .int .i64 t.gr] 55)).alloc (Obj.cells #[.int .u8 s.ka, .int .u8 s.kb, .int .u8 s.kc, .int .u8 s.kd, .int .i64 s.mic, .int .i64 s.gr] 55)) (W.heap.size + 1) W.heap.size s t :=
  ⟨ob_n6' W _ s _, ob_old' (ob_n6 W t _) _, (h.alloc h.size _).alloc (by have := h.size; simp; omega) _⟩
theorem TwoF.dr {w0 W : World} {g h : Nat} {s t : Fl} (k : TwoF w0 W g h s t) : TwoF w0 W.drew g h s t := ⟨k.1.below (Below.refl _ _).drew, k.2.1.below (Below.refl _ _).drew, k.2.2.drew⟩
theorem TwoF.call {w0 W W' : World} {g h : Nat} {s t : Fl} (k : TwoF w0 W g h s t) (b : Below W.heap.size W W') : TwoF w0 W' g h s t := ⟨k.1.below b, k.2.1.below b, k.2.2.trans (b.mono k.2.2.size)⟩
theorem TwoF.kd {w0 W : World} {g h : Nat} {s t : Fl} (k : TwoF w0 W g h s t) : KdAt W g s ∧ KdAt W h t :=
  ⟨⟨k.1.cell (k := 0) (by decide), k.1.cell (k := 1) (by decide), k.1.cell (k := 2) (by decide), k.1.cell (k := 3) (by decide)⟩, ⟨k.2.1.cell (k := 0) (by decide), k.2.1.cell (k := 1) (by decide), k.2.1.cell (k := 2) (by decide), k.2.1.cell (k := 3) (by decide)⟩⟩
theorem nmR_two (W : World) (x y : Int) (t : TypeId) : NmR (W.alloc (Obj.cells #[.int .i64 x, .int .i64 y] t)) (some ⟨W.heap.size, 0, none⟩) 2 (fun k => if k = 0 then x else y) := fun i hi => by
  refine ⟨⟨W.heap.size, 0, none⟩, rfl, by simp, ?_⟩
  rcases (show i = 0 ∨ i = 1 by omega) with rfl | rfl <;> (rw [add0]; simp [go_sem])

set_option maxRecDepth 100000 in
set_option maxHeartbeats 4000000 in
theorem less_any (X : Nat) (p : Option Addr) (n c : Nat) (F : Nat → Fl) (kok : ∀ k, k < n → (F k).kok) (B : Nat) (x y : Int) (w : World) (h : KpF X p n c F B w) (hx : 0 ≤ x ∧ x < n) (hy : 0 ≤ y ∧ y < n) :
    Calls Try.prog 43 #[.int .i64 x, .int .i64 y, .pointer (some ⟨X, 0, none⟩)] w fun e w' => e = .returned (.int .i64 (ocK F x y)) ∧ Below w.heap.size w w' := by
  obtain ⟨cX, fr, -, -, xl⟩ := h
  obtain ⟨u, rfl⟩ := Int.eq_ofNat_of_zero_le hx.1
  obtain ⟨v, rfl⟩ := Int.eq_ofNat_of_zero_le hy.1
  obtain ⟨a, rfl, -⟩ := fr u (by omega)
  obtain ⟨z0, a0, a1, a2, a3, a4, a5⟩ := fr.at1 (show u < n by omega) rfl
  obtain ⟨z1, b0, b1, b2, b3, b4, b5⟩ := fr.at1 (show v < n by omega) rfl
  have u1 : (0 : Int) ≤ (u : Int) := by omega
  have u2 : (u : Int) < (n : Int) := by omega
  have v1 : (0 : Int) ≤ (v : Int) := by omega
  have v2 : (v : Int) < (n : Int) := by omega
  have JE := Lib.hid (show ocK F (u : Int) (v : Int) = orV (kcmp (F u) (F v)) (cmpV (F u).mic (F v).mic) from rfl)
  have KU := Lib.hid (kok u (by omega))
  have KV := Lib.hid (kok v (by omega))
  rw [JE.out]
  obtain ⟨A1, hA1⟩ : ∃ A1, a.add (u * 6) = A1 := ⟨_, rfl⟩
  obtain ⟨A2, hA2⟩ : ∃ A2, a.add (v * 6) = A2 := ⟨_, rfl⟩
  rw [hA1] at z0 a0 a1 a2 a3 a4 a5
  rw [hA2] at z1 b0 b1 b2 b3 b4 b5
  have z01 : A1.block < w.heap.size + 1 := by omega
  have z11 : A2.block < w.heap.size + 1 := by omega
  have xl1 : X < w.heap.size + 1 := by omega
  clear fr kok hx hy JE
  generalize F u = s at *
  generalize F v = t at *
  have CK := Lib.hid (fun W g6 g7 (h : TwoF w W g6 g7 s t) => compare_any KU.out KV.out h.kd.1 h.kd.2)
  have CM := Lib.hid (fun W => cmpI_any s.mic t.mic W)
  have CO := Lib.hid (fun W => or_any _ 2 (kcmp s t) (cmpV s.mic t.mic) _ (nmR_two W (kcmp s t) (cmpV s.mic t.mic) 3))
  have CO2 := Lib.hid (fun W => or_any _ 2 (kcmp s t) (cmpV s.mic t.mic) _ ((nmR_two W (kcmp s t) (cmpV s.mic t.mic) 3).below (Below.refl _ _).drew))
  generalize kcmp s t = r1 at *
  generalize cmpV s.mic t.mic = r2 at *
  go_enter Try.func43, Try.ntmps43
  go_upto_region 1 with fail
  go_cut [6, 7] from 1 to 2 (fun p6 p7 wx => ∃ g6 g7, p6 = .pointer (some ⟨g6, 0, none⟩) ∧ p7 = .pointer (some ⟨g7, 0, none⟩) ∧ Hid (TwoF w wx g6 g7 s t))
  case first =>
    go_region
    all_goals go_wp2_with fail
    all_goals go_meet
    all_goals first
      | exact ⟨_, _, rfl, rfl, Lib.hid (twoF_a w w s t (Below.refl _ _)).dr⟩
      | exact ⟨_, _, rfl, rfl, Lib.hid (twoF_b w w s t (Below.refl _ _)).dr⟩
  case rest =>
    obtain ⟨g6, g7, rfl, rfl, T⟩ := hcut
    clear a0 a1 a2 a3 a4 a5 b0 b1 b2 b3 b4 b5 z0 z1 z01 z11 hA1 hA2 cX xl xl1
    have s4 : wc.cell? ⟨g6, 4, none⟩ = some (.int .i64 s.mic) := T.out.1.cell (k := 4) (by decide)
    have t4 : wc.cell? ⟨g7, 4, none⟩ = some (.int .i64 t.mic) := T.out.2.1.cell (k := 4) (by decide)
    go_wp2_with fail
    go_region_law (first
      | (go_simp; go_at_call 45; (with_reducible refine (CK.out _ _ _ (by first | exact T.out | exact T.out.dr)).mono ?_); rintro e w2 ⟨rfl, rfl⟩)
      | (go_simp; go_at_call 46; (with_reducible refine (CM.out _).mono ?_); rintro e w3 ⟨rfl, rfl⟩)
      | (go_simp; go_at_call 44; (first | with_reducible refine (CO.out _).mono ?_ | with_reducible refine (CO2.out _).mono ?_); rintro e w4 ⟨rfl, rfl⟩))
    all_goals go_wp2_with fail
    all_goals go_ret
    all_goals exact ⟨rfl, by first | exact (T.out.2.2.alloc T.out.2.2.size _).drew | exact (T.out.2.2.drew.alloc T.out.2.2.size _)⟩
end Go.Proofs.Ytmdhmpfagekonaa
