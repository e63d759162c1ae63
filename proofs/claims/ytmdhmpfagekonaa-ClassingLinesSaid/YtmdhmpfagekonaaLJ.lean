/- Classing's lines: the law's own functions. -/
import Derived.Test.YtmdhmpfagekonaaLD
/- Classing's lines: the law's own functions: few, own, kept. -/
namespace Go.Proofs.Ytmdhmpfagekonaa
open Go.RowKit Go.Proofs.Ytmdhmpfagekonaa.Ct Go.Proofs.Ytmdhmpfagekonaa.Ce Go.Proofs.Ytmdhmpfagekonaa.Stb
set_option linter.unusedVariables false
set_option linter.unusedSimpArgs false

theorem i64Size : (Try.prog.info? 3).map (·.size) = some 1 := by kernel_rfl
theorem kdSize : (Try.prog.info? 35).map (·.size) = some 4 := by kernel_rfl
theorem size_i64 (w : World) : (sizeOf 3).run Try.prog w = .ok 1 w := by
  cases hq : Try.prog.info? 3 with
  | none => have := i64Size; simp [hq] at this
  | some i =>
    have hs : i.size = 1 := by have := i64Size; simpa [hq] using this
    simp [sizeOf, typeInfo, hq, hs]
theorem size_kd (w : World) : (sizeOf 35).run Try.prog w = .ok 4 w := by
  cases hq : Try.prog.info? 35 with
  | none => have := kdSize; simp [hq] at this
  | some i =>
    have hs : i.size = 4 := by have := kdSize; simpa [hq] using this
    simp [sizeOf, typeInfo, hq, hs]
theorem agg_i64 (w : World) : (isAgg 3).run Try.prog w = .ok false w := by
  unfold isAgg
  rw [Sem.run_bind, run_underlying Try.underlying3 w]
  rfl
theorem agg_kd (w : World) : (isAgg 35).run Try.prog w = .ok true w := by
  unfold isAgg
  rw [Sem.run_bind, run_underlying Try.underlying35 w]
  rfl
theorem flUnd : Try.prog.underlying 55 = some (.struct (Try.prog.fieldsOf 55)) := by kernel_rfl
set_option maxRecDepth 100000 in
set_option maxHeartbeats 4000000 in
/-- A fleece is itself. -/
theorem eq_fl (a b c d e f : Int) (w : World) : (Op.equalIn 10000 55 (.agg #[.int .u8 a, .int .u8 b, .int .u8 c, .int .u8 d, .int .i64 e, .int .i64 f]) (.agg #[.int .u8 a, .int .u8 b, .int .u8 c, .int .u8 d, .int .i64 e, .int .i64 f])).run Try.prog w = .ok true w := by
  have u3 := Try.underlying5
  have u4 := Try.underlying3
  have a4 : ∀ w, (isAgg 3).run Try.prog w = .ok false w := agg_i64
  have a5 : ∀ w, (isAgg 35).run Try.prog w = .ok true w := agg_kd
  have z4 : ∀ w, (sizeOf 3).run Try.prog w = .ok 1 w := size_i64
  have z5 : ∀ w, (sizeOf 35).run Try.prog w = .ok 4 w := size_kd
  have ek : ∀ w, (Op.equalIn 9999 35 (.agg #[.int .u8 a, .int .u8 b, .int .u8 c, .int .u8 d]) (.agg #[.int .u8 a, .int .u8 b, .int .u8 c, .int .u8 d])).run Try.prog w = .ok true w := fun w => by
    have a3 : ∀ w, (isAgg 5).run Try.prog w = .ok false w := agg_u8
    have z3 : ∀ w, (sizeOf 5).run Try.prog w = .ok 1 w := size_u8
    rw [show (9999 : Nat) = 9998 + 1 from rfl, Op.equalIn]
    simp only [Sem.run_bind, run_underlying Try.underlying35, Result.andThen_ok]
    simp only [Std.Legacy.Range.forIn_eq_forIn_range', Std.Legacy.Range.size, Nat.sub_zero, Nat.add_sub_cancel, Nat.div_one, List.range'_succ, List.range'_zero, List.forIn_cons, List.forIn_nil]
    go_simp
  have e1 : ∀ (x : Int) w, (Op.equalIn 9999 3 (.int .i64 x) (.int .i64 x)).run Try.prog w = .ok true w := fun x w => by
    rw [show (9999 : Nat) = 9998 + 1 from rfl, Op.equalIn]
    go_simp
  rw [show (10000 : Nat) = 9999 + 1 from rfl, run_equalIn_struct w 9999 55 _ _ flUnd (by kernel_rfl)]
  unfold Program.fieldsOf
  rw [Try.underlying55]
  simp only [Op.eqFields, Sem.run_bind]
  go_simp
def mk7 : Fl := ⟨0, 0, 0, 0, 7, 7⟩
/-- The fleeces, and a mark behind. -/
def mkd (F : Nat → Fl) (n k : Nat) : Fl := if k < n then F k else mk7

set_option maxRecDepth 100000 in
theorem few_any (p : Option Addr) (c n : Nat) (w : World) : Calls Try.prog 10 #[.slice p n c] w fun e w' => e = .returned (.bool (decide (n ≤ 140))) ∧ w = w' := by
  obtain ⟨b, hb⟩ : ∃ b, b = decide (n ≤ 140) := ⟨_, rfl⟩
  have d1 : decide ((n : Int) ≤ 140) = b := by rw [hb]; exact decide_eq_decide.2 (by omega)
  rw [← hb]
  clear hb
  go_enter Try.func10, Try.ntmps10
  go_wp2_with fail
  go_ret
  exact ⟨by simp [d1], rfl⟩

set_option maxRecDepth 100000 in
set_option maxHeartbeats 8000000 in
theorem own_any (p : Option Addr) (c n : Nat) (F : Nat → Fl) (w : World) (r : FlR w p n F) (ln : n ≤ 140) :
    Calls Try.prog 12 #[.slice p n c] w fun e w' => ∃ b, e = .returned (.slice (some ⟨b, 0, none⟩) n (n + 1)) ∧ OB w' b 55 ((n + 1) * 6) (rowF (mkd F n)) ∧ Below w.heap.size w w' ∧ w.heap.size ≤ b := by
  obtain ⟨i1, hi1, hy0, hy1, hy2⟩ := info_parts flInfo
  have R := Lib.hid r
  clear r
  have e0 : IntKind.i64.wrap ((n : Int) + 1) = (n : Int) + 1 := hwI (by omega) (by omega)
  have n0 : ¬ ((n : Int) + 1 < 0) := by omega
  go_enter Try.func12, Try.ntmps12
  go_upto_region 2 with (first
    | (at_make; refine wpList_make_full _ rfl _ _ 22 rfl w.heap.size 55 i1 _ 6 Try.underlying22 hi1 hy0 hy1 .i64 .i64 _ _ (n + 1) rfl rfl (by omega) (by omega) (by rw [hy2]; omega) (by unfold maxLen; omega) (Nat.le_refl _) ?_; intro wc hown hgrow))
  rw [madeFls] at hown
  have OL := Lib.hid (show OB wc w.heap.size 55 ((n + 1) * 6) (rowF fun _ => fl0) from OB.of hown)
  have B3 := Lib.hid (show Below w.heap.size w wc from (Below.refl _ _).grown hgrow (Nat.le_refl _) (fun k e => by cases e))
  clear hown hgrow
  obtain ⟨g, hg⟩ : ∃ g, g = w.heap.size := ⟨_, rfl⟩
  rw [← hg] at OL ⊢
  have HG := Lib.hid hg
  clear hg
  go_wp2_with fail
  go_loopw [4] (fun kv wr => ∃ k : Nat, k ≤ n ∧ kv = .int .i64 k ∧ Hid (OB wr g 55 ((n + 1) * 6) (rowF fun j => if j < k then F j else fl0)) ∧ Hid (Below w.heap.size w wr)) (fun kv _ => n - (intOf kv).toNat)
  case atStart => exact ⟨0, Nat.zero_le _, rfl, OL, B3⟩
  case round =>
    clear OL B3
    obtain ⟨k, hk, rfl, HO, HB⟩ := hrel
    by_cases t1 : k < n
    case pos =>
      have k1 : (0 : Int) ≤ (k : Int) := by omega
      have k2 : (k : Int) < (n : Int) := by omega
      have k3 : (k : Int) < (n : Int) + 1 := by omega
      have k4 : (k : Int) < ((n + 1 : Nat) : Int) := by omega
      obtain ⟨x, rfl, -⟩ := R.out k t1
      obtain ⟨-, a0, a1, a2, a3, a4, a5⟩ := (R.out.below HB.out).at1 t1 rfl
      have NX := Lib.hid ((HO.out.setF k (F k)).ext (c' := rowF fun j => if j < k + 1 then F j else fl0) fun m _ => by
        have hg : upG (fun j => if j < k then F j else fl0) k (F k) (m / 6) = if m / 6 < k + 1 then F (m / 6) else fl0 := by
          unfold upG
          by_cases e : m / 6 = k
          · rw [if_pos e, e, if_pos (by omega)]
          · rw [if_neg e]
            dsimp only
            by_cases l : m / 6 < k
            · rw [if_pos l, if_pos (by omega)]
            · rw [if_neg l, if_neg (by omega)]
        unfold rowF
        rw [hg])
      have NB := Lib.hid (below_setF HB.out (g := g) (by rw [HG.out]; exact Nat.le_refl _) k (F k))
      have z0 := HO.out.cell (k := k * 6) (by omega)
      have z1 := HO.out.cell (k := k * 6 + 1) (by omega)
      have z2 := HO.out.cell (k := k * 6 + 2) (by omega)
      have z3 := HO.out.cell (k := k * 6 + 3) (by omega)
      have z4 := HO.out.cell (k := k * 6 + 4) (by omega)
      have z5 := HO.out.cell (k := k * 6 + 5) (by omega)
      obtain ⟨f0, f1, f2, f3, f4, f5⟩ := rowF_k (fun j => if j < k then F j else fl0) k
      rw [f0] at z0
      rw [f1] at z1
      rw [f2] at z2
      rw [f3] at z3
      rw [f4] at z4
      rw [f5] at z5
      have y0 := HO.out.frozen (k * 6)
      have y1 := HO.out.frozen (k * 6 + 1)
      have y2 := HO.out.frozen (k * 6 + 2)
      have y3 := HO.out.frozen (k * 6 + 3)
      have y4 := HO.out.frozen (k * 6 + 4)
      have y5 := HO.out.frozen (k * 6 + 5)
      unfold setF at NX NB
      clear HO HB f0 f1 f2 f3 f4 f5
      generalize F k = s at *
      generalize (if k < k then s else fl0) = s' at *
      go_wp2_with fail
      go_roundw
      case rel => exact ⟨k + 1, by omega, by go_num, NX, NB⟩
      case measure => simp [intOf]; omega
    obtain rfl : k = n := by omega
    have NX := Lib.hid (show OB (setF wr g k mk7) g 55 ((k + 1) * 6) (rowF (mkd F k)) from (HO.out.setF k mk7).ext fun m hm => by
      have hg : upG (fun j => if j < k then F j else fl0) k mk7 (m / 6) = mkd F k (m / 6) := by
        unfold upG mkd
        by_cases e : m / 6 = k
        · rw [if_pos e, if_neg (by omega)]
        · rw [if_neg e]
          dsimp only
          rw [if_pos (by omega), if_pos (by omega)]
      unfold rowF
      rw [hg])
    have NB := Lib.hid (below_setF HB.out (g := g) (by rw [HG.out]; exact Nat.le_refl _) k mk7)
    have k1 : (0 : Int) ≤ (k : Int) := by omega
    have k3 : (k : Int) < (k : Int) + 1 := by omega
    have k4 : (k : Int) < ((k + 1 : Nat) : Int) := by omega
    have k5 : (k : Int) ≤ (k : Int) + 1 := by omega
    have k6 : (k : Int) ≤ ((k + 1 : Nat) : Int) := by omega
    have z0 := HO.out.cell (k := k * 6) (by omega)
    have z1 := HO.out.cell (k := k * 6 + 1) (by omega)
    have z2 := HO.out.cell (k := k * 6 + 2) (by omega)
    have z3 := HO.out.cell (k := k * 6 + 3) (by omega)
    have z4 := HO.out.cell (k := k * 6 + 4) (by omega)
    have z5 := HO.out.cell (k := k * 6 + 5) (by omega)
    obtain ⟨f0, f1, f2, f3, f4, f5⟩ := rowF_k (fun j => if j < k then F j else fl0) k
    rw [f0] at z0
    rw [f1] at z1
    rw [f2] at z2
    rw [f3] at z3
    rw [f4] at z4
    rw [f5] at z5
    have y0 := HO.out.frozen (k * 6)
    have y1 := HO.out.frozen (k * 6 + 1)
    have y2 := HO.out.frozen (k * 6 + 2)
    have y3 := HO.out.frozen (k * 6 + 3)
    have y4 := HO.out.frozen (k * 6 + 4)
    have y5 := HO.out.frozen (k * 6 + 5)
    unfold setF at NX NB
    clear HO HB f0 f1 f2 f3 f4 f5
    generalize (if k < k then F k else fl0) = s' at *
    go_wp2_with fail
    go_ret
    exact ⟨g, rfl, NX.out, NB.out, Nat.le_of_eq HG.out.symm⟩
end Go.Proofs.Ytmdhmpfagekonaa

/- Classing's lines: kept. -/
namespace Go.Proofs.Ytmdhmpfagekonaa
open Go.RowKit Go.Proofs.Ytmdhmpfagekonaa.Ct Go.Proofs.Ytmdhmpfagekonaa.Ce Go.Proofs.Ytmdhmpfagekonaa.Stb
set_option linter.unusedVariables false
set_option linter.unusedSimpArgs false

set_option maxRecDepth 100000 in
set_option maxHeartbeats 8000000 in
theorem kept_any (b : Nat) (p : Option Addr) (c n : Nat) (F : Nat → Fl) (w : World) (o : OB w b 55 ((n + 1) * 6) (rowF (mkd F n))) (r : FlR w p n F) (ln : n ≤ 140) :
    Calls Try.prog 16 #[.slice (some ⟨b, 0, none⟩) n (n + 1), .slice p n c] w fun e w' => e = .returned (.bool true) ∧ Below w.heap.size w w' := by
  have R := Lib.hid r
  have O := Lib.hid o
  clear r o
  have e0 : IntKind.i64.wrap ((n : Int) + 1) = (n : Int) + 1 := hwI (by omega) (by omega)
  have m1 : (n : Int) + 1 ≤ ((n + 1 : Nat) : Int) := by omega
  have m2 : (0 : Int) ≤ (n : Int) + 1 := by omega
  go_enter Try.func16, Try.ntmps16
  go_wp2_with fail
  go_loopw [6] (fun kv wr => ∃ k : Nat, k ≤ n ∧ kv = .int .i64 k ∧ Hid (Below w.heap.size w wr)) (fun kv _ => n - (intOf kv).toNat)
  case atStart => exact ⟨0, Nat.zero_le _, rfl, Lib.hid (Below.refl _ _)⟩
  case round =>
    obtain ⟨k, hk, rfl, HB⟩ := hrel
    have OW := O.out.below HB.out
    by_cases t1 : k < n
    case pos =>
      have k1 : (0 : Int) ≤ (k : Int) := by omega
      have k2 : (k : Int) < (n : Int) := by omega
      have k3 : (k : Int) < (n : Int) + 1 := by omega
      have k4 : (k : Int) < ((n + 1 : Nat) : Int) := by omega
      obtain ⟨x, rfl, -⟩ := R.out k t1
      obtain ⟨-, a0, a1, a2, a3, a4, a5⟩ := (R.out.below HB.out).at1 t1 rfl
      obtain ⟨-, b0, b1, b2, b3, b4, b5⟩ := OW.flAt (i := k) (by omega)
      rw [show mkd F n k = F k from if_pos t1] at b0 b1 b2 b3 b4 b5
      have EK := fun W => eq_fl (F k).ka (F k).kb (F k).kc (F k).kd (F k).mic (F k).gr W
      clear OW
      generalize F k = s at *
      go_upto_region 5 with fail
      go_quiet (fail)
      go_wp2_with fail
      go_roundw
      case rel => exact ⟨k + 1, by omega, by go_num, Lib.hid (below_drewN HB.out _)⟩
      case measure => simp [intOf]; omega
    obtain rfl : k = n := by omega
    have k1 : (0 : Int) ≤ (k : Int) := by omega
    have k3 : (k : Int) < (k : Int) + 1 := by omega
    have k4 : (k : Int) < ((k + 1 : Nat) : Int) := by omega
    obtain ⟨-, b0, b1, b2, b3, b4, b5⟩ := OW.flAt (i := k) (by omega)
    rw [show mkd F k k = mk7 from if_neg (by omega)] at b0 b1 b2 b3 b4 b5
    replace b0 : wr.cell? ⟨b, k * 6, none⟩ = some (.int .u8 0) := b0
    replace b1 : wr.cell? ⟨b, k * 6 + 1, none⟩ = some (.int .u8 0) := b1
    replace b2 : wr.cell? ⟨b, k * 6 + 2, none⟩ = some (.int .u8 0) := b2
    replace b3 : wr.cell? ⟨b, k * 6 + 3, none⟩ = some (.int .u8 0) := b3
    replace b4 : wr.cell? ⟨b, k * 6 + 4, none⟩ = some (.int .i64 7) := b4
    replace b5 : wr.cell? ⟨b, k * 6 + 5, none⟩ = some (.int .i64 7) := b5
    have EK := fun W => eq_fl 0 0 0 0 7 7 W
    clear OW
    go_wp2_with fail
    go_ret
    exact ⟨rfl, HB.out⟩
end Go.Proofs.Ytmdhmpfagekonaa
