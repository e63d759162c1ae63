/- Several texts in one: HA0 HA1 HA2 HA3 HA4 HA5 HA6 HQ1. -/
import Derived.Test.YtbcfafihkdddeaaB0
import Derived.Test.YtbcfafihkdddeaaB10
import Derived.Test.YtbcfafihkdddeaaB5
import Derived.Laws.Rows
import Derived.Laws.Tables
import Derived.Lib.Hide
import Derived.Deep.CutRange
import Derived.Deep.CutBlock
import Derived.Deep.RegionHeld3
import Derived.Deep.QuietTactic

/- Classing: arrays of 64 numbers by value. -/
namespace Go.Proofs.Ytbcfafihkdddeaa
open Go.RowKit
set_option linter.unusedVariables false
set_option linter.unusedSimpArgs false

/-- The cells of a histogram; its value. -/
def hC (H : Nat → Int) : Array Value := ((List.range 64).map fun k => Value.int .i64 (H k)).toArray
abbrev hV (H : Nat → Int) : Value := .agg (hC H)
theorem hC_size (H : Nat → Int) : (hC H).size = 64 := by simp [hC]
theorem hC_at (H : Nat → Int) {k : Nat} (hk : k < 64) : (hC H)[k]? = some (.int .i64 (H k)) := by simp [hC, hk]
theorem hC_one (H : Nat → Int) : (hC H).all (·.oneCell') = true := by
  rw [Array.all_eq_true_iff_forall_mem]
  intro v hv
  simp [hC] at hv
  obtain ⟨k, _, rfl⟩ := hv
  rfl
theorem hC_ext {H G : Nat → Int} (h : ∀ k, k < 64 → H k = G k) : hC H = hC G := by
  unfold hC
  rw [List.map_congr_left fun k hk => by rw [h k (List.mem_range.1 hk)]]
theorem histSize : (Try.prog.info? 23).map (·.size) = some 64 := by kernel_rfl
theorem histSize' (H : Nat → Int) : (Try.prog.info? 23).map (·.size) = some (hC H).size := by rw [hC_size]; exact histSize
theorem intSize : (Try.prog.info? 3).map (·.size) = some 1 := by kernel_rfl
theorem size_int (w : World) : (sizeOf 3).run Try.prog w = .ok 1 w := by
  cases hq : Try.prog.info? 3 with
  | none => have := intSize; simp [hq] at this
  | some i =>
    have hs : i.size = 1 := by have := intSize; simpa [hq] using this
    simp [sizeOf, typeInfo, hq, hs]
theorem agg_int (w : World) : (isAgg 3).run Try.prog w = .ok false w := by
  unfold isAgg
  rw [Sem.run_bind, run_underlying Try.underlying3 w]
  rfl
theorem part_hist (H : Nat → Int) {k : Nat} (hk : k < 64) (w : World) : (part 3 (hC H) k).run Try.prog w = .ok (.int .i64 (H k)) w := by
  simp [part, Sem.run_bind, agg_int, hC_at H hk]
/-- A number of a histogram. -/
theorem index_hist (H : Nat → Int) {k : Nat} (hk : k < 64) (w : World) : (Instr.index 23 (hV H) (.int .i64 (k : Int))).run Try.prog w = .ok (.int .i64 (H k)) w := by
  have h1 : (0 : Int) ≤ (k : Int) ∧ (k : Int) < ((64 : Nat) : Int) := by omega
  unfold Instr.index
  simp only [asIntOf, Sem.run_bind, Sem.run_pure, Result.andThen_ok, run_underlying Try.underlying23, if_pos h1, size_int, Int.toNat_natCast, Nat.mul_one]
  exact part_hist H hk w
/-- A histogram in a block of its own. -/
def HB (W : World) (g : Nat) (H : Nat → Int) : Prop := W.heap[g]? = some (.cells (hC H) 23 (0, 0))
theorem HB.keep {W W' : World} {g : Nat} {H : Nat → Int} (h : HB W g H) (e : W'.heap[g]? = W.heap[g]?) : HB W' g H := e.trans h
theorem HB.lt {W : World} {g : Nat} {H : Nat → Int} (h : HB W g H) : g < W.heap.size := (Array.getElem?_eq_some_iff.1 h).1
theorem HB.cell {W : World} {g : Nat} {H : Nat → Int} (h : HB W g H) {k : Nat} (hk : k < 64) : W.cell? ⟨g, k, none⟩ = some (.int .i64 (H k)) := by
  unfold HB at h
  simp [World.cell?, h, hC_at H hk]
theorem HB.frozen {W : World} {g : Nat} {H : Nat → Int} (h : HB W g H) (k : Nat) : W.frozen? ⟨g, k, none⟩ = false := by
  unfold HB at h
  simp [World.frozen?, h]
theorem HB.set {W : World} {g : Nat} {H : Nat → Int} (h : HB W g H) (k : Nat) (x : Int) : HB (W.setCell ⟨g, k, none⟩ (.int .i64 x)) g (fun j => if j = k then x else H j) := by
  have e := heap_setCell_same W g k _ _ (.int .i64 x) h
  unfold HB
  rw [e]
  congr 2
  unfold hC
  apply Array.ext'
  simp only [Array.toList_setIfInBounds]
  apply List.ext_getElem
  · simp
  · intro i h1 h2
    simp only [List.getElem_set, List.getElem_map, List.getElem_range]
    by_cases c : k = i
    · subst c; simp
    · rw [if_neg c, if_neg (fun e => c e.symm)]
theorem HB.row {W : World} {g : Nat} {H : Nat → Int} (h : HB W g H) (G : Nat → Int) : HB (W.setRow g (hC G)) g G := setRow_heap W g (hC H) (hC G) 23 (0, 0) h
/-- A histogram is the same as itself. -/
theorem eq_loop (H : Nat → Int) (w : World) : ∀ l : List Nat, (∀ i ∈ l, i < 64) → Sem.run Try.prog
          (forIn l ((none, ()) : Option Bool × Unit) fun i __s => do
            let __do_lift ← part 3 (hC H) i
            let __do_lift_1 ← part 3 (hC H) i
            let __do_lift ← Op.equalIn 9999 3 __do_lift __do_lift_1
            if (!__do_lift) = true then pure (ForInStep.done (some false, ())) else pure (ForInStep.yield (none, ())))
          w = .ok (none, ()) w
  | [], _ => by simp
  | i :: l, h => by
    have e : (Op.equalIn 9999 3 (.int .i64 (H i)) (.int .i64 (H i))).run Try.prog w = .ok true w := by
      rw [show (9999 : Nat) = 9998 + 1 from rfl]
      unfold Op.equalIn
      simp only [Sem.run_bind, run_underlying Try.underlying3, Result.andThen_ok]
      simp
    rw [List.forIn_cons]
    simp only [Sem.run_bind, part_hist H (h i (by simp)), Result.andThen_ok, e]
    simp only [Bool.not_true, Bool.false_eq_true, if_false, Sem.run_pure, Result.andThen_ok]
    exact eq_loop H w l (fun j hj => h j (by simp [hj]))
theorem eq_hist (H : Nat → Int) (w : World) : (Op.equal 23 (hV H) (hV H)).run Try.prog w = .ok true w := by
  unfold Op.equal Op.maxDepth
  rw [show (10000 : Nat) = 9999 + 1 from rfl]
  unfold Op.equalIn
  simp only [Sem.run_bind, run_underlying Try.underlying23, Result.andThen_ok, size_int, Nat.mul_one]
  rw [Std.Legacy.Range.forIn_eq_forIn_range']
  rw [eq_loop H w _ (fun i hi => by simp [List.mem_range'] at hi; omega)]
  simp
end Go.Proofs.Ytbcfafihkdddeaa

/- Classing: Total. -/
namespace Go.Proofs.Ytbcfafihkdddeaa
open Go.RowKit
set_option linter.unusedVariables false
set_option linter.unusedSimpArgs false

theorem hwI {x : Int} (h1 : -9223372036854775808 ≤ x) (h2 : x ≤ 9223372036854775807) : IntKind.i64.wrap x = x := IntWalk.i64_in _ ⟨h1, h2⟩
def hsum (H : Nat → Int) : Nat → Int
  | 0 => 0
  | k + 1 => hsum H k + H k
theorem hsum_mono {H : Nat → Int} {k : Nat} : ∀ {n : Nat}, (∀ j, j < n → 0 ≤ H j) → k ≤ n → hsum H k ≤ hsum H n
  | 0, _, h => by rw [show k = 0 by omega]; exact Int.le_refl _
  | n + 1, hz, h => by
    by_cases e : k = n + 1
    · rw [e]; exact Int.le_refl _
    · have := hsum_mono (k := k) (n := n) (fun j hj => hz j (by omega)) (by omega)
      have := hz n (by omega)
      show hsum H k ≤ hsum H n + H n
      omega
theorem hsum_congr {H G : Nat → Int} : ∀ {n : Nat}, (∀ j, j < n → H j = G j) → hsum H n = hsum G n
  | 0, _ => rfl
  | n + 1, h => by
    show hsum H n + H n = hsum G n + G n
    rw [hsum_congr (fun j hj => h j (by omega)), h n (by omega)]
theorem hsum_add (H G : Nat → Int) : ∀ n, hsum (fun k => H k + G k) n = hsum H n + hsum G n
  | 0 => rfl
  | n + 1 => by
    show hsum (fun k => H k + G k) n + (H n + G n) = hsum H n + H n + (hsum G n + G n)
    rw [hsum_add H G n]; omega
/-- The counts may be totalled. -/
def HOk (H : Nat → Int) (n : Nat) : Prop := (∀ j, j < n → 0 ≤ H j) ∧ hsum H n ≤ 1048576
theorem HOk.less {H : Nat → Int} {k n : Nat} (h : HOk H n) (hk : k ≤ n) : HOk H k := ⟨fun j hj => h.1 j (by omega), Int.le_trans (hsum_mono h.1 hk) h.2⟩
/-- What Total answers. -/
def TotQ (H : Nat → Int) (n x : Int) : Prop := (HOk H 64 ∧ x = 0 ∧ n = hsum H 64) ∨ (¬ HOk H 64 ∧ x = 2 ∧ n = 0)

set_option maxRecDepth 100000 in
set_option maxHeartbeats 4000000 in
theorem Total_any (H : Nat → Int) (w : World) :
    Calls Try.prog 11 #[hV H] w fun e w' => ∃ n x, e = .returned (.tuple #[.int .i64 n, .int .i64 x]) ∧ TotQ H n x ∧ Below w.heap.size w w' := by
  have HQ := Lib.hid (show ∀ n x, TotQ H n x = ((HOk H 64 ∧ x = 0 ∧ n = hsum H 64) ∨ (¬ HOk H 64 ∧ x = 2 ∧ n = 0)) from fun _ _ => rfl)
  have IX := Lib.hid (fun (k : Nat) (hk : k < 64) => index_hist H hk)
  have BD := Lib.hid (heap_alloc_new w (Obj.cells (hC H) 23))
  have B1 := Lib.hid (show Below w.heap.size w (w.alloc (Obj.cells (hC H) 23)) from (Below.refl _ w).alloc (Nat.le_refl _) _)
  go_enter Try.func11, Try.ntmps11
  go_upto_region 2 with fail
  generalize w.alloc (Obj.cells (hC H) 23) = w1 at *
  obtain ⟨g, hg⟩ : ∃ g, g = w.heap.size := ⟨_, rfl⟩
  rw [← hg] at BD ⊢
  clear hg
  go_upto_region 3 with (refine wpList_load_row rfl _ _ rfl g rfl _ (hC H) (0, 0) _ BD.out Try.underlying23 rfl (histSize' H) ?_)
  clear BD
  go_loopw [4, 8] (fun sv kv wr => ∃ k : Nat, k ≤ 64 ∧ kv = .int .i64 k ∧ sv = .int .i64 (hsum H k) ∧ Hid (HOk H k) ∧ wr = w1) (fun _ kv _ => 64 - (intOf kv).toNat)
  case atStart => exact ⟨0, by omega, rfl, rfl, Lib.hid ⟨fun j hj => by omega, by simp [hsum]⟩, rfl⟩
  case round =>
    obtain ⟨k, hk, rfl, rfl, OK, rfl⟩ := hrel
    by_cases t1 : k < 64
    · have k2 : (k : Int) < 64 := by omega
      have ix := IX.out k t1
      have SS := Lib.hid (show hsum H (k + 1) = hsum H k + H k from rfl)
      have sb := OK.out.2
      have s0 : 0 ≤ hsum H k := by have := hsum_mono (k := 0) OK.out.1 (Nat.zero_le k); exact this
      have NO := Lib.hid (show ¬ HOk H (k + 1) → TotQ H 0 2 from fun h => by rw [HQ.out]; exact .inr ⟨fun g => h (g.less (by omega)), rfl, rfl⟩)
      have ST := Lib.hid (show ¬ H k < 0 → ¬ 1048576 - hsum H k < H k → HOk H (k + 1) from fun h1 h2 => ⟨fun j hj => by
        by_cases e : j = k
        · subst e; omega
        · exact OK.out.1 j (by omega), by rw [SS.out]; omega⟩)
      have N1 := Lib.hid (show H k < 0 → ¬ HOk H (k + 1) from fun h g => by have := g.1 k (by omega); omega)
      have N2 := Lib.hid (show 1048576 - hsum H k < H k → ¬ HOk H (k + 1) from fun h g => by have := g.2; rw [SS.out] at this; omega)
      clear OK HQ
      generalize hsum H k = S at *
      generalize H k = x at *
      have wD : IntKind.i64.wrap (1048576 - S) = 1048576 - S := hwI (by omega) (by omega)
      by_cases c1 : x < 0
      · have d1 : decide (x < 0) = true := decide_eq_true c1
        have FF := Lib.hid (NO.out (N1.out c1))
        clear NO ST N1 N2 SS c1
        go_wp2_with fail
        go_ret2
        exact ⟨0, 2, rfl, FF.out, B1.out⟩
      have d1 : decide (x < 0) = false := decide_eq_false c1
      by_cases c2 : 1048576 - S < x
      · have d2 : decide (1048576 - S < x) = true := decide_eq_true c2
        have FF := Lib.hid (NO.out (N2.out c2))
        clear NO ST N1 N2 SS c1
        go_wp2_with fail
        go_ret2
        exact ⟨0, 2, rfl, FF.out, B1.out⟩
      have d2 : decide (1048576 - S < x) = false := decide_eq_false c2
      have O2 := Lib.hid (ST.out c1 c2)
      have wS : IntKind.i64.wrap (S + x) = S + x := hwI (by omega) (by omega)
      clear NO ST N1 N2 c1
      go_wp2_with fail
      go_roundw
      case rel => exact ⟨k + 1, by omega, by go_num, by rw [SS.out], O2, by first | rfl | trivial⟩
      case measure => simp [intOf]; omega
    obtain rfl : k = 64 := by omega
    have FF := Lib.hid (show TotQ H (hsum H 64) 0 from by rw [HQ.out]; exact .inl ⟨OK.out, rfl, rfl⟩)
    clear OK HQ IX
    generalize hsum H 64 = S at *
    go_wp2_with fail
    go_ret2
    exact ⟨S, 0, rfl, FF.out, B1.out⟩
end Go.Proofs.Ytbcfafihkdddeaa

/- Classing: the first moment; Micron. -/
namespace Go.Proofs.Ytbcfafihkdddeaa
open Go.RowKit
set_option linter.unusedVariables false
set_option linter.unusedSimpArgs false

/-- The first moment of the first k counts. -/
def hmom (H : Nat → Int) (k : Nat) : Int := hsum (fun j => H j * (j : Int)) k
theorem hmom_bd {H : Nat → Int} : ∀ {n : Nat}, n ≤ 64 → HOk H n → 0 ≤ hmom H n ∧ hmom H n ≤ 63 * hsum H n
  | 0, _, _ => by simp [hmom, hsum]
  | n + 1, hn, h => by
    have ih := hmom_bd (n := n) (by omega) (h.less (by omega))
    have h0 := h.1 n (by omega)
    have e1 : hmom H (n + 1) = hmom H n + H n * (n : Int) := rfl
    have e2 : hsum H (n + 1) = hsum H n + H n := rfl
    have p0 : 0 ≤ H n * (n : Int) := Int.mul_nonneg h0 (by omega)
    have p1 : H n * (n : Int) ≤ H n * 63 := Int.mul_le_mul_of_nonneg_left (by omega) h0
    rw [e1, e2]; omega

set_option maxRecDepth 100000 in
set_option maxHeartbeats 4000000 in
theorem moment_any (H : Nat → Int) (ok : HOk H 64) (w : World) :
    Calls Try.prog 59 #[hV H, .int .i64 1] w fun e w' => e = .returned (.int .i64 (hmom H 64)) ∧ Below w.heap.size w w' := by
  have IX := Lib.hid (fun (k : Nat) (hk : k < 64) => index_hist H hk)
  have OK := Lib.hid ok
  have BD := Lib.hid (heap_alloc_new w (Obj.cells (hC H) 23))
  have B1 := Lib.hid (show Below w.heap.size w (w.alloc (Obj.cells (hC H) 23)) from (Below.refl _ w).alloc (Nat.le_refl _) _)
  clear ok
  go_enter Try.func59, Try.ntmps59
  go_upto_region 2 with fail
  generalize w.alloc (Obj.cells (hC H) 23) = w1 at *
  obtain ⟨g, hg⟩ : ∃ g, g = w.heap.size := ⟨_, rfl⟩
  rw [← hg] at BD ⊢
  clear hg
  go_upto_region 3 with (refine wpList_load_row rfl _ _ rfl g rfl _ (hC H) (0, 0) _ BD.out Try.underlying23 rfl (histSize' H) ?_)
  clear BD
  go_loopw [5, 9] (fun sv kv wr => ∃ k : Nat, k ≤ 64 ∧ kv = .int .i64 k ∧ sv = .int .i64 (hmom H k) ∧ wr = w1) (fun _ kv _ => 64 - (intOf kv).toNat)
  case atStart => exact ⟨0, by omega, rfl, rfl, rfl⟩
  case round =>
    obtain ⟨k, hk, rfl, rfl, rfl⟩ := hrel
    by_cases t1 : k < 64
    · have k2 : (k : Int) < 64 := by omega
      have ix := IX.out k t1
      have SS := Lib.hid (show hmom H (k + 1) = hmom H k + H k * (k : Int) from rfl)
      have b1 := hmom_bd (n := k) (by omega) (OK.out.less (by omega))
      have b2 := (OK.out.less (k := k) (by omega)).2
      have b3 := hmom_bd (n := k + 1) (by omega) (OK.out.less (by omega))
      have b4 := (OK.out.less (k := k + 1) (by omega)).2
      rw [SS.out] at b3
      have xb : 0 ≤ H k ∧ H k ≤ 1048576 := by
        have h0 := OK.out.1 k (by omega)
        have h1 : hsum H (k + 1) = hsum H k + H k := rfl
        have h2 : 0 ≤ hsum H k := by have := hsum_mono (k := 0) (fun j hj => OK.out.1 j (by omega)) (Nat.zero_le k); exact this
        omega
      generalize hmom H k = S at *
      obtain ⟨z, hz⟩ : ∃ z, z = H k * (k : Int) := ⟨_, rfl⟩
      rw [← hz] at SS b3
      have wM : IntKind.i64.wrap (H k * (k : Int)) = z := by rw [← hz]; exact hwI (by omega) (by omega)
      have wM2 : wrap64 (H k * (k : Int)) = z := by rw [← IntWalk.i64_left]; exact wM
      have wS : IntKind.i64.wrap (S + z) = S + z := hwI (by omega) (by omega)
      generalize H k = x at *
      clear hz b2 b4
      go_upto_region 6 with fail
      rename World => wv
      go_loopw [7, 14] (fun cv jv wq => ((jv = .int .i64 0 ∧ cv = .int .i64 x) ∨ (jv = .int .i64 1 ∧ cv = .int .i64 z)) ∧ wq = wv) (fun _ jv _ => 1 - (intOf jv).toNat)
      case atStart => exact ⟨.inl ⟨rfl, rfl⟩, rfl⟩
      case round =>
        obtain ⟨h, rfl⟩ := hrel
        rcases h with ⟨rfl, rfl⟩ | ⟨rfl, rfl⟩
        · clear wS SS
          go_wp2_with fail
          go_roundw
          case rel => exact ⟨.inr ⟨by go_num, by first | rfl | trivial⟩, by first | rfl | trivial⟩
          case measure => simp [intOf]
        · clear wM wM2
          go_wp2_with fail
          go_roundw
          case rel => exact ⟨k + 1, by omega, by go_num, by rw [SS.out], by first | rfl | trivial⟩
          case measure => simp [intOf]; omega
    obtain rfl : k = 64 := by omega
    clear OK IX
    go_wp2_with fail
    go_ret
    exact ⟨rfl, B1.out⟩
end Go.Proofs.Ytbcfafihkdddeaa

/- Classing: rounding to even keeps the order. Plain facts. -/
namespace Go.Proofs.Ytbcfafihkdddeaa
open Go.RowKit
set_option linter.unusedVariables false
set_option linter.unusedSimpArgs false

/-- The half-even rounding of p/c. -/
def hev (p c : Int) : Int := rndQ false p c 4
theorem hev_two (p c : Int) (hc : 0 < c) : (hev p c = p / c ∧ (2 * (p % c) < c ∨ (2 * (p % c) = c ∧ (p / c) % 2 = 0))) ∨ (hev p c = p / c + 1 ∧ (c < 2 * (p % c) ∨ (2 * (p % c) = c ∧ (p / c) % 2 = 1))) := by
  have r0 : 0 ≤ p % c := Int.emod_nonneg _ (by omega)
  have r1 : p % c < c := Int.emod_lt_of_pos _ hc
  unfold hev rndQ upB
  generalize p / c = q
  generalize p % c = r at *
  rw [if_neg (by decide), if_neg (by decide), if_neg (by decide), if_neg (by decide)]
  by_cases h1 : c < 2 * r
  · right
    rw [decide_eq_true h1]
    exact ⟨rfl, .inl h1⟩
  · rw [decide_eq_false h1]
    by_cases h2 : 2 * r = c
    · rw [decide_eq_true h2]
      by_cases h3 : q % 2 = 1
      · right
        rw [decide_eq_true h3]
        exact ⟨rfl, .inr ⟨h2, h3⟩⟩
      · left
        rw [decide_eq_false h3]
        exact ⟨Int.add_zero _, .inr ⟨h2, by omega⟩⟩
    · left
      rw [decide_eq_false h2]
      exact ⟨Int.add_zero _, .inl (by omega)⟩
theorem hev_mono {p c q d : Int} (hc : 0 < c) (hd : 0 < d) (h : p * d ≤ q * c) : hev p c ≤ hev q d := by
  have e1 := Int.mul_ediv_add_emod p c
  have e2 := Int.mul_ediv_add_emod q d
  have r0 : 0 ≤ p % c := Int.emod_nonneg _ (by omega)
  have r1 : p % c < c := Int.emod_lt_of_pos _ hc
  have s0 : 0 ≤ q % d := Int.emod_nonneg _ (by omega)
  have s1 : q % d < d := Int.emod_lt_of_pos _ hd
  have t1 := hev_two p c hc
  have t2 := hev_two q d hd
  generalize hev p c = x at *
  generalize hev q d = y at *
  generalize p / c = a at *
  generalize q / d = b at *
  generalize p % c = r at *
  generalize q % d = s at *
  subst e1
  subst e2
  have k1 : (c * a + r) * d = c * d * a + r * d := by grind
  have k2 : (d * b + s) * c = c * d * b + s * c := by grind
  rw [k1, k2] at h
  have cd : 0 < c * d := Int.mul_pos hc hd
  have sc : s * c < c * d := by
    have := Int.mul_lt_mul_of_pos_right s1 hc
    rw [Int.mul_comm d c] at this; exact this
  have rd : 0 ≤ r * d := Int.mul_nonneg r0 (by omega)
  have ab : a ≤ b := by
    apply Classical.byContradiction; intro g
    have g : b + 1 ≤ a := by omega
    have := Int.mul_le_mul_of_nonneg_left g (Int.le_of_lt cd)
    have k3 : c * d * (b + 1) = c * d * b + c * d := by grind
    omega
  by_cases lt : a < b
  · omega
  · obtain rfl : a = b := by omega
    have rs : r * d ≤ s * c := by omega
    apply Classical.byContradiction; intro g
    have m1 : c ≤ 2 * r → c * d ≤ 2 * (r * d) := fun h => by
      have := Int.mul_le_mul_of_nonneg_right h (Int.le_of_lt hd)
      rw [Int.mul_assoc] at this; exact this
    have m2 : c < 2 * r → c * d < 2 * (r * d) := fun h => by
      have := Int.mul_lt_mul_of_pos_right h hd
      rw [Int.mul_assoc] at this; exact this
    have m3 : 2 * s ≤ d → 2 * (s * c) ≤ c * d := fun h => by
      have := Int.mul_le_mul_of_nonneg_right h (Int.le_of_lt hc)
      rw [Int.mul_assoc, Int.mul_comm d c] at this; exact this
    have m4 : 2 * s < d → 2 * (s * c) < c * d := fun h => by
      have := Int.mul_lt_mul_of_pos_right h hc
      rw [Int.mul_assoc, Int.mul_comm d c] at this; exact this
    rcases t1 with ⟨t1, _⟩ | ⟨t1, u1⟩
    · rcases t2 with ⟨t2, _⟩ | ⟨t2, _⟩ <;> omega
    · rcases t2 with ⟨t2, u2⟩ | ⟨t2, _⟩
      · rcases u1 with u1 | ⟨u1, o1⟩ <;> rcases u2 with u2 | ⟨u2, o2⟩
        · have := m2 u1; have := m4 u2; omega
        · have := m2 u1; have := m3 (by omega); omega
        · have := m1 (by omega); have := m4 u2; omega
        · omega
      · omega
/-- The mean of all lies between the means of the parts. -/
theorem hev_between {p q c d : Int} (hc : 0 < c) (hd : 0 < d) : min (hev p c) (hev q d) ≤ hev (p + q) (c + d) ∧ hev (p + q) (c + d) ≤ max (hev p c) (hev q d) := by
  by_cases h : p * d ≤ q * c
  · have a := hev_mono (p := p) (c := c) (q := p + q) (d := c + d) hc (by omega) (by
      have e1 : p * (c + d) = p * c + p * d := by grind
      have e2 : (p + q) * c = p * c + q * c := by grind
      omega)
    have b := hev_mono (p := p + q) (c := c + d) (q := q) (d := d) (by omega) hd (by
      have e1 : (p + q) * d = p * d + q * d := by grind
      have e2 : q * (c + d) = q * c + q * d := by grind
      omega)
    omega
  · have h : q * c ≤ p * d := by omega
    have a := hev_mono (p := q) (c := d) (q := p + q) (d := c + d) hd (by omega) (by
      have e1 : q * (c + d) = q * c + q * d := by grind
      have e2 : (p + q) * d = p * d + q * d := by grind
      omega)
    have b := hev_mono (p := p + q) (c := c + d) (q := p) (d := c) (by omega) hc (by
      have e1 : (p + q) * c = p * c + q * c := by grind
      have e2 : p * (c + d) = p * c + p * d := by grind
      omega)
    omega
end Go.Proofs.Ytbcfafihkdddeaa

/- Classing: Micron. -/
namespace Go.Proofs.Ytbcfafihkdddeaa
open Go.RowKit
set_option linter.unusedVariables false
set_option linter.unusedSimpArgs false

/-- What Micron answers. -/
def MicQ (H : Nat → Int) (z e : Int) : Prop := (¬ HOk H 64 ∧ e = 2 ∧ z = 0) ∨ (HOk H 64 ∧ hsum H 64 = 0 ∧ e = 5 ∧ z = 0) ∨ (HOk H 64 ∧ 0 < hsum H 64 ∧ e = 0 ∧ z = hev (hmom H 64 * 100) (hsum H 64))
theorem hsum_nonneg {H : Nat → Int} {n : Nat} (h : HOk H n) : 0 ≤ hsum H n := by
  have := hsum_mono (k := 0) h.1 (Nat.zero_le n); exact this
theorem hb_drewN (w : World) : ∀ n, Below w.heap.size w (w.drewN n) := fun n => ⟨rfl, rfl, rfl, Nat.le_refl _, fun _ _ => rfl⟩
theorem muldiv_mic (M S : Int) (h1 : 0 ≤ M) (h2 : M ≤ 63 * S) (h3 : 0 < S) (h4 : S ≤ 1048576) (w : World) :
    Calls Try.prog 58 #[.int .i64 M, .int .i64 100, .int .i64 S, .int .i64 4] w fun e w' => e = .returned (.tuple #[.int .i64 (hev (M * 100) S), .int .i64 0]) ∧ Below w.heap.size w w' := by
  refine (MulDiv_ok M 100 S 4 (wthB_true.2 (by omega)) (by decide) (wthB_true.2 (by omega)) (by decide) (by omega) w).mono ?_
  rintro e w' ⟨rfl, n, rfl⟩
  refine ⟨?_, hb_drewN w n⟩
  have e1 : decide (M < 0) = false := decide_eq_false (by omega)
  have e2 : decide (S < 0) = false := decide_eq_false (by omega)
  have e3 : (!((!(decide (M < 0) == decide ((100 : Int) < 0))) == decide (S < 0))) = false := by rw [e1, e2]; decide
  have e4 : ((M.natAbs : Int) * ((100 : Int).natAbs : Int)) = M * 100 := by rw [show ((100 : Int).natAbs : Int) = 100 from rfl]; omega
  have e5 : ((S.natAbs : Nat) : Int) = S := by omega
  rw [e3, e4, e5]
  have t := hev_two (M * 100) S h3
  have q : M * 100 / S ≤ 6300 := by
    have : M * 100 ≤ 6300 * S := by omega
    exact Int.ediv_le_of_le_mul h3 this
  have b : rndQ false (M * 100) S 4 ≤ 1125899906842624 := by
    show hev (M * 100) S ≤ _
    omega
  obtain ⟨v1, v2⟩ := rnd_ok b
  rw [v1, v2]
  rfl

set_option maxRecDepth 100000 in
set_option maxHeartbeats 4000000 in
theorem Micron_any (H : Nat → Int) (w : World) :
    Calls Try.prog 15 #[hV H] w fun e w' => ∃ z x, e = .returned (.tuple #[.int .i64 z, .int .i64 x]) ∧ MicQ H z x ∧ Below w.heap.size w w' := by
  have HQ := Lib.hid (show ∀ z e, MicQ H z e = ((¬ HOk H 64 ∧ e = 2 ∧ z = 0) ∨ (HOk H 64 ∧ hsum H 64 = 0 ∧ e = 5 ∧ z = 0) ∨ (HOk H 64 ∧ 0 < hsum H 64 ∧ e = 0 ∧ z = hev (hmom H 64 * 100) (hsum H 64))) from fun _ _ => rfl)
  have CT := Lib.hid (fun W => Total_any H W)
  have CM := Lib.hid (fun (ok : HOk H 64) W => moment_any H ok W)
  have BD := Lib.hid (show HB (w.alloc (Obj.cells (hC H) 23)) w.heap.size H ∧ Below w.heap.size w (w.alloc (Obj.cells (hC H) 23)) from ⟨heap_alloc_new w (Obj.cells (hC H) 23), (Below.refl _ w).alloc (Nat.le_refl _) _⟩)
  go_enter Try.func15, Try.ntmps15
  go_upto_region 1 with fail
  generalize w.alloc (Obj.cells (hC H) 23) = w1 at *
  obtain ⟨g, hg⟩ : ∃ g, g = w.heap.size := ⟨_, rfl⟩
  have BD := Lib.hid (show HB w1 g H ∧ Below w.heap.size w w1 from by rw [hg]; exact BD.out)
  rw [← hg]
  clear hg
  go_wp2_with (refine wpList_load_row rfl _ _ rfl g rfl _ (hC H) (0, 0) _ BD.out.1 Try.underlying23 rfl (histSize' H) ?_)
  refine (CT.out w1).mono ?_
  rintro e w2 ⟨n, x, rfl, tq, st⟩
  have TQ := Lib.hid tq
  have BD2 := Lib.hid (show HB w2 g H ∧ Below w.heap.size w w2 from ⟨BD.out.1.keep (st.block _ BD.out.1.lt), BD.out.2.trans (st.mono BD.out.2.size)⟩)
  clear tq st BD CT
  by_cases x0 : x = 0
  case neg =>
    have x1 : (x == 0) = false := by simpa using x0
    have x2 : (x != 0) = true := by simpa using x0
    have FF := Lib.hid (show MicQ H 0 x from by
      rw [HQ.out]
      rcases TQ.out with ⟨_, a, _⟩ | ⟨a, b, _⟩
      · exact absurd a x0
      · exact .inl ⟨a, b, rfl⟩)
    clear x0 CM HQ
    go_wp2_with fail
    go_ret2
    exact ⟨0, x, rfl, FF.out, BD2.out.2⟩
  subst x0
  obtain ⟨ok, rfl⟩ : HOk H 64 ∧ n = hsum H 64 := by
    rcases TQ.out with ⟨a, _, b⟩ | ⟨_, a, _⟩
    · exact ⟨a, b⟩
    · omega
  have OK := Lib.hid ok
  have S0 := hsum_nonneg ok
  have S1 := ok.2
  have MB := hmom_bd (n := 64) (by omega) ok
  have CM2 := Lib.hid (CM.out ok)
  have MD := Lib.hid (fun (h : 0 < hsum H 64) W => muldiv_mic (hmom H 64) (hsum H 64) MB.1 MB.2 h S1 W)
  have MZ := Lib.hid (fun W => MulDiv_zero (hmom H 64) 100 4 (wthB_true.2 (by omega)) (by decide) (by decide) W)
  have FZ := Lib.hid (show hsum H 64 = 0 → MicQ H 0 5 from fun h => by rw [HQ.out]; exact .inr (.inl ⟨OK.out, h, rfl, rfl⟩))
  have FG := Lib.hid (show 0 < hsum H 64 → MicQ H (hev (hmom H 64 * 100) (hsum H 64)) 0 from fun h => by rw [HQ.out]; exact .inr (.inr ⟨OK.out, h, rfl, rfl⟩))
  have x1 : ((0 : Int) == 0) = true := by decide
  have x2 : ((0 : Int) != 0) = false := by decide
  clear ok CM TQ HQ MB
  generalize hev (hmom H 64 * 100) (hsum H 64) = z at *
  generalize hmom H 64 = M at *
  generalize hsum H 64 = S at *
  go_wp2_with (refine wpList_load_row rfl _ _ rfl g rfl _ (hC H) (0, 0) _ BD2.out.1 Try.underlying23 rfl (histSize' H) ?_)
  refine (CM2.out w2).mono ?_
  rintro e w3 ⟨rfl, st⟩
  have BD3 := Lib.hid (show Below w.heap.size w w3 from BD2.out.2.trans (st.mono BD2.out.2.size))
  clear st CM2 BD2
  by_cases s0 : S = 0
  · have FF := Lib.hid (FZ.out s0)
    subst s0
    clear FZ FG MD
    go_wp2_with fail
    refine (MZ.out w3).mono ?_
    rintro e w4 ⟨rfl, rfl⟩
    go_wp2_with fail
    go_ret2
    exact ⟨0, 5, rfl, FF.out, BD3.out⟩
  · have FF := Lib.hid (FG.out (by omega))
    have MC := Lib.hid (MD.out (by omega))
    clear FZ FG MZ MD
    go_wp2_with fail
    refine (MC.out w3).mono ?_
    rintro e w4 ⟨rfl, st⟩
    have BD4 := Lib.hid (BD3.out.trans (st.mono BD3.out.size))
    clear st BD3
    go_wp2_with fail
    go_ret2
    exact ⟨z, 0, rfl, FF.out, BD4.out⟩
end Go.Proofs.Ytbcfafihkdddeaa

/- Classing: Merge. -/
namespace Go.Proofs.Ytbcfafihkdddeaa
open Go.RowKit
set_option linter.unusedVariables false
set_option linter.unusedSimpArgs false

/-- What Merge answers. -/
def MrgQ (A B C : Nat → Int) (x : Int) : Prop := (¬ (HOk A 64 ∧ HOk B 64) ∧ x = 2 ∧ (∀ k, C k = 0)) ∨ (HOk A 64 ∧ HOk B 64 ∧ 1048576 < hsum A 64 + hsum B 64 ∧ x = 4 ∧ (∀ k, C k = 0)) ∨ (HOk A 64 ∧ HOk B 64 ∧ hsum A 64 + hsum B 64 ≤ 1048576 ∧ x = 0 ∧ ∀ k, k < 64 → C k = A k + B k)
theorem threeH (w : World) (o1 o2 o3 : Obj) : (((w.alloc o1).alloc o2).alloc o3).heap[w.heap.size]? = some o1 ∧ (((w.alloc o1).alloc o2).alloc o3).heap[w.heap.size + 1]? = some o2 ∧ (((w.alloc o1).alloc o2).alloc o3).heap[w.heap.size + 1 + 1]? = some o3 ∧ Below w.heap.size w (((w.alloc o1).alloc o2).alloc o3) := by
  refine ⟨?_, ?_, ?_, (((Below.refl _ w).alloc (Nat.le_refl _) _).alloc (by simp) _).alloc (by simp; omega) _⟩
  · rw [Below.heap_alloc _ _ _ (by simp; omega), Below.heap_alloc _ _ _ (by simp), heap_alloc_new]
  · rw [Below.heap_alloc _ _ _ (by simp)]
    have := heap_alloc_new (w.alloc o1) o2
    simpa using this
  · have := heap_alloc_new ((w.alloc o1).alloc o2) o3
    simpa using this
theorem hz64 : (#[.int .i64 0, .int .i64 0, .int .i64 0, .int .i64 0, .int .i64 0, .int .i64 0, .int .i64 0, .int .i64 0, .int .i64 0, .int .i64 0, .int .i64 0, .int .i64 0, .int .i64 0, .int .i64 0, .int .i64 0, .int .i64 0, .int .i64 0, .int .i64 0, .int .i64 0, .int .i64 0, .int .i64 0, .int .i64 0, .int .i64 0, .int .i64 0, .int .i64 0, .int .i64 0, .int .i64 0, .int .i64 0, .int .i64 0, .int .i64 0, .int .i64 0, .int .i64 0, .int .i64 0, .int .i64 0, .int .i64 0, .int .i64 0, .int .i64 0, .int .i64 0, .int .i64 0, .int .i64 0, .int .i64 0, .int .i64 0, .int .i64 0, .int .i64 0, .int .i64 0, .int .i64 0, .int .i64 0, .int .i64 0, .int .i64 0, .int .i64 0, .int .i64 0, .int .i64 0, .int .i64 0, .int .i64 0, .int .i64 0, .int .i64 0, .int .i64 0, .int .i64 0, .int .i64 0, .int .i64 0, .int .i64 0, .int .i64 0, .int .i64 0, .int .i64 0] : Array Value) = hC (fun _ => 0) := by rfl
theorem res_merge (tmps : Array Value) (W : World) (g : Nat) (C : Nat → Int) (v : Value) (h4 : tmps.getD 4 undef = .pointer (some ⟨g, 0, none⟩)) (h5 : tmps.getD 5 undef = v) (h : HB W g C) :
    (results Try.f13 tmps).run Try.prog W = .ok (.tuple #[hV C, v]) W := by
  have e := run_loadVar_row (P := Try.prog) W g 23 23 (hC C) (0, 0) _ h Try.underlying23 rfl (histSize' C)
  have h4' : tmps[4]?.getD undef = .pointer (some ⟨g, 0, none⟩) := by simpa using h4
  have h5' : tmps[5]?.getD undef = v := by simpa using h5
  simp [results, Try.results13, h4', h5', asAddr, e]

theorem hok_at {H : Nat → Int} (h : HOk H 64) {k : Nat} (hk : k < 64) : 0 ≤ H k ∧ H k ≤ 1048576 := by
  have h0 := h.1 k hk
  have h1 : hsum H (k + 1) = hsum H k + H k := rfl
  have h2 : 0 ≤ hsum H k := by have := hsum_mono (k := 0) (n := k) (fun j hj => h.1 j (by omega)) (Nat.zero_le k); exact this
  have h3 := (h.less (k := k + 1) (by omega)).2
  omega
theorem hb_setRow {W : World} {g n : Nat} (h : g < W.heap.size) (hn : n ≤ g) (cs : Array Value) : Below n W (W.setRow g cs) := by
  refine ⟨rfl, rfl, rfl, by simp [World.setRow], fun k hk => setRow_other W g k cs (by omega)⟩

set_option maxRecDepth 100000 in
set_option maxHeartbeats 4000000 in
theorem Merge_any (A B : Nat → Int) (w : World) :
    Calls Try.prog 13 #[hV A, hV B] w fun e w' => ∃ C x, e = .returned (.tuple #[hV C, .int .i64 x]) ∧ MrgQ A B C x ∧ Below w.heap.size w w' := by
  have CT := Lib.hid (fun H W => Total_any H W)
  have HQ := Lib.hid (show ∀ C x, MrgQ A B C x = ((¬ (HOk A 64 ∧ HOk B 64) ∧ x = 2 ∧ (∀ k, C k = 0)) ∨ (HOk A 64 ∧ HOk B 64 ∧ 1048576 < hsum A 64 + hsum B 64 ∧ x = 4 ∧ (∀ k, C k = 0)) ∨ (HOk A 64 ∧ HOk B 64 ∧ hsum A 64 + hsum B 64 ≤ 1048576 ∧ x = 0 ∧ ∀ k, k < 64 → C k = A k + B k)) from fun _ _ => rfl)
  have T3 := Lib.hid (threeH w (Obj.cells (hC A) 23) (Obj.cells (hC B) 23) (Obj.cells (hC (fun _ => 0)) 23))
  go_enter Try.func13, Try.ntmps13
  go_upto_region 1 with fail
  rw [hz64]
  generalize ((w.alloc (Obj.cells (hC A) 23)).alloc (Obj.cells (hC B) 23)).alloc (Obj.cells (hC (fun _ => 0)) 23) = w1 at *
  obtain ⟨ga, hga⟩ : ∃ g, g = w.heap.size := ⟨_, rfl⟩
  obtain ⟨gb, hgb⟩ : ∃ g, g = w.heap.size + 1 := ⟨_, rfl⟩
  obtain ⟨gr, hgr⟩ : ∃ g, g = w.heap.size + 1 + 1 := ⟨_, rfl⟩
  have X1 := Lib.hid (show (HB w1 ga A ∧ HB w1 gb B ∧ HB w1 gr (fun _ => 0)) ∧ Below w.heap.size w w1 from by rw [hga, hgb, hgr]; exact ⟨⟨T3.out.1, T3.out.2.1, T3.out.2.2.1⟩, T3.out.2.2.2⟩)
  have GG := Lib.hid (show w.heap.size ≤ ga ∧ w.heap.size ≤ gr ∧ ga ≠ gr ∧ ga ≠ gb ∧ gb ≠ gr from by omega)
  rw [← hgr, ← hgb, ← hga]
  clear hga hgb hgr T3
  go_wp2_with (refine wpList_load_row rfl _ _ rfl ga rfl _ (hC A) (0, 0) _ X1.out.1.1 Try.underlying23 rfl (histSize' A) ?_)
  refine (CT.out A w1).mono ?_
  rintro e w2 ⟨n, x, rfl, tq, st⟩
  have TA := Lib.hid tq
  have X2 := Lib.hid (show (HB w2 ga A ∧ HB w2 gb B ∧ HB w2 gr (fun _ => 0)) ∧ Below w.heap.size w w2 from by
    obtain ⟨⟨h1, h2, h3⟩, b⟩ := X1.out
    exact ⟨⟨h1.keep (st.block _ h1.lt), h2.keep (st.block _ h2.lt), h3.keep (st.block _ h3.lt)⟩, b.trans (st.mono b.size)⟩)
  clear tq st X1
  go_wp2_with (refine wpList_load_row rfl _ _ rfl gb rfl _ (hC B) (0, 0) _ X2.out.1.2.1 Try.underlying23 rfl (histSize' B) ?_)
  refine (CT.out B w2).mono ?_
  rintro e w3 ⟨m, y, rfl, tq, st⟩
  have TB := Lib.hid tq
  have X3 := Lib.hid (show (HB w3 ga A ∧ HB w3 gb B ∧ HB w3 gr (fun _ => 0)) ∧ Below w.heap.size w w3 from by
    obtain ⟨⟨h1, h2, h3⟩, b⟩ := X2.out
    exact ⟨⟨h1.keep (st.block _ h1.lt), h2.keep (st.block _ h2.lt), h3.keep (st.block _ h3.lt)⟩, b.trans (st.mono b.size)⟩)
  clear tq st X2 CT
  have BZ := Lib.hid (show Below w.heap.size w (w3.setRow gr (hC (fun _ => 0))) ∧ HB (w3.setRow gr (hC (fun _ => 0))) gr (fun _ => 0) from by
    refine ⟨?_, X3.out.1.2.2.row _⟩
    have b := X3.out.2
    exact b.trans (hb_setRow (by have := X3.out.1.2.2.lt; exact this) GG.out.2.1 _))
  by_cases ok : x = 0 ∧ y = 0
  case neg =>
    have FF := Lib.hid (show MrgQ A B (fun _ => 0) 2 from by
      rw [HQ.out]
      refine .inl ⟨fun h => ok ?_, rfl, fun _ => rfl⟩
      constructor
      · rcases TA.out with ⟨_, a, _⟩ | ⟨a, _⟩
        · exact a
        · exact absurd h.1 a
      · rcases TB.out with ⟨_, a, _⟩ | ⟨a, _⟩
        · exact a
        · exact absurd h.2 a)
    have RES := Lib.hid (fun tmps h4 h5 => res_merge tmps (w3.setRow gr (hC (fun _ => 0))) gr (fun _ => 0) (.int .i64 2) h4 h5 BZ.out.2)
    have XY : x = 2 ∨ (x = 0 ∧ y = 2) := by
      rcases TA.out with ⟨_, a, _⟩ | ⟨_, a, _⟩
      · rcases TB.out with ⟨_, b, _⟩ | ⟨_, b, _⟩
        · exact absurd ⟨a, b⟩ ok
        · exact .inr ⟨a, b⟩
      · exact .inl a
    clear TA TB HQ ok
    rcases XY with rfl | ⟨rfl, rfl⟩
    · go_wp2_with (refine wpList_store_row rfl _ _ _ rfl gr (hC (fun _ => 0)) rfl (by first | rfl | exact congrArg Value.agg hz64) 23 (hC (fun _ => 0)) X3.out.1.2.2 (histSize' _) rfl (hC_one _) ?_)
      refine bodyPost_ret (RES.out _ rfl rfl) rfl ?_
      exact ⟨_, 2, rfl, FF.out, BZ.out.1⟩
    · go_wp2_with (refine wpList_store_row rfl _ _ _ rfl gr (hC (fun _ => 0)) rfl (by first | rfl | exact congrArg Value.agg hz64) 23 (hC (fun _ => 0)) X3.out.1.2.2 (histSize' _) rfl (hC_one _) ?_)
      refine bodyPost_ret (RES.out _ rfl rfl) rfl ?_
      exact ⟨_, 2, rfl, FF.out, BZ.out.1⟩
  obtain ⟨rfl, rfl⟩ := ok
  obtain ⟨oa, rfl⟩ : HOk A 64 ∧ n = hsum A 64 := by
    rcases TA.out with ⟨a, _, b⟩ | ⟨_, a, _⟩
    · exact ⟨a, b⟩
    · omega
  obtain ⟨ob, rfl⟩ : HOk B 64 ∧ m = hsum B 64 := by
    rcases TB.out with ⟨a, _, b⟩ | ⟨_, a, _⟩
    · exact ⟨a, b⟩
    · omega
  have OA := Lib.hid oa
  have OB := Lib.hid ob
  have a0 : 0 ≤ hsum A 64 := by have := hsum_mono (k := 0) oa.1 (Nat.zero_le 64); exact this
  have b0 : 0 ≤ hsum B 64 := by have := hsum_mono (k := 0) ob.1 (Nat.zero_le 64); exact this
  have a1 := oa.2
  have b1 := ob.2
  have FB := Lib.hid (show 1048576 < hsum A 64 + hsum B 64 → MrgQ A B (fun _ => 0) 4 from fun h => by rw [HQ.out]; exact .inr (.inl ⟨OA.out, OB.out, h, rfl, fun _ => rfl⟩))
  have FG := Lib.hid (show hsum A 64 + hsum B 64 ≤ 1048576 → ∀ C, (∀ k, k < 64 → C k = A k + B k) → MrgQ A B C 0 from fun h C hc => by rw [HQ.out]; exact .inr (.inr ⟨OA.out, OB.out, h, rfl, hc⟩))
  clear TA TB oa ob HQ
  generalize hsum A 64 = SA at *
  generalize hsum B 64 = SB at *
  have wS : IntKind.i64.wrap (SA + SB) = SA + SB := hwI (by omega) (by omega)
  have x1 : ((0 : Int) != 0) = false := by decide
  have x2 : ((0 : Int) == 0) = true := by decide
  by_cases big : 1048576 < SA + SB
  · have d1 : decide (1048576 < SA + SB) = true := decide_eq_true big
    have FF := Lib.hid (FB.out big)
    have RES := Lib.hid (fun tmps h4 h5 => res_merge tmps (w3.setRow gr (hC (fun _ => 0))) gr (fun _ => 0) (.int .i64 4) h4 h5 BZ.out.2)
    clear FB FG big OA OB
    go_wp2_with (refine wpList_store_row rfl _ _ _ rfl gr (hC (fun _ => 0)) rfl (by first | rfl | exact congrArg Value.agg hz64) 23 (hC (fun _ => 0)) X3.out.1.2.2 (histSize' _) rfl (hC_one _) ?_)
    refine bodyPost_ret (RES.out _ rfl rfl) rfl ?_
    exact ⟨_, 4, rfl, FF.out, BZ.out.1⟩
  have d1 : decide (1048576 < SA + SB) = false := decide_eq_false big
  have FF := Lib.hid (FG.out (by omega))
  have AB := Lib.hid (show ∀ k, k < 64 → (0 ≤ A k ∧ A k ≤ 1048576) ∧ 0 ≤ B k ∧ B k ≤ 1048576 from fun k hk => ⟨hok_at OA.out hk, hok_at OB.out hk⟩)
  have IX := Lib.hid (fun (k : Nat) (hk : k < 64) => index_hist B hk)
  clear FB FG big OA OB BZ a0 b0 a1 b1
  go_upto_region 8 with (refine wpList_load_row rfl _ _ rfl gb rfl _ (hC B) (0, 0) _ X3.out.1.2.1 Try.underlying23 rfl (histSize' B) ?_)
  clear d1 x1 x2 wS
  have X4 := Lib.hid (show HB w3 ga (fun j => if j < 0 then A j + B j else A j) from by
    unfold HB
    rw [hC_ext (H := fun j => if j < 0 then A j + B j else A j) (G := A) (fun k _ => by rw [if_neg (by omega)])]
    exact X3.out.1.1)
  go_loopw [35] (fun kv wr => ∃ k : Nat, k ≤ 64 ∧ kv = .int .i64 k ∧ Hid (HB wr ga (fun j => if j < k then A j + B j else A j)) ∧ Hid (HB wr gr (fun _ => 0)) ∧ Hid (Below w.heap.size w wr)) (fun kv _ => 64 - (intOf kv).toNat)
  case atStart => exact ⟨0, by omega, rfl, X4, Lib.hid X3.out.1.2.2, Lib.hid X3.out.2⟩
  case round =>
    clear X4 X3
    obtain ⟨k, hk, rfl, HA, HR, HW⟩ := hrel
    by_cases t1 : k < 64
    · have k2 : (k : Int) < 64 := by omega
      have k1 : (0 : Int) ≤ (k : Int) := by omega
      have ix := IX.out k t1
      have ca := HA.out.cell t1
      have fa := HA.out.frozen k
      rw [if_neg (show ¬ k < k by omega)] at ca
      obtain ⟨⟨p1, p2⟩, p3, p4⟩ := AB.out k t1
      have HA2 := Lib.hid (show HB (wr.setCell ⟨ga, k, none⟩ (.int .i64 (A k + B k))) ga (fun j => if j < k + 1 then A j + B j else A j) from by
        have := HA.out.set k (A k + B k)
        unfold HB at this ⊢
        rw [hC_ext (H := fun j => if j < k + 1 then A j + B j else A j) (G := fun j => if j = k then A k + B k else (fun j => if j < k then A j + B j else A j) j) (fun j _ => by
          by_cases e : j = k
          · subst e; rw [if_pos rfl, if_pos (by omega)]
          · rw [if_neg e]
            show _ = (if j < k then A j + B j else A j)
            by_cases l : j < k
            · rw [if_pos l, if_pos (by omega)]
            · rw [if_neg l, if_neg (by omega)])]
        exact this)
      have HR2 := Lib.hid (show HB (wr.setCell ⟨ga, k, none⟩ (.int .i64 (A k + B k))) gr (fun _ => 0) from HR.out.keep (Below.heap_setCell _ _ _ _ (by have := GG.out; dsimp only; omega)))
      have HW2 := Lib.hid (show Below w.heap.size w (wr.setCell ⟨ga, k, none⟩ (.int .i64 (A k + B k))) from HW.out.setCell (by have := GG.out; dsimp only; omega) _)
      generalize A k = a at *
      generalize B k = b at *
      have wy : IntKind.i64.wrap (a + b) = a + b := hwI (by omega) (by omega)
      clear HA HR HW
      go_wp2_with fail
      go_roundw
      case rel => exact ⟨k + 1, by omega, by go_num, HA2, HR2, HW2⟩
      case measure => simp [intOf]; omega
    obtain rfl : k = 64 := by omega
    have HS := Lib.hid (show HB wr ga (fun j => A j + B j) from by
      have := HA.out
      unfold HB at this ⊢
      rw [hC_ext (H := fun j => A j + B j) (G := fun j => if j < 64 then A j + B j else A j) (fun j hj => by rw [if_pos hj])]
      exact this)
    have BZ := Lib.hid (show Below w.heap.size w (wr.setRow gr (hC (fun j => A j + B j))) ∧ HB (wr.setRow gr (hC (fun j => A j + B j))) gr (fun j => A j + B j) from
      ⟨HW.out.trans (hb_setRow (by have := HR.out.lt; exact this) GG.out.2.1 _), HR.out.row _⟩)
    have RES := Lib.hid (fun tmps h4 h5 => res_merge tmps (wr.setRow gr (hC (fun j => A j + B j))) gr (fun j => A j + B j) (.int .i64 0) h4 h5 BZ.out.2)
    have FF2 := Lib.hid (FF.out (fun j => A j + B j) (fun _ _ => rfl))
    clear HA FF IX AB
    go_wp2_with (first
      | (refine wpList_load_row rfl _ _ rfl ga rfl _ (hC (fun j => A j + B j)) (0, 0) _ HS.out Try.underlying23 rfl (histSize' _) ?_)
      | (refine wpList_store_row rfl _ _ _ rfl gr (hC (fun j => A j + B j)) rfl rfl 23 (hC (fun _ => 0)) HR.out (histSize' _) (by rw [hC_size, hC_size]) (hC_one _) ?_))
    refine bodyPost_ret (RES.out _ rfl rfl) rfl ?_
    exact ⟨_, 0, rfl, FF2.out, BZ.out.1⟩
end Go.Proofs.Ytbcfafihkdddeaa

/- Classing: what merging says. Plain facts; histograms in blocks. -/
namespace Go.Proofs.Ytbcfafihkdddeaa
open Go.RowKit
set_option linter.unusedVariables false
set_option linter.unusedSimpArgs false

theorem mrg_comm {A B X Y : Nat → Int} {x y : Int} (h : MrgQ A B X x) (g : MrgQ B A Y y) : x = y ∧ hC X = hC Y := by
  rcases h with ⟨h1, h2, h3⟩ | ⟨h1, h2, h3, h4, h5⟩ | ⟨h1, h2, h3, h4, h5⟩ <;> rcases g with ⟨g1, g2, g3⟩ | ⟨g1, g2, g3, g4, g5⟩ | ⟨g1, g2, g3, g4, g5⟩
  · exact ⟨by omega, hC_ext fun k _ => by rw [h3, g3]⟩
  · exact absurd ⟨g2, g1⟩ h1
  · exact absurd ⟨g2, g1⟩ h1
  · exact absurd ⟨h2, h1⟩ g1
  · exact ⟨by omega, hC_ext fun k _ => by rw [h5, g5]⟩
  · omega
  · exact absurd ⟨h2, h1⟩ g1
  · omega
  · exact ⟨by omega, hC_ext fun k hk => by rw [h5 k hk, g5 k hk]; omega⟩
theorem MrgQ.good {A B X : Nat → Int} (h : MrgQ A B X 0) : HOk A 64 ∧ HOk B 64 ∧ hsum A 64 + hsum B 64 ≤ 1048576 ∧ (∀ k, k < 64 → X k = A k + B k) ∧ HOk X 64 ∧ hsum X 64 = hsum A 64 + hsum B 64 := by
  rcases h with ⟨h1, h2, h3⟩ | ⟨h1, h2, h3, h4, h5⟩ | ⟨h1, h2, h3, h4, h5⟩
  · omega
  · omega
  · have e : hsum X 64 = hsum A 64 + hsum B 64 := by rw [← hsum_add]; exact hsum_congr h5
    exact ⟨h1, h2, h3, h5, ⟨fun j hj => by rw [h5 j hj]; have := h1.1 j hj; have := h2.1 j hj; omega, by omega⟩, e⟩
theorem MrgQ.bad {A B X : Nat → Int} {x : Int} (h : MrgQ A B X x) (x0 : x ≠ 0) : hC X = hC (fun _ => 0) := by
  rcases h with ⟨h1, h2, h3⟩ | ⟨h1, h2, h3, h4, h5⟩ | ⟨h1, h2, h3, h4, h5⟩
  · exact hC_ext fun k _ => h3 k
  · exact hC_ext fun k _ => h5 k
  · exact absurd h4 x0
theorem MrgQ.zero {A B X : Nat → Int} {x : Int} (h : MrgQ A B X x) (a : HOk A 64) (b : HOk B 64) (c : hsum A 64 + hsum B 64 ≤ 1048576) : x = 0 := by
  rcases h with ⟨h1, h2, h3⟩ | ⟨h1, h2, h3, h4, h5⟩ | ⟨h1, h2, h3, h4, h5⟩
  · exact absurd ⟨a, b⟩ h1
  · omega
  · exact h4
theorem mrg_assoc {A B C X L Y R : Nat → Int} {y z : Int} (h : MrgQ A B X 0) (l : MrgQ X C L 0) (b : MrgQ B C Y y) (r : MrgQ A Y R z) : y = 0 ∧ z = 0 ∧ hC L = hC R := by
  obtain ⟨a1, a2, a3, a4, a5, a6⟩ := h.good
  obtain ⟨l1, l2, l3, l4, l5, l6⟩ := l.good
  have n1 := hsum_nonneg a1
  obtain rfl := b.zero a2 l2 (by omega)
  obtain ⟨b1, b2, b3, b4, b5, b6⟩ := b.good
  obtain rfl := r.zero a1 b5 (by omega)
  obtain ⟨r1, r2, r3, r4, r5, r6⟩ := r.good
  exact ⟨rfl, rfl, hC_ext fun k hk => by rw [l4 k hk, r4 k hk, a4 k hk, b4 k hk]; omega⟩
theorem hmom_add {A B X : Nat → Int} (h : ∀ k, k < 64 → X k = A k + B k) : hmom X 64 = hmom A 64 + hmom B 64 := by
  unfold hmom
  rw [← hsum_add]
  exact hsum_congr fun j hj => by rw [h j hj, Int.add_mul]
theorem tot_says {A B X : Nat → Int} {n m s a b c : Int} (h : MrgQ A B X 0) (p : TotQ A n a) (q : TotQ B m b) (r : TotQ X s c) : a = 0 ∧ b = 0 ∧ c = 0 ∧ s = n + m ∧ s = hsum X 64 := by
  obtain ⟨a1, a2, a3, a4, a5, a6⟩ := h.good
  rcases p with ⟨_, p1, p2⟩ | ⟨p1, _⟩
  · rcases q with ⟨_, q1, q2⟩ | ⟨q1, _⟩
    · rcases r with ⟨_, r1, r2⟩ | ⟨r1, _⟩
      · exact ⟨p1, q1, r1, by omega, r2⟩
      · exact absurd a5 r1
    · exact absurd a2 q1
  · exact absurd a1 p1
theorem mic_says {A B X : Nat → Int} {x y z a b c : Int} (h : MrgQ A B X 0) (p : MicQ A x a) (q : MicQ B y b) (r : MicQ X z c) : (¬ (a = 0 ∧ b = 0) → (c = 0 ↔ 0 < hsum X 64)) ∧ (a = 0 → b = 0 → c = 0 ∧ min x y ≤ z ∧ z ≤ max x y) := by
  obtain ⟨a1, a2, a3, a4, a5, a6⟩ := h.good
  have n0 := hsum_nonneg a5
  refine ⟨fun _ => ?_, fun a0 b0 => ?_⟩
  · rcases r with ⟨r1, _⟩ | ⟨_, r1, r2, _⟩ | ⟨_, r1, r2, _⟩
    · exact absurd a5 r1
    · constructor <;> intro <;> omega
    · exact ⟨fun _ => r1, fun _ => r2⟩
  · have pa : 0 < hsum A 64 ∧ x = hev (hmom A 64 * 100) (hsum A 64) := by
      rcases p with ⟨p1, _⟩ | ⟨_, _, p2, _⟩ | ⟨_, p1, _, p2⟩
      · exact absurd a1 p1
      · omega
      · exact ⟨p1, p2⟩
    have qa : 0 < hsum B 64 ∧ y = hev (hmom B 64 * 100) (hsum B 64) := by
      rcases q with ⟨p1, _⟩ | ⟨_, _, p2, _⟩ | ⟨_, p1, _, p2⟩
      · exact absurd a2 p1
      · omega
      · exact ⟨p1, p2⟩
    have hb := hev_between (p := hmom A 64 * 100) (q := hmom B 64 * 100) pa.1 qa.1
    rw [← Int.add_mul, ← hmom_add a4, ← a6, ← pa.2, ← qa.2] at hb
    rcases r with ⟨r1, _⟩ | ⟨_, r1, r2, _⟩ | ⟨_, r1, r2, r3⟩
    · exact absurd a5 r1
    · omega
    · exact ⟨r2, by rw [r3]; exact hb.1, by rw [r3]; exact hb.2⟩
theorem HB.below {W W' : World} {g : Nat} {H : Nat → Int} (h : HB W g H) (b : Below W.heap.size W W') : HB W' g H := h.keep (b.block _ h.lt)
/-- A histogram in a new block. -/
theorem new_row (W : World) (X : Nat → Int) : HB ((W.alloc (Obj.cells (hC (fun _ => 0)) 23)).setRow W.heap.size (hC X)) W.heap.size X ∧ Below W.heap.size W ((W.alloc (Obj.cells (hC (fun _ => 0)) 23)).setRow W.heap.size (hC X)) := by
  have h0 : HB (W.alloc (Obj.cells (hC (fun _ => 0)) 23)) W.heap.size (fun _ => 0) := heap_alloc_new W _
  exact ⟨h0.row X, ((Below.refl _ W).alloc (Nat.le_refl _) _).trans (hb_setRow h0.lt (Nat.le_refl _) _)⟩
/-- A load of a whole histogram under a guard that is met. -/
theorem wpList_load_want {ops : Array Oper} {rest : List Oper} {o : Oper} {a : Act} {w : World} {Q : Exit → Act → World → Prop} (hw : Region.wanted o (yielded ops a.tmps) = true) (x : Operand) (ho : o.op = .load 23 x)
    (g : Nat) (H : Nat → Int) (hx : a.eval x = .pointer (some ⟨g, 0, none⟩)) (hg : HB w g H)
    (h : wpList Try.prog ops Q rest (a.put o.dst (hV H)) w) : wpList Try.prog ops Q (o :: rest) a w :=
  BigFrame.wpList_want hw fun _ hK => wp_load_row 23 x ho g hx 23 (hC H) (0, 0) _ hg Try.underlying23 rfl (histSize' H) (hK _ _ h)
end Go.Proofs.Ytbcfafihkdddeaa

/- Classing: Quantile. -/
namespace Go.Proofs.Ytbcfafihkdddeaa
open Go.RowKit
set_option linter.unusedVariables false
set_option linter.unusedSimpArgs false

/-- A share from 0 to 1. -/
def FOk (fn fd : Int) : Prop := vldB fn fd = true ∧ 0 ≤ fn ∧ fn ≤ fd
/-- What Quantile answers. -/
def QuaQ (H : Nat → Int) (fn fd z e : Int) : Prop := (¬ HOk H 64 ∧ e = 2 ∧ z = 0) ∨ (HOk H 64 ∧ ¬ FOk fn fd ∧ e = 2 ∧ z = 0) ∨ (HOk H 64 ∧ FOk fn fd ∧ hsum H 64 = 0 ∧ e = 5 ∧ z = 0) ∨ (HOk H 64 ∧ FOk fn fd ∧ 0 < hsum H 64 ∧ e = 0 ∧ ∃ i : Nat, z = i ∧ i < 64 ∧ fn * hsum H 64 ≤ hsum H (i + 1) * fd ∧ ∀ j, j < i → hsum H (j + 1) * fd < fn * hsum H 64)
/-- The boxed histogram and fraction. -/
structure QB (w v : World) (gh gf : Nat) (H : Nat → Int) (fn fd : Int) : Prop where
  hb : HB v gh H
  f0 : v.cell? ⟨gf, 0, none⟩ = some (.int .i64 fn)
  f1 : v.cell? ⟨gf, 1, none⟩ = some (.int .i64 fd)
  lt : gf < v.heap.size
  bel : Below w.heap.size w v
theorem QB.below {w v v' : World} {gh gf : Nat} {H : Nat → Int} {fn fd : Int} (h : QB w v gh gf H fn fd) (b : Below v.heap.size v v') : QB w v' gh gf H fn fd :=
  ⟨h.hb.below b, (b.cell (p := ⟨gf, 0, none⟩) h.lt).trans h.f0, (b.cell (p := ⟨gf, 1, none⟩) h.lt).trans h.f1, Nat.lt_of_lt_of_le h.lt b.size, h.bel.trans (b.mono h.bel.size)⟩
theorem QB.new (w : World) (H : Nat → Int) (fn fd : Int) : QB w ((w.alloc (Obj.cells (hC H) 23)).alloc (Obj.cells #[Value.int .i64 fn, Value.int .i64 fd] 25)) w.heap.size (w.heap.size + 1) H fn fd := by
  refine ⟨?_, by simp [go_sem], by simp [go_sem], by simp, ((Below.refl _ w).alloc (Nat.le_refl _) _).alloc (by simp) _⟩
  show ((w.alloc _).alloc _).heap[w.heap.size]? = _
  rw [Below.heap_alloc _ _ _ (by simp), heap_alloc_new]

set_option maxRecDepth 100000 in
set_option maxHeartbeats 8000000 in
theorem Quantile_any (H : Nat → Int) (fn fd : Int) (n1 : -9223372036854775808 ≤ fn ∧ fn ≤ 9223372036854775807) (w : World) :
    Calls Try.prog 19 #[hV H, .agg #[.int .i64 fn, .int .i64 fd]] w fun e w' => ∃ z x, e = .returned (.tuple #[.int .i64 z, .int .i64 x]) ∧ QuaQ H fn fd z x ∧ Below w.heap.size w w' := by
  have HQ := Lib.hid (show ∀ z e, QuaQ H fn fd z e = ((¬ HOk H 64 ∧ e = 2 ∧ z = 0) ∨ (HOk H 64 ∧ ¬ FOk fn fd ∧ e = 2 ∧ z = 0) ∨ (HOk H 64 ∧ FOk fn fd ∧ hsum H 64 = 0 ∧ e = 5 ∧ z = 0) ∨ (HOk H 64 ∧ FOk fn fd ∧ 0 < hsum H 64 ∧ e = 0 ∧ ∃ i : Nat, z = i ∧ i < 64 ∧ fn * hsum H 64 ≤ hsum H (i + 1) * fd ∧ ∀ j, j < i → hsum H (j + 1) * fd < fn * hsum H 64)) from fun _ _ => rfl)
  have CT := Lib.hid (fun W => Total_any H W)
  have CV := Lib.hid (fun W => Valid_any fn fd n1.1 n1.2 W)
  have K0 := Lib.hid (QB.new w H fn fd)
  go_enter Try.func19, Try.ntmps19
  go_upto_region 1 with fail
  generalize (w.alloc (Obj.cells (hC H) 23)).alloc (Obj.cells #[Value.int .i64 fn, Value.int .i64 fd] 25) = w1 at *
  obtain ⟨gh, hgh⟩ : ∃ g, g = w.heap.size := ⟨_, rfl⟩
  obtain ⟨gf, hgf⟩ : ∃ g, g = w.heap.size + 1 := ⟨_, rfl⟩
  have K1 := Lib.hid (show QB w w1 gh gf H fn fd from by rw [hgh, hgf]; exact K0.out)
  rw [← hgf, ← hgh]
  clear hgh hgf K0
  go_wp2_with (refine wpList_load_row rfl _ _ rfl gh rfl _ (hC H) (0, 0) _ K1.out.hb Try.underlying23 rfl (histSize' H) ?_)
  refine (CT.out w1).mono ?_
  rintro e w2 ⟨S, x, rfl, tq, st⟩
  have TQ := Lib.hid tq
  have K2 := Lib.hid (K1.out.below st)
  clear tq st K1 CT
  by_cases x0 : x = 0
  case neg =>
    have x1 : (x == 0) = false := by simpa using x0
    have x2 : (x != 0) = true := by simpa using x0
    have FF := Lib.hid (show QuaQ H fn fd 0 x from by
      rw [HQ.out]
      rcases TQ.out with ⟨_, a, _⟩ | ⟨a, b, _⟩
      · exact absurd a x0
      · exact .inl ⟨a, b, rfl⟩)
    clear x0 CV HQ
    go_wp2_with fail
    go_ret2
    exact ⟨0, x, rfl, FF.out, K2.out.bel⟩
  subst x0
  obtain ⟨ok, hS⟩ : HOk H 64 ∧ S = hsum H 64 := by
    rcases TQ.out with ⟨a, _, b⟩ | ⟨_, a, _⟩
    · exact ⟨a, b⟩
    · omega
  have OK := Lib.hid ok
  have HS := Lib.hid hS
  have s0 : 0 ≤ S := by rw [hS]; exact hsum_nonneg ok
  have s1 : S ≤ 1048576 := by rw [hS]; exact ok.2
  have BAD := Lib.hid (show ¬ FOk fn fd → QuaQ H fn fd 0 2 from fun h => by rw [HQ.out]; exact .inr (.inl ⟨OK.out, h, rfl, rfl⟩))
  clear hS ok TQ
  obtain ⟨hb2, c0, c1, lt2, -⟩ := K2.out
  have x2 : ((0 : Int) != 0) = false := by decide
  go_wp2_with fail
  refine (CV.out w2).mono ?_
  rintro e w3 ⟨rfl, st⟩
  have K3 := Lib.hid (K2.out.below st)
  clear hb2 c0 c1 lt2 st K2 CV x2
  obtain ⟨-, c0, c1, lt3, -⟩ := K3.out
  by_cases v : vldB fn fd = true
  case neg =>
    have v1 : vldB fn fd = false := by simpa using v
    have FF := Lib.hid (BAD.out (fun h => v h.1))
    rw [v1]
    clear v BAD HQ
    go_wp2_with fail
    go_ret2
    exact ⟨0, 2, rfl, FF.out, K3.out.bel⟩
  have V := Lib.hid v
  rw [v]
  by_cases f0 : fn < 0
  · have d1 : decide (fn < 0) = true := decide_eq_true f0
    have FF := Lib.hid (BAD.out (fun h => by have := h.2.1; omega))
    clear v f0 BAD HQ V
    go_wp2_with fail
    go_ret2
    exact ⟨0, 2, rfl, FF.out, K3.out.bel⟩
  have d1 : decide (fn < 0) = false := decide_eq_false f0
  by_cases f1 : fd < fn
  · have d2 : decide (fd < fn) = true := decide_eq_true f1
    have FF := Lib.hid (BAD.out (fun h => by have := h.2.2; omega))
    clear v f0 f1 BAD HQ V
    go_wp2_with fail
    go_ret2
    exact ⟨0, 2, rfl, FF.out, K3.out.bel⟩
  have d2 : decide (fd < fn) = false := decide_eq_false f1
  have FO := Lib.hid (show FOk fn fd from ⟨V.out, by omega, by omega⟩)
  obtain ⟨b1, b2, b3, b4, -⟩ := vldB_true.1 v
  clear v BAD V
  by_cases z0 : S = 0
  · have FF := Lib.hid (show QuaQ H fn fd 0 5 from by rw [HQ.out]; exact .inr (.inr (.inl ⟨OK.out, FO.out, by rw [← HS.out]; exact z0, rfl, rfl⟩)))
    have z1 : (S == 0) = true := by simpa using z0
    clear HQ b3 b4 z0 f0 f1
    go_wp2_with fail
    go_ret2
    exact ⟨0, 5, rfl, FF.out, K3.out.bel⟩
  have z1 : (S == 0) = false := by simpa using z0
  have FIN := Lib.hid (show ∀ i : Nat, i < 64 → fn * S ≤ hsum H (i + 1) * fd → (∀ j, j < i → hsum H (j + 1) * fd < fn * S) → QuaQ H fn fd i 0 from fun i h1 h2 h3 => by
    rw [HQ.out]
    exact .inr (.inr (.inr ⟨OK.out, FO.out, by rw [← HS.out]; omega, rfl, i, rfl, h1, by rw [← HS.out]; exact h2, fun j hj => by rw [← HS.out]; exact h3 j hj⟩))
  )
  have NZ := Lib.hid (show ∀ k, k ≤ 64 → 0 ≤ hsum H k ∧ hsum H k ≤ S from fun k hk => ⟨hsum_nonneg (OK.out.less hk), by rw [HS.out]; exact hsum_mono OK.out.1 hk⟩)
  have END := Lib.hid (show ¬ hsum H 64 * fd < fn * S from fun h => by
    rw [← HS.out] at h
    have : fn * S ≤ fd * S := Int.mul_le_mul_of_nonneg_right (by omega) s0
    rw [Int.mul_comm fd S] at this
    omega)
  have AT := Lib.hid (show ∀ k, k < 64 → 0 ≤ H k ∧ H k ≤ 1048576 from fun k hk => hok_at OK.out hk)
  have H1 := Lib.hid (show hsum H 1 = H 0 from Int.zero_add _)
  obtain ⟨hb3, -, -, -, -⟩ := K3.out
  have ch := hb3.cell (k := 0) (by omega)
  have fs : 0 ≤ fn * S ∧ fn * S ≤ 1048576 * 1048576 := by
    refine ⟨Int.mul_nonneg (by omega) s0, ?_⟩
    exact Int.le_trans (Int.mul_le_mul_of_nonneg_right (show fn ≤ 1048576 by omega) s0) (Int.mul_le_mul_of_nonneg_left s1 (by omega))
  clear HQ OK FO HS b3 b4 z0 f0 f1 hb3
  go_upto_region 8 with fail
  go_quiet (fail)
  have K4 := Lib.hid (K3.out.below (hb_drewN w3 nq))
  generalize w3.drewN nq = w4 at *
  obtain ⟨hb4, c0, c1, lt4, bel4⟩ := K4.out
  have B4 := Lib.hid bel4
  have HB4 := Lib.hid hb4
  obtain ⟨Q, hQ⟩ : ∃ Q, Q = fn * S := ⟨_, rfl⟩
  rw [← hQ] at FIN END fs
  have wQ : IntKind.i64.wrap (fn * S) = Q := by rw [← hQ]; exact hwI (by omega) (by omega)
  have wQ2 : wrap64 (fn * S) = Q := by rw [← IntWalk.i64_left]; exact wQ
  clear hQ fs K3 K4 hb4 lt4 bel4 ch
  go_wp2_with fail
  go_loopw [8, 9] (fun iv cv wr => ∃ i : Nat, i < 64 ∧ iv = .int .i64 i ∧ cv = .int .i64 (hsum H (i + 1)) ∧ Hid (∀ j, j < i → hsum H (j + 1) * fd < Q) ∧ wr = w4) (fun iv _ _ => 64 - (intOf iv).toNat)
  case atStart => exact ⟨0, by omega, rfl, by rw [H1.out], Lib.hid (fun j hj => by omega), rfl⟩
  case round =>
    obtain ⟨i, hi, rfl, rfl, ALL, rfl⟩ := hrel
    have nz := NZ.out (i + 1) (by omega)
    have SS := Lib.hid (show hsum H (i + 1 + 1) = hsum H (i + 1) + H (i + 1) from rfl)
    have FI := Lib.hid (FIN.out i hi)
    have EN := Lib.hid (show hsum H (i + 1) * fd < Q → i + 1 < 64 from fun h => by
      apply Classical.byContradiction; intro g
      rw [show i + 1 = 64 by omega] at h
      have := END.out; omega)
    have AL2 := Lib.hid (show hsum H (i + 1) * fd < Q → ∀ j, j < i + 1 → hsum H (j + 1) * fd < Q from fun h j hj => by
      by_cases e : j = i
      · rw [e]; exact h
      · exact ALL.out j (by omega))
    have NX := Lib.hid (show i + 1 < 64 → 0 ≤ hsum H (i + 1) + H (i + 1) ∧ hsum H (i + 1) + H (i + 1) ≤ S from fun h => by
      have := NZ.out (i + 1 + 1) (by omega)
      rw [SS.out] at this; exact this)
    generalize hsum H (i + 1) = C at *
    obtain ⟨P, hP⟩ : ∃ P, P = C * fd := ⟨_, rfl⟩
    rw [← hP] at FI EN AL2
    have pb : 0 ≤ P ∧ P ≤ 1048576 * 1048576 := by
      rw [hP]
      exact ⟨Int.mul_nonneg nz.1 (by omega), Int.le_trans (Int.mul_le_mul_of_nonneg_right (show C ≤ 1048576 by omega) (by omega)) (Int.mul_le_mul_of_nonneg_left b2 (by omega))⟩
    have wP : IntKind.i64.wrap (C * fd) = P := by rw [← hP]; exact hwI (by omega) (by omega)
    have wP2 : wrap64 (C * fd) = P := by rw [← IntWalk.i64_left]; exact wP
    clear hP pb
    by_cases lt : P < Q
    · have d3 : decide (P < Q) = true := decide_eq_true lt
      have e64 := EN.out lt
      have nx := NX.out e64
      have A2 := Lib.hid (AL2.out lt)
      have wi : IntKind.i64.wrap ((i : Int) + 1) = (i : Int) + 1 := hwI (by omega) (by omega)
      have i1 : (0 : Int) ≤ (i : Int) + 1 := by omega
      have i2 : (i : Int) + 1 < 64 := by omega
      have ci := HB4.out.cell (k := i + 1) e64
      have ti : ((i : Int) + 1).toNat = i + 1 := by omega
      have wC : IntKind.i64.wrap (C + H (i + 1)) = C + H (i + 1) := hwI (by omega) (by omega)
      clear lt FI EN AL2 NX nx ALL
      go_wp2_with fail
      go_roundw
      case rel => exact ⟨i + 1, e64, by go_num, by rw [SS.out], A2, by first | rfl | trivial⟩
      case measure => simp [intOf]; omega
    · have d3 : decide (P < Q) = false := decide_eq_false lt
      have FF := Lib.hid (FI.out (by omega) ALL.out)
      clear lt FI EN AL2 NX
      go_wp2_with fail
      go_ret2
      exact ⟨i, 0, rfl, FF.out, B4.out⟩
end Go.Proofs.Ytbcfafihkdddeaa
