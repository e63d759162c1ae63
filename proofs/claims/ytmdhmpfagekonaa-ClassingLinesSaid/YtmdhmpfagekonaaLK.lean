/- Classing's lines: leastCosts. -/
import Derived.Test.YtmdhmpfagekonaaLD
import Derived.Test.YtmdhmpfagekonaaShelf
import Derived.Test.YtmdhmpfagekonaaLI
import Derived.Laws.CopyOwn
import Derived.Test.YtmdhmpfagekonaaLQ
import Derived.Test.YtmdhmpfagekonaaLE
/- Classing's lines: slices.Repeat of one -1. -/
namespace Go.Proofs.Ytmdhmpfagekonaa
open Go.RowKit Go.Proofs.Ytmdhmpfagekonaa.Ct Go.Proofs.Ytmdhmpfagekonaa.Ce Go.Proofs.Ytmdhmpfagekonaa.Stb
set_option linter.unusedVariables false
set_option linter.unusedSimpArgs false

set_option maxRecDepth 100000 in
theorem Mul_any (x y : Nat) (hx : x < 18446744073709551616) (hy : y < 18446744073709551616) (h : x * y < 18446744073709551616) (w : World) :
    Calls Try.prog 60 #[.int .u64 x, .int .u64 y] w fun e w' => e = .returned (.tuple #[.int .u64 0, .int .u64 ((x * y : Nat) : Int)]) ∧ w = w' := by
  have CC := Lib.hid (Try.bits_Mul64 x y hx hy w)
  rw [Nat.div_eq_of_lt h, Nat.mod_eq_of_lt h] at CC
  clear hx hy h
  generalize x * y = z at *
  go_enter Try.func60, Try.ntmps60
  go_wp2_with fail
  refine CC.out.mono ?_
  rintro e w1 ⟨rfl, rfl⟩
  go_wp2_with fail
  go_ret2
  exact ⟨rfl, rfl⟩
/-- A row of which the first k cells are -1. -/
def negR (m k : Nat) : List Value := (List.range m).map fun j => Value.int .i64 (if j < k then -1 else 0)
theorem negR_len (m k : Nat) : (negR m k).length = m := by simp [negR]
theorem negR_at {m k j : Nat} (h : j < m) : (negR m k)[j]? = some (.int .i64 (if j < k then -1 else 0)) := by simp [negR, h]
theorem negR_splice {m k c : Nat} (h : k + c ≤ m) : splice (negR m k) k (List.replicate c (Value.int .i64 (-1))) = negR m (k + c) := by
  unfold splice
  apply List.ext_getElem?
  intro j
  by_cases jm : j < m
  · rw [negR_at jm]
    by_cases a : j < k
    · rw [List.getElem?_append_left (by simp [negR_len]; omega), List.getElem?_take_of_lt a, negR_at jm, if_pos a, if_pos (by omega)]
    · rw [List.getElem?_append_right (by simp [negR_len]; omega), List.length_take, negR_len, Nat.min_eq_left (by omega)]
      by_cases b : j < k + c
      · rw [List.getElem?_append_left (by simp; omega), if_pos b, List.getElem?_replicate, if_pos (by omega)]
      · rw [List.getElem?_append_right (by simp; omega), List.length_replicate, List.getElem?_drop, negR_at (by omega), if_neg (by omega), if_neg b]
  · rw [List.getElem?_eq_none (by simp [negR_len]; omega), List.getElem?_eq_none (by rw [negR_len]; omega)]
theorem one_neg {c : Nat} : ∀ v ∈ List.replicate c (Value.int .i64 (-1)), v.oneCell' = true := by
  intro v hv
  have := List.eq_of_mem_replicate hv
  subst this; rfl
theorem made_neg (m : Nat) : (madeCells (Value.int .i64 0).cells m).toList = negR m 0 := by
  rw [madeInts]; simp [negR]
theorem intSz : (Try.prog.info? 3).map (·.size) = some 1 := by kernel_rfl

set_option maxRecDepth 100000 in
set_option maxHeartbeats 8000000 in
theorem Repeat_any (g0 m : Nat) (w : World) (c0 : w.cell? ⟨g0, 0, none⟩ = some (.int .i64 (-1))) (hm : 1 ≤ m) (lm : m ≤ 1000) :
    Calls Try.prog 48 #[.slice (some ⟨g0, 0, none⟩) 1 1, .int .i64 m] w fun e w' => ∃ b, e = .returned (.slice (some ⟨b, 0, none⟩) m m) ∧ w.heap.size ≤ b ∧ OB w' b 3 m (fun _ => .int .i64 (-1)) ∧ Below w.heap.size w w' := by
  obtain ⟨i0, hi, hz0, hz1, hz2⟩ := info_parts intInfo
  have CM := Lib.hid (Mul_any 1 m (by decide) (by omega) (by omega) w)
  rw [Nat.one_mul] at CM
  have d0 : decide ((m : Int) < 0) = false := decide_eq_false (by omega)
  have d1 : decide ((9223372036854775807 : Int) < (m : Int)) = false := decide_eq_false (by omega)
  have n0 : ¬ (m : Int) < 0 := by omega
  have eu : IntKind.u64.wrap (m : Int) = (m : Int) := by
    rw [IntKind.wrap_u64]; omega
  have ei : IntKind.i64.wrap (m : Int) = (m : Int) := hwI (by omega) (by omega)
  have z0 : g0 < w.heap.size := World.block_lt_of_cell? w ⟨g0, 0, none⟩ c0
  go_enter Try.func48, Try.ntmps48
  go_wp2_with fail
  refine CM.out.mono ?_
  rintro e w1 ⟨rfl, rfl⟩
  go_upto_region 7 with (first
    | (at_make; refine wpList_make_full _ rfl _ _ 36 rfl w.heap.size 3 i0 (.int .i64 0) 1 Try.underlying36 hi hz0 hz1 .i64 .i64 _ _ m rfl rfl (by omega) (by omega) (by rw [hz2]; omega) (by unfold maxLen; omega) (Nat.le_refl _) ?_; intro wc hown hgrow))
  have OL := Lib.hid (show wc.heap[w.heap.size]? = some (.cells (negR m 0).toArray 3 (0, 0)) from by
    have h2 : (madeCells (Value.int .i64 0).cells (m * 1)).toList = (List.range (m * 1)).map fun j => Value.int .i64 (if j < 0 then -1 else 0) := by
      rw [madeInts]; simp
    have h3 := hown
    first | rw [h2] at h3 | (rw [Nat.mul_one] at h2; rw [h2] at h3)
    have := OB.of (m := 1) (c := fun j => Value.int .i64 (if j < 0 then -1 else 0)) (by first | exact h3 | (rw [Nat.mul_one]; exact h3))
    rw [Nat.mul_one] at this
    exact this)
  have B3 := Lib.hid (show Below w.heap.size w wc from (Below.refl _ _).grown hgrow (Nat.le_refl _) (fun k e => by cases e))
  have c0 := cellGr B3.out c0
  have GL := Lib.hid (show w.heap.size < wc.heap.size from (Array.getElem?_eq_some_iff.1 OL.out).1)
  clear hown hgrow
  obtain ⟨g, hg⟩ : ∃ g, g = w.heap.size := ⟨_, rfl⟩
  rw [← hg] at OL ⊢
  have HG := Lib.hid hg
  clear hg
  go_wp2_with fail
  have hrun := run_copy_row (P := Try.prog) wc 36 36 3 3 g 0 m m ⟨g0, 0, none⟩ 1 1 (negR m 0).toArray 3 (List.replicate 1 (.int .i64 (-1))) Try.underlying36 intSz OL.out (by show 1 = Nat.min 1 m; exact (Nat.min_eq_left hm).symm) (fun j v hv => by
        rcases j with _ | j
        · simp at hv; subst hv; exact c0
        · simp at hv) (by simp [negR_len]; omega) one_neg
  rw [List.append_assoc] at hrun
  rw [show (negR m 0).toArray.toList.take 0 ++ (List.replicate 1 (Value.int .i64 (-1)) ++ (negR m 0).toArray.toList.drop (0 + (List.replicate 1 (Value.int .i64 (-1))).length)) = negR m 1 from by
    have := negR_splice (m := m) (k := 0) (c := 1) (by omega)
    rw [Nat.zero_add] at this
    exact this] at hrun
  have OD := Lib.hid (show (wc.setRow g (negR m 1).toArray).heap[g]? = some (.cells (negR m 1).toArray 3 (0, 0)) from setRow_heap wc g _ _ _ _ OL.out)
  have BD := Lib.hid (show Below w.heap.size w (wc.setRow g (negR m 1).toArray) from below_setRow B3.out (by rw [HG.out]; exact Nat.le_refl _) _)
  rw [hrun]
  generalize wc.setRow g (negR m 1).toArray = wd at *
  simp only [Result.andThen]
  rw [Oper.upon_value]
  clear hrun c0 OL B3 GL
  go_wp2_with fail
  go_loopw [8] (fun kv wr => ∃ k : Nat, 1 ≤ k ∧ k ≤ m ∧ kv = .int .i64 (k : Int) ∧ Hid (wr.heap[g]? = some (.cells (negR m k).toArray 3 (0, 0))) ∧ Hid (Below w.heap.size w wr)) (fun kv _ => m - (intOf kv).toNat)
  case atStart => exact ⟨1, Nat.le_refl _, hm, by first | rfl | simp, OD, BD⟩
  case round =>
    clear OD BD
    obtain ⟨k, hk1, hk2, rfl, OD, BD⟩ := hrel
    by_cases t1 : k < m
    case pos =>
      have k1 : (0 : Int) ≤ (k : Int) := by omega
      have k2 : (k : Int) < (m : Int) := by omega
      have k3 : (k : Int) ≤ (m : Int) := by omega
      have hmin : Nat.min k (m - k) = min k (m - k) := rfl
      obtain ⟨c, hc⟩ : ∃ c, c = Nat.min k (m - k) := ⟨_, rfl⟩
      have c1 : 1 ≤ c ∧ k + c ≤ m ∧ c ≤ k := by rw [hc, hmin]; omega
      have HC := Lib.hid hc
      clear hc hmin
      have ek2 : IntKind.i64.wrap ((k : Int) + (c : Int)) = (k : Int) + (c : Int) := hwI (by omega) (by omega)
      have ek : IntKind.i64.wrap ((k : Int) + (c : Int)) = ((k + c : Nat) : Int) := by rw [hwI (by omega) (by omega)]; omega
      go_upto_region 9 with fail
      refine wp_region_G (fun _ => True) 8 (by kernel_rfl) ?_
      have hS : True := trivial
      refine wpAnyG_take (i := 0) (oi := _) (v := .int .i64 (k : Int)) rfl (by kernel_rfl) (by kernel_rfl) (by kernel_rfl) (by kernel_rfl) (by kernel_rfl) (by decide) (fun _ _ _ h => h) (by rfl) (fun w' hw' => ?_) hS ?_
      · have h1 := hw'
        go_simp
      try simp only [Act.put, List.getElem_toArray, List.getElem_cons_zero, List.getElem_cons_succ, List.setIfInBounds_toArray, List.set_cons_zero, List.set_cons_succ]
      refine wpAnyG_take (i := 1) (oi := _) (v := .slice (some ⟨g, 0, none⟩) m m) rfl (by kernel_rfl) (by kernel_rfl) (by kernel_rfl) (by kernel_rfl) (by kernel_rfl) (by decide) (fun _ _ _ h => h) (by rfl) (fun w' hw' => ?_) hS ?_
      · have h1 := hw'
        go_simp
      try simp only [Act.put, List.getElem_toArray, List.getElem_cons_zero, List.getElem_cons_succ, List.setIfInBounds_toArray, List.set_cons_zero, List.set_cons_succ]
      refine wpAnyG_take (i := 2) (oi := _) (v := .int .i64 (k : Int)) rfl (by kernel_rfl) (by kernel_rfl) (by kernel_rfl) (by kernel_rfl) (by kernel_rfl) (by decide) (fun _ _ _ h => h) (by rfl) (fun w' hw' => ?_) hS ?_
      · have h1 := hw'
        go_simp
      try simp only [Act.put, List.getElem_toArray, List.getElem_cons_zero, List.getElem_cons_succ, List.setIfInBounds_toArray, List.set_cons_zero, List.set_cons_succ]
      refine wpAnyG_take (i := 3) (oi := _) (v := .slice (some ⟨g, k, none⟩) (m - k) (m - k)) rfl (by kernel_rfl) (by kernel_rfl) (by kernel_rfl) (by kernel_rfl) (by kernel_rfl) (by decide) (fun _ _ _ h => h) (by rfl) (fun w' hw' => ?_) hS ?_
      · have h1 := hw'
        go_simp
        exact fun h => absurd h (by omega)
      try simp only [Act.put, List.getElem_toArray, List.getElem_cons_zero, List.getElem_cons_succ, List.setIfInBounds_toArray, List.set_cons_zero, List.set_cons_succ]
      refine wpAnyG_take (i := 4) (oi := _) (v := .slice (some ⟨g, 0, none⟩) m m) rfl (by kernel_rfl) (by kernel_rfl) (by kernel_rfl) (by kernel_rfl) (by kernel_rfl) (by decide) (fun _ _ _ h => h) (by rfl) (fun w' hw' => ?_) hS ?_
      · have h1 := hw'
        go_simp
      try simp only [Act.put, List.getElem_toArray, List.getElem_cons_zero, List.getElem_cons_succ, List.setIfInBounds_toArray, List.set_cons_zero, List.set_cons_succ]
      refine wpAnyG_take (i := 5) (oi := _) (v := .int .i64 (k : Int)) rfl (by kernel_rfl) (by kernel_rfl) (by kernel_rfl) (by kernel_rfl) (by kernel_rfl) (by decide) (fun _ _ _ h => h) (by rfl) (fun w' hw' => ?_) hS ?_
      · have h1 := hw'
        go_simp
      try simp only [Act.put, List.getElem_toArray, List.getElem_cons_zero, List.getElem_cons_succ, List.setIfInBounds_toArray, List.set_cons_zero, List.set_cons_succ]
      refine wpAnyG_take (i := 6) (oi := _) (v := .slice (some ⟨g, 0, none⟩) k m) rfl (by kernel_rfl) (by kernel_rfl) (by kernel_rfl) (by kernel_rfl) (by kernel_rfl) (by decide) (fun _ _ _ h => h) (by rfl) (fun w' hw' => ?_) hS ?_
      · have h1 := hw'
        go_simp
      try simp only [Act.put, List.getElem_toArray, List.getElem_cons_zero, List.getElem_cons_succ, List.setIfInBounds_toArray, List.set_cons_zero, List.set_cons_succ]
      refine wpAnyG_one (i := 7) (o := _) (by kernel_rfl) rfl (fun KK hK => ?_)
      refine step_copy_splice rfl _ _ 36 36 rfl 3 Try.underlying36 intSz (some ⟨g, k, none⟩) (some ⟨g, 0, none⟩) (m - k) (m - k) k m (by rfl) (by rfl) g k (negR m k) 3 OD.out (List.replicate c (.int .i64 (-1))) (by rw [List.length_replicate]; exact HC.out) (fun _ => ⟨rfl, ⟨g, 0, none⟩, rfl, fun j v hv => by
        have hj : j < c := by
          have := (List.getElem?_eq_some_iff.1 hv).1
          simpa using this
        rw [List.getElem?_replicate, if_pos hj] at hv
        cases hv
        rw [add0]
        have hd := OD.out
        show wr.cell? ⟨g, j, none⟩ = _
        have := negR_at (m := m) (k := k) (j := j) (by omega)
        rw [if_pos (by omega)] at this
        simp [World.cell?, hd, this]⟩) (by rw [negR_len, List.length_replicate]; omega) one_neg w.heap.size w BD.out.drew (by rw [HG.out]; exact Nat.le_refl _) ?_
      intro w5 OD5 BD5
      replace OD5 := Lib.hid (show w5.heap[g]? = some (.cells (negR m (k + c)).toArray 3 (0, 0)) from by rw [← negR_splice c1.2.1]; exact OD5.out)
      replace BD5 := Lib.hid BD5
      rw [List.length_replicate]
      refine hK.out _ _ (fun _ => trivial) ?_
      try simp only [Act.put, List.getElem_toArray, List.getElem_cons_zero, List.getElem_cons_succ, List.setIfInBounds_toArray, List.set_cons_zero, List.set_cons_succ]
      clear hK
      unfold goInt
      refine wpAnyG_one (i := 8) (o := _) (by kernel_rfl) rfl (fun KK hK => ?_)
      go_simp
      refine hK.out _ _ (fun h => absurd h (by decide)) ?_
      try simp only [Act.put, List.getElem_toArray, List.getElem_cons_zero, List.getElem_cons_succ, List.setIfInBounds_toArray, List.set_cons_zero, List.set_cons_succ]
      clear hK
      refine wpAnyG_one (i := 9) (o := _) (by kernel_rfl) rfl (fun KK hK => ?_)
      go_simp
      refine hK.out _ _ (fun h => absurd h (by decide)) ?_
      try simp only [Act.put, List.getElem_toArray, List.getElem_cons_zero, List.getElem_cons_succ, List.setIfInBounds_toArray, List.set_cons_zero, List.set_cons_succ]
      clear hK
      refine wpAnyG_done (by kernel_rfl) ?_ _
      clear OD BD hS
      go_wp2_with fail
      go_roundw
      case rel => exact ⟨k + c, by omega, by omega, by first | rfl | simp, OD5, BD5⟩
      case measure => simp [intOf]; omega
    obtain rfl : k = m := by omega
    have FB := Lib.hid (show OB wr g 3 k (fun _ => .int .i64 (-1)) from OB.ext (show OB wr g 3 k (fun j => .int .i64 (if j < k then -1 else 0)) from OD.out) fun j hj => by rw [if_pos hj])
    go_wp2_with fail
    go_ret
    exact ⟨g, rfl, Nat.le_of_eq HG.out.symm, FB.out, BD.out⟩
end Go.Proofs.Ytmdhmpfagekonaa

/- Classing's lines: leastCosts. -/
namespace Go.Proofs.Ytmdhmpfagekonaa
open Go.RowKit Go.Proofs.Ytmdhmpfagekonaa.Ct Go.Proofs.Ytmdhmpfagekonaa.Ce Go.Proofs.Ytmdhmpfagekonaa.Stb
set_option linter.unusedVariables false
set_option linter.unusedSimpArgs false

theorem lfm_congr_r {c r r' : Nat → Int} (i : Nat) : ∀ m, (∀ j, i < j → j ≤ i + m → r j = r' j) → lfm c r i m = lfm c r' i m
  | 0, _ => rfl
  | m + 1, h => by
    show (if lss (both (c (i + m + 1)) (r (i + m + 1))) (lfm c r i m) then both (c (i + m + 1)) (r (i + m + 1)) else lfm c r i m) = (if lss (both (c (i + m + 1)) (r' (i + m + 1))) (lfm c r' i m) then both (c (i + m + 1)) (r' (i + m + 1)) else lfm c r' i m)
    rw [lfm_congr_r i m (fun j a b => h j a (by omega)), h (i + m + 1) (by omega) (by omega)]
/-- The memory of leastCosts: the clip's box, the rows. -/
structure LsM (w : World) (cv : Nat → Value) (gR n K r : Nat) (gr : Nat → Nat) (D : Nat → Nat → Int) (W : World) : Prop where
  kx : OB W w.heap.size 67 6 cv
  cx : OB W gR 36 (K + 1) (rowS n r gr)
  rr : ∀ i, i < r → OB W (gr i) 3 (n + 1) (fun j => .int .i64 (D i j))
  bl : Below w.heap.size w W
  l1 : w.heap.size < gR
  l2 : ∀ i, i < r → gR ≠ gr i ∧ w.heap.size < gr i
  l3 : ∀ i j, i < r → j < r → gr i = gr j → i = j
section
variable {w : World} {cv : Nat → Value} {gR n K r : Nat} {gr : Nat → Nat} {D : Nat → Nat → Int} {W W' : World}
theorem LsM.call (h : LsM w cv gR n K r gr D W) (b : Below W.heap.size W W') : LsM w cv gR n K r gr D W' :=
  ⟨h.kx.below b, h.cx.below b, fun i hi => (h.rr i hi).below b, h.bl.trans (b.mono h.bl.size), h.l1, h.l2, h.l3⟩
theorem LsM.row (h : LsM w cv gR n K r gr D W) {g : Nat} {f : Nat → Int} (ob : OB W g 3 (n + 1) (fun j => .int .i64 (f j))) (n1 : w.heap.size < g) (n2 : g ≠ gR) (n3 : ∀ i, i < r → gr i ≠ g) :
    LsM w cv gR n K (r + 1) (upN gr r g) (upR D r f) (W.setCell ⟨gR, r, none⟩ (.slice (some ⟨g, 0, none⟩) (n + 1) (n + 1))) := by
  have f1 : Fm (fun k => k = gR) W (W.setCell ⟨gR, r, none⟩ (.slice (some ⟨g, 0, none⟩) (n + 1) (n + 1))) := Fm.set _ _ rfl
  have l1 := h.l1
  refine ⟨h.kx.fm f1 (by omega), (h.cx.set r _).ext fun k hk => ?_, fun i hi => ?_, fm_below h.bl f1 (by omega) h.cx.lt, h.l1, fun i hi => ?_, fun i j hi hj => ?_⟩
  · unfold updV rowS upN
    by_cases e : k = r
    · subst e; simp
    · rw [if_neg e]
      by_cases l : k < r
      · rw [if_pos l, if_pos (by omega), if_neg e]
      · rw [if_neg l, if_neg (by omega)]
  · unfold upN upR
    by_cases e : i = r
    · rw [if_pos e, if_pos e]; exact ob.fm f1 n2
    · rw [if_neg e, if_neg e]; exact (h.rr i (by omega)).fm f1 (h.l2 i (by omega)).1.symm
  · unfold upN
    by_cases e : i = r
    · rw [if_pos e]; exact ⟨n2.symm, n1⟩
    · rw [if_neg e]; exact h.l2 i (by omega)
  · unfold upN
    by_cases e : i = r <;> by_cases e' : j = r
    · intro _; omega
    · rw [if_pos e, if_neg e']; intro q; exact absurd q.symm (n3 j (by omega))
    · rw [if_neg e, if_pos e']; intro q; exact absurd q (n3 i (by omega))
    · rw [if_neg e, if_neg e']; exact h.l3 i j (by omega) (by omega)
theorem LsM.cell (h : LsM w cv gR n K r gr D W) {i : Nat} (hi : i < r) (j : Nat) (v : Int) :
    LsM w cv gR n K r gr (upR D i (upF (D i) j v)) (W.setCell ⟨gr i, j, none⟩ (.int .i64 v)) := by
  obtain ⟨d1, d2⟩ := h.l2 i hi
  have f1 : Fm (fun k => k = gr i) W (W.setCell ⟨gr i, j, none⟩ (.int .i64 v)) := Fm.set _ _ rfl
  refine ⟨h.kx.fm f1 (by omega), h.cx.fm f1 d1, fun k hk => ?_, fm_below h.bl f1 (by omega) (h.rr i hi).lt, h.l1, h.l2, h.l3⟩
  unfold upR
  by_cases e : k = i
  · subst e
    rw [if_pos rfl]
    exact ((h.rr k hk).set j (.int .i64 v)).ext fun m _ => by
      unfold updV upF
      by_cases q : m = j
      · rw [if_pos q, if_pos q]
      · rw [if_neg q, if_neg q]
  · rw [if_neg e]
    exact (h.rr k hk).fm f1 (fun q => e (h.l3 k i hk hi q))
end

set_option maxRecDepth 100000 in
set_option maxHeartbeats 16000000 in
theorem leastCosts_any (le sp : Int) (pa pb pc : Option Addr) (na ca cb n cc K : Nat) (C : Nat → Nat → Int) (w : World) (hC : CoR w pc n (n + 1) C) (ln : n ≤ 140) (hK : 1 ≤ K ∧ K ≤ 16) (M : Int) (hM : 0 ≤ M ∧ M ≤ 1503238553600000)
    (b1 : ∀ a j, j ≤ n → -1 ≤ C a j ∧ C a j ≤ M) :
    Calls Try.prog 34 #[clV (K : Int) le sp (.slice pa na ca) (.slice pb n cb) (.slice pc n cc)] w fun e w' => ∃ g, e = .returned (.slice (some ⟨g, 0, none⟩) (K + 1) (K + 1)) ∧ CoR w' (some ⟨g, 0, none⟩) (K + 1) (n + 1) (rowK C n) ∧ Below w.heap.size w w' ∧ w.heap.size < g ∧ ∀ i, i < K + 1 → ∃ gi, w'.cell? ⟨g, i, none⟩ = some (.slice (some ⟨gi, 0, none⟩) (n + 1) (n + 1)) ∧ w.heap.size < gi := by
  obtain ⟨i0, hi, hz0, hz1, hz2⟩ := info_parts intInfo
  obtain ⟨i2, hi2, hx0, hx1, hx2⟩ := info_parts rowInfo
  have HC := Lib.hid hC
  have BD := Lib.hid b1
  have RB := Lib.hid (rowK_bd (C := C) (n := n) (M := M) hM.1 (fun i j _ h => b1 i j h))
  have HK := Lib.hid hK
  obtain ⟨hK1, hK2⟩ := hK
  have B1 := Lib.hid (show Below w.heap.size w (w.alloc (Obj.cells #[.int .i64 (K : Int), .int .i64 le, .int .i64 sp, .slice pa na ca, .slice pb n cb, .slice pc n cc] 67)) from (Below.refl _ _).alloc (Nat.le_refl _) _)
  have OC := Lib.hid (ob_cl w (K : Int) le sp (.slice pa na ca) (.slice pb n cb) (.slice pc n cc) 67)
  have Z1 := Lib.hid (show (w.alloc (Obj.cells #[.int .i64 (K : Int), .int .i64 le, .int .i64 sp, .slice pa na ca, .slice pb n cb, .slice pc n cc] 67)).heap.size = w.heap.size + 1 from by simp)
  have eK : IntKind.i64.wrap ((K : Int) + 1) = (K : Int) + 1 := hwI (by omega) (by omega)
  have en : IntKind.i64.wrap ((n : Int) + 1) = (n : Int) + 1 := hwI (by omega) (by omega)
  have n0 : ¬ ((n : Int) + 1 < 0) := by omega
  have n1 : ¬ ((K : Int) + 1 < 0) := by omega
  clear hC b1
  unfold clV
  go_enter Try.func34, Try.ntmps34
  go_upto_region 1 with fail
  generalize (w.alloc (Obj.cells #[.int .i64 (K : Int), .int .i64 le, .int .i64 sp, .slice pa na ca, .slice pb n cb, .slice pc n cc] 67)) = wa at *
  have c0 : wa.cell? ⟨w.heap.size, 0, none⟩ = some (.int .i64 (K : Int)) := OC.out.cell (k := 0) (by decide)
  have c4 : wa.cell? ⟨w.heap.size, 4, none⟩ = some (.slice pb n cb) := OC.out.cell (k := 4) (by decide)
  go_upto_region 3 with (first
    | (at_make; refine wpList_make_full _ rfl _ _ 60 rfl wa.heap.size 36 i2 (.slice none 0 0) 1 Try.underlying60 hi2 hx0 hx1 .i64 .i64 _ _ (K + 1) rfl rfl (by omega) (by omega) (by rw [hx2]; omega) (by unfold maxLen; omega) (Nat.le_refl _) ?_; intro wc hown hgrow))
  have OL := Lib.hid (show OB wc wa.heap.size 36 (K + 1) (rowS n 0 (fun _ => 0)) from by
    have h2 : (madeCells (Value.slice none 0 0).cells ((K + 1) * 1)).toList = (List.range ((K + 1) * 1)).map (rowS n 0 (fun _ => 0)) := by
      rw [madeRows]
      exact List.map_congr_left fun k _ => by unfold rowS; rw [if_neg (by omega)]
    have h3 := hown
    first | rw [h2] at h3 | (rw [Nat.mul_one] at h2; rw [h2] at h3)
    have := OB.of (m := 1) (c := rowS n 0 (fun _ => 0)) (by first | exact h3 | (rw [Nat.mul_one]; exact h3))
    rw [Nat.mul_one] at this
    exact this)
  have B3 := Lib.hid (show Below wa.heap.size wa wc from (Below.refl _ _).grown hgrow (Nat.le_refl _) (fun k e => by cases e))
  clear hown hgrow c0 c4
  have HB := Lib.hid (B1.out.trans (B3.out.mono B1.out.size))
  have OC2 := Lib.hid (OC.out.below B3.out)
  obtain ⟨gR, hg⟩ : ∃ g, g = wa.heap.size := ⟨_, rfl⟩
  rw [← hg] at OL ⊢
  have HG := Lib.hid (show gR = w.heap.size + 1 from by rw [hg]; exact Z1.out)
  clear hg OC B1 B3
  have CR := Lib.hid (Repeat_any wc.heap.size (n + 1) (wc.alloc (Obj.cells #[.int .i64 (-1)] 3)) (by simp [go_sem]) (by omega) (by omega))
  rw [show ((n + 1 : Nat) : Int) = (n : Int) + 1 by omega] at CR
  go_wp2_with fail
  refine CR.out.mono ?_
  rintro e w2 ⟨g0, rfl, lb, ob, b2⟩
  have B2 := Lib.hid (show Below wc.heap.size wc w2 from ((Below.refl _ _).alloc (Nat.le_refl _) _).trans (b2.mono (by simp)))
  have M0 := Lib.hid (show LsM w (clC (K : Int) le sp (.slice pa na ca) (.slice pb n cb) (.slice pc n cc)) gR n K 1 (upN (fun _ => 0) 0 g0) (upR (fun _ _ => 0) 0 (fun _ => -1)) (w2.setCell ⟨gR, 0, none⟩ (.slice (some ⟨g0, 0, none⟩) (n + 1) (n + 1))) from by
    have h1 := HG.out
    have h2 := OL.out.lt
    simp at lb
    exact LsM.row (r := 0) (g := g0) ⟨OC2.out.below B2.out, OL.out.below B2.out, fun i hi => absurd hi (by omega), HB.out.trans (B2.out.mono HB.out.size), by omega, fun i hi => absurd hi (by omega), fun i j hi => absurd hi (by omega)⟩ ob (by omega) (by omega) (fun i hi => absurd hi (by omega)))
  have q0 := (OL.out.below B2.out).cell (k := 0) (by omega)
  have y0 := (OL.out.below B2.out).frozen 0
  rw [show rowS n 0 (fun _ => 0) 0 = .slice none 0 0 from rfl] at q0
  clear CR lb ob b2 OL OC2 B2 HB
  go_upto_region 4 with fail
  generalize hw3 : w2.setCell ⟨gR, 0, none⟩ (.slice (some ⟨g0, 0, none⟩) (n + 1) (n + 1)) = w3 at *
  clear q0 y0 hw3
  have q0 := M0.out.cx.cell (k := 0) (by omega)
  rw [show rowS n 1 (upN (fun _ => 0) 0 g0) 0 = .slice (some ⟨g0, 0, none⟩) (n + 1) (n + 1) from rfl] at q0
  have x0 := (M0.out.rr 0 (by omega)).cell (k := n) (by omega)
  have y0 := (M0.out.rr 0 (by omega)).frozen n
  rw [show upN (fun _ => 0) 0 g0 0 = g0 from rfl] at x0 y0
  have M1 := Lib.hid (show ∃ gr D, LsM w (clC (K : Int) le sp (.slice pa na ca) (.slice pb n cb) (.slice pc n cc)) gR n K 1 gr D (w3.setCell ⟨g0, n, none⟩ (.int .i64 0)) ∧ ∀ r, r < 1 → ∀ j, j ≤ n → D r j = rowK C n r j from ⟨_, _, M0.out.cell (i := 0) (by omega) n 0, fun r hr j hj => by
    obtain rfl : r = 0 := by omega
    unfold upR upF rowK
    rw [if_pos rfl]
    by_cases e : j = n
    · rw [if_pos e, if_pos e]
    · rw [if_neg e, if_neg e]; rfl⟩)
  have i1 : (0 : Int) ≤ (n : Int) := by omega
  have i2' : (n : Int) < (n : Int) + 1 := by omega
  have i3 : (n : Int) < ((n + 1 : Nat) : Int) := by omega
  have i4 : (0 : Int) < ((K + 1 : Nat) : Int) := by omega
  have i5 : (0 : Int) < (K : Int) + 1 := by omega
  clear M0
  go_wp2_with fail
  clear q0 x0 y0
  go_loopw [5] (fun kv wr => ∃ (k : Nat), 1 ≤ k ∧ k ≤ K + 1 ∧ kv = .int .i64 (k : Int) ∧ Hid (∃ gr D, LsM w (clC (K : Int) le sp (.slice pa na ca) (.slice pb n cb) (.slice pc n cc)) gR n K k gr D wr ∧ ∀ r, r < k → ∀ j, j ≤ n → D r j = rowK C n r j)) (fun kv _ => K + 1 - (intOf kv).toNat)
  case atStart => exact ⟨1, Nat.le_refl _, by omega, by first | rfl | simp, M1⟩
  case round =>
    clear M1
    obtain ⟨k, hk1, hk2, rfl, HE⟩ := hrel
    by_cases t1 : k < K + 1
    case pos =>
      obtain ⟨kk, rfl⟩ : ∃ kk, k = kk + 1 := ⟨k - 1, by omega⟩
      obtain ⟨gr, D, HM, HV⟩ := HE.out
      replace HM := Lib.hid HM
      replace HV := Lib.hid HV
      clear HE
      have k1 : (0 : Int) ≤ (kk : Int) + 1 := by omega
      have k2 : (kk : Int) + 1 < (K : Int) + 1 := by omega
      have k3 : (kk : Int) + 1 < ((K + 1 : Nat) : Int) := by omega
      have k4 : (0 : Int) ≤ (kk : Int) := by omega
      have k5 : (kk : Int) < (K : Int) + 1 := by omega
      have k6 : (kk : Int) < ((K + 1 : Nat) : Int) := by omega
      have k7 : (((kk + 1 : Nat)) : Int) < (K : Int) + 1 := by omega
      have ekk : IntKind.i64.wrap ((kk : Int) + 1 - 1) = (kk : Int) := by rw [hwI (by omega) (by omega)]; omega
      have ekk3 : IntKind.i64.wrap (kk : Int) = (kk : Int) := hwI (by omega) (by omega)
      have ekk2 : IntKind.i64.wrap ((kk : Int) + 1 + 1) = (kk : Int) + 1 + 1 := hwI (by omega) (by omega)
      have q1 := HM.out.cx.cell (k := kk + 1) (by omega)
      have y1 := HM.out.cx.frozen (kk + 1)
      rw [show rowS n (kk + 1) gr (kk + 1) = .slice none 0 0 from if_neg (by omega)] at q1
      have GRL := Lib.hid HM.out.cx.lt
      go_wp2_with (first
        | (at_make; refine wpList_make_full _ rfl _ _ 36 rfl wr.heap.size 3 i0 (.int .i64 0) 1 Try.underlying36 hi hz0 hz1 .i64 .i64 _ _ (n + 1) rfl rfl (by omega) (by omega) (by rw [hz2]; omega) (by unfold maxLen; omega) (Nat.le_refl _) ?_; intro wd hown hgrow; have BW := Lib.hid (show Below wr.heap.size wr wd from (Below.refl _ _).grown hgrow (Nat.le_refl _) (fun k e => by cases e)); have HMd := Lib.hid (HM.out.call BW.out); have q1 := cellGr BW.out q1; have y1 := HMd.out.cx.frozen (kk + 1)))
      have OLd := Lib.hid (show OB wd wr.heap.size 3 (n + 1) (fun j => .int .i64 ((fun _ => 0) j)) from by
        have h3 := hown
        first | rw [made1] at h3 | rw [made1'] at h3
        have := OB.of h3
        rw [Nat.mul_one] at this
        exact this)
      have HN := Lib.hid (HMd.out.row OLd.out (by have := HM.out.l1; have := GRL.out; omega) (by have := GRL.out; omega) (fun i hi => by have := (HM.out.rr i hi).lt; omega))
      clear hown hgrow OLd q1 y1
      generalize hgk : upN gr (kk + 1) wr.heap.size = gq at *
      have GK := Lib.hid (show gq (kk + 1) = wr.heap.size ∧ gq kk = gr kk from ⟨by rw [← hgk]; exact if_pos rfl, by rw [← hgk]; exact if_neg (by omega)⟩)
      have HV2 := Lib.hid (show ∀ r, r < kk + 1 → ∀ j, j ≤ n → upR D (kk + 1) (fun _ => 0) r j = rowK C n r j from fun r hr j hj => by unfold upR; rw [if_neg (by omega)]; exact HV.out r hr j hj)
      generalize upR D (kk + 1) (fun _ => 0) = D2 at *
      generalize hwe : wd.setCell ⟨gR, kk + 1, none⟩ (.slice (some ⟨wr.heap.size, 0, none⟩) (n + 1) (n + 1)) = we at *
      clear hgk hwe HM HV BW HMd
      generalize hgk : gq (kk + 1) = gk at *
      have hgk2 : wr.heap.size = gk := GK.out.1.symm
      rw [hgk2]
      clear GK hgk2 GRL
      have q1 := HN.out.cx.cell (k := kk + 1) (by omega)
      rw [show rowS n (kk + 1 + 1) gq (kk + 1) = .slice (some ⟨gq (kk + 1), 0, none⟩) (n + 1) (n + 1) from if_pos (by omega), hgk] at q1
      go_wp2_with fail
      clear q1
      go_loopw [43] (fun iv wq => ∃ (i : Nat), i ≤ n + 1 ∧ iv = .int .i64 (i : Int) ∧ Hid (∃ D, LsM w (clC (K : Int) le sp (.slice pa na ca) (.slice pb n cb) (.slice pc n cc)) gR n K (kk + 1 + 1) gq D wq ∧ (∀ r, r < kk + 1 → ∀ j, j ≤ n → D r j = rowK C n r j) ∧ ∀ j, j < i → D (kk + 1) j = rowK C n (kk + 1) j)) (fun iv _ => n + 1 - (intOf iv).toNat)
      case atStart => exact ⟨0, Nat.zero_le _, rfl, Lib.hid ⟨D2, HN.out, HV2.out, fun j hj => absurd hj (by omega)⟩⟩
      case round =>
        clear HN HV2
        obtain ⟨i, hi', rfl, HE⟩ := hrel
        rename World => wq
        by_cases t2 : i < n + 1
        case pos =>
          obtain ⟨D, HM, HV, HW⟩ := HE.out
          replace HM := Lib.hid HM
          replace HV := Lib.hid HV
          replace HW := Lib.hid HW
          clear HE
          have j1 : (0 : Int) ≤ (i : Int) := by omega
          have j2 : (i : Int) < (n : Int) + 1 := by omega
          have j3 : (i : Int) < ((n + 1 : Nat) : Int) := by omega
          have ei : IntKind.i64.wrap ((i : Int) + 1) = (i : Int) + 1 := hwI (by omega) (by omega)
          have q1 := HM.out.cx.cell (k := kk + 1) (by omega)
          rw [show rowS n (kk + 1 + 1) gq (kk + 1) = .slice (some ⟨gq (kk + 1), 0, none⟩) (n + 1) (n + 1) from if_pos (by omega), hgk] at q1
          have q0 := HM.out.cx.cell (k := kk) (by omega)
          rw [show rowS n (kk + 1 + 1) gq kk = .slice (some ⟨gq kk, 0, none⟩) (n + 1) (n + 1) from if_pos (by omega)] at q0
          have c0 : wq.cell? ⟨w.heap.size, 0, none⟩ = some (.int .i64 (K : Int)) := HM.out.kx.cell (k := 0) (by decide)
          have c1 : wq.cell? ⟨w.heap.size, 1, none⟩ = some (.int .i64 le) := HM.out.kx.cell (k := 1) (by decide)
          have c2 : wq.cell? ⟨w.heap.size, 2, none⟩ = some (.int .i64 sp) := HM.out.kx.cell (k := 2) (by decide)
          have c3 : wq.cell? ⟨w.heap.size, 3, none⟩ = some (.slice pa na ca) := HM.out.kx.cell (k := 3) (by decide)
          have c4 : wq.cell? ⟨w.heap.size, 4, none⟩ = some (.slice pb n cb) := HM.out.kx.cell (k := 4) (by decide)
          have c5 : wq.cell? ⟨w.heap.size, 5, none⟩ = some (.slice pc n cc) := HM.out.kx.cell (k := 5) (by decide)
          have CL := Lib.hid (show ∀ W, Below wq.heap.size wq W → Calls Try.prog 38 #[.agg #[.int .i64 (K : Int), .int .i64 le, .int .i64 sp, .slice pa na ca, .slice pb n cb, .slice pc n cc], .int .i64 i, .slice (some ⟨gq kk, 0, none⟩) (n + 1) (n + 1)] W fun e w' => e = .returned (.int .i64 (rowK C n (kk + 1) i)) ∧ Below W.heap.size W w' from fun W bw => by
            have h := leastFrom_any (K : Int) le sp pa pb pc (some ⟨gq kk, 0, none⟩) na ca n cb n cc (n + 1) i C (D kk) W ((HC.out.below HM.out.bl).below bw) (((HM.out.rr kk (by omega)).nm).below bw) t2 (by omega)
              (fun a j _ hj => by have := BD.out a j (by omega); omega) (fun j hj => by
                rw [HV.out kk (by omega) j (by omega)]
                have := RB.out kk j
                have hm : M * (kk : Int) ≤ 1503238553600000 * 16 := Int.mul_le_mul hM.2 (by omega) (by omega) (by omega)
                omega)
            unfold clV at h
            rw [lfm_congr_r (r' := rowK C n kk) i (n - i) (fun j h1 h2 => HV.out kk (by omega) j (by omega))] at h
            exact h)
          generalize hgj : gq kk = gj at *
          go_upto_region 12 with fail
          refine wp_region_G (fun w' => w'.cell? ⟨gR, kk + 1, none⟩ = some (.slice (some ⟨gk, 0, none⟩) (n + 1) (n + 1)) ∧ w'.cell? ⟨gR, kk, none⟩ = some (.slice (some ⟨gj, 0, none⟩) (n + 1) (n + 1)) ∧ w'.cell? ⟨w.heap.size, 0, none⟩ = some (.int .i64 (K : Int)) ∧ w'.cell? ⟨w.heap.size, 1, none⟩ = some (.int .i64 le) ∧ w'.cell? ⟨w.heap.size, 2, none⟩ = some (.int .i64 sp) ∧ w'.cell? ⟨w.heap.size, 3, none⟩ = some (.slice pa na ca) ∧ w'.cell? ⟨w.heap.size, 4, none⟩ = some (.slice pb n cb) ∧ w'.cell? ⟨w.heap.size, 5, none⟩ = some (.slice pc n cc)) 13 (by kernel_rfl) ?_
          have hS : wq.drew.cell? ⟨gR, kk + 1, none⟩ = some (.slice (some ⟨gk, 0, none⟩) (n + 1) (n + 1)) ∧ wq.drew.cell? ⟨gR, kk, none⟩ = some (.slice (some ⟨gj, 0, none⟩) (n + 1) (n + 1)) ∧ wq.drew.cell? ⟨w.heap.size, 0, none⟩ = some (.int .i64 (K : Int)) ∧ wq.drew.cell? ⟨w.heap.size, 1, none⟩ = some (.int .i64 le) ∧ wq.drew.cell? ⟨w.heap.size, 2, none⟩ = some (.int .i64 sp) ∧ wq.drew.cell? ⟨w.heap.size, 3, none⟩ = some (.slice pa na ca) ∧ wq.drew.cell? ⟨w.heap.size, 4, none⟩ = some (.slice pb n cb) ∧ wq.drew.cell? ⟨w.heap.size, 5, none⟩ = some (.slice pc n cc) := ⟨cellDr q1, cellDr q0, cellDr c0, cellDr c1, cellDr c2, cellDr c3, cellDr c4, cellDr c5⟩
          refine wpAnyG_take (i := 0) (oi := _) (v := .slice (some ⟨gR, 0, none⟩) (K + 1) (K + 1)) rfl (by kernel_rfl) (by kernel_rfl) (by kernel_rfl) (by kernel_rfl) (by kernel_rfl) (by decide) (fun _ _ _ h => h) (by rfl) (fun w' hw' => ?_) hS ?_
          · obtain ⟨h1, h2, h3, h4, h5, h6, h7, h8⟩ := hw'
            go_simp
          try simp only [Act.put, List.getElem_toArray, List.getElem_cons_zero, List.getElem_cons_succ, List.setIfInBounds_toArray, List.set_cons_zero, List.set_cons_succ]
          refine wpAnyG_take (i := 1) (oi := _) (v := .int .i64 ((kk : Int) + 1)) rfl (by kernel_rfl) (by kernel_rfl) (by kernel_rfl) (by kernel_rfl) (by kernel_rfl) (by decide) (fun _ _ _ h => h) (by rfl) (fun w' hw' => ?_) hS ?_
          · obtain ⟨h1, h2, h3, h4, h5, h6, h7, h8⟩ := hw'
            go_simp
          try simp only [Act.put, List.getElem_toArray, List.getElem_cons_zero, List.getElem_cons_succ, List.setIfInBounds_toArray, List.set_cons_zero, List.set_cons_succ]
          refine wpAnyG_take (i := 2) (oi := _) (v := .pointer (some ⟨gR, kk + 1, none⟩)) rfl (by kernel_rfl) (by kernel_rfl) (by kernel_rfl) (by kernel_rfl) (by kernel_rfl) (by decide) (fun _ _ _ h => h) (by rfl) (fun w' hw' => ?_) hS ?_
          · obtain ⟨h1, h2, h3, h4, h5, h6, h7, h8⟩ := hw'
            go_simp
          try simp only [Act.put, List.getElem_toArray, List.getElem_cons_zero, List.getElem_cons_succ, List.setIfInBounds_toArray, List.set_cons_zero, List.set_cons_succ]
          refine wpAnyG_take (i := 3) (oi := _) (v := .slice (some ⟨gk, 0, none⟩) (n + 1) (n + 1)) rfl (by kernel_rfl) (by kernel_rfl) (by kernel_rfl) (by kernel_rfl) (by kernel_rfl) (by decide) (fun _ _ _ h => h) (by rfl) (fun w' hw' => ?_) hS ?_
          · obtain ⟨h1, h2, h3, h4, h5, h6, h7, h8⟩ := hw'
            go_simp
          try simp only [Act.put, List.getElem_toArray, List.getElem_cons_zero, List.getElem_cons_succ, List.setIfInBounds_toArray, List.set_cons_zero, List.set_cons_succ]
          refine wpAnyG_take (i := 4) (oi := _) (v := .int .i64 (i : Int)) rfl (by kernel_rfl) (by kernel_rfl) (by kernel_rfl) (by kernel_rfl) (by kernel_rfl) (by decide) (fun _ _ _ h => h) (by rfl) (fun w' hw' => ?_) hS ?_
          · obtain ⟨h1, h2, h3, h4, h5, h6, h7, h8⟩ := hw'
            go_simp
          try simp only [Act.put, List.getElem_toArray, List.getElem_cons_zero, List.getElem_cons_succ, List.setIfInBounds_toArray, List.set_cons_zero, List.set_cons_succ]
          refine wpAnyG_take (i := 5) (oi := _) (v := .agg #[.int .i64 (K : Int), .int .i64 le, .int .i64 sp, .slice pa na ca, .slice pb n cb, .slice pc n cc]) rfl (by kernel_rfl) (by kernel_rfl) (by kernel_rfl) (by kernel_rfl) (by kernel_rfl) (by decide) (fun _ _ _ h => h) (by rfl) (fun w' hw' => ?_) hS ?_
          · obtain ⟨h1, h2, h3, h4, h5, h6, h7, h8⟩ := hw'
            go_simp
          try simp only [Act.put, List.getElem_toArray, List.getElem_cons_zero, List.getElem_cons_succ, List.setIfInBounds_toArray, List.set_cons_zero, List.set_cons_succ]
          refine wpAnyG_take (i := 6) (oi := _) (v := .int .i64 (i : Int)) rfl (by kernel_rfl) (by kernel_rfl) (by kernel_rfl) (by kernel_rfl) (by kernel_rfl) (by decide) (fun _ _ _ h => h) (by rfl) (fun w' hw' => ?_) hS ?_
          · obtain ⟨h1, h2, h3, h4, h5, h6, h7, h8⟩ := hw'
            go_simp
          try simp only [Act.put, List.getElem_toArray, List.getElem_cons_zero, List.getElem_cons_succ, List.setIfInBounds_toArray, List.set_cons_zero, List.set_cons_succ]
          refine wpAnyG_take (i := 7) (oi := _) (v := .slice (some ⟨gR, 0, none⟩) (K + 1) (K + 1)) rfl (by kernel_rfl) (by kernel_rfl) (by kernel_rfl) (by kernel_rfl) (by kernel_rfl) (by decide) (fun _ _ _ h => h) (by rfl) (fun w' hw' => ?_) hS ?_
          · obtain ⟨h1, h2, h3, h4, h5, h6, h7, h8⟩ := hw'
            go_simp
          try simp only [Act.put, List.getElem_toArray, List.getElem_cons_zero, List.getElem_cons_succ, List.setIfInBounds_toArray, List.set_cons_zero, List.set_cons_succ]
          refine wpAnyG_take (i := 8) (oi := _) (v := .int .i64 ((kk : Int) + 1)) rfl (by kernel_rfl) (by kernel_rfl) (by kernel_rfl) (by kernel_rfl) (by kernel_rfl) (by decide) (fun _ _ _ h => h) (by rfl) (fun w' hw' => ?_) hS ?_
          · obtain ⟨h1, h2, h3, h4, h5, h6, h7, h8⟩ := hw'
            go_simp
          try simp only [Act.put, List.getElem_toArray, List.getElem_cons_zero, List.getElem_cons_succ, List.setIfInBounds_toArray, List.set_cons_zero, List.set_cons_succ]
          refine wpAnyG_take (i := 9) (oi := _) (v := .int .i64 (kk : Int)) rfl (by kernel_rfl) (by kernel_rfl) (by kernel_rfl) (by kernel_rfl) (by kernel_rfl) (by decide) (fun _ _ _ h => h) (by rfl) (fun w' hw' => ?_) hS ?_
          · obtain ⟨h1, h2, h3, h4, h5, h6, h7, h8⟩ := hw'
            go_simp
          try simp only [Act.put, List.getElem_toArray, List.getElem_cons_zero, List.getElem_cons_succ, List.setIfInBounds_toArray, List.set_cons_zero, List.set_cons_succ]
          refine wpAnyG_take (i := 10) (oi := _) (v := .pointer (some ⟨gR, kk, none⟩)) rfl (by kernel_rfl) (by kernel_rfl) (by kernel_rfl) (by kernel_rfl) (by kernel_rfl) (by decide) (fun _ _ _ h => h) (by rfl) (fun w' hw' => ?_) hS ?_
          · obtain ⟨h1, h2, h3, h4, h5, h6, h7, h8⟩ := hw'
            go_simp
          try simp only [Act.put, List.getElem_toArray, List.getElem_cons_zero, List.getElem_cons_succ, List.setIfInBounds_toArray, List.set_cons_zero, List.set_cons_succ]
          refine wpAnyG_take (i := 11) (oi := _) (v := .slice (some ⟨gj, 0, none⟩) (n + 1) (n + 1)) rfl (by kernel_rfl) (by kernel_rfl) (by kernel_rfl) (by kernel_rfl) (by kernel_rfl) (by decide) (fun _ _ _ h => h) (by rfl) (fun w' hw' => ?_) hS ?_
          · obtain ⟨h1, h2, h3, h4, h5, h6, h7, h8⟩ := hw'
            go_simp
          try simp only [Act.put, List.getElem_toArray, List.getElem_cons_zero, List.getElem_cons_succ, List.setIfInBounds_toArray, List.set_cons_zero, List.set_cons_succ]
          refine wpAnyG_one (i := 12) (o := _) (by kernel_rfl) rfl (fun KK hK => ?_)
          go_simp
          refine (CL.out _ (Below.refl _ _).drew).mono ?_
          rintro e w5 ⟨rfl, q5⟩
          have q6 := Lib.hid (show Below wq.heap.size wq w5 from (Below.refl _ _).drew.trans q5)
          refine hK.out _ _ (fun _ => ⟨cellGr q6.out q1, cellGr q6.out q0, cellGr q6.out c0, cellGr q6.out c1, cellGr q6.out c2, cellGr q6.out c3, cellGr q6.out c4, cellGr q6.out c5⟩) ?_
          try simp only [Act.put, List.getElem_toArray, List.getElem_cons_zero, List.getElem_cons_succ, List.setIfInBounds_toArray, List.set_cons_zero, List.set_cons_succ]
          clear hK q5
          have HM5 := Lib.hid (HM.out.call q6.out)
          have cj := (HM5.out.rr (kk + 1) (by omega)).cell (k := i) (by omega)
          have fj := (HM5.out.rr (kk + 1) (by omega)).frozen i
          rw [hgk] at cj fj
          refine wpAnyG_one (i := 13) (o := _) (by kernel_rfl) rfl (fun KK hK => ?_)
          go_simp
          refine hK.out _ _ (fun h => absurd h (by decide)) ?_
          try simp only [Act.put, List.getElem_toArray, List.getElem_cons_zero, List.getElem_cons_succ, List.setIfInBounds_toArray, List.set_cons_zero, List.set_cons_succ]
          clear hK
          refine wpAnyG_one (i := 14) (o := _) (by kernel_rfl) rfl (fun KK hK => ?_)
          go_simp
          refine hK.out _ _ (fun h => absurd h (by decide)) ?_
          try simp only [Act.put, List.getElem_toArray, List.getElem_cons_zero, List.getElem_cons_succ, List.setIfInBounds_toArray, List.set_cons_zero, List.set_cons_succ]
          clear hK
          refine wpAnyG_done (by kernel_rfl) ?_ _
          have HM6 := Lib.hid (HM5.out.cell (i := kk + 1) (by omega) i (rowK C n (kk + 1) i))
          rw [hgk] at HM6
          have HW2 := Lib.hid (show ∀ j, j < i + 1 → upR D (kk + 1) (upF (D (kk + 1)) i (rowK C n (kk + 1) i)) (kk + 1) j = rowK C n (kk + 1) j from fun j hj => by
            unfold upR upF
            rw [if_pos rfl]
            by_cases e : j = i
            · rw [if_pos e, e]
            · rw [if_neg e]; exact HW.out j (by omega))
          have HV3 := Lib.hid (show ∀ r, r < kk + 1 → ∀ j, j ≤ n → upR D (kk + 1) (upF (D (kk + 1)) i (rowK C n (kk + 1) i)) r j = rowK C n r j from fun r hr j hj => by
            unfold upR
            rw [if_neg (by omega)]; exact HV.out r hr j hj)
          generalize upR D (kk + 1) (upF (D (kk + 1)) i (rowK C n (kk + 1) i)) = D3 at *
          generalize hwv : w5.setCell ⟨gk, i, none⟩ (.int .i64 (rowK C n (kk + 1) i)) = wv at *
          clear hwv HM HM5 HV HW c0 c1 c2 c3 c4 c5 q0 q1 cj fj CL hS q6
          go_wp2_with fail
          go_roundw
          case rel => exact ⟨i + 1, by omega, by go_num, Lib.hid ⟨D3, HM6.out, HV3.out, HW2.out⟩⟩
          case measure => simp [intOf]; omega
        obtain rfl : i = n + 1 := by omega
        have d1 : decide ((((n + 1 : Nat) : Int)) < (n : Int) + 1) = false := decide_eq_false (by omega)
        have HE2 := Lib.hid (show ∃ gr D, LsM w (clC (K : Int) le sp (.slice pa na ca) (.slice pb n cb) (.slice pc n cc)) gR n K (kk + 1 + 1) gr D wq ∧ ∀ r, r < kk + 1 + 1 → ∀ j, j ≤ n → D r j = rowK C n r j from by
          obtain ⟨D, a, b, c⟩ := HE.out
          refine ⟨gq, D, a, fun r hr j hj => ?_⟩
          by_cases e : r = kk + 1
          · rw [e]; exact c j (by omega)
          · exact b r (by omega) j hj)
        clear HE
        go_wp2_with fail
        go_roundw
        case rel => exact ⟨kk + 1 + 1, by omega, by omega, by go_num, HE2⟩
        case measure => simp [intOf]; omega
    obtain rfl : k = K + 1 := by omega
    have d1 : decide ((((K + 1 : Nat) : Int)) < (K : Int) + 1) = false := decide_eq_false (by omega)
    have FIN := Lib.hid (show CoR wr (some ⟨gR, 0, none⟩) (K + 1) (n + 1) (rowK C n) ∧ Below w.heap.size w wr ∧ w.heap.size < gR ∧ ∀ i, i < K + 1 → ∃ gi, wr.cell? ⟨gR, i, none⟩ = some (.slice (some ⟨gi, 0, none⟩) (n + 1) (n + 1)) ∧ w.heap.size < gi from by
      obtain ⟨gr, D, a, b⟩ := HE.out
      refine ⟨fun i hi => ⟨⟨gR, 0, none⟩, some ⟨gr i, 0, none⟩, n + 1, rfl, a.cx.lt, ?_, fun j hj => ?_⟩, a.bl, a.l1, fun i hi => ⟨gr i, ?_, (a.l2 i hi).2⟩⟩
      · rw [add0, a.cx.cell hi]
        unfold rowS
        rw [if_pos hi]
      · refine ⟨⟨gr i, 0, none⟩, rfl, (a.rr i hi).lt, ?_⟩
        rw [add0, (a.rr i hi).cell hj, b i hi j (by omega)]
      · rw [a.cx.cell hi]
        unfold rowS
        rw [if_pos hi])
    clear HE
    go_wp2_with fail
    go_ret
    exact ⟨gR, rfl, FIN.out.1, FIN.out.2.1, FIN.out.2.2⟩
end Go.Proofs.Ytmdhmpfagekonaa
