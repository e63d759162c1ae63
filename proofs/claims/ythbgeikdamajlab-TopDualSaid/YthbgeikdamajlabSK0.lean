/- Press: checkThings; boxes in memory; slices.Index and slices.Contains of boxes. -/
import Derived.Test.YthbgeikdamajlabSJ1
namespace Go.Proofs.Ythbgeikdamajlab
open Go.RowKit Go.Proofs.Ythbgeikdamajlab.Prs Go.Proofs.Ythbgeikdamajlab.Stb
set_option linter.unusedVariables false
set_option linter.unusedSimpArgs false

/-- What the check of things answers. -/
def ThOk (T : List Int) (n : Nat) : Prop := ∀ i, i < n → 1 ≤ gi T i ∧ gi T i ≤ 1073741824
def ThFit (T : List Int) (most : Int) (n : Nat) : Prop := ∀ i, i < n → gi T i ≤ most
def PErr (T : List Int) (most each : Int) (x : Int) : Prop := (12 < T.length ∧ x = 3) ∨ (T.length ≤ 12 ∧ ¬ (1 ≤ most ∧ most ≤ 1073741824 ∧ 1 ≤ each ∧ each ≤ 12 ∧ ThOk T T.length) ∧ x = 2) ∨ (T.length ≤ 12 ∧ (1 ≤ most ∧ most ≤ 1073741824 ∧ 1 ≤ each ∧ each ≤ 12 ∧ ThOk T T.length) ∧ ¬ ThFit T most T.length ∧ x = 13) ∨ (T.length ≤ 12 ∧ (1 ≤ most ∧ most ≤ 1073741824 ∧ 1 ≤ each ∧ each ≤ 12 ∧ ThOk T T.length) ∧ ThFit T most T.length ∧ x = 0)
theorem PErr.fn {T : List Int} {m e x y : Int} (h : PErr T m e x) (g : PErr T m e y) : x = y := by
  rcases h with ⟨a, b⟩ | ⟨a, b, c⟩ | ⟨a, b, c, d⟩ | ⟨a, b, c, d⟩ <;> rcases g with ⟨a', b'⟩ | ⟨a', b', c'⟩ | ⟨a', b', c', d'⟩ | ⟨a', b', c', d'⟩ <;> first | omega | exact absurd b b' | exact absurd b' b | exact absurd c c' | exact absurd c' c
theorem PErr.good {T : List Int} {m e : Int} (h : PErr T m e 0) : T.length ≤ 12 ∧ (1 ≤ m ∧ m ≤ 1073741824 ∧ 1 ≤ e ∧ e ≤ 12 ∧ ThOk T T.length) ∧ ThFit T m T.length := by
  rcases h with ⟨a, b⟩ | ⟨a, b, c⟩ | ⟨a, b, c, d⟩ | ⟨a, b, c, d⟩
  · omega
  · omega
  · omega
  · exact ⟨a, b, c⟩

set_option maxRecDepth 100000 in
set_option maxHeartbeats 8000000 in
theorem checkThings_any (p : Option Addr) (c : Nat) (T : List Int) (mo ea : Int) (w : World) (r : NumR w p T) (ln : T.length ≤ 9223372036854775807) :
    Calls Try.prog 38 #[.slice p T.length c, .int .i64 mo, .int .i64 ea] w fun e w' => ∃ x, e = .returned (.int .i64 x) ∧ PErr T mo ea x ∧ Below w.heap.size w w' := by
  have R := Lib.hid r
  obtain ⟨n, hn⟩ : ∃ n, n = T.length := ⟨_, rfl⟩
  have HE := Lib.hid (show ∀ x, PErr T mo ea x = ((12 < n ∧ x = 3) ∨ (n ≤ 12 ∧ ¬ (1 ≤ mo ∧ mo ≤ 1073741824 ∧ 1 ≤ ea ∧ ea ≤ 12 ∧ ThOk T n) ∧ x = 2) ∨ (n ≤ 12 ∧ (1 ≤ mo ∧ mo ≤ 1073741824 ∧ 1 ≤ ea ∧ ea ≤ 12 ∧ ThOk T n) ∧ ¬ ThFit T mo n ∧ x = 13) ∨ (n ≤ 12 ∧ (1 ≤ mo ∧ mo ≤ 1073741824 ∧ 1 ≤ ea ∧ ea ≤ 12 ∧ ThOk T n) ∧ ThFit T mo n ∧ x = 0)) from fun x => by rw [hn]; rfl)
  rw [← hn] at ln ⊢
  have HN := Lib.hid hn
  clear hn r
  by_cases t0 : 12 < n
  · have t1 : decide (12 < n) = true := decide_eq_true t0
    go_enter Try.func38, Try.ntmps38
    go_wp2_with fail
    go_ret
    exact ⟨3, rfl, by rw [HE.out]; exact .inl ⟨t0, rfl⟩, Below.refl _ _⟩
  have t1 : decide (12 < n) = false := decide_eq_false t0
  have N12 := Lib.hid (show n ≤ 12 by omega)
  by_cases m0 : 1 ≤ mo ∧ mo ≤ 1073741824
  case neg =>
    have IW := Lib.hid (fun W => isWithin_b mo 1 1073741824 false (by rw [Bool.eq_false_iff]; intro h; simp at h; exact m0 h) W)
    have FE := Lib.hid (show PErr T mo ea 2 from by rw [HE.out]; exact .inr (.inl ⟨N12.out, fun h => m0 ⟨h.1, h.2.1⟩, rfl⟩))
    clear m0 HE
    go_enter Try.func38, Try.ntmps38
    go_wp2_with fail
    refine (IW.out _).mono ?_
    rintro e w1 ⟨rfl, rfl⟩
    go_wp2_with fail
    go_ret
    exact ⟨2, rfl, FE.out, Below.refl _ _⟩
  by_cases e0 : 1 ≤ ea ∧ ea ≤ 12
  case neg =>
    have IV := Lib.hid (fun W => isWithin_b mo 1 1073741824 true (by simp; exact m0) W)
    have IW := Lib.hid (fun W => isWithin_b ea 1 12 false (by rw [Bool.eq_false_iff]; intro h; simp at h; exact e0 h) W)
    have FE := Lib.hid (show PErr T mo ea 2 from by rw [HE.out]; exact .inr (.inl ⟨N12.out, fun h => e0 ⟨h.2.2.1, h.2.2.2.1⟩, rfl⟩))
    clear m0 e0 HE
    go_enter Try.func38, Try.ntmps38
    go_wp2_with fail
    refine (IV.out _).mono ?_
    rintro e w1 ⟨rfl, rfl⟩
    go_wp2_with fail
    refine (IW.out _).mono ?_
    rintro e w1 ⟨rfl, rfl⟩
    go_wp2_with fail
    go_ret
    exact ⟨2, rfl, FE.out, Below.refl _ _⟩
  have M0 := Lib.hid (show (1 ≤ mo ∧ mo ≤ 1073741824) ∧ 1 ≤ ea ∧ ea ≤ 12 from ⟨m0, e0⟩)
  have IV := Lib.hid (fun W => isWithin_b mo 1 1073741824 true (by simp; exact M0.out.1) W)
  have IW := Lib.hid (fun W => isWithin_b ea 1 12 true (by simp; exact M0.out.2) W)
  clear m0 e0
  go_enter Try.func38, Try.ntmps38
  go_wp2_with fail
  refine (IV.out _).mono ?_
  rintro e w1 ⟨rfl, rfl⟩
  clear IV
  go_wp2_with fail
  refine (IW.out _).mono ?_
  rintro e w1 ⟨rfl, rfl⟩
  clear IW
  go_wp2_with fail
  go_loopw [24] (fun kv wr => ∃ i : Nat, i ≤ n ∧ kv = .int .i64 i ∧ Hid (ThOk T i) ∧ wr = w) (fun kv _ => n - (intOf kv).toNat)
  case atStart => exact ⟨0, Nat.zero_le _, rfl, Lib.hid fun i h => absurd h (by omega), rfl⟩
  case round =>
    obtain ⟨i, hi, rfl, HO, rfl⟩ := hrel
    by_cases t2 : i < n
    · obtain ⟨x, rfl, kx, cx⟩ := R.out i (by have := HN.out; omega)
      have i1 : (0 : Int) ≤ (i : Int) := by omega
      have i2 : (i : Int) < (n : Int) := by omega
      have SX := Lib.hid (show (1 ≤ gi T i ∧ gi T i ≤ 1073741824) → ThOk T (i + 1) from fun h j hj => by
        by_cases e : j = i
        · subst e; exact h
        · exact HO.out j (by omega))
      have NK := Lib.hid (show ¬ (1 ≤ gi T i ∧ gi T i ≤ 1073741824) → PErr T mo ea 2 from fun h => by
        rw [HE.out]
        exact .inr (.inl ⟨N12.out, fun g => h (g.2.2.2.2 i t2), rfl⟩))
      clear HO kx
      generalize gi T i = P at *
      by_cases hp : 1 ≤ P ∧ P ≤ 1073741824
      · have IW := Lib.hid (fun W => isWithin_b P 1 1073741824 true (by simp; exact hp) W)
        have SN := Lib.hid (SX.out hp)
        clear hp SX NK
        go_wp2_with fail
        refine (IW.out _).mono ?_
        rintro e w1 ⟨rfl, rfl⟩
        clear IW
        go_wp2_with fail
        go_roundw
        case rel => exact ⟨i + 1, by omega, by go_num, SN, trivial⟩
        case measure => simp [intOf]; omega
      · have IW := Lib.hid (fun W => isWithin_b P 1 1073741824 false (by rw [Bool.eq_false_iff]; intro h; simp at h; exact hp h) W)
        have FE := Lib.hid (NK.out hp)
        clear hp SX NK
        go_wp2_with fail
        refine (IW.out _).mono ?_
        rintro e w1 ⟨rfl, rfl⟩
        clear IW
        go_wp2_with fail
        go_ret
        exact ⟨2, rfl, FE.out, Below.refl _ _⟩
    · obtain rfl : i = n := by omega
      have OKT := Lib.hid HO.out
      clear HO
      go_wp2_with fail
      go_loopw [34] (fun kv wx => ∃ j : Nat, j ≤ i ∧ kv = .int .i64 j ∧ Hid (ThFit T mo j) ∧ wx = wr) (fun kv _ => i - (intOf kv).toNat)
      case atStart => exact ⟨0, Nat.zero_le _, rfl, Lib.hid fun i h => absurd h (by omega), by first | rfl | trivial⟩
      case round =>
        obtain ⟨j, hj, rfl, HF, rfl⟩ := hrel
        by_cases t3 : j < i
        · obtain ⟨x, rfl, kx, cx⟩ := R.out j (by have := HN.out; omega)
          have i1 : (0 : Int) ≤ (j : Int) := by omega
          have i2 : (j : Int) < (i : Int) := by omega
          have SX := Lib.hid (show gi T j ≤ mo → ThFit T mo (j + 1) from fun h l hl => by
            by_cases e : l = j
            · subst e; exact h
            · exact HF.out l (by omega))
          have NK := Lib.hid (show ¬ gi T j ≤ mo → PErr T mo ea 13 from fun h => by
            rw [HE.out]
            exact .inr (.inr (.inl ⟨N12.out, ⟨M0.out.1.1, M0.out.1.2, M0.out.2.1, M0.out.2.2, OKT.out⟩, fun g => h (g j t3), rfl⟩)))
          clear HF kx
          generalize gi T j = P at *
          by_cases hp : mo < P
          · have d1 : decide (mo < P) = true := decide_eq_true hp
            have FE := Lib.hid (NK.out (by omega))
            clear SX NK
            go_wp2_with fail
            go_ret
            exact ⟨13, rfl, FE.out, Below.refl _ _⟩
          · have d1 : decide (mo < P) = false := decide_eq_false hp
            have SN := Lib.hid (SX.out (by omega))
            clear SX NK
            go_wp2_with fail
            go_roundw
            case rel => exact ⟨j + 1, by omega, by go_num, SN, by first | rfl | trivial⟩
            case measure => simp [intOf]; omega
        · obtain rfl : j = i := by omega
          have FE := Lib.hid (show PErr T mo ea 0 from by rw [HE.out]; exact .inr (.inr (.inr ⟨N12.out, ⟨M0.out.1.1, M0.out.1.2, M0.out.2.1, M0.out.2.2, OKT.out⟩, HF.out, rfl⟩)))
          go_wp2_with fail
          go_ret
          exact ⟨0, rfl, FE.out, Below.refl _ _⟩

/-- A row of boxes, flat. -/
def flat (s : Nat → Int × Int) (k : Nat) : Int := if k % 2 = 0 then (s (k / 2)).1 else (s (k / 2)).2
theorem flat0 (s : Nat → Int × Int) (i : Nat) : flat s (i * 2) = (s i).1 := by
  unfold flat
  rw [if_pos (by omega), show i * 2 / 2 = i by omega]
theorem flat1 (s : Nat → Int × Int) (i : Nat) : flat s (i * 2 + 1) = (s i).2 := by
  unfold flat
  rw [if_neg (by omega), show (i * 2 + 1) / 2 = i by omega]
theorem flat_up (s : Nat → Int × Int) (i : Nat) (x y : Int) : upd (upd (flat s) (i * 2) x) (i * 2 + 1) y = flat (Sea.up s i (x, y)) := by
  funext k
  unfold upd flat
  by_cases e1 : k = i * 2 + 1
  · subst e1
    rw [if_pos rfl, if_neg (by omega), show (i * 2 + 1) / 2 = i by omega, Sea.up_same]
  · rw [if_neg e1]
    by_cases e2 : k = i * 2
    · subst e2
      rw [if_pos rfl, if_pos (by omega), show i * 2 / 2 = i by omega, Sea.up_same]
    · rw [if_neg e2, Sea.up_ne _ _ (show k / 2 ≠ i by omega)]
/-- The slice reads as these boxes. -/
def BoxR (w : World) (g n : Nat) (s : Nat → Int × Int) : Prop := ∀ i, i < n → w.cell? ⟨g, i * 2, none⟩ = some (.int .i64 (s i).1) ∧ w.cell? ⟨g, i * 2 + 1, none⟩ = some (.int .i64 (s i).2) ∧ g < w.heap.size
theorem BoxR.below {w w' : World} {g n : Nat} {s : Nat → Int × Int} (h : BoxR w g n s) (b : Below w.heap.size w w') : BoxR w' g n s := fun i hi => by
  obtain ⟨a, c, l⟩ := h i hi
  exact ⟨(b.cell (p := ⟨g, i * 2, none⟩) l).trans a, (b.cell (p := ⟨g, i * 2 + 1, none⟩) l).trans c, Nat.lt_of_lt_of_le l b.size⟩
theorem IR.boxes {W : World} {g n : Nat} {t : TypeId} {s : Nat → Int × Int} (h : IR W g t (n * 2) (flat s)) {m : Nat} (hm : m ≤ n) : BoxR W g m s := fun i hi => ⟨by rw [h.cell (by omega), flat0], by rw [h.cell (by omega), flat1], h.lt⟩
/-- Is a box among the first i? -/
def hasB (s : Nat → Int × Int) (i : Nat) (v : Int × Int) : Prop := ∃ j, j < i ∧ s j = v
noncomputable def hasBb (s : Nat → Int × Int) (i : Nat) (v : Int × Int) : Bool := @decide (hasB s i v) (Classical.propDecidable _)
theorem hasBb_t {s : Nat → Int × Int} {i : Nat} {v : Int × Int} : hasBb s i v = true ↔ hasB s i v := by
  unfold hasBb
  exact @decide_eq_true_iff _ (Classical.propDecidable _)

set_option maxRecDepth 100000 in
set_option maxHeartbeats 8000000 in
theorem indexB_any (g i c : Nat) (s : Nat → Int × Int) (a b : Int) (w : World) (r : BoxR w g i s) (hi : i ≤ 12) :
    Calls Try.prog 52 #[.slice (some ⟨g, 0, none⟩) i c, .agg #[.int .i64 a, .int .i64 b]] w fun e w' => ∃ x, e = .returned (.int .i64 x) ∧ ((x = -1 ∧ ¬ hasB s i (a, b)) ∨ (0 ≤ x ∧ hasB s i (a, b))) ∧ Below w.heap.size w w' := by
  have R := Lib.hid r
  have B0 := Lib.hid (show Below w.heap.size w (w.alloc (Obj.cells #[Value.int .i64 a, Value.int .i64 b] 66)) from (Below.refl _ w).alloc (Nat.le_refl _) _)
  have C0 := Lib.hid (show (w.alloc (Obj.cells #[Value.int .i64 a, Value.int .i64 b] 66)).cell? ⟨w.heap.size, 0, none⟩ = some (.int .i64 a) ∧ (w.alloc (Obj.cells #[Value.int .i64 a, Value.int .i64 b] 66)).cell? ⟨w.heap.size, 1, none⟩ = some (.int .i64 b) from by
    refine ⟨?_, ?_⟩ <;> simp [go_sem])
  clear r
  go_enter Try.func52, Try.ntmps52
  go_upto_region 1 with fail
  generalize w.alloc (Obj.cells #[Value.int .i64 a, Value.int .i64 b] 66) = w1 at *
  generalize hh : w.heap.size = h at *
  have HH := Lib.hid hh
  clear hh
  go_wp2_with fail
  go_loopw [8] (fun kv wr => ∃ k : Nat, k ≤ i ∧ kv = .int .i64 k ∧ Hid (¬ hasB s k (a, b)) ∧ Hid (Below w1.heap.size w1 wr)) (fun kv _ => i - (intOf kv).toNat)
  case atStart => exact ⟨0, Nat.zero_le _, rfl, Lib.hid fun ⟨j, hj, _⟩ => by omega, Lib.hid (Below.refl _ _)⟩
  case round =>
    obtain ⟨k, hk, rfl, HO, HB⟩ := hrel
    have BW := Lib.hid (show Below h w wr from B0.out.trans (HB.out.mono (by have := B0.out.size; have := HH.out; omega)))
    have b0 := cellGr HB.out C0.out.1
    have b1 := cellGr HB.out C0.out.2
    by_cases t2 : k < i
    · obtain ⟨c0, c1, -⟩ := (R.out.below (by rw [HH.out]; exact BW.out)) k t2
      have i1 : (0 : Int) ≤ (k : Int) := by omega
      have i2 : (k : Int) < (i : Int) := by omega
      have YES := Lib.hid (show s k = (a, b) → hasB s i (a, b) from fun e => ⟨k, t2, e⟩)
      have NO := Lib.hid (show s k ≠ (a, b) → ¬ hasB s (k + 1) (a, b) from fun e ⟨j, hj, ej⟩ => by
        by_cases c : j = k
        · subst c; exact e ej
        · exact HO.out ⟨j, by omega, ej⟩)
      clear HO
      obtain ⟨⟨x, y⟩, hs⟩ : ∃ v, v = s k := ⟨_, rfl⟩
      rw [← hs] at c0 c1 YES NO
      clear hs
      dsimp only at c0 c1
      by_cases e1 : x = a ∧ y = b
      · obtain ⟨rfl, rfl⟩ := e1
        have HY := Lib.hid (YES.out rfl)
        clear YES NO
        go_upto_region 4 with fail
        go_quiet (fail)
        try (go_wp2_with fail)
        go_ret
        exact ⟨k, rfl, .inr ⟨i1, HY.out⟩, by rw [HH.out]; exact below_drewN BW.out _⟩
      · have HN := Lib.hid (NO.out (fun e => e1 (by cases e; exact ⟨rfl, rfl⟩)))
        have fin_ : ((a == x) && (b == y)) = false := by
          rw [Bool.eq_false_iff]
          intro h
          simp at h
          exact e1 ⟨h.1.symm, h.2.symm⟩
        clear YES NO
        by_cases ea : a = x
        · subst ea
          have eb : (b == y) = false := by simpa using fin_
          clear e1 fin_
          go_upto_region 4 with fail
          go_quiet (fail)
          try (go_wp2_with fail)
          go_roundw
          case rel => exact ⟨k + 1, by omega, by go_num, HN, Lib.hid (below_drewN HB.out _)⟩
          case measure => simp [intOf]; omega
        · have eb : (a == x) = false := by simpa using ea
          clear e1 fin_ ea
          go_upto_region 4 with fail
          go_quiet (fail)
          try (go_wp2_with fail)
          go_roundw
          case rel => exact ⟨k + 1, by omega, by go_num, HN, Lib.hid (below_drewN HB.out _)⟩
          case measure => simp [intOf]; omega
    · obtain rfl : k = i := by omega
      go_wp2_with fail
      go_ret
      exact ⟨-1, rfl, .inl ⟨rfl, HO.out⟩, by rw [HH.out]; exact BW.out⟩

set_option maxRecDepth 100000 in
set_option maxHeartbeats 8000000 in
theorem containsB_any (g i c : Nat) (s : Nat → Int × Int) (a b : Int) (w : World) (r : BoxR w g i s) (hi : i ≤ 12) :
    Calls Try.prog 40 #[.slice (some ⟨g, 0, none⟩) i c, .agg #[.int .i64 a, .int .i64 b]] w fun e w' => e = .returned (.bool (hasBb s i (a, b))) ∧ Below w.heap.size w w' := by
  have B0 := Lib.hid (show Below w.heap.size w (w.alloc (Obj.cells #[Value.int .i64 a, Value.int .i64 b] 66)) from (Below.refl _ w).alloc (Nat.le_refl _) _)
  have C0 := Lib.hid (show (w.alloc (Obj.cells #[Value.int .i64 a, Value.int .i64 b] 66)).cell? ⟨w.heap.size, 0, none⟩ = some (.int .i64 a) ∧ (w.alloc (Obj.cells #[Value.int .i64 a, Value.int .i64 b] 66)).cell? ⟨w.heap.size, 1, none⟩ = some (.int .i64 b) from by
    refine ⟨?_, ?_⟩ <;> simp [go_sem])
  have IX := Lib.hid (fun W (st : Below w.heap.size w W) => indexB_any g i c s a b W (r.below st) hi)
  have DB := Lib.hid (show ∀ x : Int, ((x = -1 ∧ ¬ hasB s i (a, b)) ∨ (0 ≤ x ∧ hasB s i (a, b))) → decide (0 ≤ x) = hasBb s i (a, b) from fun x hx => by
    rw [Bool.eq_iff_iff, hasBb_t]
    simp only [decide_eq_true_eq]
    rcases hx with ⟨rfl, h⟩ | ⟨h0, h⟩
    · exact ⟨fun h => by omega, fun g => absurd g h⟩
    · exact ⟨fun _ => h, fun _ => h0⟩)
  generalize hasBb s i (a, b) = z at *
  clear r
  go_enter Try.func40, Try.ntmps40
  go_upto_region 1 with fail
  generalize w.alloc (Obj.cells #[Value.int .i64 a, Value.int .i64 b] 66) = w1 at *
  have c0 := C0.out.1
  have c1 := C0.out.2
  go_wp2_with fail
  refine (IX.out w1 B0.out).mono ?_
  rintro e w2 ⟨x, rfl, hx, st⟩
  have DX := Lib.hid (DB.out x hx)
  have BB := Lib.hid (B0.out.trans (st.mono B0.out.size))
  clear hx st IX DB
  go_wp2_with fail
  go_ret
  exact ⟨ret_b DX.out, BB.out⟩
end Go.Proofs.Ythbgeikdamajlab
