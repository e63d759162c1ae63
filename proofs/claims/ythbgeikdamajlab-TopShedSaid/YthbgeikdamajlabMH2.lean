/- Press: Pack. -/
import Derived.Test.YthbgeikdamajlabMH1
/- Press: checkThings; boxes in memory; slices.Index and slices.Contains of boxes. -/
namespace Go.Proofs.Ythbgeikdamajlab
open Go.RowKit Go.Proofs.Ythbgeikdamajlab.Prs Go.Proofs.Ythbgeikdamajlab.Stb
set_option linter.unusedVariables false
set_option linter.unusedSimpArgs false

/-- What the check of things answers. -/
def ThOk (T : List Int) (n : Nat) : Prop := ∀ i, i < n → 1 ≤ gi T i ∧ gi T i ≤ 1073741824
def ThFit (T : List Int) (most : Int) (n : Nat) : Prop := ∀ i, i < n → gi T i ≤ most
def PErr (T : List Int) (most each : Int) (x : Int) : Prop := (12 < T.length ∧ x = 3) ∨ (T.length ≤ 12 ∧ ¬ (1 ≤ most ∧ most ≤ 1073741824 ∧ 1 ≤ each ∧ each ≤ 12 ∧ ThOk T T.length) ∧ x = 2) ∨ (T.length ≤ 12 ∧ (1 ≤ most ∧ most ≤ 1073741824 ∧ 1 ≤ each ∧ each ≤ 12 ∧ ThOk T T.length) ∧ ¬ ThFit T most T.length ∧ x = 13) ∨ (T.length ≤ 12 ∧ (1 ≤ most ∧ most ≤ 1073741824 ∧ 1 ≤ each ∧ each ≤ 12 ∧ ThOk T T.length) ∧ ThFit T most T.length ∧ x = 0)
theorem PErr.fn {T : List Int} {m e x y : Int} (h : PErr T m e x) (g : PErr T m e y) : x = y := by
  rcases h with ⟨a, b⟩ | ⟨a, b, c⟩ | ⟨a, b, c, d⟩ | ⟨a, b, c, d⟩ <;> rcases g with ⟨a', b'⟩ | ⟨a', b', c'⟩ | ⟨a', b', c', d'⟩ | ⟨a', b', c', d'⟩ <;> first | omega | exact absurd b b' | exact absurd b' b | exact absurd c c' | exact absurd c' c
theorem PErr.good {T : List Int} {m e : Int} (h : PErr T m e 0) : T.length ≤ 12 ∧ (1 ≤ m ∧ m ≤ 1073741824 ∧ 1 ≤ e ∧ e ≤ 12 ∧ ThOk T T.length) ∧ ThFit T m T.length := by
  rcases h with ⟨a, b⟩ | ⟨a, b, c⟩ | ⟨a, b, c, d⟩ | ⟨a, b, c, d⟩
  · omega
  · omega
  · omega
  · exact ⟨a, b, c⟩

set_option maxRecDepth 100000 in
set_option maxHeartbeats 8000000 in
theorem checkThings_any (p : Option Addr) (c : Nat) (T : List Int) (mo ea : Int) (w : World) (r : NumR w p T) (ln : T.length ≤ 9223372036854775807) :
    Calls Try.prog 38 #[.slice p T.length c, .int .i64 mo, .int .i64 ea] w fun e w' => ∃ x, e = .returned (.int .i64 x) ∧ PErr T mo ea x ∧ Below w.heap.size w w' := by
  have R := Lib.hid r
  obtain ⟨n, hn⟩ : ∃ n, n = T.length := ⟨_, rfl⟩
  have HE := Lib.hid (show ∀ x, PErr T mo ea x = ((12 < n ∧ x = 3) ∨ (n ≤ 12 ∧ ¬ (1 ≤ mo ∧ mo ≤ 1073741824 ∧ 1 ≤ ea ∧ ea ≤ 12 ∧ ThOk T n) ∧ x = 2) ∨ (n ≤ 12 ∧ (1 ≤ mo ∧ mo ≤ 1073741824 ∧ 1 ≤ ea ∧ ea ≤ 12 ∧ ThOk T n) ∧ ¬ ThFit T mo n ∧ x = 13) ∨ (n ≤ 12 ∧ (1 ≤ mo ∧ mo ≤ 1073741824 ∧ 1 ≤ ea ∧ ea ≤ 12 ∧ ThOk T n) ∧ ThFit T mo n ∧ x = 0)) from fun x => by rw [hn]; rfl)
  rw [← hn] at ln ⊢
  have HN := Lib.hid hn
  clear hn r
  by_cases t0 : 12 < n
  · have t1 : decide (12 < n) = true := decide_eq_true t0
    go_enter Try.func38, Try.ntmps38
    go_wp2_with fail
    go_ret
    exact ⟨3, rfl, by rw [HE.out]; exact .inl ⟨t0, rfl⟩, Below.refl _ _⟩
  have t1 : decide (12 < n) = false := decide_eq_false t0
  have N12 := Lib.hid (show n ≤ 12 by omega)
  by_cases m0 : 1 ≤ mo ∧ mo ≤ 1073741824
  case neg =>
    have IW := Lib.hid (fun W => isWithin_b mo 1 1073741824 false (by rw [Bool.eq_false_iff]; intro h; simp at h; exact m0 h) W)
    have FE := Lib.hid (show PErr T mo ea 2 from by rw [HE.out]; exact .inr (.inl ⟨N12.out, fun h => m0 ⟨h.1, h.2.1⟩, rfl⟩))
    clear m0 HE
    go_enter Try.func38, Try.ntmps38
    go_wp2_with fail
    refine (IW.out _).mono ?_
    rintro e w1 ⟨rfl, rfl⟩
    go_wp2_with fail
    go_ret
    exact ⟨2, rfl, FE.out, Below.refl _ _⟩
  by_cases e0 : 1 ≤ ea ∧ ea ≤ 12
  case neg =>
    have IV := Lib.hid (fun W => isWithin_b mo 1 1073741824 true (by simp; exact m0) W)
    have IW := Lib.hid (fun W => isWithin_b ea 1 12 false (by rw [Bool.eq_false_iff]; intro h; simp at h; exact e0 h) W)
    have FE := Lib.hid (show PErr T mo ea 2 from by rw [HE.out]; exact .inr (.inl ⟨N12.out, fun h => e0 ⟨h.2.2.1, h.2.2.2.1⟩, rfl⟩))
    clear m0 e0 HE
    go_enter Try.func38, Try.ntmps38
    go_wp2_with fail
    refine (IV.out _).mono ?_
    rintro e w1 ⟨rfl, rfl⟩
    go_wp2_with fail
    refine (IW.out _).mono ?_
    rintro e w1 ⟨rfl, rfl⟩
    go_wp2_with fail
    go_ret
    exact ⟨2, rfl, FE.out, Below.refl _ _⟩
  have M0 := Lib.hid (show (1 ≤ mo ∧ mo ≤ 1073741824) ∧ 1 ≤ ea ∧ ea ≤ 12 from ⟨m0, e0⟩)
  have IV := Lib.hid (fun W => isWithin_b mo 1 1073741824 true (by simp; exact M0.out.1) W)
  have IW := Lib.hid (fun W => isWithin_b ea 1 12 true (by simp; exact M0.out.2) W)
  clear m0 e0
  go_enter Try.func38, Try.ntmps38
  go_wp2_with fail
  refine (IV.out _).mono ?_
  rintro e w1 ⟨rfl, rfl⟩
  clear IV
  go_wp2_with fail
  refine (IW.out _).mono ?_
  rintro e w1 ⟨rfl, rfl⟩
  clear IW
  go_wp2_with fail
  go_loopw [24] (fun kv wr => ∃ i : Nat, i ≤ n ∧ kv = .int .i64 i ∧ Hid (ThOk T i) ∧ wr = w) (fun kv _ => n - (intOf kv).toNat)
  case atStart => exact ⟨0, Nat.zero_le _, rfl, Lib.hid fun i h => absurd h (by omega), rfl⟩
  case round =>
    obtain ⟨i, hi, rfl, HO, rfl⟩ := hrel
    by_cases t2 : i < n
    · obtain ⟨x, rfl, kx, cx⟩ := R.out i (by have := HN.out; omega)
      have i1 : (0 : Int) ≤ (i : Int) := by omega
      have i2 : (i : Int) < (n : Int) := by omega
      have SX := Lib.hid (show (1 ≤ gi T i ∧ gi T i ≤ 1073741824) → ThOk T (i + 1) from fun h j hj => by
        by_cases e : j = i
        · subst e; exact h
        · exact HO.out j (by omega))
      have NK := Lib.hid (show ¬ (1 ≤ gi T i ∧ gi T i ≤ 1073741824) → PErr T mo ea 2 from fun h => by
        rw [HE.out]
        exact .inr (.inl ⟨N12.out, fun g => h (g.2.2.2.2 i t2), rfl⟩))
      clear HO kx
      generalize gi T i = P at *
      by_cases hp : 1 ≤ P ∧ P ≤ 1073741824
      · have IW := Lib.hid (fun W => isWithin_b P 1 1073741824 true (by simp; exact hp) W)
        have SN := Lib.hid (SX.out hp)
        clear hp SX NK
        go_wp2_with fail
        refine (IW.out _).mono ?_
        rintro e w1 ⟨rfl, rfl⟩
        clear IW
        go_wp2_with fail
        go_roundw
        case rel => exact ⟨i + 1, by omega, by go_num, SN, trivial⟩
        case measure => simp [intOf]; omega
      · have IW := Lib.hid (fun W => isWithin_b P 1 1073741824 false (by rw [Bool.eq_false_iff]; intro h; simp at h; exact hp h) W)
        have FE := Lib.hid (NK.out hp)
        clear hp SX NK
        go_wp2_with fail
        refine (IW.out _).mono ?_
        rintro e w1 ⟨rfl, rfl⟩
        clear IW
        go_wp2_with fail
        go_ret
        exact ⟨2, rfl, FE.out, Below.refl _ _⟩
    · obtain rfl : i = n := by omega
      have OKT := Lib.hid HO.out
      clear HO
      go_wp2_with fail
      go_loopw [34] (fun kv wx => ∃ j : Nat, j ≤ i ∧ kv = .int .i64 j ∧ Hid (ThFit T mo j) ∧ wx = wr) (fun kv _ => i - (intOf kv).toNat)
      case atStart => exact ⟨0, Nat.zero_le _, rfl, Lib.hid fun i h => absurd h (by omega), by first | rfl | trivial⟩
      case round =>
        obtain ⟨j, hj, rfl, HF, rfl⟩ := hrel
        by_cases t3 : j < i
        · obtain ⟨x, rfl, kx, cx⟩ := R.out j (by have := HN.out; omega)
          have i1 : (0 : Int) ≤ (j : Int) := by omega
          have i2 : (j : Int) < (i : Int) := by omega
          have SX := Lib.hid (show gi T j ≤ mo → ThFit T mo (j + 1) from fun h l hl => by
            by_cases e : l = j
            · subst e; exact h
            · exact HF.out l (by omega))
          have NK := Lib.hid (show ¬ gi T j ≤ mo → PErr T mo ea 13 from fun h => by
            rw [HE.out]
            exact .inr (.inr (.inl ⟨N12.out, ⟨M0.out.1.1, M0.out.1.2, M0.out.2.1, M0.out.2.2, OKT.out⟩, fun g => h (g j t3), rfl⟩)))
          clear HF kx
          generalize gi T j = P at *
          by_cases hp : mo < P
          · have d1 : decide (mo < P) = true := decide_eq_true hp
            have FE := Lib.hid (NK.out (by omega))
            clear SX NK
            go_wp2_with fail
            go_ret
            exact ⟨13, rfl, FE.out, Below.refl _ _⟩
          · have d1 : decide (mo < P) = false := decide_eq_false hp
            have SN := Lib.hid (SX.out (by omega))
            clear SX NK
            go_wp2_with fail
            go_roundw
            case rel => exact ⟨j + 1, by omega, by go_num, SN, by first | rfl | trivial⟩
            case measure => simp [intOf]; omega
        · obtain rfl : j = i := by omega
          have FE := Lib.hid (show PErr T mo ea 0 from by rw [HE.out]; exact .inr (.inr (.inr ⟨N12.out, ⟨M0.out.1.1, M0.out.1.2, M0.out.2.1, M0.out.2.2, OKT.out⟩, HF.out, rfl⟩)))
          go_wp2_with fail
          go_ret
          exact ⟨0, rfl, FE.out, Below.refl _ _⟩

/-- A row of boxes, flat. -/
def flat (s : Nat → Int × Int) (k : Nat) : Int := if k % 2 = 0 then (s (k / 2)).1 else (s (k / 2)).2
theorem flat0 (s : Nat → Int × Int) (i : Nat) : flat s (i * 2) = (s i).1 := by
  unfold flat
  rw [if_pos (by omega), show i * 2 / 2 = i by omega]
theorem flat1 (s : Nat → Int × Int) (i : Nat) : flat s (i * 2 + 1) = (s i).2 := by
  unfold flat
  rw [if_neg (by omega), show (i * 2 + 1) / 2 = i by omega]
theorem flat_up (s : Nat → Int × Int) (i : Nat) (x y : Int) : upd (upd (flat s) (i * 2) x) (i * 2 + 1) y = flat (Sea.up s i (x, y)) := by
  funext k
  unfold upd flat
  by_cases e1 : k = i * 2 + 1
  · subst e1
    rw [if_pos rfl, if_neg (by omega), show (i * 2 + 1) / 2 = i by omega, Sea.up_same]
  · rw [if_neg e1]
    by_cases e2 : k = i * 2
    · subst e2
      rw [if_pos rfl, if_pos (by omega), show i * 2 / 2 = i by omega, Sea.up_same]
    · rw [if_neg e2, Sea.up_ne _ _ (show k / 2 ≠ i by omega)]
/-- The slice reads as these boxes. -/
def BoxR (w : World) (g n : Nat) (s : Nat → Int × Int) : Prop := ∀ i, i < n → w.cell? ⟨g, i * 2, none⟩ = some (.int .i64 (s i).1) ∧ w.cell? ⟨g, i * 2 + 1, none⟩ = some (.int .i64 (s i).2) ∧ g < w.heap.size
theorem BoxR.below {w w' : World} {g n : Nat} {s : Nat → Int × Int} (h : BoxR w g n s) (b : Below w.heap.size w w') : BoxR w' g n s := fun i hi => by
  obtain ⟨a, c, l⟩ := h i hi
  exact ⟨(b.cell (p := ⟨g, i * 2, none⟩) l).trans a, (b.cell (p := ⟨g, i * 2 + 1, none⟩) l).trans c, Nat.lt_of_lt_of_le l b.size⟩
theorem IR.boxes {W : World} {g n : Nat} {t : TypeId} {s : Nat → Int × Int} (h : IR W g t (n * 2) (flat s)) {m : Nat} (hm : m ≤ n) : BoxR W g m s := fun i hi => ⟨by rw [h.cell (by omega), flat0], by rw [h.cell (by omega), flat1], h.lt⟩
/-- Is a box among the first i? -/
def hasB (s : Nat → Int × Int) (i : Nat) (v : Int × Int) : Prop := ∃ j, j < i ∧ s j = v
noncomputable def hasBb (s : Nat → Int × Int) (i : Nat) (v : Int × Int) : Bool := @decide (hasB s i v) (Classical.propDecidable _)
theorem hasBb_t {s : Nat → Int × Int} {i : Nat} {v : Int × Int} : hasBb s i v = true ↔ hasB s i v := by
  unfold hasBb
  exact @decide_eq_true_iff _ (Classical.propDecidable _)

set_option maxRecDepth 100000 in
set_option maxHeartbeats 8000000 in
theorem indexB_any (g i c : Nat) (s : Nat → Int × Int) (a b : Int) (w : World) (r : BoxR w g i s) (hi : i ≤ 12) :
    Calls Try.prog 52 #[.slice (some ⟨g, 0, none⟩) i c, .agg #[.int .i64 a, .int .i64 b]] w fun e w' => ∃ x, e = .returned (.int .i64 x) ∧ ((x = -1 ∧ ¬ hasB s i (a, b)) ∨ (0 ≤ x ∧ hasB s i (a, b))) ∧ Below w.heap.size w w' := by
  have R := Lib.hid r
  have B0 := Lib.hid (show Below w.heap.size w (w.alloc (Obj.cells #[Value.int .i64 a, Value.int .i64 b] 66)) from (Below.refl _ w).alloc (Nat.le_refl _) _)
  have C0 := Lib.hid (show (w.alloc (Obj.cells #[Value.int .i64 a, Value.int .i64 b] 66)).cell? ⟨w.heap.size, 0, none⟩ = some (.int .i64 a) ∧ (w.alloc (Obj.cells #[Value.int .i64 a, Value.int .i64 b] 66)).cell? ⟨w.heap.size, 1, none⟩ = some (.int .i64 b) from by
    refine ⟨?_, ?_⟩ <;> simp [go_sem])
  clear r
  go_enter Try.func52, Try.ntmps52
  go_upto_region 1 with fail
  generalize w.alloc (Obj.cells #[Value.int .i64 a, Value.int .i64 b] 66) = w1 at *
  generalize hh : w.heap.size = h at *
  have HH := Lib.hid hh
  clear hh
  go_wp2_with fail
  go_loopw [8] (fun kv wr => ∃ k : Nat, k ≤ i ∧ kv = .int .i64 k ∧ Hid (¬ hasB s k (a, b)) ∧ Hid (Below w1.heap.size w1 wr)) (fun kv _ => i - (intOf kv).toNat)
  case atStart => exact ⟨0, Nat.zero_le _, rfl, Lib.hid fun ⟨j, hj, _⟩ => by omega, Lib.hid (Below.refl _ _)⟩
  case round =>
    obtain ⟨k, hk, rfl, HO, HB⟩ := hrel
    have BW := Lib.hid (show Below h w wr from B0.out.trans (HB.out.mono (by have := B0.out.size; have := HH.out; omega)))
    have b0 := cellGr HB.out C0.out.1
    have b1 := cellGr HB.out C0.out.2
    by_cases t2 : k < i
    · obtain ⟨c0, c1, -⟩ := (R.out.below (by rw [HH.out]; exact BW.out)) k t2
      have i1 : (0 : Int) ≤ (k : Int) := by omega
      have i2 : (k : Int) < (i : Int) := by omega
      have YES := Lib.hid (show s k = (a, b) → hasB s i (a, b) from fun e => ⟨k, t2, e⟩)
      have NO := Lib.hid (show s k ≠ (a, b) → ¬ hasB s (k + 1) (a, b) from fun e ⟨j, hj, ej⟩ => by
        by_cases c : j = k
        · subst c; exact e ej
        · exact HO.out ⟨j, by omega, ej⟩)
      clear HO
      obtain ⟨⟨x, y⟩, hs⟩ : ∃ v, v = s k := ⟨_, rfl⟩
      rw [← hs] at c0 c1 YES NO
      clear hs
      dsimp only at c0 c1
      by_cases e1 : x = a ∧ y = b
      · obtain ⟨rfl, rfl⟩ := e1
        have HY := Lib.hid (YES.out rfl)
        clear YES NO
        go_upto_region 4 with fail
        go_quiet (fail)
        try (go_wp2_with fail)
        go_ret
        exact ⟨k, rfl, .inr ⟨i1, HY.out⟩, by rw [HH.out]; exact below_drewN BW.out _⟩
      · have HN := Lib.hid (NO.out (fun e => e1 (by cases e; exact ⟨rfl, rfl⟩)))
        have fin_ : ((a == x) && (b == y)) = false := by
          rw [Bool.eq_false_iff]
          intro h
          simp at h
          exact e1 ⟨h.1.symm, h.2.symm⟩
        clear YES NO
        by_cases ea : a = x
        · subst ea
          have eb : (b == y) = false := by simpa using fin_
          clear e1 fin_
          go_upto_region 4 with fail
          go_quiet (fail)
          try (go_wp2_with fail)
          go_roundw
          case rel => exact ⟨k + 1, by omega, by go_num, HN, Lib.hid (below_drewN HB.out _)⟩
          case measure => simp [intOf]; omega
        · have eb : (a == x) = false := by simpa using ea
          clear e1 fin_ ea
          go_upto_region 4 with fail
          go_quiet (fail)
          try (go_wp2_with fail)
          go_roundw
          case rel => exact ⟨k + 1, by omega, by go_num, HN, Lib.hid (below_drewN HB.out _)⟩
          case measure => simp [intOf]; omega
    · obtain rfl : k = i := by omega
      go_wp2_with fail
      go_ret
      exact ⟨-1, rfl, .inl ⟨rfl, HO.out⟩, by rw [HH.out]; exact BW.out⟩

set_option maxRecDepth 100000 in
set_option maxHeartbeats 8000000 in
theorem containsB_any (g i c : Nat) (s : Nat → Int × Int) (a b : Int) (w : World) (r : BoxR w g i s) (hi : i ≤ 12) :
    Calls Try.prog 40 #[.slice (some ⟨g, 0, none⟩) i c, .agg #[.int .i64 a, .int .i64 b]] w fun e w' => e = .returned (.bool (hasBb s i (a, b))) ∧ Below w.heap.size w w' := by
  have B0 := Lib.hid (show Below w.heap.size w (w.alloc (Obj.cells #[Value.int .i64 a, Value.int .i64 b] 66)) from (Below.refl _ w).alloc (Nat.le_refl _) _)
  have C0 := Lib.hid (show (w.alloc (Obj.cells #[Value.int .i64 a, Value.int .i64 b] 66)).cell? ⟨w.heap.size, 0, none⟩ = some (.int .i64 a) ∧ (w.alloc (Obj.cells #[Value.int .i64 a, Value.int .i64 b] 66)).cell? ⟨w.heap.size, 1, none⟩ = some (.int .i64 b) from by
    refine ⟨?_, ?_⟩ <;> simp [go_sem])
  have IX := Lib.hid (fun W (st : Below w.heap.size w W) => indexB_any g i c s a b W (r.below st) hi)
  have DB := Lib.hid (show ∀ x : Int, ((x = -1 ∧ ¬ hasB s i (a, b)) ∨ (0 ≤ x ∧ hasB s i (a, b))) → decide (0 ≤ x) = hasBb s i (a, b) from fun x hx => by
    rw [Bool.eq_iff_iff, hasBb_t]
    simp only [decide_eq_true_eq]
    rcases hx with ⟨rfl, h⟩ | ⟨h0, h⟩
    · exact ⟨fun h => by omega, fun g => absurd g h⟩
    · exact ⟨fun _ => h, fun _ => h0⟩)
  generalize hasBb s i (a, b) = z at *
  clear r
  go_enter Try.func40, Try.ntmps40
  go_upto_region 1 with fail
  generalize w.alloc (Obj.cells #[Value.int .i64 a, Value.int .i64 b] 66) = w1 at *
  have c0 := C0.out.1
  have c1 := C0.out.2
  go_wp2_with fail
  refine (IX.out w1 B0.out).mono ?_
  rintro e w2 ⟨x, rfl, hx, st⟩
  have DX := Lib.hid (DB.out x hx)
  have BB := Lib.hid (B0.out.trans (st.mono B0.out.size))
  clear hx st IX DB
  go_wp2_with fail
  go_ret
  exact ⟨ret_b DX.out, BB.out⟩
end Go.Proofs.Ythbgeikdamajlab

/- Press: the search of Pack: its memory, its ends. -/
namespace Go.Proofs.Ythbgeikdamajlab
open Go.RowKit Go.Proofs.Ythbgeikdamajlab.Prs Go.Proofs.Ythbgeikdamajlab.Stb
set_option linter.unusedVariables false
set_option linter.unusedSimpArgs false

/-- The blocks of the search of Pack. -/
structure PL (base bt bm be rb bb bl rt bo bx bg : Nat) : Prop where
  ne : (bt ≠ rb ∧ bt ≠ bl ∧ bt ≠ rt ∧ bt ≠ bx) ∧ (bm ≠ rb ∧ bm ≠ bl ∧ bm ≠ rt ∧ bm ≠ bx) ∧ (be ≠ rb ∧ be ≠ bl ∧ be ≠ rt ∧ be ≠ bx) ∧ (bb ≠ rb ∧ bb ≠ bl ∧ bb ≠ rt ∧ bb ≠ bx) ∧ (bo ≠ rb ∧ bo ≠ bl ∧ bo ≠ rt ∧ bo ≠ bx) ∧ (bg ≠ rb ∧ bg ≠ bl ∧ bg ≠ rt ∧ bg ≠ bx) ∧ (rb ≠ bl ∧ rb ≠ rt ∧ rb ≠ bx) ∧ (bl ≠ rt ∧ bl ≠ bx) ∧ rt ≠ bx
  lo : base ≤ rb ∧ base ≤ bl ∧ base ≤ rt ∧ base ≤ bx
def PMod (rb bl rt bx : Nat) (k : Nat) : Prop := k = rb ∨ k = bl ∨ k = rt ∨ k = bx
theorem PL.mod {base bt bm be rb bb bl rt bo bx bg q : Nat} (g : PL base bt bm be rb bb bl rt bo bx bg) (h : q < base) : ¬ PMod rb bl rt bx q := by
  have := g.lo
  unfold PMod
  omega
/-- The memory of the search of Pack. -/
structure PM (bt bm be rb bb bl rt bo bx bg : Nat) (p : Option Addr) (n c : Nat) (mo ea : Int) (W : World) (L : Int) (B O : Nat → Int) (s : Nat → Int × Int) : Prop where
  xt : BX W bt 25 (.slice p n c)
  xm : BX W bm 3 (.int .i64 mo)
  xe : BX W be 3 (.int .i64 ea)
  xB : IR W rb 3 n B
  xb : BX W bb 25 (.slice (some ⟨rb, 0, none⟩) n n)
  xl : BX W bl 3 (.int .i64 L)
  xO : IR W rt 3 n O
  xo : BX W bo 25 (.slice (some ⟨rt, 0, none⟩) n n)
  xs : IR W bx 67 24 (flat s)
  xg : BX W bg 61 (.func (.func 39) #[] #[.pointer (some ⟨bl, 0, none⟩), .pointer (some ⟨bt, 0, none⟩), .pointer (some ⟨bb, 0, none⟩), .pointer (some ⟨bo, 0, none⟩), .pointer (some ⟨bx, 0, none⟩), .pointer (some ⟨bm, 0, none⟩), .pointer (some ⟨be, 0, none⟩), .pointer (some ⟨bg, 0, none⟩)])
section
variable {base bt bm be rb bb bl rt bo bx bg : Nat} {p : Option Addr} {n c : Nat} {mo ea : Int} {W W' : World} {L : Int} {B O : Nat → Int} {s : Nat → Int × Int}
theorem PM.setL (h : PM bt bm be rb bb bl rt bo bx bg p n c mo ea W L B O s) (g : PL base bt bm be rb bb bl rt bo bx bg) (x : Int) : PM bt bm be rb bb bl rt bo bx bg p n c mo ea (W.setCell ⟨bl, 0, none⟩ (.int .i64 x)) x B O s := by
  obtain ⟨⟨t1, t2, t3, t4⟩, ⟨m1, m2, m3, m4⟩, ⟨e1, e2, e3, e4⟩, ⟨b1, b2, b3, b4⟩, ⟨o1, o2, o3, o4⟩, ⟨g1, g2, g3, g4⟩, ⟨r1, r2, r3⟩, ⟨l1, l2⟩, rx⟩ := g.ne
  have k : ∀ q, q ≠ bl → (W.setCell ⟨bl, 0, none⟩ (.int .i64 x)).heap[q]? = W.heap[q]? := fun q hq => Below.heap_setCell _ _ _ _ hq
  exact ⟨h.xt.keep (k _ t2), h.xm.keep (k _ m2), h.xe.keep (k _ e2), h.xB.keep (k _ r1), h.xb.keep (k _ b2), h.xl.set _, h.xO.keep (k _ (Ne.symm l1)), h.xo.keep (k _ o2), h.xs.keep (k _ (Ne.symm l2)), h.xg.keep (k _ g2)⟩
theorem PM.setO (h : PM bt bm be rb bb bl rt bo bx bg p n c mo ea W L B O s) (g : PL base bt bm be rb bb bl rt bo bx bg) (j : Nat) (x : Int) : PM bt bm be rb bb bl rt bo bx bg p n c mo ea (W.setCell ⟨rt, j, none⟩ (.int .i64 x)) L B (upd O j x) s := by
  obtain ⟨⟨t1, t2, t3, t4⟩, ⟨m1, m2, m3, m4⟩, ⟨e1, e2, e3, e4⟩, ⟨b1, b2, b3, b4⟩, ⟨o1, o2, o3, o4⟩, ⟨g1, g2, g3, g4⟩, ⟨r1, r2, r3⟩, ⟨l1, l2⟩, rx⟩ := g.ne
  have k : ∀ q, q ≠ rt → (W.setCell ⟨rt, j, none⟩ (.int .i64 x)).heap[q]? = W.heap[q]? := fun q hq => Below.heap_setCell _ _ _ _ hq
  exact ⟨h.xt.keep (k _ t3), h.xm.keep (k _ m3), h.xe.keep (k _ e3), h.xB.keep (k _ r2), h.xb.keep (k _ b3), h.xl.keep (k _ l1), h.xO.set _ _, h.xo.keep (k _ o3), h.xs.keep (k _ (Ne.symm rx)), h.xg.keep (k _ g3)⟩
theorem PM.setS (h : PM bt bm be rb bb bl rt bo bx bg p n c mo ea W L B O s) (g : PL base bt bm be rb bb bl rt bo bx bg) (j : Nat) (x y : Int) : PM bt bm be rb bb bl rt bo bx bg p n c mo ea ((W.setCell ⟨bx, j * 2, none⟩ (.int .i64 x)).setCell ⟨bx, j * 2 + 1, none⟩ (.int .i64 y)) L B O (Sea.up s j (x, y)) := by
  obtain ⟨⟨t1, t2, t3, t4⟩, ⟨m1, m2, m3, m4⟩, ⟨e1, e2, e3, e4⟩, ⟨b1, b2, b3, b4⟩, ⟨o1, o2, o3, o4⟩, ⟨g1, g2, g3, g4⟩, ⟨r1, r2, r3⟩, ⟨l1, l2⟩, rx⟩ := g.ne
  have k : ∀ q, q ≠ bx → ((W.setCell ⟨bx, j * 2, none⟩ (.int .i64 x)).setCell ⟨bx, j * 2 + 1, none⟩ (.int .i64 y)).heap[q]? = W.heap[q]? := fun q hq => (Below.heap_setCell _ _ _ _ hq).trans (Below.heap_setCell _ _ _ _ hq)
  exact ⟨h.xt.keep (k _ t4), h.xm.keep (k _ m4), h.xe.keep (k _ e4), h.xB.keep (k _ r3), h.xb.keep (k _ b4), h.xl.keep (k _ l2), h.xO.keep (k _ rx), h.xo.keep (k _ o4), by rw [← flat_up]; exact (h.xs.set _ _).set _ _, h.xg.keep (k _ g4)⟩
theorem PM.copy (h : PM bt bm be rb bb bl rt bo bx bg p n c mo ea W L B O s) (g : PL base bt bm be rb bb bl rt bo bx bg) (i : IR W' rb 3 n O) (f : Fm (fun k => k = rb) W W') : PM bt bm be rb bb bl rt bo bx bg p n c mo ea W' L O O s := by
  obtain ⟨⟨t1, t2, t3, t4⟩, ⟨m1, m2, m3, m4⟩, ⟨e1, e2, e3, e4⟩, ⟨b1, b2, b3, b4⟩, ⟨o1, o2, o3, o4⟩, ⟨g1, g2, g3, g4⟩, ⟨r1, r2, r3⟩, ⟨l1, l2⟩, rx⟩ := g.ne
  exact ⟨h.xt.keep (f.block _ h.xt.lt t1), h.xm.keep (f.block _ h.xm.lt m1), h.xe.keep (f.block _ h.xe.lt e1), i, h.xb.keep (f.block _ h.xb.lt b1), h.xl.keep (f.block _ h.xl.lt (Ne.symm r1)), h.xO.keep (f.block _ h.xO.lt (Ne.symm r2)), h.xo.keep (f.block _ h.xo.lt o1), h.xs.keep (f.block _ h.xs.lt (Ne.symm r3)), h.xg.keep (f.block _ h.xg.lt g1)⟩
theorem PM.call (h : PM bt bm be rb bb bl rt bo bx bg p n c mo ea W L B O s) (f : Below W.heap.size W W') : PM bt bm be rb bb bl rt bo bx bg p n c mo ea W' L B O s :=
  ⟨h.xt.keep (f.block _ h.xt.lt), h.xm.keep (f.block _ h.xm.lt), h.xe.keep (f.block _ h.xe.lt), h.xB.keep (f.block _ h.xB.lt), h.xb.keep (f.block _ h.xb.lt), h.xl.keep (f.block _ h.xl.lt), h.xO.keep (f.block _ h.xO.lt), h.xo.keep (f.block _ h.xo.lt), h.xs.keep (f.block _ h.xs.lt), h.xg.keep (f.block _ h.xg.lt)⟩
theorem PM.ext {B' O' : Nat → Int} {s' : Nat → Int × Int} (h : PM bt bm be rb bb bl rt bo bx bg p n c mo ea W L B O s) (e1 : ∀ k, k < n → B k = B' k) (e2 : ∀ k, k < n → O k = O' k) (e3 : ∀ k, k < 12 → s k = s' k) : PM bt bm be rb bb bl rt bo bx bg p n c mo ea W L B' O' s' :=
  ⟨h.xt, h.xm, h.xe, h.xB.ext e1, h.xb, h.xl, h.xO.ext e2, h.xo, h.xs.ext (fun k hk => by unfold flat; rw [e3 _ (by omega)]), h.xg⟩
end
/-- What the search of Pack leaves. -/
def PQ (bt bm be rb bb bl rt bo bx bg : Nat) (p : Option Addr) (n c k : Nat) (mo ea : Int) (ts : List Int) (P : List Nat) (L : Int) (B : List Nat) (O : Nat → Int) (s : Nat → Int × Int) (W : World) (e : Ending) (W' : World) : Prop :=
  e = .returned (.tuple #[]) ∧ ∃ (L' : Int) (B' : List Nat) (O' : Nat → Int), PM bt bm be rb bb bl rt bo bx bg p n c mo ea W' L' (nv B') O' s ∧ (∀ j, j < k → O' j = O j) ∧ Sea.Sr (Sea.addP mo ea) (Sea.cnt 12) (Sea.Can 12) 12 (fun _ => True) ts s P L B L' B' ∧ Fm (PMod rb bl rt bx) W W'

set_option maxRecDepth 100000 in
set_option maxHeartbeats 8000000 in
theorem put_prune {bt bm be rb bb bl rt bo bx bg : Nat} {p : Option Addr} {n c k u : Nat} {mo ea : Int} {ts : List Int} {P : List Nat} {L : Int} {B : List Nat} {O : Nat → Int} {s : Nat → Int × Int} {W : World} (h : PM bt bm be rb bb bl rt bo bx bg p n c mo ea W L (nv B) O s) (cn : Sea.Cn s u) (hu : u ≤ 12) (hx : L ≤ u) :
    Calls Try.prog 39 #[.int .i64 k, .int .i64 u, .pointer (some ⟨bl, 0, none⟩), .pointer (some ⟨bt, 0, none⟩), .pointer (some ⟨bb, 0, none⟩), .pointer (some ⟨bo, 0, none⟩), .pointer (some ⟨bx, 0, none⟩), .pointer (some ⟨bm, 0, none⟩), .pointer (some ⟨be, 0, none⟩), .pointer (some ⟨bg, 0, none⟩)] W
      (PQ bt bm be rb bb bl rt bo bx bg p n c k mo ea ts P L B O s W) := by
  have cl := h.xl.cell
  have Q := Lib.hid (show ∀ j : Nat, PQ bt bm be rb bb bl rt bo bx bg p n c k mo ea ts P L B O s W (.returned (.tuple #[])) W from fun _ => ⟨rfl, L, B, O, h, fun _ _ => rfl, Sea.Sr.prune (fun s b y t e hb => Sea.cnt_mono s b y t e hb) (by rw [cn.cnt hu]; exact hx), Fm.refl _ _⟩)
  have d1 : decide (L ≤ (u : Int)) = true := decide_eq_true hx
  clear h hx cn
  go_enter Try.func39, Try.ntmps39
  go_wp2_with fail
  go_end0
  exact Q.out 0

set_option maxRecDepth 100000 in
set_option maxHeartbeats 8000000 in
theorem put_leaf {base bt bm be rb bb bl rt bo bx bg : Nat} (gl : PL base bt bm be rb bb bl rt bo bx bg) {p : Option Addr} {n c u : Nat} {mo ea : Int} {P : List Nat} {L : Int} {B : List Nat} {O : Nat → Int} {s : Nat → Int × Int} {W : World} (h : PM bt bm be rb bb bl rt bo bx bg p n c mo ea W L (nv B) O s) (hP : P.length = n) (hO : ∀ j, j < n → O j = nv P j) (cn : Sea.Cn s u) (hu : u ≤ 12) (hx : (u : Int) < L) :
    Calls Try.prog 39 #[.int .i64 n, .int .i64 u, .pointer (some ⟨bl, 0, none⟩), .pointer (some ⟨bt, 0, none⟩), .pointer (some ⟨bb, 0, none⟩), .pointer (some ⟨bo, 0, none⟩), .pointer (some ⟨bx, 0, none⟩), .pointer (some ⟨bm, 0, none⟩), .pointer (some ⟨be, 0, none⟩), .pointer (some ⟨bg, 0, none⟩)] W
      (PQ bt bm be rb bb bl rt bo bx bg p n c n mo ea [] P L B O s W) := by
  have cl := h.xl.cell
  have ct := h.xt.cell
  have cb := h.xb.cell
  have co := h.xo.cell
  have H := Lib.hid h
  have HO := Lib.hid hO
  have d1 : decide (L ≤ (u : Int)) = false := decide_eq_false (by omega)
  have d2 : ((n : Int) == (n : Int)) = true := by simp
  have Q := Lib.hid (show ∀ W', PM bt bm be rb bb bl rt bo bx bg p n c mo ea W' u O O s → Fm (PMod rb bl rt bx) W W' → PQ bt bm be rb bb bl rt bo bx bg p n c n mo ea [] P L B O s W (.returned (.tuple #[])) W' from fun W' g f => by
    have lf := Sea.Sr.leaf (add := Sea.addP mo ea) (val := Sea.cnt 12) (Fs := Sea.Can 12) (M := 12) (s := s) (P := P) (B := B) (L := L) (by rw [cn.cnt hu]; exact hx) ⟨u, hu, cn⟩
    rw [cn.cnt hu] at lf
    exact ⟨rfl, _, P, O, g.ext HO.out (fun _ _ => rfl) (fun _ _ => rfl), fun _ _ => rfl, lf, f⟩)
  clear h hx hO cn
  go_enter Try.func39, Try.ntmps39
  go_wp2_with (first
    | (refine wpList_copy_ir rfl _ _ 25 25 rfl 3 Try.underlying25 intSize rb rt n 3 3 (nv B) O rfl rfl H.out.xB H.out.xO ?_))
  intro w1 i1 f1
  have H1 := Lib.hid (H.out.copy gl i1 f1)
  replace cl := H1.out.xl.cell
  have fl := H1.out.xl.frozen
  have H2 := Lib.hid (H1.out.setL gl u)
  have F2 := Lib.hid (show Fm (PMod rb bl rt bx) W (w1.setCell ⟨bl, 0, none⟩ (.int .i64 u)) from
    (show Fm (PMod rb bl rt bx) W w1 from ⟨f1.os, f1.tape, f1.output, f1.size, fun k hk hm => f1.block k hk (fun e => hm (.inl e))⟩).trans (Fm.set _ _ (.inr (.inl rfl))))
  clear i1 f1 ct cb co
  go_wp2_with fail
  go_end0
  exact Q.out _ H2.out F2.out
/-- Bins behind the first empty one are like it. -/
theorem sr_fill {mo ea : Int} {ts : List Int} {t : Int} {s : Nat → Int × Int} {u : Nat} {P B B1 : List Nat} {L L1 : Int} (cn : Sea.Cn s u) : ∀ (d q : Nat), q + d = 12 → u < q → Sea.Sr (Sea.addP mo ea) (Sea.cnt 12) (Sea.Can 12) 12 (· < q) (t :: ts) s P L B L1 B1 → Sea.Sr (Sea.addP mo ea) (Sea.cnt 12) (Sea.Can 12) 12 (· < 12) (t :: ts) s P L B L1 B1
  | 0, q, h, _, r => by
    have e : q = 12 := by omega
    subst e; exact r
  | d + 1, q, h, hu, r => sr_fill cn d (q + 1) (by omega) (by omega) (r.skip (fun a c s ha hc => Sea.cnt_tr s ha hc) hu (by omega) (by rw [cn.hi u (Nat.le_refl u), cn.hi q (by omega)]))
end Go.Proofs.Ythbgeikdamajlab

/- Press: the search of Pack, a step. -/
namespace Go.Proofs.Ythbgeikdamajlab
open Go.RowKit Go.Proofs.Ythbgeikdamajlab.Prs Go.Proofs.Ythbgeikdamajlab.Stb
set_option linter.unusedVariables false
set_option linter.unusedSimpArgs false

theorem cellSt {W : World} {a p : Addr} {x v : Value} (ne : a.block ≠ p.block) (h : W.cell? a = some x) : (W.setCell p v).cell? a = some x := by
  rw [World.cell?_setCell_other _ _ _ _ (fun e => ne (by rw [e]))]; exact h
/-- Boxes that are none too full. -/
def PB (mo ea : Int) (s : Nat → Int × Int) : Prop := ∀ b, b < 12 → (0 ≤ (s b).1 ∧ (s b).1 ≤ mo) ∧ 0 ≤ (s b).2 ∧ (s b).2 ≤ ea
theorem PB.put {mo ea : Int} {s : Nat → Int × Int} (h : PB mo ea s) (q : Nat) {x y : Int} (h1 : 0 ≤ x ∧ x ≤ mo) (h2 : 0 ≤ y ∧ y ≤ ea) : PB mo ea (Sea.up s q (x, y)) := fun b hb => by
  unfold Sea.up
  split
  · exact ⟨h1, h2⟩
  · exact h b hb

set_option maxRecDepth 100000 in
set_option maxHeartbeats 16000000 in
theorem put_step {base bt bm be rb bb bl rt bo bx bg : Nat} (gl : PL base bt bm be rb bb bl rt bo bx bg) {p : Option Addr} {c : Nat} {mo ea : Int} {T : List Int} (hmo : 1 ≤ mo ∧ mo ≤ 1073741824) (hea : 1 ≤ ea ∧ ea ≤ 12) (h12 : T.length ≤ 12) (ok : ThOk T T.length) (hp : ∀ x, p = some x → 0 < T.length → x.block < base)
    (t : Int) (ts : List Int) (k u : Nat) (P : List Nat) (L : Int) (B : List Nat) (O : Nat → Int) (s : Nat → Int × Int) (W : World) (hT : T.drop k = t :: ts) (hP : P.length = k) (h : PM bt bm be rb bb bl rt bo bx bg p T.length c mo ea W L (nv B) O s) (nr : NumR W p T) (hO : ∀ j, j < k → O j = nv P j) (hs : PB mo ea s) (cn : Sea.Cn s u) (hu : u ≤ k) (hx : (u : Int) < L)
    (ih : ∀ (u : Nat) (P : List Nat) (L : Int) (B : List Nat) (O : Nat → Int) (s : Nat → Int × Int) (W : World), P.length = k + 1 → PM bt bm be rb bb bl rt bo bx bg p T.length c mo ea W L (nv B) O s → NumR W p T → (∀ j, j < k + 1 → O j = nv P j) → PB mo ea s → Sea.Cn s u → u ≤ k + 1 →
      Calls Try.prog 39 #[.int .i64 ((k : Int) + 1), .int .i64 u, .pointer (some ⟨bl, 0, none⟩), .pointer (some ⟨bt, 0, none⟩), .pointer (some ⟨bb, 0, none⟩), .pointer (some ⟨bo, 0, none⟩), .pointer (some ⟨bx, 0, none⟩), .pointer (some ⟨bm, 0, none⟩), .pointer (some ⟨be, 0, none⟩), .pointer (some ⟨bg, 0, none⟩)] W (PQ bt bm be rb bb bl rt bo bx bg p T.length c (k + 1) mo ea ts P L B O s W)) :
    Calls Try.prog 39 #[.int .i64 k, .int .i64 u, .pointer (some ⟨bl, 0, none⟩), .pointer (some ⟨bt, 0, none⟩), .pointer (some ⟨bb, 0, none⟩), .pointer (some ⟨bo, 0, none⟩), .pointer (some ⟨bx, 0, none⟩), .pointer (some ⟨bm, 0, none⟩), .pointer (some ⟨be, 0, none⟩), .pointer (some ⟨bg, 0, none⟩)] W
      (PQ bt bm be rb bb bl rt bo bx bg p T.length c k mo ea (t :: ts) P L B O s W) := by
  have kn : k < T.length := by
    apply Classical.byContradiction; intro g
    rw [List.drop_of_length_le (by omega)] at hT; cases hT
  have tk : gi T k = t := by
    rw [List.drop_eq_getElem_cons kn] at hT
    have := (List.cons.inj hT).1
    simp [gi, kn, this]
  have t0 := ok k kn
  rw [tk] at t0
  have cl := h.xl.cell
  have ct := h.xt.cell
  have H := Lib.hid h
  have GLh := Lib.hid gl
  have IH := Lib.hid ih
  have HX := Lib.hid hx
  have HS := Lib.hid hs
  have HO := Lib.hid hO
  have HP := Lib.hid hP
  have CN := Lib.hid cn
  have NB := Lib.hid (fun W' (f : Fm (PMod rb bl rt bx) W W') => nr.fm f (fun x e h0 => gl.mod (hp x e h0)))
  have TK := Lib.hid tk
  have XAB := Lib.hid (show ∀ x, p = some x → x.block < base from fun x e => hp x e (by omega))
  have d1 : decide (L ≤ (u : Int)) = false := decide_eq_false (by omega)
  obtain ⟨n, hn⟩ : ∃ n, n = T.length := ⟨_, rfl⟩
  rw [← hn] at H IH kn h12 ct ⊢
  have HN := Lib.hid hn
  have d2 : ((k : Int) == (n : Int)) = false := by simp; omega
  have wu : IntKind.i64.wrap ((u : Int) + 1) = ((u + 1 : Nat) : Int) := wN (by omega) (by omega)
  have QE := Lib.hid (show ∀ W' L' B' O', PM bt bm be rb bb bl rt bo bx bg p n c mo ea W' L' (nv B') O' s → (∀ j, j < k → O' j = O j) → Sea.Sr (Sea.addP mo ea) (Sea.cnt 12) (Sea.Can 12) 12 (· < u + 1) (t :: ts) s P L B L' B' → Fm (PMod rb bl rt bx) W W' → PQ bt bm be rb bb bl rt bo bx bg p n c k mo ea (t :: ts) P L B O s W (.returned (.tuple #[])) W' from fun W' L' B' O' g e r f => ⟨rfl, L', B', O', g, e, (sr_fill cn (11 - u) (u + 1) (by omega) (by omega) r).all, f⟩)
  clear h hx hO hT hP hp nr gl ih hs ok tk hn cn
  go_enter Try.func39, Try.ntmps39
  go_wp2_with fail
  go_loopw [27] (fun iv wr => ∃ (q : Nat) (L1 : Int) (B1 : List Nat) (O1 : Nat → Int), q ≤ u + 1 ∧ iv = .int .i64 q ∧ Hid (PM bt bm be rb bb bl rt bo bx bg p n c mo ea wr L1 (nv B1) O1 s) ∧ Hid (∀ j, j < k → O1 j = O j) ∧ Hid (Sea.Sr (Sea.addP mo ea) (Sea.cnt 12) (Sea.Can 12) 12 (· < q) (t :: ts) s P L B L1 B1) ∧ Hid (Fm (PMod rb bl rt bx) W wr)) (fun iv _ => u + 1 - (intOf iv).toNat)
  case atStart => exact ⟨0, L, B, O, Nat.zero_le _, rfl, H, Lib.hid fun _ _ => rfl, Lib.hid (Sea.Sr.start t), Lib.hid (Fm.refl _ _)⟩
  case round =>
    clear H cl ct d1 d2 wu
    obtain ⟨q, L1, B1, O1, hq, rfl, H, O1E, SR, FM⟩ := hrel
    by_cases t1 : q < u + 1
    · have i1 : (0 : Int) ≤ (q : Int) := by omega
      have i2 : (q : Int) < ((u + 1 : Nat) : Int) := by omega
      have i3 : (q : Int) < 12 := by omega
      have i4 : (q : Int) ≤ 12 := by omega
      have q12 : q < 12 := by omega
      obtain ⟨⟨a, b⟩, hab⟩ : ∃ v, v = s q := ⟨_, rfl⟩
      have HAB := Lib.hid hab
      have sb := HS.out q q12
      rw [← hab] at sb
      dsimp only at sb
      obtain ⟨c0, c1, -⟩ := (H.out.xs.boxes (m := 12) (Nat.le_refl _)) q q12
      rw [← hab] at c0 c1
      dsimp only at c0 c1
      clear hab
      have A1 := Lib.hid (show Below wr.heap.size wr (wr.alloc (Obj.cells #[Value.int .i64 a, Value.int .i64 b] 66)) from (Below.refl _ wr).alloc (Nat.le_refl _) _)
      have H1 := Lib.hid (H.out.call A1.out)
      have F1 := Lib.hid (FM.out.trans (Fm.call A1.out))
      have OB := Lib.hid (show (wr.alloc (Obj.cells #[Value.int .i64 a, Value.int .i64 b] 66)).heap[wr.heap.size]? = some (Obj.cells #[Value.int .i64 a, Value.int .i64 b] 66) from heap_alloc_new wr _)
      have OL := Lib.hid (show rb < wr.heap.size ∧ bl < wr.heap.size ∧ rt < wr.heap.size ∧ bx < wr.heap.size from ⟨H.out.xB.lt, H.out.xl.lt, H.out.xO.lt, H.out.xs.lt⟩)
      clear A1 H FM
      go_upto_region 8 with fail
      clear c0 c1
      generalize wr.alloc (Obj.cells #[Value.int .i64 a, Value.int .i64 b] 66) = w1 at *
      generalize wr.heap.size = ob at *
      have o0 : w1.cell? ⟨ob, 0, none⟩ = some (.int .i64 a) := by have := OB.out; simp [World.cell?, this]
      have o1 : w1.cell? ⟨ob, 1, none⟩ = some (.int .i64 b) := by have := OB.out; simp [World.cell?, this]
      have ct := H1.out.xt.cell
      have cm := H1.out.xm.cell
      have ce := H1.out.xe.cell
      obtain ⟨xa, hpx, kx, cx⟩ := (NB.out _ F1.out) k (by have := HN.out; omega)
      subst hpx
      rw [TK.out] at cx
      obtain ⟨y, hy⟩ : ∃ y, y = a + t := ⟨_, rfl⟩
      have wy : IntKind.i64.wrap (a + t) = y := wI hy.symm (by omega) (by omega)
      have HY := Lib.hid hy
      have k1 : (0 : Int) ≤ (k : Int) := by omega
      have k2 : (k : Int) < (n : Int) := by omega
      clear kx hy
      by_cases full : mo < y
      · have d3 : decide (mo < y) = true := decide_eq_true full
        have SR2 := Lib.hid (show Sea.Sr (Sea.addP mo ea) (Sea.cnt 12) (Sea.Can 12) 12 (· < q + 1) (t :: ts) s P L B L1 B1 from SR.out.bad (by
          rw [← HAB.out]
          have := HY.out
          exact if_neg (fun h => by have := h.2.2; dsimp only at this; omega)))
        clear full SR
        go_quiet (fail)
        go_wp2_with fail
        go_roundw
        case rel => exact ⟨q + 1, L1, B1, O1, by omega, by go_num, Lib.hid (H1.out.call (below_drewN (Below.refl _ _) _)), O1E, SR2, Lib.hid (F1.out.trans (Fm.call (below_drewN (Below.refl _ _) _)))⟩
        case measure => simp [intOf]; omega
      have d3 : decide (mo < y) = false := decide_eq_false full
      by_cases many : b = ea
      · have d4 : (b == ea) = true := by simpa using many
        have SR2 := Lib.hid (show Sea.Sr (Sea.addP mo ea) (Sea.cnt 12) (Sea.Can 12) 12 (· < q + 1) (t :: ts) s P L B L1 B1 from SR.out.bad (by
          rw [← HAB.out]
          exact if_neg (fun h => by have := h.2.1; dsimp only at this; omega)))
        clear many full SR
        go_quiet (fail)
        go_wp2_with fail
        go_roundw
        case rel => exact ⟨q + 1, L1, B1, O1, by omega, by go_num, Lib.hid (H1.out.call (below_drewN (Below.refl _ _) _)), O1E, SR2, Lib.hid (F1.out.trans (Fm.call (below_drewN (Below.refl _ _) _)))⟩
        case measure => simp [intOf]; omega
      have d4 : (b == ea) = false := by simpa using many
      have AD := Lib.hid (show Sea.addP mo ea (s q) t = some (y, b + 1) from by
        rw [← HAB.out, HY.out]
        exact if_pos ⟨by dsimp only; omega, by dsimp only; omega, by dsimp only; have := HY.out; omega⟩)
      have YB := Lib.hid (show (0 ≤ y ∧ y ≤ mo) ∧ 0 ≤ b + 1 ∧ b + 1 ≤ ea from by have := HY.out; omega)
      clear many full
      have CD := Lib.hid (fun W' (g : PM bt bm be rb bb bl rt bo bx bg (some xa) n c mo ea W' L1 (nv B1) O1 s) => containsB_any bx q 12 s a b W' (g.xs.boxes (n := 12) (by omega)) (by omega))
      obtain ⟨d, hd⟩ : ∃ d, d = hasBb s q (a, b) := ⟨_, rfl⟩
      rw [← hd] at CD
      have HD := Lib.hid hd
      clear hd
      cases d with
      | true =>
        have SR2 := Lib.hid (show Sea.Sr (Sea.addP mo ea) (Sea.cnt 12) (Sea.Can 12) 12 (· < q + 1) (t :: ts) s P L B L1 B1 from by
          obtain ⟨r, hr, er⟩ := hasBb_t.1 HD.out.symm
          exact SR.out.skip (fun a c s ha hc => Sea.cnt_tr s ha hc) hr q12 (by rw [er, HAB.out]))
        clear SR AD YB
        go_region_held3 (fun w' => w'.cell? ⟨ob, 0, none⟩ = some (.int .i64 a) ∧ w'.cell? ⟨ob, 1, none⟩ = some (.int .i64 b) ∧ w'.cell? ⟨bt, 0, none⟩ = some (.slice (some xa) n c) ∧ w'.cell? (xa.add k) = some (.int .i64 t) ∧ w'.cell? ⟨bm, 0, none⟩ = some (.int .i64 mo) ∧ w'.cell? ⟨be, 0, none⟩ = some (.int .i64 ea))
          (first | exact ⟨o0, o1, ct, cx, cm, ce⟩ | exact ⟨cellDr o0, cellDr o1, cellDr ct, cellDr cx, cellDr cm, cellDr ce⟩)
          (first | (go_at_call 40; (with_reducible refine (CD.out _ (by first | exact H1.out | exact H1.out.call ((Below.refl _ _).drew) | exact H1.out.call (below_drewN (Below.refl _ _) _))).mono ?_); rintro e v1 ⟨rfl, st⟩; have st : Below w1.heap.size w1 v1 := (by first | exact st | exact ((Below.refl _ _).drew).trans st | exact (below_drewN (Below.refl _ _) _).trans st); have H2 := Lib.hid (H1.out.call st); have F2 := Lib.hid (F1.out.trans (Fm.call st)); replace o0 := cellGr st o0; replace o1 := cellGr st o1; replace ct := cellGr st ct; replace cx := cellGr st cx; replace cm := cellGr st cm; replace ce := cellGr st ce; clear st))
        go_wp2_with fail
        go_roundw
        case rel => exact ⟨q + 1, L1, B1, O1, by omega, by go_num, H2, O1E, SR2, F2⟩
        case measure => simp [intOf]; omega
      | false =>
        go_region_held3 (fun w' => w'.cell? ⟨ob, 0, none⟩ = some (.int .i64 a) ∧ w'.cell? ⟨ob, 1, none⟩ = some (.int .i64 b) ∧ w'.cell? ⟨bt, 0, none⟩ = some (.slice (some xa) n c) ∧ w'.cell? (xa.add k) = some (.int .i64 t) ∧ w'.cell? ⟨bm, 0, none⟩ = some (.int .i64 mo) ∧ w'.cell? ⟨be, 0, none⟩ = some (.int .i64 ea))
          (first | exact ⟨o0, o1, ct, cx, cm, ce⟩ | exact ⟨cellDr o0, cellDr o1, cellDr ct, cellDr cx, cellDr cm, cellDr ce⟩)
          (first | (go_at_call 40; (with_reducible refine (CD.out _ (by first | exact H1.out | exact H1.out.call ((Below.refl _ _).drew) | exact H1.out.call (below_drewN (Below.refl _ _) _))).mono ?_); rintro e v1 ⟨rfl, st⟩; have st : Below w1.heap.size w1 v1 := (by first | exact st | exact ((Below.refl _ _).drew).trans st | exact (below_drewN (Below.refl _ _) _).trans st); have H2 := Lib.hid (H1.out.call st); have F2 := Lib.hid (F1.out.trans (Fm.call st)); have OB2 := Lib.hid ((st.block ob (Array.getElem?_eq_some_iff.1 OB.out).1).trans OB.out); replace o0 := cellGr st o0; replace o1 := cellGr st o1; replace ct := cellGr st ct; replace cx := cellGr st cx; replace cm := cellGr st cm; replace ce := cellGr st ce; clear st))
        clear H1 F1 OB CD HD o0 o1 ct cx cm ce
        have co := H2.out.xo.cell
        have fo := H2.out.xO.frozen k
        have ci := H2.out.xO.cell (k := k) kn
        have H3 := Lib.hid (H2.out.setO GLh.out k q)
        have F3 := Lib.hid (F2.out.trans (Fm.set (M := PMod rb bl rt bx) ⟨rt, k, none⟩ (.int .i64 (q : Int)) (.inr (.inr (.inl rfl)))))
        have OB3 := Lib.hid (show (v1.setCell ⟨rt, k, none⟩ (.int .i64 (q : Int))).heap[ob]? = some (Obj.cells #[Value.int .i64 a, Value.int .i64 b] 66) from (Below.heap_setCell _ _ _ _ (by have := OL.out; dsimp only; omega)).trans OB2.out)
        clear H2 F2 OB2
        go_upto_region 10 with fail
        clear co fo ci
        generalize v1.setCell ⟨rt, k, none⟩ (.int .i64 (q : Int)) = v2 at *
        have o0 : v2.cell? ⟨ob, 0, none⟩ = some (.int .i64 a) := by have := OB3.out; simp [World.cell?, this]
        have o1 : v2.cell? ⟨ob, 1, none⟩ = some (.int .i64 b) := by have := OB3.out; simp [World.cell?, this]
        have ct := H3.out.xt.cell
        obtain ⟨xb, exb, ky, cx⟩ := (NB.out _ F3.out) k (by have := HN.out; omega)
        cases exb
        rw [TK.out] at cx
        obtain ⟨c0, c1, -⟩ := (H3.out.xs.boxes (m := 12) (Nat.le_refl _)) q q12
        have f0 := H3.out.xs.frozen (q * 2)
        have f1 := H3.out.xs.frozen (q * 2 + 1)
        have wb : IntKind.i64.wrap (b + 1) = b + 1 := wI rfl (by omega) (by omega)
        clear ky
        have H4 := Lib.hid (H3.out.setS GLh.out q y (b + 1))
        have F4 := Lib.hid (F3.out.trans ((Fm.set (M := PMod rb bl rt bx) ⟨bx, q * 2, none⟩ (.int .i64 y) (.inr (.inr (.inr rfl)))).trans (Fm.set (M := PMod rb bl rt bx) ⟨bx, q * 2 + 1, none⟩ (.int .i64 (b + 1)) (.inr (.inr (.inr rfl))))))
        have OB4 := Lib.hid (show ((v2.setCell ⟨bx, q * 2, none⟩ (.int .i64 y)).setCell ⟨bx, q * 2 + 1, none⟩ (.int .i64 (b + 1))).heap[ob]? = some (Obj.cells #[Value.int .i64 a, Value.int .i64 b] 66) from ((Below.heap_setCell _ _ _ _ (by have := OL.out; dsimp only; omega)).trans (Below.heap_setCell _ _ _ _ (by have := OL.out; dsimp only; omega))).trans OB3.out)
        clear H3 F3 OB3
        have nb1 : ob ≠ bx := by have := OL.out; omega
        have nb2 : bt ≠ bx := GLh.out.ne.1.2.2.2
        have nb3 : (xa.add k).block ≠ bx := by
          rw [addB]
          have l := GLh.out.lo
          have := XAB.out _ rfl
          omega
        go_cut [] from 58 to 70 (fun wx => Hid (PM bt bm be rb bb bl rt bo bx bg (some xa) n c mo ea wx L1 (nv B1) (upd O1 k q) (Sea.up s q (y, b + 1))) ∧ Hid (Fm (PMod rb bl rt bx) W wx) ∧ Hid (wx.heap[ob]? = some (Obj.cells #[Value.int .i64 a, Value.int .i64 b] 66)))
        case first =>
          go_region_held3 (fun w' => w'.cell? ⟨ob, 0, none⟩ = some (.int .i64 a) ∧ w'.cell? ⟨ob, 1, none⟩ = some (.int .i64 b) ∧ w'.cell? ⟨bt, 0, none⟩ = some (.slice (some xa) n c) ∧ w'.cell? (xa.add k) = some (.int .i64 t))
            (first | exact ⟨o0, o1, ct, cx⟩ | exact ⟨cellDr o0, cellDr o1, cellDr ct, cellDr cx⟩ | exact ⟨cellSt nb1 (cellSt nb1 o0), cellSt nb1 (cellSt nb1 o1), cellSt nb2 (cellSt nb2 ct), cellSt nb3 (cellSt nb3 cx)⟩ | exact ⟨cellSt nb1 (cellSt nb1 (cellDr o0)), cellSt nb1 (cellSt nb1 (cellDr o1)), cellSt nb2 (cellSt nb2 (cellDr ct)), cellSt nb3 (cellSt nb3 (cellDr cx))⟩)
            (first | fail)
          go_wp2_with fail
          go_meet
          exact ⟨(by first | exact H4 | exact Lib.hid (H4.out.call ((Below.refl _ _).drew)) | exact Lib.hid (H4.out.call (below_drewN (Below.refl _ _) _))), (by first | exact F4 | exact Lib.hid (F4.out.trans (Fm.call ((Below.refl _ _).drew))) | exact Lib.hid (F4.out.trans (Fm.call (below_drewN (Below.refl _ _) _)))), (by first | exact OB4 | exact Lib.hid OB4.out)⟩
        case rest =>
          obtain ⟨H5, F5, OB5⟩ := hcut
          clear H4 F4 OB4 o0 o1 ct cx c0 c1 f0 f1 wy wb
          have cg := H5.out.xg.cell
          have wk : IntKind.i64.wrap ((k : Int) + 1) = (k : Int) + 1 := IntWalk.i64_in _ (by omega)
          have wq : IntKind.i64.wrap ((q : Int) + 1) = (q : Int) + 1 := IntWalk.i64_in _ (by omega)
          have PO := Lib.hid (show ∀ j, j < k + 1 → upd O1 k q j = nv (P ++ [q]) j from fun j hj => by
            have lp := HP.out
            unfold upd
            by_cases e : j = k
            · subst e; rw [if_pos rfl]; simp [nv, lp]
            · rw [if_neg e, O1E.out j (by omega), HO.out j (by omega)]
              unfold nv
              rw [List.getD_eq_getElem?_getD, List.getD_eq_getElem?_getD, List.getElem?_append_left (by omega)])
          have SB := Lib.hid (HS.out.put q YB.out.1 YB.out.2)
          have CNP := Lib.hid (CN.out.put (b := q) (y := (y, b + 1)) (by omega) (by dsimp only; omega))
          by_cases hqu : q = u
          · subst hqu
            have d3 : decide ((q : Int) < (q : Int) + 1) = true := decide_eq_true (by omega)
            have d5 : (q : Int) < (q : Int) + 1 := by omega
            have CI := Lib.hid (fun W' g h => IH.out (q + 1) (P ++ [q]) L1 B1 (upd O1 k q) (Sea.up s q (y, b + 1)) W' (by simp; exact HP.out) g h PO.out SB.out (by have := CNP.out; rwa [show max _ (q + 1) = q + 1 from by omega] at this) (by omega))
            rw [show ((q + 1 : Nat) : Int) = (q : Int) + 1 from by omega] at CI
            go_wp2_with fail
            refine (CI.out _ H5.out (NB.out _ F5.out)).mono ?_
            rintro e w4 ⟨rfl, L2, B2, O3, g4, e4, r4, f4⟩
            have H6 := Lib.hid g4
            have F6 := Lib.hid (F5.out.trans f4)
            have R4 := Lib.hid r4
            have OB6 := Lib.hid ((f4.block ob (Array.getElem?_eq_some_iff.1 OB5.out).1 (by have := OL.out; unfold PMod; omega)).trans OB5.out)
            have OE3 := Lib.hid (show ∀ j, j < k → O3 j = O j from fun j hj => by
              rw [e4 j (by omega), ← O1E.out j hj]
              exact if_neg (by omega))
            have SR3 := Lib.hid (show Sea.Sr (Sea.addP mo ea) (Sea.cnt 12) (Sea.Can 12) 12 (· < q + 1) (t :: ts) s P L B L2 B2 from SR.out.call AD.out q12 R4.out)
            clear g4 e4 r4 f4 CI H5 F5 OB5 cg R4
            have o0 : w4.cell? ⟨ob, 0, none⟩ = some (.int .i64 a) := by have := OB6.out; simp [World.cell?, this]
            have o1 : w4.cell? ⟨ob, 1, none⟩ = some (.int .i64 b) := by have := OB6.out; simp [World.cell?, this]
            obtain ⟨c0, c1, -⟩ := (H6.out.xs.boxes (m := 12) (Nat.le_refl _)) q q12
            have f0 := H6.out.xs.frozen (q * 2)
            have f1 := H6.out.xs.frozen (q * 2 + 1)
            have H7 := Lib.hid ((H6.out.setS GLh.out q a b).ext (s' := s) (fun _ _ => rfl) (fun _ _ => rfl) (fun j _ => by
              unfold Sea.up
              by_cases e : j = q
              · rw [if_pos e, e, HAB.out]
              · rw [if_neg e, if_neg e]))
            have F7 := Lib.hid (F6.out.trans ((Fm.set (M := PMod rb bl rt bx) ⟨bx, q * 2, none⟩ (.int .i64 a) (.inr (.inr (.inr rfl)))).trans (Fm.set (M := PMod rb bl rt bx) ⟨bx, q * 2 + 1, none⟩ (.int .i64 b) (.inr (.inr (.inr rfl))))))
            clear H6 F6 OB6 SR
            go_wp2_with fail
            go_roundw
            case rel => exact ⟨q + 1, L2, B2, O3, by omega, by go_num, H7, OE3, SR3, F7⟩
            case measure => simp [intOf] <;> omega
          · have d3 : decide ((u : Int) < (q : Int) + 1) = false := decide_eq_false (by omega)
            have d5 : ¬ (u : Int) < (q : Int) + 1 := by omega
            clear hqu
            have CI := Lib.hid (fun W' g h => IH.out (u) (P ++ [q]) L1 B1 (upd O1 k q) (Sea.up s q (y, b + 1)) W' (by simp; exact HP.out) g h PO.out SB.out (by have := CNP.out; rwa [show max u (q + 1) = u from by omega] at this) (by omega))
            skip
            go_wp2_with fail
            refine (CI.out _ H5.out (NB.out _ F5.out)).mono ?_
            rintro e w4 ⟨rfl, L2, B2, O3, g4, e4, r4, f4⟩
            have H6 := Lib.hid g4
            have F6 := Lib.hid (F5.out.trans f4)
            have R4 := Lib.hid r4
            have OB6 := Lib.hid ((f4.block ob (Array.getElem?_eq_some_iff.1 OB5.out).1 (by have := OL.out; unfold PMod; omega)).trans OB5.out)
            have OE3 := Lib.hid (show ∀ j, j < k → O3 j = O j from fun j hj => by
              rw [e4 j (by omega), ← O1E.out j hj]
              exact if_neg (by omega))
            have SR3 := Lib.hid (show Sea.Sr (Sea.addP mo ea) (Sea.cnt 12) (Sea.Can 12) 12 (· < q + 1) (t :: ts) s P L B L2 B2 from SR.out.call AD.out q12 R4.out)
            clear g4 e4 r4 f4 CI H5 F5 OB5 cg R4
            have o0 : w4.cell? ⟨ob, 0, none⟩ = some (.int .i64 a) := by have := OB6.out; simp [World.cell?, this]
            have o1 : w4.cell? ⟨ob, 1, none⟩ = some (.int .i64 b) := by have := OB6.out; simp [World.cell?, this]
            obtain ⟨c0, c1, -⟩ := (H6.out.xs.boxes (m := 12) (Nat.le_refl _)) q q12
            have f0 := H6.out.xs.frozen (q * 2)
            have f1 := H6.out.xs.frozen (q * 2 + 1)
            have H7 := Lib.hid ((H6.out.setS GLh.out q a b).ext (s' := s) (fun _ _ => rfl) (fun _ _ => rfl) (fun j _ => by
              unfold Sea.up
              by_cases e : j = q
              · rw [if_pos e, e, HAB.out]
              · rw [if_neg e, if_neg e]))
            have F7 := Lib.hid (F6.out.trans ((Fm.set (M := PMod rb bl rt bx) ⟨bx, q * 2, none⟩ (.int .i64 a) (.inr (.inr (.inr rfl)))).trans (Fm.set (M := PMod rb bl rt bx) ⟨bx, q * 2 + 1, none⟩ (.int .i64 b) (.inr (.inr (.inr rfl))))))
            clear H6 F6 OB6 SR
            go_wp2_with fail
            go_roundw
            case rel => exact ⟨q + 1, L2, B2, O3, by omega, by go_num, H7, OE3, SR3, F7⟩
            case measure => simp [intOf] <;> omega
    · obtain rfl : q = u + 1 := by omega
      have QF := Lib.hid (QE.out wr L1 B1 O1 H.out O1E.out SR.out FM.out)
      go_wp2_with fail
      go_end0
      exact QF.out
end Go.Proofs.Ythbgeikdamajlab

/- Press: Pack. -/
namespace Go.Proofs.Ythbgeikdamajlab
open Go.RowKit Go.Proofs.Ythbgeikdamajlab.Prs Go.Proofs.Ythbgeikdamajlab.Stb
set_option linter.unusedVariables false
set_option linter.unusedSimpArgs false

theorem put_any {base bt bm be rb bb bl rt bo bx bg : Nat} (gl : PL base bt bm be rb bb bl rt bo bx bg) {p : Option Addr} {c : Nat} {mo ea : Int} {T : List Int} (hmo : 1 ≤ mo ∧ mo ≤ 1073741824) (hea : 1 ≤ ea ∧ ea ≤ 12) (h12 : T.length ≤ 12) (ok : ThOk T T.length) (hp : ∀ x, p = some x → 0 < T.length → x.block < base) :
    ∀ (ts : List Int) (k u : Nat) (P : List Nat) (L : Int) (B : List Nat) (O : Nat → Int) (s : Nat → Int × Int) (W : World), T.drop k = ts → k ≤ T.length → P.length = k → PM bt bm be rb bb bl rt bo bx bg p T.length c mo ea W L (nv B) O s → NumR W p T → (∀ j, j < k → O j = nv P j) → PB mo ea s → Sea.Cn s u → u ≤ k →
      Calls Try.prog 39 #[.int .i64 k, .int .i64 u, .pointer (some ⟨bl, 0, none⟩), .pointer (some ⟨bt, 0, none⟩), .pointer (some ⟨bb, 0, none⟩), .pointer (some ⟨bo, 0, none⟩), .pointer (some ⟨bx, 0, none⟩), .pointer (some ⟨bm, 0, none⟩), .pointer (some ⟨be, 0, none⟩), .pointer (some ⟨bg, 0, none⟩)] W (PQ bt bm be rb bb bl rt bo bx bg p T.length c k mo ea ts P L B O s W)
  | [], k, u, P, L, B, O, s, W, hT, hk, hP, h, nr, hO, hs, cn, hu => by
    by_cases hx : L ≤ u
    · exact put_prune h cn (by omega) hx
    · have e : k = T.length := by
        apply Classical.byContradiction; intro g
        have := List.drop_eq_nil_iff.1 hT
        omega
      subst e
      exact put_leaf gl h hP hO cn (by omega) (by omega)
  | t :: ts, k, u, P, L, B, O, s, W, hT, hk, hP, h, nr, hO, hs, cn, hu => by
    by_cases hx : L ≤ u
    · exact put_prune h cn (by omega) hx
    · have kn : k < T.length := by
        apply Classical.byContradiction; intro g
        rw [List.drop_of_length_le (by omega)] at hT; cases hT
      refine put_step gl hmo hea h12 ok hp t ts k u P L B O s W hT hP h nr hO hs cn hu (by omega) ?_
      intro u' P' L' B' O' s' W' hP' h' nr' hO' hs' cn' hu'
      have e : T.drop (k + 1) = ts := by
        rw [List.drop_eq_getElem_cons kn] at hT
        exact (List.cons.inj hT).2
      have := put_any gl hmo hea h12 ok hp ts (k + 1) u' P' L' B' O' s' W' e (by omega) hP' h' nr' hO' hs' cn' hu'
      exact this

/-- What Pack answers. -/
def PaQ (T : List Int) (mo ea : Int) (w : World) (e : Ending) (w' : World) : Prop := ∃ x v L, e = .returned (.tuple #[v, .int .i64 L, .int .i64 x]) ∧ PErr T mo ea x ∧ Below w.heap.size w w' ∧ (x ≠ 0 → v = .slice none 0 0 ∧ L = 0) ∧
  (x = 0 → ∃ b E, v = .slice (some ⟨b, 0, none⟩) T.length T.length ∧ w.heap.size ≤ b ∧ NumR w' (some ⟨b, 0, none⟩) ((List.range T.length).map (nv E)) ∧ E.length = T.length ∧ Sea.BestP mo ea 12 T L E)
/-- The row, its box and the box of the least, made in any order. -/
structure Mk4 (w wx : World) (n : Nat) (L : Int) (rb bb bl : Nat) : Prop where
  i1 : IR wx rb 3 n (fun _ => 0)
  i2 : BX wx bb 25 (.slice (some ⟨rb, 0, none⟩) n n)
  i3 : BX wx bl 3 (.int .i64 L)
  st : Below w.heap.size w wx
  lo : w.heap.size ≤ rb ∧ w.heap.size ≤ bb ∧ w.heap.size ≤ bl
  ne : bb ≠ rb ∧ bb ≠ bl ∧ rb ≠ bl

theorem kA {W : World} {o : Obj} {a : Addr} {v : Value} (h : W.drew.cell? a = some v) : (W.alloc o).drew.cell? a = some v :=
  (World.cell?_alloc_some W a o (by rw [show W.cell? a = some v from h]; rfl)).trans h
/-- Three made one behind the other. -/
theorem three (w : World) (o1 o2 o3 : Obj) : (((w.alloc o1).alloc o2).alloc o3).heap[w.heap.size]? = some o1 ∧ (((w.alloc o1).alloc o2).alloc o3).heap[w.heap.size + 1]? = some o2 ∧ (((w.alloc o1).alloc o2).alloc o3).heap[w.heap.size + 1 + 1]? = some o3 ∧ Below w.heap.size w (((w.alloc o1).alloc o2).alloc o3) ∧ (((w.alloc o1).alloc o2).alloc o3).heap.size = w.heap.size + 3 := by
  refine ⟨?_, ?_, ?_, (((Below.refl _ w).alloc (Nat.le_refl _) _).alloc (by simp) _).alloc (by simp; omega) _, by simp⟩
  · rw [Below.heap_alloc _ _ _ (by simp; omega), Below.heap_alloc _ _ _ (by simp), heap_alloc_new]
  · rw [Below.heap_alloc _ _ _ (by simp)]
    have := heap_alloc_new (w.alloc o1) o2
    simpa using this
  · have := heap_alloc_new ((w.alloc o1).alloc o2) o3
    simpa using this
theorem Mk4.of {w wx : World} {n : Nat} {L : Int} {rb bb bl : Nat} (i2 : wx.heap[bb]? = some (.cells #[.slice (some ⟨rb, 0, none⟩) n n] 25)) (i3 : wx.heap[bl]? = some (.cells #[.int .i64 L] 3)) (i1 : wx.heap[rb]? = some (.cells (madeCells #[Value.int .i64 0] n) 3)) (st : Below w.heap.size w wx) (lo : w.heap.size ≤ rb ∧ w.heap.size ≤ bb ∧ w.heap.size ≤ bl) (ne : bb ≠ rb ∧ bb ≠ bl ∧ rb ≠ bl) : Mk4 w wx n L rb bb bl :=
  ⟨by
    unfold IR
    rw [i1]
    have := made_ints n
    rw [Nat.mul_one, show (Value.int .i64 0).cells = #[.int .i64 0] from rfl] at this
    rw [← this], i2, i3, st, lo, ne⟩

set_option maxRecDepth 100000 in
set_option maxHeartbeats 8000000 in
theorem Pack_any (p : Option Addr) (c : Nat) (T : List Int) (mo ea : Int) (w : World) (r : NumR w p T) (ln : T.length ≤ 9223372036854775807) :
    Calls Try.prog 17 #[.slice p T.length c, .int .i64 mo, .int .i64 ea] w (PaQ T mo ea w) := by
  obtain ⟨i0, hi, hz0, hz1, hz2⟩ := info_parts intInfo
  have R := Lib.hid r
  have CT := Lib.hid (fun W (st : Below w.heap.size w W) => checkThings_any p c T mo ea W (r.below st) ln)
  have QE := Lib.hid (show ∀ x w', PErr T mo ea x → x ≠ 0 → Below w.heap.size w w' → PaQ T mo ea w (.returned (.tuple #[.slice none 0 0, .int .i64 0, .int .i64 x])) w' from fun x w' h g B => ⟨x, _, 0, rfl, h, B, fun _ => ⟨rfl, rfl⟩, fun e => absurd e g⟩)
  obtain ⟨n, hn⟩ : ∃ n, n = T.length := ⟨_, rfl⟩
  rw [← hn] at ln CT ⊢
  have HN := Lib.hid hn
  clear hn r
  have X0 := Lib.hid (show BX (((w.alloc (Obj.cells #[Value.slice p n c] 25)).alloc (Obj.cells #[Value.int .i64 mo] 3)).alloc (Obj.cells #[Value.int .i64 ea] 3)) w.heap.size 25 (.slice p n c) ∧ BX (((w.alloc (Obj.cells #[Value.slice p n c] 25)).alloc (Obj.cells #[Value.int .i64 mo] 3)).alloc (Obj.cells #[Value.int .i64 ea] 3)) (w.heap.size + 1) 3 (.int .i64 mo) ∧ BX (((w.alloc (Obj.cells #[Value.slice p n c] 25)).alloc (Obj.cells #[Value.int .i64 mo] 3)).alloc (Obj.cells #[Value.int .i64 ea] 3)) (w.heap.size + 1 + 1) 3 (.int .i64 ea) ∧ Below w.heap.size w (((w.alloc (Obj.cells #[Value.slice p n c] 25)).alloc (Obj.cells #[Value.int .i64 mo] 3)).alloc (Obj.cells #[Value.int .i64 ea] 3)) ∧ (((w.alloc (Obj.cells #[Value.slice p n c] 25)).alloc (Obj.cells #[Value.int .i64 mo] 3)).alloc (Obj.cells #[Value.int .i64 ea] 3)).heap.size = w.heap.size + 3 from by
    refine ⟨?_, ?_, ?_, (((Below.refl _ w).alloc (Nat.le_refl _) _).alloc (by simp) _).alloc (by simp; omega) _, by simp⟩
    · unfold BX
      rw [Below.heap_alloc _ _ _ (by simp; omega), heap_alloc2_old]
    · unfold BX
      rw [Below.heap_alloc _ _ _ (by simp), heap_alloc2_new]
    · unfold BX
      have := heap_alloc_new ((w.alloc (Obj.cells #[Value.slice p n c] 25)).alloc (Obj.cells #[Value.int .i64 mo] 3)) (Obj.cells #[Value.int .i64 ea] 3)
      simpa using this)
  go_enter Try.func17, Try.ntmps17
  go_upto_region 1 with fail
  generalize (((w.alloc (Obj.cells #[Value.slice p n c] 25)).alloc (Obj.cells #[Value.int .i64 mo] 3)).alloc (Obj.cells #[Value.int .i64 ea] 3)) = w1 at *
  have ct := X0.out.1.cell
  have cm := X0.out.2.1.cell
  have ce := X0.out.2.2.1.cell
  go_wp2_with fail
  refine (CT.out w1 X0.out.2.2.2.1).mono ?_
  rintro e w2 ⟨x, rfl, TE, st⟩
  have TE := Lib.hid TE
  have X1 := Lib.hid (show BX w2 w.heap.size 25 (.slice p n c) ∧ BX w2 (w.heap.size + 1) 3 (.int .i64 mo) ∧ BX w2 (w.heap.size + 1 + 1) 3 (.int .i64 ea) ∧ Below w.heap.size w w2 ∧ w.heap.size + 3 ≤ w2.heap.size from
    ⟨X0.out.1.keep (st.block _ X0.out.1.lt), X0.out.2.1.keep (st.block _ X0.out.2.1.lt), X0.out.2.2.1.keep (st.block _ X0.out.2.2.1.lt), X0.out.2.2.2.1.trans (st.mono X0.out.2.2.2.1.size), by have := st.size; have := X0.out.2.2.2.2; omega⟩)
  clear st X0 CT ct cm ce
  by_cases x0 : x = 0
  case neg =>
    have x1 : (x == 0) = false := by simpa using x0
    have x2 : decide (x = 0) = false := decide_eq_false x0
    have FF := Lib.hid (QE.out x w2 TE.out x0 X1.out.2.2.2.1)
    clear x0 QE
    go_wp2_with fail
    go_returns
    exact FF.out
  subst x0
  have ct := X1.out.1.cell
  obtain ⟨n12, ⟨mo1, mo2, ea1, ea2, tok⟩, fit⟩ := TE.out.good
  rw [← HN.out] at n12
  have TOK := Lib.hid tok
  have FIT := Lib.hid fit
  clear tok fit QE
  have wn : IntKind.i64.wrap ((n : Int) + 1) = (n : Int) + 1 := wI rfl (by omega) (by omega)
  obtain ⟨bt, hbt⟩ : ∃ b, b = w.heap.size := ⟨_, rfl⟩
  rw [← hbt] at X1 ct ⊢
  have HBT := Lib.hid hbt
  clear hbt
  have ltb : bt < w2.heap.size := X1.out.1.lt
  go_upto_region 4 with fail
  go_cut [10, 11] from 22 to 27 (fun bbv blv wx => ∃ rb bb bl, bbv = .pointer (some ⟨bb, 0, none⟩) ∧ blv = .pointer (some ⟨bl, 0, none⟩) ∧ Hid (Mk4 w2 wx n (n + 1) rb bb bl))
  case first =>
    have MK : ∀ W : World, (Instr.makeSlice 25 (.int .i64 (n : Int)) (.int .i64 (n : Int))).run Try.prog W = .ok (.slice (some ⟨W.heap.size, 0, none⟩) n n) (W.alloc (.cells (madeCells (Value.int .i64 0).cells (n * 1)) 3)) := fun W => by
      have := run_make (P := Try.prog) W 25 3 i0 (.int .i64 0) Try.underlying25 hi hz0 .i64 .i64 n n (by omega) (Int.le_refl _) (by rw [hz2]; omega) (by omega)
      rw [hz1] at this
      simpa using this
    go_region_held3 (fun w' => w'.cell? ⟨bt, 0, none⟩ = some (.slice p n c)) (first | exact ct | exact kA ct | exact kA (kA ct) | exact kA (kA (kA ct))) (fail)
    all_goals
      go_wp2_with fail
      go_meet
      refine' ⟨_, _, _, rfl, rfl, Lib.hid (Mk4.of ?i2 ?i3 ?i1 ?st ?lo ?ne)⟩
      case i2 => first | exact (three _ _ _ _).1 | exact (three _ _ _ _).2.1 | exact (three _ _ _ _).2.2.1
      case i3 => first | exact (three _ _ _ _).1 | exact (three _ _ _ _).2.1 | exact (three _ _ _ _).2.2.1
      case i1 => first | exact (three _ _ _ _).1 | exact (three _ _ _ _).2.1 | exact (three _ _ _ _).2.2.1
      case st => first | exact (three _ _ _ _).2.2.2.1.drew | exact below_drewN (three _ _ _ _).2.2.2.1 _
      case lo => omega
      case ne => omega
  case rest =>
    obtain ⟨rb, bb, bl, rfl, rfl, M4⟩ := hcut
    have X4 := Lib.hid (show BX wc bt 25 (.slice p n c) ∧ BX wc (bt + 1) 3 (.int .i64 mo) ∧ BX wc (bt + 1 + 1) 3 (.int .i64 ea) ∧ bt < wc.heap.size from
      ⟨X1.out.1.keep (M4.out.st.block _ X1.out.1.lt), X1.out.2.1.keep (M4.out.st.block _ X1.out.2.1.lt), X1.out.2.2.1.keep (M4.out.st.block _ X1.out.2.2.1.lt), Nat.lt_of_lt_of_le ltb M4.out.st.size⟩)
    have HS := Lib.hid (show bt + 3 ≤ w2.heap.size ∧ w2.heap.size ≤ rb ∧ w2.heap.size ≤ bb ∧ w2.heap.size ≤ bl ∧ rb < wc.heap.size ∧ bb < wc.heap.size ∧ bl < wc.heap.size ∧ (bb ≠ rb ∧ bb ≠ bl ∧ rb ≠ bl) from
      ⟨X1.out.2.2.2.2, M4.out.lo.1, M4.out.lo.2.1, M4.out.lo.2.2, M4.out.i1.lt, M4.out.i2.lt, M4.out.i3.lt, M4.out.ne⟩)
    have BX4 := Lib.hid (show Below bt w wc from X1.out.2.2.2.1.trans (M4.out.st.mono (by have := HS.out; omega)))
    clear ct ltb X1 wn
    have ct := X4.out.1.cell
    go_upto_region 6 with (first
      | (at_make; refine wpList_make_full _ rfl _ _ 25 rfl wc.heap.size 3 i0 (.int .i64 0) 1 Try.underlying25 hi hz0 hz1 .i64 .i64 _ _ n rfl rfl (by omega) (by omega) (by rw [hz2]; omega) (by unfold maxLen; omega) (Nat.le_refl _) ?_; intro w5 hown0 hgrow0))
    rw [made_ints] at hown0
    have I5 := Lib.hid (IR.of hown0)
    have B5 := Lib.hid (show Below wc.heap.size wc w5 from (Below.refl _ _).grown hgrow0 (Nat.le_refl _) (fun k e => by cases e))
    clear hown0 hgrow0
    go_upto_region 8 with fail
    have HZ := Lib.hid (show wc.heap.size < w5.heap.size from I5.out.lt)
    have K7 := Lib.hid (show (∀ q, q < w5.heap.size → (((w5.alloc (Obj.cells #[Value.slice (some ⟨wc.heap.size, 0, none⟩) n n] 25)).alloc (Obj.cells #[Value.int .i64 0, Value.int .i64 0, Value.int .i64 0, Value.int .i64 0, Value.int .i64 0, Value.int .i64 0, Value.int .i64 0, Value.int .i64 0, Value.int .i64 0, Value.int .i64 0, Value.int .i64 0, Value.int .i64 0, Value.int .i64 0, Value.int .i64 0, Value.int .i64 0, Value.int .i64 0, Value.int .i64 0, Value.int .i64 0, Value.int .i64 0, Value.int .i64 0, Value.int .i64 0, Value.int .i64 0, Value.int .i64 0, Value.int .i64 0] 67)).alloc (Obj.cells #[Value.nilFunc] 61)).heap[q]? = w5.heap[q]?) ∧ BX (((w5.alloc (Obj.cells #[Value.slice (some ⟨wc.heap.size, 0, none⟩) n n] 25)).alloc (Obj.cells #[Value.int .i64 0, Value.int .i64 0, Value.int .i64 0, Value.int .i64 0, Value.int .i64 0, Value.int .i64 0, Value.int .i64 0, Value.int .i64 0, Value.int .i64 0, Value.int .i64 0, Value.int .i64 0, Value.int .i64 0, Value.int .i64 0, Value.int .i64 0, Value.int .i64 0, Value.int .i64 0, Value.int .i64 0, Value.int .i64 0, Value.int .i64 0, Value.int .i64 0, Value.int .i64 0, Value.int .i64 0, Value.int .i64 0, Value.int .i64 0] 67)).alloc (Obj.cells #[Value.nilFunc] 61)) w5.heap.size 25 (.slice (some ⟨wc.heap.size, 0, none⟩) n n) ∧ IR (((w5.alloc (Obj.cells #[Value.slice (some ⟨wc.heap.size, 0, none⟩) n n] 25)).alloc (Obj.cells #[Value.int .i64 0, Value.int .i64 0, Value.int .i64 0, Value.int .i64 0, Value.int .i64 0, Value.int .i64 0, Value.int .i64 0, Value.int .i64 0, Value.int .i64 0, Value.int .i64 0, Value.int .i64 0, Value.int .i64 0, Value.int .i64 0, Value.int .i64 0, Value.int .i64 0, Value.int .i64 0, Value.int .i64 0, Value.int .i64 0, Value.int .i64 0, Value.int .i64 0, Value.int .i64 0, Value.int .i64 0, Value.int .i64 0, Value.int .i64 0] 67)).alloc (Obj.cells #[Value.nilFunc] 61)) (w5.heap.size + 1) 67 24 (flat fun _ => (0, 0)) ∧ BX (((w5.alloc (Obj.cells #[Value.slice (some ⟨wc.heap.size, 0, none⟩) n n] 25)).alloc (Obj.cells #[Value.int .i64 0, Value.int .i64 0, Value.int .i64 0, Value.int .i64 0, Value.int .i64 0, Value.int .i64 0, Value.int .i64 0, Value.int .i64 0, Value.int .i64 0, Value.int .i64 0, Value.int .i64 0, Value.int .i64 0, Value.int .i64 0, Value.int .i64 0, Value.int .i64 0, Value.int .i64 0, Value.int .i64 0, Value.int .i64 0, Value.int .i64 0, Value.int .i64 0, Value.int .i64 0, Value.int .i64 0, Value.int .i64 0, Value.int .i64 0] 67)).alloc (Obj.cells #[Value.nilFunc] 61)) (w5.heap.size + 1 + 1) 61 .nilFunc ∧ Below w5.heap.size w5 (((w5.alloc (Obj.cells #[Value.slice (some ⟨wc.heap.size, 0, none⟩) n n] 25)).alloc (Obj.cells #[Value.int .i64 0, Value.int .i64 0, Value.int .i64 0, Value.int .i64 0, Value.int .i64 0, Value.int .i64 0, Value.int .i64 0, Value.int .i64 0, Value.int .i64 0, Value.int .i64 0, Value.int .i64 0, Value.int .i64 0, Value.int .i64 0, Value.int .i64 0, Value.int .i64 0, Value.int .i64 0, Value.int .i64 0, Value.int .i64 0, Value.int .i64 0, Value.int .i64 0, Value.int .i64 0, Value.int .i64 0, Value.int .i64 0, Value.int .i64 0] 67)).alloc (Obj.cells #[Value.nilFunc] 61)) ∧ (((w5.alloc (Obj.cells #[Value.slice (some ⟨wc.heap.size, 0, none⟩) n n] 25)).alloc (Obj.cells #[Value.int .i64 0, Value.int .i64 0, Value.int .i64 0, Value.int .i64 0, Value.int .i64 0, Value.int .i64 0, Value.int .i64 0, Value.int .i64 0, Value.int .i64 0, Value.int .i64 0, Value.int .i64 0, Value.int .i64 0, Value.int .i64 0, Value.int .i64 0, Value.int .i64 0, Value.int .i64 0, Value.int .i64 0, Value.int .i64 0, Value.int .i64 0, Value.int .i64 0, Value.int .i64 0, Value.int .i64 0, Value.int .i64 0, Value.int .i64 0] 67)).alloc (Obj.cells #[Value.nilFunc] 61)).heap.size = w5.heap.size + 3 from by
      obtain ⟨t1, t2, t3, t4, t5⟩ := three w5 (Obj.cells #[Value.slice (some ⟨wc.heap.size, 0, none⟩) n n] 25) (Obj.cells #[Value.int .i64 0, Value.int .i64 0, Value.int .i64 0, Value.int .i64 0, Value.int .i64 0, Value.int .i64 0, Value.int .i64 0, Value.int .i64 0, Value.int .i64 0, Value.int .i64 0, Value.int .i64 0, Value.int .i64 0, Value.int .i64 0, Value.int .i64 0, Value.int .i64 0, Value.int .i64 0, Value.int .i64 0, Value.int .i64 0, Value.int .i64 0, Value.int .i64 0, Value.int .i64 0, Value.int .i64 0, Value.int .i64 0, Value.int .i64 0] 67) (Obj.cells #[Value.nilFunc] 61)
      exact ⟨fun q hq => t4.block q hq, t1, t2, t3, t4, t5⟩)
    generalize (((w5.alloc (Obj.cells #[Value.slice (some ⟨wc.heap.size, 0, none⟩) n n] 25)).alloc (Obj.cells #[Value.int .i64 0, Value.int .i64 0, Value.int .i64 0, Value.int .i64 0, Value.int .i64 0, Value.int .i64 0, Value.int .i64 0, Value.int .i64 0, Value.int .i64 0, Value.int .i64 0, Value.int .i64 0, Value.int .i64 0, Value.int .i64 0, Value.int .i64 0, Value.int .i64 0, Value.int .i64 0, Value.int .i64 0, Value.int .i64 0, Value.int .i64 0, Value.int .i64 0, Value.int .i64 0, Value.int .i64 0, Value.int .i64 0, Value.int .i64 0] 67)).alloc (Obj.cells #[Value.nilFunc] 61)) = w7 at *
    have X7 := Lib.hid (show BX w7 bt 25 (.slice p n c) ∧ BX w7 (bt + 1) 3 (.int .i64 mo) ∧ BX w7 (bt + 1 + 1) 3 (.int .i64 ea) ∧ IR w7 rb 3 n (fun _ => 0) ∧ BX w7 bb 25 (.slice (some ⟨rb, 0, none⟩) n n) ∧ BX w7 bl 3 (.int .i64 (n + 1)) ∧ IR w7 wc.heap.size 3 n (fun _ => 0) from by
      have k : ∀ q, q < wc.heap.size → w7.heap[q]? = wc.heap[q]? := fun q hq => (K7.out.1 q (Nat.lt_trans hq HZ.out)).trans (B5.out.block q hq)
      exact ⟨X4.out.1.keep (k _ X4.out.1.lt), X4.out.2.1.keep (k _ X4.out.2.1.lt), X4.out.2.2.1.keep (k _ X4.out.2.2.1.lt), M4.out.i1.keep (k _ M4.out.i1.lt), M4.out.i2.keep (k _ M4.out.i2.lt), M4.out.i3.keep (k _ M4.out.i3.lt), I5.out.keep (K7.out.1 _ I5.out.lt)⟩)
    have B7 := Lib.hid (show Below bt w w7 from by
      have h2 := HS.out
      have h3 := HZ.out
      exact (BX4.out.trans (B5.out.mono (by omega))).trans (K7.out.2.2.2.2.1.mono (by omega)))
    clear X4 ct I5 B5 BX4 M4
    obtain ⟨rt, hrt⟩ : ∃ b, b = wc.heap.size := ⟨_, rfl⟩
    obtain ⟨bo, hbo⟩ : ∃ b, b = w5.heap.size := ⟨_, rfl⟩
    rw [← hrt] at HS HZ X7 K7 ⊢
    rw [← hbo] at HZ K7 ⊢
    clear hrt hbo
    have GLh := Lib.hid (show PL bt bt (bt + 1) (bt + 1 + 1) rb bb bl rt bo (bo + 1) (bo + 1 + 1) from by
      obtain ⟨h1, h2, h3, h4, h5, h6, h7, h8, h9, h10⟩ := HS.out
      have hz := HZ.out
      refine ⟨⟨⟨?_, ?_, ?_, ?_⟩, ⟨?_, ?_, ?_, ?_⟩, ⟨?_, ?_, ?_, ?_⟩, ⟨?_, ?_, ?_, ?_⟩, ⟨?_, ?_, ?_, ?_⟩, ⟨?_, ?_, ?_, ?_⟩, ⟨?_, ?_, ?_⟩, ⟨?_, ?_⟩, ?_⟩, ?_, ?_, ?_, ?_⟩ <;> omega)
    obtain ⟨F, hF⟩ : ∃ F, F = Value.func (.func 39) #[] #[.pointer (some ⟨bl, 0, none⟩), .pointer (some ⟨bt, 0, none⟩), .pointer (some ⟨bb, 0, none⟩), .pointer (some ⟨bo, 0, none⟩), .pointer (some ⟨bo + 1, 0, none⟩), .pointer (some ⟨bt + 1, 0, none⟩), .pointer (some ⟨bt + 1 + 1, 0, none⟩), .pointer (some ⟨bo + 1 + 1, 0, none⟩)] := ⟨_, rfl⟩
    have st8 : (store ⟨bo + 1 + 1, 0, none⟩ (Value.func (.func 39) #[] #[.pointer (some ⟨bl, 0, none⟩), .pointer (some ⟨bt, 0, none⟩), .pointer (some ⟨bb, 0, none⟩), .pointer (some ⟨bo, 0, none⟩), .pointer (some ⟨bo + 1, 0, none⟩), .pointer (some ⟨bt + 1, 0, none⟩), .pointer (some ⟨bt + 1 + 1, 0, none⟩), .pointer (some ⟨bo + 1 + 1, 0, none⟩)]) .plain).run Try.prog w7 = .ok () (w7.setCell ⟨bo + 1 + 1, 0, none⟩ F) := by
      rw [← hF]
      exact store_one' (by rw [hF]; rfl) w7 _ (by rw [K7.out.2.2.2.1.cell]; rfl) K7.out.2.2.2.1.frozen
    have G8 := Lib.hid (show PM bt (bt + 1) (bt + 1 + 1) rb bb bl rt bo (bo + 1) (bo + 1 + 1) p n c mo ea (w7.setCell ⟨bo + 1 + 1, 0, none⟩ F) (n + 1) (nv []) (fun _ => 0) (fun _ => (0, 0)) from by
      obtain ⟨h1, h2, h3, h4, h5, h6, h7, h8, h9, h10⟩ := HS.out
      have hz := HZ.out
      have k : ∀ q, q ≠ bo + 1 + 1 → (w7.setCell ⟨bo + 1 + 1, 0, none⟩ F).heap[q]? = w7.heap[q]? := fun q hq => Below.heap_setCell _ _ _ _ hq
      obtain ⟨x1, x2, x3, x4, x5, x6, x7⟩ := X7.out
      obtain ⟨-, y1, y2, y3, -, -⟩ := K7.out
      exact ⟨x1.keep (k _ (by omega)), x2.keep (k _ (by omega)), x3.keep (k _ (by omega)), (x4.keep (k _ (by omega))).ext (fun _ _ => rfl), x5.keep (k _ (by omega)), x6.keep (k _ (by omega)), x7.keep (k _ (by omega)), y1.keep (k _ (by omega)), y2.keep (k _ (by omega)), by rw [← hF]; exact y3.set F⟩)
    have B8 := Lib.hid (show Below bt w (w7.setCell ⟨bo + 1 + 1, 0, none⟩ F) from B7.out.setCell (by have h2 := HS.out; have h3 := HZ.out; show bt ≤ bo + 1 + 1; omega) _)
    have Z8 : bt < (w7.setCell ⟨bo + 1 + 1, 0, none⟩ F).heap.size := G8.out.xt.lt
    clear X7 K7 B7
    go_upto_region 9 with fail
    clear st8
    rw [← hF]
    generalize w7.setCell ⟨bo + 1 + 1, 0, none⟩ F = w8 at *
    have cg := G8.out.xg.cell
    have hp := Lib.hid (show ∀ x, p = some x → 0 < T.length → x.block < bt from fun x e h0 => by
      obtain ⟨y, e', k, _⟩ := R.out 0 h0
      rw [e] at e'; cases e'; rw [HBT.out]; exact k)
    have RT := Lib.hid (R.out.below (by rw [HBT.out] at B8; exact B8.out))
    have CN0 := Lib.hid (show Sea.Cn (fun _ => ((0 : Int), (0 : Int))) 0 from ⟨fun b hb => by omega, fun _ _ => rfl⟩)
    have PB0 := Lib.hid (show PB mo ea (fun _ => ((0 : Int), (0 : Int))) from fun b _ => ⟨⟨Int.le_refl _, by dsimp only; omega⟩, Int.le_refl _, by dsimp only; omega⟩)
    have GC := Lib.hid (put_any GLh.out ⟨mo1, mo2⟩ ⟨ea1, ea2⟩ (by rw [← HN.out]; exact n12) TOK.out hp.out T 0 0 [] (n + 1) [] (fun _ => 0) (fun _ => (0, 0)) w8 rfl (Nat.zero_le _) rfl (by rw [← HN.out]; exact G8.out) RT.out (fun j hj => by omega) PB0.out CN0.out (Nat.le_refl _))
    rw [← HN.out] at GC
    have SX := Lib.hid (Sea.pack_ex (ts := T) (M := 12) (most := mo) (each := ea) (by rw [← HN.out]; exact n12) (fun t ht => by obtain ⟨i, hi, e⟩ := mem_gi ht; rw [← e]; exact FIT.out i hi) ea1)
    rw [← HN.out] at SX
    clear hF RT hp G8 CN0 PB0
    go_wp2_with fail
    refine (GC.out).mono ?_
    rintro e w9 ⟨rfl, L, E, O', g9, -, sr, f9⟩
    have G9 := Lib.hid g9
    have BS := Lib.hid (show Sea.BestP mo ea 12 T L E from sr.best SX.out)
    have B9 := Lib.hid (show Below w.heap.size w w9 from by
      rw [← HBT.out]
      exact B8.out.trans ⟨f9.os, f9.tape, f9.output, f9.size, fun k hk => f9.block k (by omega) (GLh.out.mod hk)⟩)
    have FF := Lib.hid (show ∀ k, PaQ T mo ea w (.returned (.tuple #[.slice (some ⟨rb, 0, none⟩) n n, .int .i64 L, .int .i64 0])) (w9.drewN k) from fun k =>
      ⟨0, _, L, rfl, TE.out, below_drewN B9.out _, fun h => absurd rfl h, fun _ => ⟨rb, E, by rw [HN.out], by rw [← HBT.out]; have := HS.out; omega, by rw [← HN.out]; exact (show IR (w9.drewN k) rb 3 n (nv E) from G9.out.xB).num (Nat.le_refl _), by
        obtain ⟨s', fs, _⟩ := BS.out.fin_
        exact Sea.fin_len fs, BS.out⟩⟩)
    have cb := G9.out.xb.cell
    have cl := G9.out.xl.cell
    clear g9 sr f9 GC SX BS cg B8 Z8
    go_wp2_with fail
    go_quiet (fail)
    go_wp2_with fail
    go_returns
    exact FF.out _
end Go.Proofs.Ythbgeikdamajlab
