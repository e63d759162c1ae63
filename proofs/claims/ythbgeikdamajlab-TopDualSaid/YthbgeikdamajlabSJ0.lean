/- Press: rows and boxes in memory; slices.Index, slices.Contains; checkTimes. -/
import Derived.Test.YthbgeikdamajlabPC9
import Derived.Test.YthbgeikdamajlabSH3
import Derived.Laws.CopyOwn
namespace Go.Proofs.Ythbgeikdamajlab
open Go.RowKit Go.Proofs.Ythbgeikdamajlab.Prs Go.Proofs.Ythbgeikdamajlab.Stb
set_option linter.unusedVariables false
set_option linter.unusedSimpArgs false

theorem gi_mem {H : List Int} {i : Nat} (h : i < H.length) : gi H i ∈ H := by
  unfold gi; rw [List.getElem?_eq_getElem h]; exact List.getElem_mem h
theorem mem_gi {H : List Int} {v : Int} (h : v ∈ H) : ∃ i, i < H.length ∧ gi H i = v := by
  obtain ⟨i, hi, e⟩ := List.mem_iff_getElem.1 h
  exact ⟨i, hi, by unfold gi; rw [List.getElem?_eq_getElem hi]; exact e⟩
set_option maxRecDepth 100000 in
set_option maxHeartbeats 4000000 in
theorem index_any (p : Option Addr) (c : Nat) (H : List Int) (v : Int) (w : World) (r : NumR w p H) (ln : H.length ≤ 1000000) :
    Calls Try.prog 35 #[.slice p H.length c, .int .i64 v] w fun e w' => ∃ x, e = .returned (.int .i64 x) ∧ ((x = -1 ∧ v ∉ H) ∨ (0 ≤ x ∧ v ∈ H)) ∧ Below w.heap.size w w' := by
  have R := Lib.hid r
  have HM := Lib.hid (fun i (hi : i < H.length) => gi_mem hi)
  have HG := Lib.hid (fun (h : v ∈ H) => mem_gi h)
  obtain ⟨n, hn⟩ : ∃ n, n = H.length := ⟨_, rfl⟩
  rw [← hn] at ln HM HG ⊢
  have HN := Lib.hid hn
  clear hn r
  go_enter Try.func35, Try.ntmps35
  go_wp2_with fail
  go_loopw [8] (fun kv wr => ∃ i : Nat, i ≤ n ∧ kv = .int .i64 i ∧ Hid (∀ j, j < i → gi H j ≠ v) ∧ Hid (Below w.heap.size w wr)) (fun kv _ => n - (intOf kv).toNat)
  case atStart => exact ⟨0, Nat.zero_le _, rfl, Lib.hid fun j h => absurd h (by omega), Lib.hid (Below.refl _ _)⟩
  case round =>
    obtain ⟨i, hi, rfl, HO, HB⟩ := hrel
    by_cases t2 : i < n
    · obtain ⟨x, rfl, kx, cx⟩ := (R.out.below HB.out) i (by have := HN.out; omega)
      have i1 : (0 : Int) ≤ (i : Int) := by omega
      have i2 : (i : Int) < (n : Int) := by omega
      have MI := Lib.hid (HM.out i t2)
      have SX := Lib.hid (show gi H i ≠ v → ∀ j, j < i + 1 → gi H j ≠ v from fun h j hj => by
          by_cases e : j = i
          · subst e; exact h
          · exact HO.out j (by omega))
      clear HO kx
      generalize gi H i = P at *
      by_cases hp : P = v
      · have MV := Lib.hid (hp ▸ MI.out)
        have eb : (v == P) = true := by simp [hp]
        clear hp SX MI HM HG
        go_wp2_with fail
        try (go_quiet (fail))
        try (go_wp2_with fail)
        go_ret
        exact ⟨i, rfl, .inr ⟨i1, MV.out⟩, (by first | exact HB.out | exact HB.out.drew | exact below_drewN HB.out _)⟩
      · have SN := Lib.hid (SX.out hp)
        have eb : (v == P) = false := by
          rw [beq_eq_false_iff_ne]; exact fun e => hp e.symm
        clear hp SX MI HM HG
        go_wp2_with fail
        try (go_quiet (fail))
        try (go_wp2_with fail)
        go_roundw
        case rel => exact ⟨i + 1, by omega, by go_num, SN, (by first | exact HB | exact Lib.hid HB.out.drew | exact Lib.hid (below_drewN HB.out _))⟩
        case measure => simp [intOf]; omega
    · obtain rfl : i = n := by omega
      have NM := Lib.hid (show v ∉ H from fun h => by
        obtain ⟨j, hj, e⟩ := HG.out h
        exact HO.out j hj e)
      clear HM HG HO
      go_wp2_with fail
      go_ret
      exact ⟨-1, rfl, .inl ⟨rfl, NM.out⟩, (by first | exact HB.out | exact HB.out.drew | exact below_drewN HB.out _)⟩

theorem contains_any (p : Option Addr) (c : Nat) (H : List Int) (v : Int) (w : World) (r : NumR w p H) (ln : H.length ≤ 1000000) :
    Calls Try.prog 33 #[.slice p H.length c, .int .i64 v] w fun e w' => e = .returned (.bool (decide (v ∈ H))) ∧ Below w.heap.size w w' := by
  have IX := Lib.hid (index_any p c H v w r ln)
  obtain ⟨n, hn⟩ : ∃ n, n = H.length := ⟨_, rfl⟩
  rw [← hn] at IX ⊢
  clear hn ln r
  go_enter Try.func33, Try.ntmps33
  go_wp2_with fail
  refine IX.out.mono ?_
  rintro e w1 ⟨x, rfl, hx, hb⟩
  have HB := Lib.hid hb
  have HX := Lib.hid (show decide (0 ≤ x) = decide (v ∈ H) from by
    rcases hx with ⟨rfl, h⟩ | ⟨h0, h⟩
    · simp [h]
    · simp [h, h0])
  clear hx hb IX
  go_wp2_with fail
  go_ret
  exact ⟨ret_b HX.out, (by first | exact HB.out | exact HB.out.drew | exact below_drewN HB.out _)⟩


/-- A row of numbers that is a block whole. -/
def IR (W : World) (g : Nat) (t : TypeId) (n : Nat) (f : Nat → Int) : Prop := W.heap[g]? = some (.cells ((List.range n).map fun k => Value.int .i64 (f k)).toArray t (0, 0))
/-- A box. -/
def BX (W : World) (b : Nat) (t : TypeId) (v : Value) : Prop := W.heap[b]? = some (.cells #[v] t (0, 0))
section
variable {W W' : World} {g b n : Nat} {t : TypeId} {f : Nat → Int} {v : Value}
theorem IR.cell (h : IR W g t n f) {k : Nat} (hk : k < n) : W.cell? ⟨g, k, none⟩ = some (.int .i64 (f k)) := by
  unfold IR at h
  simp [World.cell?, h, hk]
theorem IR.frozen (h : IR W g t n f) (k : Nat) : W.frozen? ⟨g, k, none⟩ = false := by
  unfold IR at h
  simp [World.frozen?, h]
theorem IR.lt (h : IR W g t n f) : g < W.heap.size := (Array.getElem?_eq_some_iff.1 h).1
theorem IR.ext {f' : Nat → Int} (h : IR W g t n f) (e : ∀ k, k < n → f k = f' k) : IR W g t n f' := by
  have e : ((List.range n).map fun k => Value.int .i64 (f k)) = (List.range n).map fun k => Value.int .i64 (f' k) := List.map_congr_left fun k hk => by rw [e k (List.mem_range.1 hk)]
  unfold IR at *
  rw [← e]; exact h
theorem IR.set (h : IR W g t n f) (k : Nat) (x : Int) : IR (W.setCell ⟨g, k, none⟩ (.int .i64 x)) g t n (upd f k x) := by
  have := heap_setCell_same W g k _ t (.int .i64 x) h
  unfold IR
  rw [this]
  congr 2
  apply Array.ext'
  simp only [Array.toList_setIfInBounds]
  apply List.ext_getElem
  · simp
  · intro i h1 h2
    simp only [List.getElem_set, List.getElem_map, List.getElem_range, upd]
    by_cases c : k = i
    · subst c; simp
    · rw [if_neg c, if_neg (fun e => c e.symm)]
theorem IR.keep (h : IR W g t n f) (e : W'.heap[g]? = W.heap[g]?) : IR W' g t n f := e.trans h
theorem BX.cell (h : BX W b t v) : W.cell? ⟨b, 0, none⟩ = some v := by
  unfold BX at h
  simp [World.cell?, h]
theorem BX.frozen (h : BX W b t v) : W.frozen? ⟨b, 0, none⟩ = false := by
  unfold BX at h
  simp [World.frozen?, h]
theorem BX.lt (h : BX W b t v) : b < W.heap.size := (Array.getElem?_eq_some_iff.1 h).1
theorem BX.keep (h : BX W b t v) (e : W'.heap[b]? = W.heap[b]?) : BX W' b t v := e.trans h
theorem BX.set (h : BX W b t v) (u : Value) : BX (W.setCell ⟨b, 0, none⟩ u) b t u := by
  have := heap_setCell_same W b 0 _ t u h
  unfold BX
  rw [this]; rfl
theorem IR.num (h : IR W g t n f) {m : Nat} (hm : m ≤ n) : NumR W (some ⟨g, 0, none⟩) ((List.range m).map f) := fun i hi => by
  have hi : i < m := by simpa using hi
  have e : (Addr.mk g 0 none).add i = ⟨g, i, none⟩ := by
    unfold Addr.add
    split
    · next h => subst h; rfl
    · simp
  refine ⟨⟨g, 0, none⟩, rfl, h.lt, ?_⟩
  rw [e, h.cell (by omega), gi_map hi]
theorem IR.of (h : W.ownsRow b t 1 (.slice (some ⟨g, 0, none⟩) n n) n ((List.range n).map fun k => .int .i64 (f k))) : IR W g t n f := by
  rcases h.2 with ⟨e, _⟩ | ⟨g', cap, cur, e, _, hg, hn, _, hs, ht⟩
  · cases e
  · simp at e
    obtain ⟨rfl, rfl⟩ := e
    unfold IR
    rw [hg]
    congr 2
    apply Array.ext'
    rw [← ht]
    simp only [Nat.mul_one] at hs ⊢
    rw [List.take_of_length_le (by simp [hs])]
end
/-- All blocks but some are as they were. -/
structure Fm (M : Nat → Prop) (w w' : World) : Prop where
  os : w'.os = w.os
  tape : w'.tape = w.tape
  output : w'.output = w.output
  size : w.heap.size ≤ w'.heap.size
  block : ∀ k, k < w.heap.size → ¬ M k → w'.heap[k]? = w.heap[k]?
theorem Fm.refl (M : Nat → Prop) (w : World) : Fm M w w := ⟨rfl, rfl, rfl, Nat.le_refl _, fun _ _ _ => rfl⟩
theorem Fm.trans {M : Nat → Prop} {a b c : World} (h : Fm M a b) (k : Fm M b c) : Fm M a c :=
  ⟨k.os.trans h.os, k.tape.trans h.tape, k.output.trans h.output, Nat.le_trans h.size k.size, fun q hq hm => (k.block q (Nat.lt_of_lt_of_le hq h.size) hm).trans (h.block q hq hm)⟩
theorem Fm.call {M : Nat → Prop} {w w' : World} (h : Below w.heap.size w w') : Fm M w w' := ⟨h.os, h.tape, h.output, h.size, fun k hk _ => h.block k hk⟩
theorem Fm.set {M : Nat → Prop} {w : World} (a : Addr) (v : Value) (h : M a.block) : Fm M w (w.setCell a v) :=
  ⟨rfl, rfl, rfl, by simp [World.setCell], fun k hk hm => by rw [Below.heap_setCell _ _ _ _ (fun e => hm (by rw [e]; exact h))]⟩
theorem Fm.setRow {M : Nat → Prop} {w : World} (g : Nat) (cs : Array Value) (h : M g) : Fm M w (w.setRow g cs) :=
  ⟨rfl, rfl, rfl, by simp [World.setRow], fun k hk hm => setRow_other w g k cs (fun e => hm (by rw [e]; exact h))⟩
/-- What the check of times answers. -/
def TmOk (T : List Int) (n : Nat) : Prop := ∀ i, i < n → 1 ≤ gi T i ∧ gi T i ≤ 1073741824
def TErr (T : List Int) (m : Int) (x : Int) : Prop := (12 < T.length ∧ x = 3) ∨ (T.length ≤ 12 ∧ ¬ (1 ≤ m ∧ m ≤ 4 ∧ TmOk T T.length) ∧ x = 2) ∨ (T.length ≤ 12 ∧ 1 ≤ m ∧ m ≤ 4 ∧ TmOk T T.length ∧ x = 0)
theorem TErr.fn {T : List Int} {m x y : Int} (h : TErr T m x) (g : TErr T m y) : x = y := by
  rcases h with ⟨a, b⟩ | ⟨a, b, c⟩ | ⟨a, b, c, d, e⟩ <;> rcases g with ⟨a', b'⟩ | ⟨a', b', c'⟩ | ⟨a', b', c', d', e'⟩ <;> first | omega | exact absurd ⟨b, c, d⟩ b' | exact absurd ⟨b', c', d'⟩ b
theorem TErr.good {T : List Int} {m : Int} (h : TErr T m 0) : T.length ≤ 12 ∧ 1 ≤ m ∧ m ≤ 4 ∧ TmOk T T.length := by
  rcases h with ⟨a, b⟩ | ⟨a, b, c⟩ | ⟨a, b, c, d, e⟩
  · omega
  · omega
  · exact ⟨a, b, c, d⟩

set_option maxRecDepth 100000 in
set_option maxHeartbeats 4000000 in
theorem checkTimes_any (p : Option Addr) (c : Nat) (T : List Int) (m : Int) (w : World) (r : NumR w p T) (ln : T.length ≤ 9223372036854775807) :
    Calls Try.prog 31 #[.slice p T.length c, .int .i64 m] w fun e w' => ∃ x, e = .returned (.int .i64 x) ∧ TErr T m x ∧ Below w.heap.size w w' := by
  have R := Lib.hid r
  obtain ⟨n, hn⟩ : ∃ n, n = T.length := ⟨_, rfl⟩
  have HE := Lib.hid (show ∀ x, TErr T m x = ((12 < n ∧ x = 3) ∨ (n ≤ 12 ∧ ¬ (1 ≤ m ∧ m ≤ 4 ∧ TmOk T n) ∧ x = 2) ∨ (n ≤ 12 ∧ 1 ≤ m ∧ m ≤ 4 ∧ TmOk T n ∧ x = 0)) from fun x => by rw [hn]; rfl)
  rw [← hn] at ln ⊢
  have HN := Lib.hid hn
  clear hn r
  by_cases t0 : 12 < n
  · have t1 : decide (12 < n) = true := decide_eq_true t0
    go_enter Try.func31, Try.ntmps31
    go_wp2_with fail
    go_ret
    exact ⟨3, rfl, by rw [HE.out]; exact .inl ⟨t0, rfl⟩, Below.refl _ _⟩
  have t1 : decide (12 < n) = false := decide_eq_false t0
  have N12 := Lib.hid (show n ≤ 12 by omega)
  by_cases m0 : 1 ≤ m ∧ m ≤ 4
  case neg =>
    have IW := Lib.hid (fun W => isWithin_b m 1 4 false (by rw [Bool.eq_false_iff]; intro h; simp at h; exact m0 h) W)
    have FE := Lib.hid (show TErr T m 2 from by rw [HE.out]; exact .inr (.inl ⟨N12.out, fun h => m0 ⟨h.1, h.2.1⟩, rfl⟩))
    clear m0 HE
    go_enter Try.func31, Try.ntmps31
    go_wp2_with fail
    refine (IW.out _).mono ?_
    rintro e w1 ⟨rfl, rfl⟩
    go_wp2_with fail
    go_ret
    exact ⟨2, rfl, FE.out, Below.refl _ _⟩
  have M0 := Lib.hid m0
  have IW := Lib.hid (fun W => isWithin_b m 1 4 true (by simp; exact M0.out) W)
  clear m0
  go_enter Try.func31, Try.ntmps31
  go_wp2_with fail
  refine (IW.out _).mono ?_
  rintro e w1 ⟨rfl, rfl⟩
  clear IW
  go_wp2_with fail
  go_loopw [15] (fun kv wr => ∃ i : Nat, i ≤ n ∧ kv = .int .i64 i ∧ Hid (TmOk T i) ∧ wr = w) (fun kv _ => n - (intOf kv).toNat)
  case atStart => exact ⟨0, Nat.zero_le _, rfl, Lib.hid fun i h => absurd h (by omega), rfl⟩
  case round =>
    obtain ⟨i, hi, rfl, HO, rfl⟩ := hrel
    by_cases t2 : i < n
    · obtain ⟨x, rfl, kx, cx⟩ := R.out i (by have := HN.out; omega)
      have i1 : (0 : Int) ≤ (i : Int) := by omega
      have i2 : (i : Int) < (n : Int) := by omega
      have SX := Lib.hid (show (1 ≤ gi T i ∧ gi T i ≤ 1073741824) → TmOk T (i + 1) from fun h j hj => by
        by_cases e : j = i
        · subst e; exact h
        · exact HO.out j (by omega))
      have NK := Lib.hid (show ¬ (1 ≤ gi T i ∧ gi T i ≤ 1073741824) → TErr T m 2 from fun h => by
        rw [HE.out]
        exact .inr (.inl ⟨N12.out, fun g => h (g.2.2 i t2), rfl⟩))
      clear HO kx
      generalize gi T i = P at *
      by_cases hp : 1 ≤ P ∧ P ≤ 1073741824
      · have IW := Lib.hid (fun W => isWithin_b P 1 1073741824 true (by simp; exact hp) W)
        have SN := Lib.hid (SX.out hp)
        clear hp SX NK
        go_wp2_with fail
        refine (IW.out _).mono ?_
        rintro e w1 ⟨rfl, rfl⟩
        clear IW
        go_wp2_with fail
        go_roundw
        case rel => exact ⟨i + 1, by omega, by go_num, SN, trivial⟩
        case measure => simp [intOf]; omega
      · have IW := Lib.hid (fun W => isWithin_b P 1 1073741824 false (by rw [Bool.eq_false_iff]; intro h; simp at h; exact hp h) W)
        have FE := Lib.hid (NK.out hp)
        clear hp SX NK
        go_wp2_with fail
        refine (IW.out _).mono ?_
        rintro e w1 ⟨rfl, rfl⟩
        clear IW
        go_wp2_with fail
        go_ret
        exact ⟨2, rfl, FE.out, Below.refl _ _⟩
    · obtain rfl : i = n := by omega
      have FE := Lib.hid (show TErr T m 0 from by rw [HE.out]; exact .inr (.inr ⟨N12.out, M0.out.1, M0.out.2, HO.out, rfl⟩))
      go_wp2_with fail
      go_ret
      exact ⟨0, rfl, FE.out, Below.refl _ _⟩
end Go.Proofs.Ythbgeikdamajlab
