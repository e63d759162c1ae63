/- The pairs of a map, in a row of its own. -/
import Derived.Test.YtbphmcjjanchlaaK34
namespace Go.Proofs.Ytbphmcjjanchlaa.Mii
open Go.RowKit Go.Shelf
set_option linter.unusedVariables false
set_option linter.unusedSimpArgs false
attribute [local go_sem] Oper.semAt_some

set_option maxRecDepth 100000 in
theorem Len_in (F : Fence) (N : Nat) (h5 : F.fn 25) (hro : F.round = none) (p : Option Addr) (t : Tr Int Value) (n : Int) (w : World) (h : At w p t) (hn : (t.sz : Int) = n) :
    CallsIn F N Try.prog 25 #[.agg #[.pointer p]] w fun e w' => e = .returned (.int .i64 n) ∧ w' = w.alloc (.cells #[.pointer p] 35) := by
  subst hn
  cases t with
  | nil =>
    obtain rfl : p = none := h
    unfold Tr.sz
    refine callsIn_of_wp Try.func25 rfl h5 ?_ hro
    simp only [Try.ntmps25, List.size_toArray, List.length_cons, List.length_nil, Nat.reduceAdd, Nat.reduceSub, Array.replicate_succ, Array.replicate_zero, List.push_toArray, List.append_toArray, List.nil_append, List.cons_append]
    gi_wp2
    go_ret
    exact ⟨rfl, rfl⟩
  | node k v l r =>
    obtain ⟨b, pl, pr, rfl, c0, c1, c2, c3, c4, c5, ov, hl, hr⟩ := h
    have hb : b < w.heap.size := World.block_lt_of_cell? w _ c0
    unfold Tr.sz
    generalize ((l.sz + 1 + r.sz : Nat) : Int) = x at *
    refine callsIn_of_wp Try.func25 rfl h5 ?_ hro
    simp only [Try.ntmps25, List.size_toArray, List.length_cons, List.length_nil, Nat.reduceAdd, Nat.reduceSub, Array.replicate_succ, Array.replicate_zero, List.push_toArray, List.append_toArray, List.nil_append, List.cons_append]
    gi_wp2
    go_ret
    exact ⟨rfl, rfl⟩

theorem info_pair : (Try.prog.info? 52).map (fun i => (i.zero, i.size, i.bytes)) = some (some (.agg #[.int .i64 0, .int .i64 0]), 2, 16) := by kernel_rfl

def rowsV (L : List (Int × Int)) : List Value := L.flatMap fun x => [.int .i64 x.1, .int .i64 x.2]

theorem rowsV_snoc (L : List (Int × Int)) (x : Int × Int) : rowsV (L ++ [x]) = rowsV L ++ [.int .i64 x.1, .int .i64 x.2] := by simp [rowsV]
theorem cellOf {W : World} {b o : Nat} {c : Array Value} {t : TypeId} (h : W.heap[b]? = some (.cells c t (0, 0))) : W.cell? ⟨b, o, none⟩ = c[o]? := by simp [World.cell?, h]
theorem cellsTwo (w : World) (x y : Value) (t : TypeId) : ∀ j u, [x, y][j]? = some u → (w.alloc (.cells #[x, y] t)).cell? ((⟨w.heap.size, 0, none⟩ : Addr).add j) = some u := by
  intro j u h
  have hn := World.alloc_heap_new w (.cells #[x, y] t)
  rcases j with _ | _ | j
  · simp at h; subst h; exact (cellOf (o := 0) hn).trans rfl
  · simp at h; subst h; exact (cellOf (o := 1) hn).trans rfl
  · simp at h

set_option maxRecDepth 100000 in
set_option maxHeartbeats 2000000 in
theorem Pairs_in (F : Fence) (hd : F.depth = none) (n : Nat) (h3 : F.fn 26) (hL : F.fn 25) (h4 : F.fn 61) (h5 : F.fn 88) (h6 : F.fn 89) (hro : F.round = none) (hn : 3 ≤ n)
    (p0 : Option Addr) (t : Tr Int Value) (T : Tr Int Int) (w : World) (hA : At w p0 t) (hT : AtI w.heap.size w p0 T) (hsz : t.sz = T.rows.length) (hlen : T.rows.length * 16 ≤ 140737488355328) :
    CallsIn F n Try.prog 26 #[.agg #[.pointer p0]] w fun e W' => ∃ v, e = .returned v ∧ W'.ownsRow w.heap.size 52 2 v T.rows.length (rowsV T.rows) ∧ Below w.heap.size w W' := by
  have h1 : 1 ≤ n := by omega
  have hdd : ∀ k : Nat, (F.depth.isSome = true → 1 ≤ k) := fun k h => by rw [hd] at h; cases h
  obtain ⟨i0, hi, hz0, hz1, hz2⟩ := info_parts info_pair
  refine callsIn_of_wp_marks Try.func26 rfl h3 ?_ hro
  simp only [Try.ntmps26, List.size_toArray, List.length_cons, List.length_nil, Nat.reduceAdd, Nat.reduceSub, Array.replicate_succ, Array.replicate_zero, List.push_toArray, List.append_toArray, List.nil_append, List.cons_append]
  have hA1 : At (w.alloc (.cells #[.pointer p0] 35)) p0 t := hA.below ((Below.refl _ _).alloc (Nat.le_refl _) _) (Nat.le_refl _)
  gi_wp2_with (first
    | ((try refine ⟨hdd _, ?_⟩); gi_at_call 25; refine (Len_in F (n - 1) hL hro p0 t _ _ hA1 (congrArg Int.ofNat hsz)).mono ?_; rintro e w1 ⟨rfl, rfl⟩)
    | (gi_at_make; refine wpListIn_make_own _ rfl _ _ 43 rfl w.heap.size 52 i0 (.agg #[.int .i64 0, .int .i64 0]) 2 Try.underlying43 hi hz0 hz1 .i64 .i64 _ T.rows.length rfl rfl rfl (by rw [hz2]; omega) (by unfold maxLen; omega) (by simp; omega) ?_; intro w1 hown1 hgrow1; have bm1 := ((Boxed.new w 35 (.pointer p0)).alloc (.cells #[.pointer p0] 35)).kept hgrow1 (by simp); have cm1 := bm1.cell; have lm1 := bm1.lt)
    | (gi_at_call 61; refine (all_in F (n - 1) h4 hro _ _).mono ?_; rintro e w' ⟨rfl, rfl⟩))
  have bO := Boxed.new w1 43 (.slice (some ⟨w.heap.size + 1 + 1, 0, none⟩) 0 T.rows.length)
  have bN := Boxed.new (w1.alloc (.cells #[.slice (some ⟨w.heap.size + 1 + 1, 0, none⟩) 0 T.rows.length] 43)) 35 (.pointer p0)
  rw [World.size_alloc] at bN
  simp only [World.size_alloc] at hown1
  have hBw1 : Below w.heap.size w w1 := (((Below.refl _ w).alloc (Nat.le_refl _) _).alloc (by simp) _).grown hgrow1 (by simp; omega) (fun k e => by cases e)
  have hB0 : Below w.heap.size w ((w1.alloc (.cells #[.slice (some ⟨w.heap.size + 1 + 1, 0, none⟩) 0 T.rows.length] 43)).alloc (.cells #[.pointer p0] 35)) := (hBw1.alloc (by omega) _).alloc (by simp; omega) _
  refine wpIn_rangeFunc_ownG hro h1 (gf := 88) (lb := #[.pointer (some ⟨w1.heap.size + 1, 0, none⟩)]) rfl h5 (enters_of Try.func88 (by kernel_rfl) rfl)
    (all_stops F hd (n - 1) h5 h6 hro (w1.heap.size + 1) w.heap.size p0 T _ (by simp) (by simp; omega) bN.cell (hT.below hB0)) belowK_t (belowK_b (by simp; omega)) (Below.refl _ _) (fun _ => rfl)
    (fun pre W => (∃ v, Boxed W w1.heap.size 43 v ∧ W.ownsRow w.heap.size 52 2 v pre.length (rowsV pre) ∧ True) ∧ Below w.heap.size w W)
    (fun _ _ _ => False)
    (OwnFrom.and (Own.from (holdsRow_own w.heap.size w1.heap.size 43 52 2 (fun pre => pre.length) rowsV (fun _ _ => True)) _) (ownFrom_below (Nat.le_refl _) (by simp; omega)))
    (fun _ _ _ _ _ hs _ _ => hs)
    ⟨⟨_, bO.alloc _, (hown1.alloc _).alloc _, trivial⟩, hB0⟩
    (fun x => { tmps := #[Value.agg #[Value.pointer p0], Value.pointer (some { block := w.heap.size, off := 0 }), Value.slice none 0 0, Value.pointer (some { block := w1.heap.size, off := 0 }), .int .i64 x.1, .int .i64 x.2, Value.agg #[Value.pointer p0], Value.int IntKind.i64 T.rows.length, Value.slice (some { block := w.heap.size + 1 + 1, off := 0 }) 0 T.rows.length, Value.agg #[Value.pointer p0], Value.func (Fn.func 88) #[] #[Value.pointer (some { block := w1.heap.size + 1, off := 0 })], .int .i64 x.1, .int .i64 x.2, undef, undef, undef, undef, undef, undef, undef], defers := [] }) ?assign ?body ?done ?stop
  case assign =>
    intro l x W K hK
    gi_wp2
    exact hK
  case body =>
    rintro l pre x W ⟨⟨v, hv, hrow, _⟩, hB⟩ hlt
    have hc := hv.cell
    gi_wp2_with (gi_at_builtin; refine wpListIn_append_own _ rfl _ _ 43 rfl w.heap.size 52 i0 (.agg #[.int .i64 0, .int .i64 0]) 2 16 Try.underlying43 hi hz0 hz1 hz2 rfl (by decide) _ _ _ rfl (hrow.alloc _) ⟨W.heap.size, 0, none⟩ 1 1 [.int .i64 x.1, .int .i64 x.2] rfl rfl (cellsTwo _ _ _ _) (fun u hu => by simp at hu; rcases hu with rfl | rfl <;> rfl) (by unfold maxLen; omega) (by omega) (by have := hB.size; simp; omega) ?_; intro v' w2 hown' hgrow _; obtain ⟨g', cap', rfl⟩ := ownsRow_succ hown'; obtain ⟨hv1, hv2, hr2, hk2, hb2⟩ := hv.appended (by decide) hrow hB.size (Nat.le_of_lt lm1) hown' hgrow; have hc1 := hv1.cell; have hf1 := hv1.frozen)
    exact ⟨hk2.from _, hb2, ⟨_, hv2, by rw [rowsV_snoc]; simpa using hr2, trivial⟩, hB.trans hb2⟩
  case done =>
    rintro D ys W hD rfl ⟨⟨v, hv, hrow, _⟩, hB⟩ hK
    have hc := hv.cell
    gi_wp2
    refine ⟨by simp, .inl ⟨_, _, rfl, run_takeDeferred hK, ?_⟩⟩
    exact ⟨_, results_tmp rfl _ _ _, v, rfl, ownsRow_putObj hrow _ hK rfl, hB.trans (belowK_b (w := w) (Nat.le_refl _) W D _ _ (by simp at hD; omega) hK rfl rfl)⟩
  case stop =>
    rintro D c pre W _ _ h _
    exact h.elim
end Go.Proofs.Ytbphmcjjanchlaa.Mii
