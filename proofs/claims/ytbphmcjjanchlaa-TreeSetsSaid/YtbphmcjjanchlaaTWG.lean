/- The laws' played. -/
import Derived.Test.YtbphmcjjanchlaaTWD
namespace Go.Proofs.Ytbphmcjjanchlaa
open Go.RowKit Go.Proofs.Ytbphmcjjanchlaa.Mii
set_option linter.unusedVariables false
set_option linter.unusedSimpArgs false

/-- An operation of a script. -/
structure OpV where
  kind : Int
  a : Int
  b : Int
  k : Int
  v : Int
structure OpV.Ok (o : OpV) : Prop where
  kind : 0 ≤ o.kind ∧ o.kind ≤ 255
  a : 0 ≤ o.a ∧ o.a ≤ 255
  b : 0 ≤ o.b ∧ o.b ≤ 255
  k : -9223372036854775808 ≤ o.k ∧ o.k ≤ 9223372036854775807
  v : -9223372036854775808 ≤ o.v ∧ o.v ≤ 9223372036854775807
/-- The slice, wherever it lies, reads as this script, five cells an operation. -/
def OpsR (w : World) (p : Option Addr) (S : List OpV) : Prop := ∀ i (h : i < S.length), ∃ x : Addr, p = some x ∧ x.block < w.heap.size ∧ w.cell? (x.add (i * 5)) = some (.int .u8 S[i].kind) ∧ w.cell? ⟨(x.add (i * 5)).block, (x.add (i * 5)).off + 1, none⟩ = some (.int .u8 S[i].a) ∧
  w.cell? ⟨(x.add (i * 5)).block, (x.add (i * 5)).off + 2, none⟩ = some (.int .u8 S[i].b) ∧ w.cell? ⟨(x.add (i * 5)).block, (x.add (i * 5)).off + 3, none⟩ = some (.int .i64 S[i].k) ∧ w.cell? ⟨(x.add (i * 5)).block, (x.add (i * 5)).off + 4, none⟩ = some (.int .i64 S[i].v) ∧ S[i].Ok
theorem OpsR.below {w w' : World} {p : Option Addr} {S : List OpV} {n : Nat} (r : OpsR w p S) (hb : Below n w w') (hn : w.heap.size ≤ n) : OpsR w' p S := fun i h => by
  obtain ⟨x, e, k, c0, c1, c2, c3, c4, o⟩ := r i h
  have kn : x.block < n := Nat.lt_of_lt_of_le k hn
  exact ⟨x, e, Nat.lt_of_lt_of_le k hb.size, (hb.cell (p := x.add (i * 5)) (by rw [adb]; exact kn)).trans c0, (hb.cell (p := ⟨(x.add (i * 5)).block, (x.add (i * 5)).off + 1, none⟩) (by rw [adb]; exact kn)).trans c1, (hb.cell (p := ⟨(x.add (i * 5)).block, (x.add (i * 5)).off + 2, none⟩) (by rw [adb]; exact kn)).trans c2,
    (hb.cell (p := ⟨(x.add (i * 5)).block, (x.add (i * 5)).off + 3, none⟩) (by rw [adb]; exact kn)).trans c3, (hb.cell (p := ⟨(x.add (i * 5)).block, (x.add (i * 5)).off + 4, none⟩) (by rw [adb]; exact kn)).trans c4, o⟩
def ent0 : Ent := ⟨none, .nil, .slice none 0 0, []⟩
theorem wld0 {n₀ gm gl bw : Nat} {W : World} (hm : W.heap[gm]? = some (.cells #[.pointer none] 35 (0, 0))) (hl : W.heap[gl]? = some (.cells #[.slice none 0 0] 36 (0, 0)))
    (hb : W.heap[bw]? = some (.cells #[.slice (some ⟨gm, 0, none⟩) 1 1, .slice (some ⟨gl, 0, none⟩) 1 1] 31 (0, 0))) (z1 : n₀ ≤ gm) (z2 : n₀ ≤ gl) (z3 : n₀ ≤ bw) : Wld n₀ W bw [] [ent0] (.slice (some ⟨gm, 0, none⟩) 1 1) (.slice (some ⟨gl, 0, none⟩) 1 1) :=
  ⟨hb, ⟨rfl, .inr ⟨gm, 1, _, rfl, z1, hm, Nat.le_refl _, by unfold maxLen; omega, rfl, rfl⟩⟩, ⟨rfl, .inr ⟨gl, 1, _, rfl, z2, hl, Nat.le_refl _, by unfold maxLen; omega, rfl, rfl⟩⟩, fun e he => by rw [List.mem_singleton] at he; subst he; exact ent_nil, z3, by simp⟩

theorem mk_maps (W : World) : (Instr.makeSlice 28 (.int .i64 1) (.int .i64 1)).run Try.prog W = .ok (.slice (some ⟨W.heap.size, 0, none⟩) 1 1) (W.alloc (.cells #[.pointer none] 35)) := by
  obtain ⟨i0, hi, hz0, hz1, hz2⟩ := info_parts info_map
  have h := run_make (P := Try.prog) W 28 35 i0 (.agg #[.pointer none]) Try.underlying28 hi hz0 .i64 .i64 1 1 (by omega) (Int.le_refl _) (by rw [hz2]; omega) (by omega)
  rw [hz1, show madeCells (Value.agg #[.pointer none]).cells (Int.toNat 1 * 1) = #[.pointer none] from by kernel_rfl] at h
  exact h
theorem mk_rows (W : World) : (Instr.makeSlice 29 (.int .i64 1) (.int .i64 1)).run Try.prog W = .ok (.slice (some ⟨W.heap.size, 0, none⟩) 1 1) (W.alloc (.cells #[.slice none 0 0] 36)) := by
  obtain ⟨i0, hi, hz0, hz1, hz2⟩ := info_parts info_rows
  have h := run_make (P := Try.prog) W 29 36 i0 (.slice none 0 0) Try.underlying29 hi hz0 .i64 .i64 1 1 (by omega) (Int.le_refl _) (by rw [hz2]; omega) (by omega)
  rw [hz1, show madeCells (Value.slice none 0 0).cells (Int.toNat 1 * 1) = #[.slice none 0 0] from by kernel_rfl] at h
  exact h
set_option maxRecDepth 100000 in
set_option maxHeartbeats 4000000 in
theorem played_any (p : Option Addr) (c : Nat) (S : List OpV) (w : World) (r : OpsR w p S) (ln : S.length ≤ 200) :
    Calls Try.prog 15 #[.slice p S.length c] w fun e W' => ∃ bw KS ms vm vl, e = .returned (.tuple #[.pointer (some ⟨bw, 0, none⟩), .bool true]) ∧ Wld w.heap.size W' bw KS ms vm vl ∧ Below w.heap.size w W' ∧ KS.length ≤ 200 ∧ ms.length ≤ 201 := by
  have R := Lib.hid r
  obtain ⟨x, hx⟩ : ∃ x, x = S.length := ⟨_, rfl⟩
  rw [← hx] at ln ⊢
  have HX := Lib.hid hx
  clear hx r
  go_enter Try.func15, Try.ntmps15
  go_wp2_with fail
  go_cut [4] from 6 to 9 (fun v4 wx => ∃ bw gm gl, v4 = .pointer (some ⟨bw, 0, none⟩) ∧ Hid (Wld w.heap.size wx bw [] [ent0] (.slice (some ⟨gm, 0, none⟩) 1 1) (.slice (some ⟨gl, 0, none⟩) 1 1)) ∧ Below w.heap.size w wx)
  case first =>
    have M1 := mk_maps
    have M2 := mk_rows
    go_region
    all_goals
      clear M1 M2
      go_wp2_with fail
      go_meet
      have N1 : ∀ (A B C : Obj), (((w.alloc A).alloc B).alloc C).heap[w.heap.size]? = some A ∧ (((w.alloc A).alloc B).alloc C).heap[w.heap.size + 1]? = some B ∧ (((w.alloc A).alloc B).alloc C).heap[w.heap.size + 1 + 1]? = some C := fun A B C =>
        ⟨(heap_alloc_old _ _ (by simp; omega)).trans ((heap_alloc_old _ _ (by simp)).trans (heap_alloc_new _ _)), (heap_alloc_old _ _ (by simp)).trans (by have := heap_alloc_new (w.alloc A) B; simpa using this), by have := heap_alloc_new ((w.alloc A).alloc B) C; simpa using this⟩
      have N2 : ∀ (A B C : Obj), Below w.heap.size w (((w.alloc A).alloc B).alloc C).drew := fun A B C => Below.dr ((((Below.refl _ w).alloc (Nat.le_refl _) _).alloc (by simp) _).alloc (by simp; omega) _)
      first
        | exact ⟨w.heap.size + 1 + 1, w.heap.size, w.heap.size + 1, rfl, Lib.hid (wld0 (N1 _ _ _).1 (N1 _ _ _).2.1 (N1 _ _ _).2.2 (Nat.le_refl _) (by omega) (by omega)), N2 _ _ _⟩
        | exact ⟨w.heap.size + 1 + 1, w.heap.size + 1, w.heap.size, rfl, Lib.hid (wld0 (N1 _ _ _).2.1 (N1 _ _ _).1 (N1 _ _ _).2.2 (by omega) (Nat.le_refl _) (by omega)), N2 _ _ _⟩
  case rest =>
    obtain ⟨bw, gm, gl, rfl, HW, hbel⟩ := hcut
    go_wp2_with fail
    go_loopw [5] (fun kv wr => ∃ (i : Nat) (KS : List Int) (ms : List Ent) (vm vl : Value), i ≤ x ∧ kv = .int .i64 i ∧ Hid (Wld w.heap.size wr bw KS ms vm vl) ∧ Hid (KS.length = i) ∧ Hid (ms.length = i + 1) ∧ Below w.heap.size w wr) (fun kv _ => x - (intOf kv).toNat)
    case atStart => exact ⟨0, [], [ent0], _, _, Nat.zero_le _, rfl, HW, rfl, rfl, hbel⟩
    case round =>
      obtain ⟨i, KS, ms, vm, vl, hi, rfl, HW2, hk, hm, hb⟩ := hrel
      by_cases t1 : i < x
      · have l1 : i < S.length := by have := HX.out; omega
        obtain ⟨xa, rfl, kx, c0, c1, c2, c3, c4, ok⟩ := (R.out.below hb (Nat.le_refl _)) i l1
        have i1 : (0 : Int) ≤ (i : Int) := by omega
        have i2 : (i : Int) < (x : Int) := by omega
        have CD := Lib.hid (do_any w.heap.size bw wr KS ms vm vl S[i].kind S[i].a S[i].b S[i].k S[i].v HW2.out hb.size (by have := hk.out; omega) (by have := hm.out; omega) ok.kind ok.a ok.b ok.k ok.v)
        have BB := Lib.hid hb
        generalize S[i] = o at *
        clear ok HW HW2 hb hbel
        go_wp2_with fail
        refine CD.out.mono ?_
        rintro e w2 ⟨rfl, st, vm2, vl2, e2, hw2⟩
        have B2 := Lib.hid (BB.out.trans st)
        have W2 := Lib.hid hw2
        have hk2 := Lib.hid (show (o.k :: KS).length = i + 1 from by have := hk.out; simp; omega)
        have hm2 := Lib.hid (show (ms ++ [e2]).length = i + 1 + 1 from by have := hm.out; simp; omega)
        clear st hw2 CD BB c0 c1 c2 c3 c4
        go_wp2_with fail
        go_roundw
        case rel => exact ⟨i + 1, _, _, _, _, by omega, by go_num, W2, hk2, hm2, B2.out⟩
        case measure => simp [intOf]; omega
      · have BB := Lib.hid hb
        clear HW hb hbel R
        go_wp2_with fail
        refine bodyPost_ret (v := .tuple #[.pointer (some ⟨bw, 0, none⟩), .bool true]) (by simp [results, Try.results15, go_sem]) rfl ?_
        exact ⟨bw, KS, ms, vm, vl, rfl, HW2.out, BB.out, by have := hk.out; omega, by have := hm.out; omega⟩
end Go.Proofs.Ytbphmcjjanchlaa
