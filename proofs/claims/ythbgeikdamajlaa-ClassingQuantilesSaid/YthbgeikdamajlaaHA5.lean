/- Classing: Merge. -/
import Derived.Test.YthbgeikdamajlaaHA1
namespace Go.Proofs.Ythbgeikdamajlaa
open Go.RowKit
set_option linter.unusedVariables false
set_option linter.unusedSimpArgs false

/-- What Merge answers. -/
def MrgQ (A B C : Nat → Int) (x : Int) : Prop := (¬ (HOk A 64 ∧ HOk B 64) ∧ x = 2 ∧ (∀ k, C k = 0)) ∨ (HOk A 64 ∧ HOk B 64 ∧ 1048576 < hsum A 64 + hsum B 64 ∧ x = 4 ∧ (∀ k, C k = 0)) ∨ (HOk A 64 ∧ HOk B 64 ∧ hsum A 64 + hsum B 64 ≤ 1048576 ∧ x = 0 ∧ ∀ k, k < 64 → C k = A k + B k)
theorem threeH (w : World) (o1 o2 o3 : Obj) : (((w.alloc o1).alloc o2).alloc o3).heap[w.heap.size]? = some o1 ∧ (((w.alloc o1).alloc o2).alloc o3).heap[w.heap.size + 1]? = some o2 ∧ (((w.alloc o1).alloc o2).alloc o3).heap[w.heap.size + 1 + 1]? = some o3 ∧ Below w.heap.size w (((w.alloc o1).alloc o2).alloc o3) := by
  refine ⟨?_, ?_, ?_, (((Below.refl _ w).alloc (Nat.le_refl _) _).alloc (by simp) _).alloc (by simp; omega) _⟩
  · rw [Below.heap_alloc _ _ _ (by simp; omega), Below.heap_alloc _ _ _ (by simp), heap_alloc_new]
  · rw [Below.heap_alloc _ _ _ (by simp)]
    have := heap_alloc_new (w.alloc o1) o2
    simpa using this
  · have := heap_alloc_new ((w.alloc o1).alloc o2) o3
    simpa using this
theorem hz64 : (#[.int .i64 0, .int .i64 0, .int .i64 0, .int .i64 0, .int .i64 0, .int .i64 0, .int .i64 0, .int .i64 0, .int .i64 0, .int .i64 0, .int .i64 0, .int .i64 0, .int .i64 0, .int .i64 0, .int .i64 0, .int .i64 0, .int .i64 0, .int .i64 0, .int .i64 0, .int .i64 0, .int .i64 0, .int .i64 0, .int .i64 0, .int .i64 0, .int .i64 0, .int .i64 0, .int .i64 0, .int .i64 0, .int .i64 0, .int .i64 0, .int .i64 0, .int .i64 0, .int .i64 0, .int .i64 0, .int .i64 0, .int .i64 0, .int .i64 0, .int .i64 0, .int .i64 0, .int .i64 0, .int .i64 0, .int .i64 0, .int .i64 0, .int .i64 0, .int .i64 0, .int .i64 0, .int .i64 0, .int .i64 0, .int .i64 0, .int .i64 0, .int .i64 0, .int .i64 0, .int .i64 0, .int .i64 0, .int .i64 0, .int .i64 0, .int .i64 0, .int .i64 0, .int .i64 0, .int .i64 0, .int .i64 0, .int .i64 0, .int .i64 0, .int .i64 0] : Array Value) = hC (fun _ => 0) := by rfl
theorem res_merge (tmps : Array Value) (W : World) (g : Nat) (C : Nat → Int) (v : Value) (h4 : tmps.getD 4 undef = .pointer (some ⟨g, 0, none⟩)) (h5 : tmps.getD 5 undef = v) (h : HB W g C) :
    (results Try.f15 tmps).run Try.prog W = .ok (.tuple #[hV C, v]) W := by
  have e := run_loadVar_row (P := Try.prog) W g 23 23 (hC C) (0, 0) _ h Try.underlying23 rfl (histSize' C)
  have h4' : tmps[4]?.getD undef = .pointer (some ⟨g, 0, none⟩) := by simpa using h4
  have h5' : tmps[5]?.getD undef = v := by simpa using h5
  simp [results, Try.results15, h4', h5', asAddr, e]

theorem hok_at {H : Nat → Int} (h : HOk H 64) {k : Nat} (hk : k < 64) : 0 ≤ H k ∧ H k ≤ 1048576 := by
  have h0 := h.1 k hk
  have h1 : hsum H (k + 1) = hsum H k + H k := rfl
  have h2 : 0 ≤ hsum H k := by have := hsum_mono (k := 0) (n := k) (fun j hj => h.1 j (by omega)) (Nat.zero_le k); exact this
  have h3 := (h.less (k := k + 1) (by omega)).2
  omega
theorem hb_setRow {W : World} {g n : Nat} (h : g < W.heap.size) (hn : n ≤ g) (cs : Array Value) : Below n W (W.setRow g cs) := by
  refine ⟨rfl, rfl, rfl, by simp [World.setRow], fun k hk => setRow_other W g k cs (by omega)⟩

set_option maxRecDepth 100000 in
set_option maxHeartbeats 4000000 in
theorem Merge_any (A B : Nat → Int) (w : World) :
    Calls Try.prog 15 #[hV A, hV B] w fun e w' => ∃ C x, e = .returned (.tuple #[hV C, .int .i64 x]) ∧ MrgQ A B C x ∧ Below w.heap.size w w' := by
  have CT := Lib.hid (fun H W => Total_any H W)
  have HQ := Lib.hid (show ∀ C x, MrgQ A B C x = ((¬ (HOk A 64 ∧ HOk B 64) ∧ x = 2 ∧ (∀ k, C k = 0)) ∨ (HOk A 64 ∧ HOk B 64 ∧ 1048576 < hsum A 64 + hsum B 64 ∧ x = 4 ∧ (∀ k, C k = 0)) ∨ (HOk A 64 ∧ HOk B 64 ∧ hsum A 64 + hsum B 64 ≤ 1048576 ∧ x = 0 ∧ ∀ k, k < 64 → C k = A k + B k)) from fun _ _ => rfl)
  have T3 := Lib.hid (threeH w (Obj.cells (hC A) 23) (Obj.cells (hC B) 23) (Obj.cells (hC (fun _ => 0)) 23))
  go_enter Try.func15, Try.ntmps15
  go_upto_region 1 with fail
  rw [hz64]
  generalize ((w.alloc (Obj.cells (hC A) 23)).alloc (Obj.cells (hC B) 23)).alloc (Obj.cells (hC (fun _ => 0)) 23) = w1 at *
  obtain ⟨ga, hga⟩ : ∃ g, g = w.heap.size := ⟨_, rfl⟩
  obtain ⟨gb, hgb⟩ : ∃ g, g = w.heap.size + 1 := ⟨_, rfl⟩
  obtain ⟨gr, hgr⟩ : ∃ g, g = w.heap.size + 1 + 1 := ⟨_, rfl⟩
  have X1 := Lib.hid (show (HB w1 ga A ∧ HB w1 gb B ∧ HB w1 gr (fun _ => 0)) ∧ Below w.heap.size w w1 from by rw [hga, hgb, hgr]; exact ⟨⟨T3.out.1, T3.out.2.1, T3.out.2.2.1⟩, T3.out.2.2.2⟩)
  have GG := Lib.hid (show w.heap.size ≤ ga ∧ w.heap.size ≤ gr ∧ ga ≠ gr ∧ ga ≠ gb ∧ gb ≠ gr from by omega)
  rw [← hgr, ← hgb, ← hga]
  clear hga hgb hgr T3
  go_wp2_with (refine wpList_load_row rfl _ _ rfl ga rfl _ (hC A) (0, 0) _ X1.out.1.1 Try.underlying23 rfl (histSize' A) ?_)
  refine (CT.out A w1).mono ?_
  rintro e w2 ⟨n, x, rfl, tq, st⟩
  have TA := Lib.hid tq
  have X2 := Lib.hid (show (HB w2 ga A ∧ HB w2 gb B ∧ HB w2 gr (fun _ => 0)) ∧ Below w.heap.size w w2 from by
    obtain ⟨⟨h1, h2, h3⟩, b⟩ := X1.out
    exact ⟨⟨h1.keep (st.block _ h1.lt), h2.keep (st.block _ h2.lt), h3.keep (st.block _ h3.lt)⟩, b.trans (st.mono b.size)⟩)
  clear tq st X1
  go_wp2_with (refine wpList_load_row rfl _ _ rfl gb rfl _ (hC B) (0, 0) _ X2.out.1.2.1 Try.underlying23 rfl (histSize' B) ?_)
  refine (CT.out B w2).mono ?_
  rintro e w3 ⟨m, y, rfl, tq, st⟩
  have TB := Lib.hid tq
  have X3 := Lib.hid (show (HB w3 ga A ∧ HB w3 gb B ∧ HB w3 gr (fun _ => 0)) ∧ Below w.heap.size w w3 from by
    obtain ⟨⟨h1, h2, h3⟩, b⟩ := X2.out
    exact ⟨⟨h1.keep (st.block _ h1.lt), h2.keep (st.block _ h2.lt), h3.keep (st.block _ h3.lt)⟩, b.trans (st.mono b.size)⟩)
  clear tq st X2 CT
  have BZ := Lib.hid (show Below w.heap.size w (w3.setRow gr (hC (fun _ => 0))) ∧ HB (w3.setRow gr (hC (fun _ => 0))) gr (fun _ => 0) from by
    refine ⟨?_, X3.out.1.2.2.row _⟩
    have b := X3.out.2
    exact b.trans (hb_setRow (by have := X3.out.1.2.2.lt; exact this) GG.out.2.1 _))
  by_cases ok : x = 0 ∧ y = 0
  case neg =>
    have FF := Lib.hid (show MrgQ A B (fun _ => 0) 2 from by
      rw [HQ.out]
      refine .inl ⟨fun h => ok ?_, rfl, fun _ => rfl⟩
      constructor
      · rcases TA.out with ⟨_, a, _⟩ | ⟨a, _⟩
        · exact a
        · exact absurd h.1 a
      · rcases TB.out with ⟨_, a, _⟩ | ⟨a, _⟩
        · exact a
        · exact absurd h.2 a)
    have RES := Lib.hid (fun tmps h4 h5 => res_merge tmps (w3.setRow gr (hC (fun _ => 0))) gr (fun _ => 0) (.int .i64 2) h4 h5 BZ.out.2)
    have XY : x = 2 ∨ (x = 0 ∧ y = 2) := by
      rcases TA.out with ⟨_, a, _⟩ | ⟨_, a, _⟩
      · rcases TB.out with ⟨_, b, _⟩ | ⟨_, b, _⟩
        · exact absurd ⟨a, b⟩ ok
        · exact .inr ⟨a, b⟩
      · exact .inl a
    clear TA TB HQ ok
    rcases XY with rfl | ⟨rfl, rfl⟩
    · go_wp2_with (refine wpList_store_row rfl _ _ _ rfl gr (hC (fun _ => 0)) rfl (by first | rfl | exact congrArg Value.agg hz64) 23 (hC (fun _ => 0)) X3.out.1.2.2 (histSize' _) rfl (hC_one _) ?_)
      refine bodyPost_ret (RES.out _ rfl rfl) rfl ?_
      exact ⟨_, 2, rfl, FF.out, BZ.out.1⟩
    · go_wp2_with (refine wpList_store_row rfl _ _ _ rfl gr (hC (fun _ => 0)) rfl (by first | rfl | exact congrArg Value.agg hz64) 23 (hC (fun _ => 0)) X3.out.1.2.2 (histSize' _) rfl (hC_one _) ?_)
      refine bodyPost_ret (RES.out _ rfl rfl) rfl ?_
      exact ⟨_, 2, rfl, FF.out, BZ.out.1⟩
  obtain ⟨rfl, rfl⟩ := ok
  obtain ⟨oa, rfl⟩ : HOk A 64 ∧ n = hsum A 64 := by
    rcases TA.out with ⟨a, _, b⟩ | ⟨_, a, _⟩
    · exact ⟨a, b⟩
    · omega
  obtain ⟨ob, rfl⟩ : HOk B 64 ∧ m = hsum B 64 := by
    rcases TB.out with ⟨a, _, b⟩ | ⟨_, a, _⟩
    · exact ⟨a, b⟩
    · omega
  have OA := Lib.hid oa
  have OB := Lib.hid ob
  have a0 : 0 ≤ hsum A 64 := by have := hsum_mono (k := 0) oa.1 (Nat.zero_le 64); exact this
  have b0 : 0 ≤ hsum B 64 := by have := hsum_mono (k := 0) ob.1 (Nat.zero_le 64); exact this
  have a1 := oa.2
  have b1 := ob.2
  have FB := Lib.hid (show 1048576 < hsum A 64 + hsum B 64 → MrgQ A B (fun _ => 0) 4 from fun h => by rw [HQ.out]; exact .inr (.inl ⟨OA.out, OB.out, h, rfl, fun _ => rfl⟩))
  have FG := Lib.hid (show hsum A 64 + hsum B 64 ≤ 1048576 → ∀ C, (∀ k, k < 64 → C k = A k + B k) → MrgQ A B C 0 from fun h C hc => by rw [HQ.out]; exact .inr (.inr ⟨OA.out, OB.out, h, rfl, hc⟩))
  clear TA TB oa ob HQ
  generalize hsum A 64 = SA at *
  generalize hsum B 64 = SB at *
  have wS : IntKind.i64.wrap (SA + SB) = SA + SB := hwI (by omega) (by omega)
  have x1 : ((0 : Int) != 0) = false := by decide
  have x2 : ((0 : Int) == 0) = true := by decide
  by_cases big : 1048576 < SA + SB
  · have d1 : decide (1048576 < SA + SB) = true := decide_eq_true big
    have FF := Lib.hid (FB.out big)
    have RES := Lib.hid (fun tmps h4 h5 => res_merge tmps (w3.setRow gr (hC (fun _ => 0))) gr (fun _ => 0) (.int .i64 4) h4 h5 BZ.out.2)
    clear FB FG big OA OB
    go_wp2_with (refine wpList_store_row rfl _ _ _ rfl gr (hC (fun _ => 0)) rfl (by first | rfl | exact congrArg Value.agg hz64) 23 (hC (fun _ => 0)) X3.out.1.2.2 (histSize' _) rfl (hC_one _) ?_)
    refine bodyPost_ret (RES.out _ rfl rfl) rfl ?_
    exact ⟨_, 4, rfl, FF.out, BZ.out.1⟩
  have d1 : decide (1048576 < SA + SB) = false := decide_eq_false big
  have FF := Lib.hid (FG.out (by omega))
  have AB := Lib.hid (show ∀ k, k < 64 → (0 ≤ A k ∧ A k ≤ 1048576) ∧ 0 ≤ B k ∧ B k ≤ 1048576 from fun k hk => ⟨hok_at OA.out hk, hok_at OB.out hk⟩)
  have IX := Lib.hid (fun (k : Nat) (hk : k < 64) => index_hist B hk)
  clear FB FG big OA OB BZ a0 b0 a1 b1
  go_upto_region 8 with (refine wpList_load_row rfl _ _ rfl gb rfl _ (hC B) (0, 0) _ X3.out.1.2.1 Try.underlying23 rfl (histSize' B) ?_)
  clear d1 x1 x2 wS
  have X4 := Lib.hid (show HB w3 ga (fun j => if j < 0 then A j + B j else A j) from by
    unfold HB
    rw [hC_ext (H := fun j => if j < 0 then A j + B j else A j) (G := A) (fun k _ => by rw [if_neg (by omega)])]
    exact X3.out.1.1)
  go_loopw [35] (fun kv wr => ∃ k : Nat, k ≤ 64 ∧ kv = .int .i64 k ∧ Hid (HB wr ga (fun j => if j < k then A j + B j else A j)) ∧ Hid (HB wr gr (fun _ => 0)) ∧ Hid (Below w.heap.size w wr)) (fun kv _ => 64 - (intOf kv).toNat)
  case atStart => exact ⟨0, by omega, rfl, X4, Lib.hid X3.out.1.2.2, Lib.hid X3.out.2⟩
  case round =>
    clear X4 X3
    obtain ⟨k, hk, rfl, HA, HR, HW⟩ := hrel
    by_cases t1 : k < 64
    · have k2 : (k : Int) < 64 := by omega
      have k1 : (0 : Int) ≤ (k : Int) := by omega
      have ix := IX.out k t1
      have ca := HA.out.cell t1
      have fa := HA.out.frozen k
      rw [if_neg (show ¬ k < k by omega)] at ca
      obtain ⟨⟨p1, p2⟩, p3, p4⟩ := AB.out k t1
      have HA2 := Lib.hid (show HB (wr.setCell ⟨ga, k, none⟩ (.int .i64 (A k + B k))) ga (fun j => if j < k + 1 then A j + B j else A j) from by
        have := HA.out.set k (A k + B k)
        unfold HB at this ⊢
        rw [hC_ext (H := fun j => if j < k + 1 then A j + B j else A j) (G := fun j => if j = k then A k + B k else (fun j => if j < k then A j + B j else A j) j) (fun j _ => by
          by_cases e : j = k
          · subst e; rw [if_pos rfl, if_pos (by omega)]
          · rw [if_neg e]
            show _ = (if j < k then A j + B j else A j)
            by_cases l : j < k
            · rw [if_pos l, if_pos (by omega)]
            · rw [if_neg l, if_neg (by omega)])]
        exact this)
      have HR2 := Lib.hid (show HB (wr.setCell ⟨ga, k, none⟩ (.int .i64 (A k + B k))) gr (fun _ => 0) from HR.out.keep (Below.heap_setCell _ _ _ _ (by have := GG.out; dsimp only; omega)))
      have HW2 := Lib.hid (show Below w.heap.size w (wr.setCell ⟨ga, k, none⟩ (.int .i64 (A k + B k))) from HW.out.setCell (by have := GG.out; dsimp only; omega) _)
      generalize A k = a at *
      generalize B k = b at *
      have wy : IntKind.i64.wrap (a + b) = a + b := hwI (by omega) (by omega)
      clear HA HR HW
      go_wp2_with fail
      go_roundw
      case rel => exact ⟨k + 1, by omega, by go_num, HA2, HR2, HW2⟩
      case measure => simp [intOf]; omega
    obtain rfl : k = 64 := by omega
    have HS := Lib.hid (show HB wr ga (fun j => A j + B j) from by
      have := HA.out
      unfold HB at this ⊢
      rw [hC_ext (H := fun j => A j + B j) (G := fun j => if j < 64 then A j + B j else A j) (fun j hj => by rw [if_pos hj])]
      exact this)
    have BZ := Lib.hid (show Below w.heap.size w (wr.setRow gr (hC (fun j => A j + B j))) ∧ HB (wr.setRow gr (hC (fun j => A j + B j))) gr (fun j => A j + B j) from
      ⟨HW.out.trans (hb_setRow (by have := HR.out.lt; exact this) GG.out.2.1 _), HR.out.row _⟩)
    have RES := Lib.hid (fun tmps h4 h5 => res_merge tmps (wr.setRow gr (hC (fun j => A j + B j))) gr (fun j => A j + B j) (.int .i64 0) h4 h5 BZ.out.2)
    have FF2 := Lib.hid (FF.out (fun j => A j + B j) (fun _ _ => rfl))
    clear HA FF IX AB
    go_wp2_with (first
      | (refine wpList_load_row rfl _ _ rfl ga rfl _ (hC (fun j => A j + B j)) (0, 0) _ HS.out Try.underlying23 rfl (histSize' _) ?_)
      | (refine wpList_store_row rfl _ _ _ rfl gr (hC (fun j => A j + B j)) rfl rfl 23 (hC (fun _ => 0)) HR.out (histSize' _) (by rw [hC_size, hC_size]) (hC_one _) ?_))
    refine bodyPost_ret (RES.out _ rfl rfl) rfl ?_
    exact ⟨_, 0, rfl, FF2.out, BZ.out.1⟩
end Go.Proofs.Ythbgeikdamajlaa
