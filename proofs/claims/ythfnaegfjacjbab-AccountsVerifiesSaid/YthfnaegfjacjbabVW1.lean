/- Several texts in one: AV3 AV4 AV5 AV6 AV7 AV9. -/
import Derived.Test.YthfnaegfjacjbabAV2
import Derived.Test.YthfnaegfjacjbabAV8
import Derived.Test.YthfnaegfjacjbabABA

/- Accounts: the bytes of an entry, the reference's: number. -/
namespace Go.Proofs.Ythfnaegfjacjbab
open Go.RowKit
set_option linter.unusedVariables false
set_option linter.unusedSimpArgs false

theorem byInfo : (Try.prog.info? 5).map (fun i => (i.zero, i.size, i.bytes)) = some (some (.int .u8 0), 1, 1) := by kernel_rfl
theorem own_snocB {W w w2 : World} {E : Nat} {v v' : Value} {k : Nat} {l : List Int} {x : Int} {xs : List Value} (o : Obj) (e : xs = l.map (Value.int .u8))
    (hb : Below W.heap.size W w) (hown : w.ownsRow W.heap.size E 1 v k (l.map (Value.int .u8)))
    (h1 : w2.ownsRow W.heap.size E 1 v' (k + 1) (xs ++ [.int .u8 x])) (h2 : (w.alloc o).grownBy w2 v.ownBlock) :
    w2.ownsRow W.heap.size E 1 v' (k + 1) ((l ++ [x]).map (Value.int .u8)) ∧ Below W.heap.size W w2 :=
  ⟨by subst e; simpa using h1, (hb.alloc hb.size o).grown h2 (by have := hb.size; simp; omega) (own_lt hown)⟩
theorem one_cellB {w : World} (x : Int) : ∀ j u, ([Value.int .u8 x])[j]? = some u → (w.alloc (Obj.cells #[Value.int .u8 x] 5)).cell? ((⟨w.heap.size, 0, none⟩ : Addr).add j) = some u := by
  intro j u hj
  match j, hj with
  | 0, hj => simp at hj; subst hj; simp [Addr.add, go_sem]
theorem one_oneB {x : Int} : ∀ u ∈ [Value.int .u8 x], u.oneCell' = true := by intro u hu; simp at hu; subst hu; rfl

set_option maxRecDepth 100000 in
set_option maxHeartbeats 4000000 in
theorem rnumber_any (W : World) (v : Value) (k : Nat) (l : List Int) (n : Int) (n0 : 0 ≤ n) (n1 : n < 18446744073709551616) (w : World) (hown : w.ownsRow W.heap.size 5 1 v k (l.map (Value.int .u8))) (hbel : Below W.heap.size W w) (hk : k ≤ 1000000) :
    Calls Try.prog 118 #[v, .int .u64 n] w fun e w' => ∃ v', e = .returned v' ∧ w'.ownsRow W.heap.size 5 1 v' (k + 8) ((l ++ bys 8 n).map (Value.int .u8)) ∧ Below W.heap.size W w' ∧ Kp w w' v v' := by
  obtain ⟨i0, hi, hz0, hz1, hz2⟩ := info_parts byInfo
  go_enter Try.func118, Try.ntmps118
  go_wp2_with fail
  go_loopw [0, 1, 5] (fun vv nv iv wr => ∃ (i : Nat) (o : List Int) (m : Int), i ≤ 8 ∧ iv = .int .i64 i ∧ nv = .int .u64 m ∧ 0 ≤ m ∧ m < 18446744073709551616 ∧ Hid (o ++ bys (8 - i) m = l ++ bys 8 n) ∧ wr.ownsRow W.heap.size 5 1 vv (k + i) (o.map (Value.int .u8)) ∧ Below W.heap.size W wr ∧ Hid (Kp w wr v vv)) (fun _ _ iv _ => 8 - (intOf iv).toNat)
  case atStart => exact ⟨0, l, n, by omega, rfl, rfl, n0, n1, Lib.hid rfl, hown, hbel, Lib.hid (Kp.refl _ _)⟩
  case round =>
    clear hown hbel n0 n1
    obtain ⟨i, o, m, hi8, rfl, rfl, m0, m1, E, hown, hbel, KP⟩ := hrel
    by_cases t : i < 8
    · have t1 : (i : Int) < 8 := by omega
      have hbs : ∀ o, W.heap.size ≤ (wr.alloc o).heap.size := fun o => by have := hbel.size; simp; omega
      have E2 := Lib.hid (show (o ++ [m % 256]) ++ bys (8 - (i + 1)) (m / 256) = l ++ bys 8 n from by
        rw [← E.out, show 8 - i = (8 - (i + 1)) + 1 by omega]; simp [bys])
      have q0 : 0 ≤ m / 256 := by omega
      have q1 : m / 256 < 18446744073709551616 := by omega
      go_wp2_with (first
        | (at_builtin; refine wpList_append_blk _ rfl _ _ 125 rfl W.heap.size 5 i0 (.int .u8 0) 1 1 Try.underlying125 hi hz0 hz1 hz2 rfl (by decide) _ _ _ rfl (hown.alloc _) ⟨wr.heap.size, 0, none⟩ 1 1 [.int .u8 (m % 256)] rfl rfl (one_cellB _) one_oneB (by unfold maxLen; omega) (by omega) (hbs _) (by decide) ?_))
      intro v' w1 hown' hgrow hblk
      have KP2 := Lib.hid (KP.out.trans (Kp.grown hgrow hblk))
      have RR := own_snocB (l := o) _ rfl hbel hown hown' hgrow
      clear hown' hgrow hblk hown hbel hbs E KP
      go_wp2_with fail
      go_roundw
      case rel => exact ⟨i + 1, _, m / 256, by omega, by go_num, by first | rfl | go_num, q0, q1, E2, RR.1, RR.2, KP2⟩
      case measure => simp [intOf]; omega
    · obtain rfl : i = 8 := by omega
      go_wp2_with fail
      go_ret
      exact ⟨_, rfl, by have := E.out; simp [bys] at this ⊢; rw [this] at hown; simpa [bys] using hown, hbel, KP.out⟩
end Go.Proofs.Ythfnaegfjacjbab

/- Accounts: the bytes of an entry, plain; a row's own block and the other blocks. -/
namespace Go.Proofs.Ythfnaegfjacjbab
open Go.RowKit
set_option linter.unusedVariables false
set_option linter.unusedSimpArgs false

/-- The first j bytes of a name. -/
def bcs (s : ByteArray) : Nat → List Int
  | 0 => []
  | j + 1 => bcs s j ++ [chr s j]
/-- The bytes with those of the first k postings behind them. -/
def bps (L : List (ByteArray × Int)) (b : List Int) : Nat → List Int
  | 0 => b
  | k + 1 => (bps L b k ++ [((ps L k).size : Int) % 256] ++ bcs (ps L k) (ps L k).size) ++ bys 8 (IntKind.u64.wrap (pc L k))
def bytL (l n d v : Int) (L : List (ByteArray × Int)) : List Int :=
  bps L (((bys 8 l ++ bys 8 (IntKind.u64.wrap n)) ++ bys 8 (IntKind.u64.wrap d)) ++ bys 8 (IntKind.u64.wrap v)) L.length
theorem bcs_fold (s : ByteArray) (h : Int) : ∀ j, List.foldl stp h (bcs s j) = chH s h j
  | 0 => rfl
  | j + 1 => by rw [bcs, List.foldl_append, bcs_fold s h j]; rfl
theorem bps_fold (L : List (ByteArray × Int)) (b : List Int) (h : Int) : ∀ k, List.foldl stp h (bps L b k) = posH L (List.foldl stp h b) k
  | 0 => rfl
  | k + 1 => by
    rw [bps, List.foldl_append, List.foldl_append, List.foldl_append, bps_fold L b h k, bcs_fold]
    rfl
theorem bytL_fold (l n d v : Int) (L : List (ByteArray × Int)) : List.foldl stp 14695981039346656037 (bytL l n d v L) = ckS l n d v L := by
  unfold bytL ckS num8
  rw [bps_fold, List.foldl_append, List.foldl_append, List.foldl_append]
theorem bys_len : ∀ (k : Nat) (n : Int), (bys k n).length = k
  | 0, _ => rfl
  | k + 1, n => by simp [bys, bys_len k]
theorem bcs_len (s : ByteArray) : ∀ j, (bcs s j).length = j
  | 0 => rfl
  | j + 1 => by simp [bcs, bcs_len s j]
theorem bys_in : ∀ (k : Nat) (n : Int), ∀ x ∈ bys k n, 0 ≤ x ∧ x < 256
  | 0, _ => by intro x h; simp [bys] at h
  | k + 1, n => by
    intro x h
    simp only [bys, List.mem_cons] at h
    rcases h with rfl | h
    · omega
    · exact bys_in k _ x h
theorem own_up {w : World} {base : Nat} {e : TypeId} {size : Nat} {v : Value} {n : Nat} {xs : List Value} (h : w.ownsRow base e size v n xs) : v.ownBlock ≠ some w.heap.size := by
  obtain ⟨-, ⟨rfl, -⟩ | ⟨g, cap, cur, rfl, -, hh, -⟩⟩ := h
  · simp [Value.ownBlock]
  · intro e
    simp only [Value.ownBlock, Option.some.injEq] at e
    rw [e] at hh
    simp at hh
theorem cell_of_heap {w w' : World} {b i : Nat} (h : w'.heap[b]? = w.heap[b]?) : w'.cell? ⟨b, i, none⟩ = w.cell? ⟨b, i, none⟩ := by
  simp only [World.cell?, h]
end Go.Proofs.Ythfnaegfjacjbab

/- Accounts: the bytes of an entry, the reference's. -/
namespace Go.Proofs.Ythfnaegfjacjbab
open Go.RowKit
set_option linter.unusedVariables false
set_option linter.unusedSimpArgs false

theorem RecB.heap {b : Nat} {n d : Int} {p : Option Addr} {z c : Nat} {v : Int} {W W' : World} (h : RecB b n d p z c v W) (k : W'.heap[b]? = W.heap[b]?) : RecB b n d p z c v W' :=
  ⟨(cell_of_heap k).trans h.c0, (cell_of_heap k).trans h.c1, (cell_of_heap k).trans h.c2, (cell_of_heap k).trans h.c3⟩
theorem PosB.heap {b : Nat} {S : ByteArray} {C : Int} {W W' : World} (h : PosB b S C W) (k : W'.heap[b]? = W.heap[b]?) : PosB b S C W' :=
  ⟨(cell_of_heap k).trans h.c0, (cell_of_heap k).trans h.c1⟩

set_option maxRecDepth 100000 in
set_option maxHeartbeats 8000000 in
theorem Bytes_any (l n d v s : Int) (l0 : 0 ≤ l) (l1 : l < 18446744073709551616) (p : Option Addr) (c : Nat) (L : List (ByteArray × Int)) (w : World) (r : PosR w p L) (ln : L.length ≤ 40) (sn : ∀ i, i < L.length → (ps L i).size ≤ 2000) :
    Calls Try.prog 97 #[.int .u64 l, .agg #[.int .i64 n, .int .i64 d, .slice p L.length c, .int .i64 v, .int .u64 s]] w fun e w' => ∃ v' N, e = .returned v' ∧ N = (bytL l n d v L).length ∧ w'.ownsRow w.heap.size 5 1 v' N ((bytL l n d v L).map (Value.int .u8)) ∧ Below w.heap.size w w' := by
  have R := Lib.hid r
  have SN := Lib.hid sn
  obtain ⟨i0, hi, hz0, hz1, hz2⟩ := info_parts byInfo
  obtain ⟨z, hz⟩ : ∃ z, z = L.length := ⟨_, rfl⟩
  have L0 := Lib.hid l0
  have L1 := Lib.hid l1
  have BL := Lib.hid (show bytL l n d v L = bps L (((bys 8 l ++ bys 8 (IntKind.u64.wrap n)) ++ bys 8 (IntKind.u64.wrap d)) ++ bys 8 (IntKind.u64.wrap v)) z from by rw [hz]; rfl)
  rw [← hz] at ln ⊢
  have HZ := Lib.hid hz
  clear hz r sn l0 l1
  have U2 := Lib.hid (u64_in n)
  have U3 := Lib.hid (u64_in d)
  have U4 := Lib.hid (u64_in v)
  obtain ⟨u2, hu2⟩ : ∃ u, u = IntKind.u64.wrap n := ⟨_, rfl⟩
  obtain ⟨u3, hu3⟩ : ∃ u, u = IntKind.u64.wrap d := ⟨_, rfl⟩
  obtain ⟨u4, hu4⟩ : ∃ u, u = IntKind.u64.wrap v := ⟨_, rfl⟩
  rw [← hu2] at U2 BL
  rw [← hu3] at U3 BL
  rw [← hu4] at U4 BL
  have e2 := hu2.symm
  have e3 := hu3.symm
  have e4 := hu4.symm
  clear hu2 hu3 hu4
  have HB := Lib.hid (show Below w.heap.size w (w.alloc (Obj.cells #[Value.int .i64 n, Value.int .i64 d, Value.slice p z c, Value.int .i64 v, Value.int .u64 s] 46)) from (Below.refl _ _).alloc (Nat.le_refl _) _)
  have RB0 := Lib.hid (show RecB w.heap.size n d p z c v (w.alloc (Obj.cells #[Value.int .i64 n, Value.int .i64 d, Value.slice p z c, Value.int .i64 v, Value.int .u64 s] 46)) from by refine ⟨?_, ?_, ?_, ?_⟩ <;> simp [go_sem])
  have QL := Lib.hid (show w.heap.size < (w.alloc (Obj.cells #[Value.int .i64 n, Value.int .i64 d, Value.slice p z c, Value.int .i64 v, Value.int .u64 s] 46)).heap.size from by simp)
  go_enter Try.func97, Try.ntmps97
  go_upto_region 1 with fail
  generalize (w.alloc (Obj.cells #[Value.int .i64 n, Value.int .i64 d, Value.slice p z c, Value.int .i64 v, Value.int .u64 s] 46)) = wa at *
  have nn : (Value.slice none 0 0).ownBlock ≠ some w.heap.size := by simp [Value.ownBlock]
  go_wp2_with fail
  refine (rnumber_any w (.slice none 0 0) 0 [] l L0.out L1.out wa (World.ownsRow_nil _ _ _ _) HB.out (by omega)).mono ?_
  rintro e y1 ⟨v1, rfl, o1, b1, kp⟩
  have KP := Lib.hid kp
  have RB := Lib.hid (RB0.out.heap (KP.out.2 _ QL.out nn).2)
  obtain ⟨k0, k1, k2, k3⟩ := RB.out
  clear kp
  go_wp2_with fail
  refine (rnumber_any w v1 (0 + 8) ([] ++ bys 8 l) u2 U2.out.1 U2.out.2 y1 o1 b1 (by omega)).mono ?_
  rintro e y2 ⟨v2, rfl, o2, b2, kp⟩
  replace KP := Lib.hid (KP.out.trans kp)
  replace RB := Lib.hid (RB0.out.heap (KP.out.2 _ QL.out nn).2)
  clear kp k0 k1 k2 k3 o1 b1
  obtain ⟨k0, k1, k2, k3⟩ := RB.out
  go_wp2_with fail
  refine (rnumber_any w v2 (0 + 8 + 8) ([] ++ bys 8 l ++ bys 8 u2) u3 U3.out.1 U3.out.2 y2 o2 b2 (by omega)).mono ?_
  rintro e y3 ⟨v3, rfl, o3, b3, kp⟩
  replace KP := Lib.hid (KP.out.trans kp)
  replace RB := Lib.hid (RB0.out.heap (KP.out.2 _ QL.out nn).2)
  clear kp k0 k1 k2 k3 o2 b2
  obtain ⟨k0, k1, k2, k3⟩ := RB.out
  go_wp2_with fail
  refine (rnumber_any w v3 (0 + 8 + 8 + 8) ([] ++ bys 8 l ++ bys 8 u2 ++ bys 8 u3) u4 U4.out.1 U4.out.2 y3 o3 b3 (by omega)).mono ?_
  rintro e y4 ⟨v4, rfl, o4, b4, kp⟩
  replace KP := Lib.hid (KP.out.trans kp)
  clear kp k0 k1 k2 k3 o3 b3 RB e2 e3 e4 U2 U3 U4 L0 L1
  simp only [List.nil_append] at o4
  generalize bys 8 l ++ bys 8 u2 ++ bys 8 u3 ++ bys 8 u4 = B at *
  go_wp2_with fail
  go_loopw [5, 6] (fun bv kv wr => ∃ (k N : Nat), k ≤ z ∧ kv = .int .i64 k ∧ N ≤ 32 + 2009 * k ∧ wr.ownsRow w.heap.size 5 1 bv N ((bps L B k).map (Value.int .u8)) ∧ Below w.heap.size w wr ∧ Hid (Kp wa wr (.slice none 0 0) bv)) (fun _ kv _ => z - (intOf kv).toNat)
  case atStart => exact ⟨0, 0 + 8 + 8 + 8 + 8, Nat.zero_le _, rfl, by omega, o4, b4, KP⟩
  case round =>
    clear o4 b4 KP
    obtain ⟨k, N, hk, rfl, hN, hown, hbel, KP⟩ := hrel
    have RB := Lib.hid (RB0.out.heap (KP.out.2 _ QL.out nn).2)
    obtain ⟨k0, k1, k2, k3⟩ := RB.out
    by_cases t : k < z
    · obtain ⟨x, rfl, kx, cx, dx⟩ := (R.out.below hbel) k (by have := HZ.out; omega)
      have i1 : (0 : Int) ≤ (k : Int) := by omega
      have i2 : (k : Int) < (z : Int) := by omega
      have sz := SN.out k (by have := HZ.out; omega)
      have BS := Lib.hid (show bps L B (k + 1) = (bps L B k ++ [((ps L k).size : Int) % 256] ++ bcs (ps L k) (ps L k).size) ++ bys 8 (IntKind.u64.wrap (pc L k)) from rfl)
      generalize ps L k = S at *
      generalize pc L k = C at *
      generalize bps L B k = o at *
      obtain ⟨M, hM⟩ : ∃ M, S.size = M := ⟨_, rfl⟩
      rw [hM] at sz BS
      have HM := Lib.hid hM
      have al : Below wr.heap.size wr (wr.alloc (Obj.cells #[Value.string S, Value.int .i64 C] 48)) := (Below.refl _ _).alloc (Nat.le_refl _) _
      have up := own_up hown
      have hown2 := hown.alloc (Obj.cells #[Value.string S, Value.int .i64 C] 48)
      have PB := Lib.hid (show PosB wr.heap.size S C (wr.alloc (Obj.cells #[Value.string S, Value.int .i64 C] 48)) from by refine ⟨?_, ?_⟩ <;> simp [go_sem])
      have QG := Lib.hid (show wr.heap.size < (wr.alloc (Obj.cells #[Value.string S, Value.int .i64 C] 48)).heap.size from by simp)
      go_upto_region 9 with fail
      have hbel2 := hbel.trans (al.mono hbel.size)
      have KA := Lib.hid (show Kp wr (wr.alloc (Obj.cells #[Value.string S, Value.int .i64 C] 48)) u5 u5 from ⟨by simp, fun q hq hn => ⟨hn, by rw [Below.heap_alloc _ _ _ (by omega)]⟩⟩)
      replace KP := Lib.hid (KP.out.trans KA.out)
      generalize (wr.alloc (Obj.cells #[Value.string S, Value.int .i64 C] 48)) = wb at *
      generalize wr.heap.size = b at *
      clear hown hbel al KA k0 k1 k2 k3 RB cx dx kx
      have hown := hown2
      have hbel := hbel2
      clear hown2 hbel2
      obtain ⟨k0, k1⟩ := PB.out
      have hbs : ∀ o, w.heap.size ≤ (wb.alloc o).heap.size := fun o => by have := hbel.size; simp; omega
      go_wp2_with (first | (at_builtin; refine wpList_append_blk _ rfl _ _ 125 rfl w.heap.size 5 i0 (.int .u8 0) 1 1 Try.underlying125 hi hz0 hz1 hz2 rfl (by decide) _ _ _ rfl (hown.alloc _) ⟨wb.heap.size, 0, none⟩ 1 1 [.int .u8 ((M : Int) % 256)] rfl rfl (one_cellB _) one_oneB (by unfold maxLen; omega) (by omega) (hbs _) (by decide) ?_))
      intro v5 w5 hown5 hgrow hblk
      have RR := own_snocB (l := o) _ rfl hbel hown hown5 hgrow
      have KQ := Lib.hid (Kp.grown hgrow hblk)
      clear hown5 hgrow hblk hown hbel hbs k0 k1
      go_wp2_with fail
      have UC := Lib.hid (u64_in C)
      go_loopw [5, 8] (fun bv jv wq => ∃ (j N2 : Nat), j ≤ M ∧ jv = .int .i64 j ∧ N2 ≤ N + 1 + j ∧ wq.ownsRow w.heap.size 5 1 bv N2 (((o ++ [(M : Int) % 256]) ++ bcs S j).map (Value.int .u8)) ∧ Below w.heap.size w wq ∧ Hid (Kp wb wq u5 bv)) (fun _ jv _ => M - (intOf jv).toNat)
      case atStart => exact ⟨0, N + 1, Nat.zero_le _, rfl, by omega, by simpa [bcs] using RR.1, RR.2, KQ⟩
      case round =>
        clear RR KQ
        obtain ⟨j, N2, hj, rfl, hN2, hown, hbel, KQ⟩ := hrel
        have PB1 := Lib.hid (PB.out.heap (KQ.out.2 _ QG.out up).2)
        obtain ⟨k0, k1⟩ := PB1.out
        by_cases tj : j < M
        · have j1 : (0 : Int) ≤ (j : Int) := by omega
          have j2 : (j : Int) < (M : Int) := by omega
          obtain ⟨y, hy⟩ : ∃ y : Int, y = ((S[j]'(by omega)).toNat : Int) := ⟨_, rfl⟩
          have E := Lib.hid (show bcs S (j + 1) = bcs S j ++ [y] from by
            simp only [bcs, chr]; rw [dif_pos (by omega), hy])
          have hbs : ∀ o, w.heap.size ≤ (wr.alloc o).heap.size := fun o => by have := hbel.size; simp; omega
          obtain ⟨q, hq⟩ : ∃ q, q = (o ++ [(M : Int) % 256]) ++ bcs S j := ⟨_, rfl⟩
          rw [← hq] at hown
          have HQ := Lib.hid hq
          have HY := Lib.hid hy
          clear hq hy
          go_wp2_with (first | (at_builtin; refine wpList_append_blk _ rfl _ _ 125 rfl w.heap.size 5 i0 (.int .u8 0) 1 1 Try.underlying125 hi hz0 hz1 hz2 rfl (by decide) _ _ _ rfl (hown.alloc _) ⟨wr.heap.size, 0, none⟩ 1 1 [.int .u8 _] rfl rfl (one_cellB _) one_oneB (by unfold maxLen; omega) (by omega) (hbs _) (by decide) ?_))
          intro v6 w6 hown6 hgrow hblk
          have RR := own_snocB (l := q) _ rfl hbel hown hown6 hgrow
          rw [← HY.out, HQ.out, List.append_assoc, ← E.out] at RR
          have KQ2 := Lib.hid (KQ.out.trans (Kp.grown hgrow hblk))
          clear hown6 hgrow hblk hown hbel hbs k0 k1 KQ E HY HQ
          go_wp2_with fail
          go_roundw
          case rel => exact ⟨j + 1, N2 + 1, by omega, by go_num, by omega, RR.1, RR.2, KQ2⟩
          case measure => simp [intOf]; omega
        · obtain rfl : j = M := by omega
          obtain ⟨uc, huc⟩ : ∃ u, IntKind.u64.wrap C = u := ⟨_, rfl⟩
          rw [huc] at UC BS
          go_wp2_with fail
          refine (rnumber_any w _ N2 _ uc UC.out.1 UC.out.2 wr hown hbel (by omega)).mono ?_
          rintro e y7 ⟨v7, rfl, o7, b7, kp⟩
          rw [← BS.out] at o7
          have KR := Lib.hid (KP.out.trans (KQ.out.trans kp))
          clear kp hown hbel KQ k0 k1 KP
          go_wp2_with fail
          go_roundw
          case rel => exact ⟨k + 1, N2 + 8, by omega, by go_num, by omega, o7, b7, KR⟩
          case measure => simp [intOf]; omega
    · obtain rfl : k = z := by omega
      go_wp2_with fail
      go_ret
      exact ⟨_, N, rfl, by have := hown.1; simp at this; rw [BL.out]; omega, by rw [BL.out]; exact hown, hbel⟩
end Go.Proofs.Ythfnaegfjacjbab

/- Accounts: Sum, the reference's. -/
namespace Go.Proofs.Ythfnaegfjacjbab
open Go.RowKit
set_option linter.unusedVariables false
set_option linter.unusedSimpArgs false

def gb (l : List Int) (i : Nat) : Int := l[i]?.getD 0
/-- The bytes at p read as l. -/
def BytR (w : World) (p : Option Addr) (l : List Int) : Prop := ∀ i, i < l.length → ∃ g, p = some ⟨g, 0, none⟩ ∧ g < w.heap.size ∧ w.cell? ⟨g, i, none⟩ = some (.int .u8 (gb l i))
theorem own_rowB {w : World} {base E : Nat} {v : Value} {n : Nat} {l : List Int} (h : w.ownsRow base E 1 v n (l.map (Value.int .u8))) :
    ∃ p c, v = .slice p n c ∧ l.length = n ∧ BytR w p l ∧ n ≤ maxLen := by
  have hl : l.length = n := by have := h.1; simpa using this
  have h' := h
  obtain ⟨-, ⟨rfl, rfl⟩ | ⟨g, cap, cur, rfl, hb, hh, hc1, hc2, -⟩⟩ := h'
  · exact ⟨none, 0, rfl, hl, fun i hi => by omega, Nat.zero_le _⟩
  · refine ⟨some ⟨g, 0, none⟩, cap, rfl, hl, fun i hi => ⟨g, rfl, (h.lt g rfl).2, ?_⟩, Nat.le_trans hc1 hc2⟩
    rw [h.cellAt i (by omega)]
    simp [gb, hi]
theorem fold_take (l : List Int) (h : Int) {i : Nat} (hi : i < l.length) : List.foldl stp h (l.take (i + 1)) = stp (List.foldl stp h (l.take i)) (gb l i) := by
  rw [List.take_succ_eq_append_getElem hi, List.foldl_append]
  simp [gb, hi]

set_option maxRecDepth 100000 in
set_option maxHeartbeats 8000000 in
theorem Sum_any (l n d v s : Int) (l0 : 0 ≤ l) (l1 : l < 18446744073709551616) (p : Option Addr) (c : Nat) (L : List (ByteArray × Int)) (w : World) (r : PosR w p L) (ln : L.length ≤ 40) (sn : ∀ i, i < L.length → (ps L i).size ≤ 2000) :
    Calls Try.prog 58 #[.int .u64 l, .agg #[.int .i64 n, .int .i64 d, .slice p L.length c, .int .i64 v, .int .u64 s]] w fun e w' => e = .returned (.int .u64 (ckS l n d v L)) ∧ Below w.heap.size w w' := by
  have CB := Lib.hid (fun W (h : PosR W p L) => Bytes_any l n d v s l0 l1 p c L W h ln sn)
  have HC := Lib.hid (bytL_fold l n d v L)
  have R := Lib.hid r
  obtain ⟨z, hz⟩ : ∃ z, z = L.length := ⟨_, rfl⟩
  rw [← hz] at CB ln ⊢
  clear hz r sn l0 l1
  generalize bytL l n d v L = B at *
  generalize ckS l n d v L = H at *
  have HB := Lib.hid (show Below w.heap.size w (w.alloc (Obj.cells #[Value.int .i64 n, Value.int .i64 d, Value.slice p z c, Value.int .i64 v, Value.int .u64 s] 46)) from (Below.refl _ _).alloc (Nat.le_refl _) _)
  have R1 := Lib.hid (R.out.below HB.out)
  go_enter Try.func58, Try.ntmps58
  go_wp2_with fail
  refine (CB.out _ R1.out).mono ?_
  rintro e y1 ⟨v1, N, rfl, hN, o1, b1⟩
  obtain ⟨q, cq, rfl, hl, br, nm⟩ := own_rowB o1
  unfold maxLen at nm
  have BR := Lib.hid br
  have HL := Lib.hid hl
  have LB := Lib.hid o1.1
  have KB := Lib.hid (HB.out.trans (b1.mono HB.out.size))
  clear o1 b1 br hl hN CB R R1 HB
  go_wp2_with fail
  go_loopw [6, 7] (fun hv iv wr => ∃ (i : Nat) (h : Int), i ≤ N ∧ iv = .int .i64 i ∧ hv = .int .u64 h ∧ Hid (h = List.foldl stp 14695981039346656037 (B.take i)) ∧ Hid (wr = y1)) (fun _ iv _ => N - (intOf iv).toNat)
  case atStart => exact ⟨0, _, Nat.zero_le _, rfl, rfl, Lib.hid rfl, Lib.hid rfl⟩
  case round =>
    obtain ⟨i, h, hi, rfl, rfl, E, W⟩ := hrel
    obtain rfl := W.out
    by_cases t : i < N
    · obtain ⟨g, rfl, kg, cg⟩ := BR.out i (by have := HL.out; omega)
      have i1 : (0 : Int) ≤ (i : Int) := by omega
      have i2 : (i : Int) < (N : Int) := by omega
      have E2 := Lib.hid (show stp h (gb B i) = List.foldl stp 14695981039346656037 (B.take (i + 1)) from by rw [fold_take B _ (by have := HL.out; omega), ← E.out])
      generalize gb B i = y at *
      clear E
      go_wp2_with fail
      go_roundw
      case rel => exact ⟨i + 1, stp h y, by omega, by go_num, by first | rfl | go_num, E2, by first | exact Lib.hid rfl | exact Lib.hid trivial⟩
      case measure => simp [intOf]; omega
    · obtain rfl : i = N := by omega
      have EE := Lib.hid (show h = H from by rw [E.out, ← HC.out, List.take_of_length_le (by have := HL.out; omega)])
      clear E
      go_wp2_with fail
      go_ret
      exact ⟨congrArg (fun x => Ending.returned (.int .u64 x)) EE.out, KB.out⟩
end Go.Proofs.Ythfnaegfjacjbab

/- Accounts: Verify, the reference's. -/
namespace Go.Proofs.Ythfnaegfjacjbab
open Go.RowKit
set_option linter.unusedVariables false
set_option linter.unusedSimpArgs false

set_option maxRecDepth 100000 in
set_option maxHeartbeats 8000000 in
theorem rVerify_any (p : Option Addr) (c : Nat) (R : List Rc) (w : World) (r : RecR w p R) (ln : R.length ≤ 100) (sh : Short R) :
    Calls Try.prog 27 #[.slice p R.length c] w fun e w' => ∃ x, e = .returned (.int .i64 x) ∧ VeQ R x ∧ Below w.heap.size w w' := by
  have RR := Lib.hid r
  have SH := Lib.hid sh
  obtain ⟨z, hz⟩ : ∃ z, z = R.length := ⟨_, rfl⟩
  have VQ := Lib.hid (show ∀ x, ((∃ k, k < z ∧ GoodTo R k ∧ ¬ GoodAt R k ∧ x = (k : Int)) ∨ (GoodTo R z ∧ x = (z : Int))) → VeQ R x from fun x h => by rw [hz] at h; exact h)
  rw [← hz] at ln ⊢
  have HZ := Lib.hid hz
  clear hz r sh
  have HB : Hid (Below w.heap.size w w) := Below.refl _ _
  go_enter Try.func27, Try.ntmps27
  go_wp2_with fail
  go_loopw [3, 4] (fun bv iv wr => ∃ (i : Nat) (b : Int), i ≤ z ∧ iv = .int .i64 i ∧ bv = .int .u64 b ∧ 0 ≤ b ∧ b < 18446744073709551616 ∧ Hid (b = prv R i) ∧ Hid (GoodTo R i) ∧ Hid (Below w.heap.size w wr)) (fun _ iv _ => z - (intOf iv).toNat)
  case atStart => exact ⟨0, 0, Nat.zero_le _, rfl, rfl, by omega, by omega, Lib.hid rfl, Lib.hid (fun i h => absurd h (by omega)), HB⟩
  case round =>
    clear HB
    obtain ⟨i, b, hi, rfl, rfl, b0, b1, PV, GT, HB⟩ := hrel
    by_cases t : i < z
    · obtain ⟨x, rfl, ra⟩ := (RR.out.below HB.out) i (by have := HZ.out; omega)
      have i1 : (0 : Int) ≤ (i : Int) := by omega
      have i2 : (i : Int) < (z : Int) := by omega
      obtain ⟨sh1, sh2⟩ := SH.out i (by have := HZ.out; omega)
      have GA := Lib.hid (show GoodAt R i ↔ ((rc R i).no = i + 1 ∧ (rc R i).sum = ckS b (rc R i).no (rc R i).day (rc R i).rev (rc R i).ps) from by rw [PV.out]; exact Iff.rfl)
      have PN := Lib.hid (show (rc R i).sum = prv R (i + 1) from rfl)
      have GN := Lib.hid (show GoodAt R i → GoodTo R (i + 1) from fun h j hj => by
        by_cases e : j = i
        · subst e; exact h
        · exact GT.out j (by omega))
      have BAD := Lib.hid (show ¬ GoodAt R i → VeQ R (i : Int) from fun h => VQ.out _ (.inl ⟨i, t, GT.out, h, rfl⟩))
      generalize rc R i = q at *
      obtain ⟨no, day, rev, sum, pp, cap, L⟩ := q
      obtain ⟨blk, c0, c1, c2, c3, c4, pos, s0, s1⟩ := ra
      dsimp only at *
      have CK := Lib.hid (fun W (h : PosR W pp L) => Sum_any b no day rev sum b0 b1 pp cap L W h sh1 sh2)
      have PS := Lib.hid pos
      clear PV GT sh1 sh2 pos
      obtain ⟨m, hm⟩ : ∃ m, m = L.length := ⟨_, rfl⟩
      rw [← hm] at c2 CK
      have HM := Lib.hid hm
      clear hm
      obtain ⟨k, hk⟩ : ∃ k, k = ckS b no day rev L := ⟨_, rfl⟩
      rw [← hk] at CK GA
      have HK := Lib.hid hk
      clear hk
      have wi : IntKind.i64.wrap ((i : Int) + 1) = (i : Int) + 1 := IntWalk.i64_in _ (by omega)
      by_cases u1 : no = (i : Int) + 1
      · subst u1
        have eq1 : ((i : Int) + 1 != (i : Int) + 1) = false := by simp
        obtain ⟨X, hX⟩ : ∃ X, X = x.add (i * 5) := ⟨_, rfl⟩
        go_upto_region 5 with fail
        have k0 := c0
        have k1 := c1
        have k2 := c2
        have k3 := c3
        have k4 := c4
        have gz := blk
        clear c0 c1 c2 c3 c4 blk hX
        by_cases u4 : sum = k
        · have eq2 : (sum != k) = false := by simp [u4]
          have GO := Lib.hid (GN.out (GA.out.2 ⟨rfl, u4⟩))
          clear GA GN BAD HK u4
          go_region_held3 (fun w' => w'.cell? (x.add (i * 5)) = some (.int .i64 ((i : Int) + 1)) ∧ w'.cell? ⟨(x.add (i * 5)).block, (x.add (i * 5)).off + 1, none⟩ = some (.int .i64 day) ∧ w'.cell? ⟨(x.add (i * 5)).block, (x.add (i * 5)).off + 2, none⟩ = some (.slice pp m cap) ∧ w'.cell? ⟨(x.add (i * 5)).block, (x.add (i * 5)).off + 3, none⟩ = some (.int .i64 rev) ∧ w'.cell? ⟨(x.add (i * 5)).block, (x.add (i * 5)).off + 4, none⟩ = some (.int .u64 sum))
            (first | exact ⟨k0, k1, k2, k3, k4⟩)
            (first
              | (go_at_call 58; (with_reducible refine (CK.out _ (by first | exact PS.out | exact PS.out.below ((Below.refl _ _).drew) | exact PS.out.below (below_drewN (Below.refl _ _) _))).mono ?_); rintro e v1 ⟨rfl, r3⟩; have st : Below wr.heap.size wr v1 := (by first | exact r3 | exact ((Below.refl _ _).drew).trans r3 | exact (below_drewN (Below.refl _ _) _).trans r3); replace HB := Lib.hid (HB.out.trans (st.mono HB.out.size)); replace k0 := (st.cell (p := x.add (i * 5)) gz).trans k0; replace k1 := (st.cell (p := ⟨(x.add (i * 5)).block, (x.add (i * 5)).off + 1, none⟩) gz).trans k1; replace k2 := (st.cell (p := ⟨(x.add (i * 5)).block, (x.add (i * 5)).off + 2, none⟩) gz).trans k2; replace k3 := (st.cell (p := ⟨(x.add (i * 5)).block, (x.add (i * 5)).off + 3, none⟩) gz).trans k3; replace k4 := (st.cell (p := ⟨(x.add (i * 5)).block, (x.add (i * 5)).off + 4, none⟩) gz).trans k4; clear r3 st))
          go_wp2_with fail
          go_roundw
          case rel => exact ⟨i + 1, sum, by omega, by go_num, rfl, s0, s1, PN, GO, (by first | exact HB | exact Lib.hid HB.out.drew | exact Lib.hid (below_drewN HB.out _))⟩
          case measure => simp [intOf]; omega
        · have eq2 : (sum != k) = true := by simp [u4]
          have BD := Lib.hid (BAD.out (fun h => u4 (GA.out.1 h).2))
          clear GA GN BAD HK u4 PN
          go_region_held3 (fun w' => w'.cell? (x.add (i * 5)) = some (.int .i64 ((i : Int) + 1)) ∧ w'.cell? ⟨(x.add (i * 5)).block, (x.add (i * 5)).off + 1, none⟩ = some (.int .i64 day) ∧ w'.cell? ⟨(x.add (i * 5)).block, (x.add (i * 5)).off + 2, none⟩ = some (.slice pp m cap) ∧ w'.cell? ⟨(x.add (i * 5)).block, (x.add (i * 5)).off + 3, none⟩ = some (.int .i64 rev) ∧ w'.cell? ⟨(x.add (i * 5)).block, (x.add (i * 5)).off + 4, none⟩ = some (.int .u64 sum))
            (first | exact ⟨k0, k1, k2, k3, k4⟩)
            (first
              | (go_at_call 58; (with_reducible refine (CK.out _ (by first | exact PS.out | exact PS.out.below ((Below.refl _ _).drew) | exact PS.out.below (below_drewN (Below.refl _ _) _))).mono ?_); rintro e v1 ⟨rfl, r3⟩; have st : Below wr.heap.size wr v1 := (by first | exact r3 | exact ((Below.refl _ _).drew).trans r3 | exact (below_drewN (Below.refl _ _) _).trans r3); replace HB := Lib.hid (HB.out.trans (st.mono HB.out.size)); replace k0 := (st.cell (p := x.add (i * 5)) gz).trans k0; replace k1 := (st.cell (p := ⟨(x.add (i * 5)).block, (x.add (i * 5)).off + 1, none⟩) gz).trans k1; replace k2 := (st.cell (p := ⟨(x.add (i * 5)).block, (x.add (i * 5)).off + 2, none⟩) gz).trans k2; replace k3 := (st.cell (p := ⟨(x.add (i * 5)).block, (x.add (i * 5)).off + 3, none⟩) gz).trans k3; replace k4 := (st.cell (p := ⟨(x.add (i * 5)).block, (x.add (i * 5)).off + 4, none⟩) gz).trans k4; clear r3 st))
          go_wp2_with fail
          go_ret
          exact ⟨_, rfl, BD.out, (by first | exact HB.out | exact HB.out.drew | exact below_drewN HB.out _)⟩
      · have eq1 : (no != (i : Int) + 1) = true := by simp [u1]
        have BD := Lib.hid (BAD.out (fun h => u1 (GA.out.1 h).1))
        clear GA GN BAD CK
        go_upto_region 5 with fail
        go_quiet (fail)
        try (go_wp2_with fail)
        go_ret
        exact ⟨_, rfl, BD.out, (by first | exact HB.out | exact HB.out.drew | exact below_drewN HB.out _ | exact HB.out.alloc HB.out.size _ | exact (HB.out.alloc HB.out.size _).drew | exact below_drewN (HB.out.alloc HB.out.size _) _)⟩
    · obtain rfl : i = z := by omega
      go_wp2_with fail
      go_ret
      exact ⟨_, rfl, VQ.out _ (.inr ⟨GT.out, rfl⟩), HB.out⟩
end Go.Proofs.Ythfnaegfjacjbab

/- The law AccountsVerifies: its walk. -/
namespace Go.Proofs.Ythfnaegfjacjbab.accountsVerifies
open Go.RowKit
set_option linter.unusedVariables false
set_option linter.unusedSimpArgs false

set_option maxRecDepth 100000 in
set_option maxHeartbeats 8000000 in
theorem walk (p : Option Addr) (c : Nat) (R : List Rc) (w : World) (r : RecR w p R) (ln : R.length ≤ 9223372036854775807) :
    Calls Try.prog 6 #[.slice p R.length c] w fun e w' => e = .returned (.bool true) ∧ Below w.heap.size w w' := by
  have RR := Lib.hid r
  have AL := Lib.hid alive_any
  have V1 := Lib.hid (fun W (h : RecR W p R) (l : R.length ≤ 100) (s : Short R) => Verify_any p c R W h l s)
  have V2 := Lib.hid (fun W (h : RecR W p R) (l : R.length ≤ 100) (s : Short R) => rVerify_any p c R W h l s)
  obtain ⟨z, hz⟩ : ∃ z, z = R.length := ⟨_, rfl⟩
  rw [← hz] at ln V1 V2 ⊢
  have HZ := Lib.hid hz
  clear hz r
  have HB : Hid (Below w.heap.size w w) := Below.refl _ _
  go_enter Try.func6, Try.ntmps6
  go_wp2_with fail
  go_loopw [3] (fun iv wr => ∃ i : Nat, i ≤ z ∧ i ≤ 100 ∧ iv = .int .i64 i ∧ Hid (∀ j, j < i → (rc R j).ps.length ≤ 40 ∧ ∀ k, k < (rc R j).ps.length → (ps (rc R j).ps k).size ≤ 2000) ∧ Hid (Below w.heap.size w wr)) (fun iv _ => z - (intOf iv).toNat)
  case atStart => exact ⟨0, Nat.zero_le _, Nat.zero_le _, rfl, Lib.hid (fun j h => absurd h (by omega)), HB⟩
  case round =>
    clear HB
    obtain ⟨i, hi, hi2, rfl, SH, HB⟩ := hrel
    by_cases t : i < z
    · obtain ⟨x, rfl, ra⟩ := (RR.out.below HB.out) i (by have := HZ.out; omega)
      have i1 : (0 : Int) ≤ (i : Int) := by omega
      have i2 : (i : Int) < (z : Int) := by omega
      by_cases g : 100 ≤ i
      · have g1 : decide ((100 : Int) ≤ (i : Int)) = true := decide_eq_true (by omega)
        clear ra
        go_wp2_with fail
        refine (AL.out _).mono ?_
        rintro e w1 ⟨rfl, st⟩
        go_wp2_with fail
        go_ret
        exact ⟨rfl, HB.out.trans (st.mono HB.out.size)⟩
      · have g1 : decide ((100 : Int) ≤ (i : Int)) = false := decide_eq_false (by omega)
        have SN := Lib.hid (show ((rc R i).ps.length ≤ 40 ∧ ∀ k, k < (rc R i).ps.length → (ps (rc R i).ps k).size ≤ 2000) → ∀ j, j < i + 1 → (rc R j).ps.length ≤ 40 ∧ ∀ k, k < (rc R j).ps.length → (ps (rc R j).ps k).size ≤ 2000 from fun h j hj => by
          by_cases e : j = i
          · subst e; exact h
          · exact SH.out j (by omega))
        clear SH
        generalize rc R i = q at *
        obtain ⟨no, day, rev, sum, pp, cap, L⟩ := q
        obtain ⟨blk, c0, c1, c2, c3, c4, pos, s0, s1⟩ := ra
        dsimp only at *
        have PS := Lib.hid pos
        clear pos c0 c1 c3 c4 s0 s1
        obtain ⟨m, hm⟩ : ∃ m, m = L.length := ⟨_, rfl⟩
        rw [← hm] at c2 SN
        have HM := Lib.hid hm
        clear hm
        have BK := Lib.hid blk
        by_cases g2 : 40 < m
        · have g3 : decide (40 < m) = true := decide_eq_true g2
          go_wp2_with fail
          refine (AL.out _).mono ?_
          rintro e w1 ⟨rfl, st⟩
          go_wp2_with fail
          go_ret
          exact ⟨rfl, HB.out.trans (st.mono HB.out.size)⟩
        · have g3 : decide (40 < m) = false := decide_eq_false g2
          go_wp2_with fail
          go_loopw [4] (fun kv wq => ∃ k : Nat, k ≤ m ∧ kv = .int .i64 k ∧ Hid (∀ j, j < k → (ps L j).size ≤ 2000) ∧ wq = wr) (fun kv _ => m - (intOf kv).toNat)
          case atStart => exact ⟨0, Nat.zero_le _, rfl, Lib.hid (fun j h => absurd h (by omega)), rfl⟩
          case round =>
            obtain ⟨k, hk, rfl, SK, rfl⟩ := hrel
            by_cases tk : k < m
            · obtain ⟨y, rfl, ky, cy, dy⟩ := PS.out k (by have := HM.out; omega)
              have k1 : (0 : Int) ≤ (k : Int) := by omega
              have k2 : (k : Int) < (m : Int) := by omega
              have SKN := Lib.hid (show (ps L k).size ≤ 2000 → ∀ j, j < k + 1 → (ps L j).size ≤ 2000 from fun h j hj => by
                by_cases e : j = k
                · subst e; exact h
                · exact SK.out j (by omega))
              clear SK dy
              generalize ps L k = S at *
              obtain ⟨N, hN⟩ : ∃ N, S.size = N := ⟨_, rfl⟩
              rw [hN] at SKN
              by_cases g4 : 2000 < N
              · have g5 : decide (2000 < N) = true := decide_eq_true g4
                go_wp2_with fail
                refine (AL.out _).mono ?_
                rintro e w1 ⟨rfl, st⟩
                go_wp2_with fail
                go_ret
                exact ⟨rfl, HB.out.trans (st.mono HB.out.size)⟩
              · have g5 : decide (2000 < N) = false := decide_eq_false g4
                have SK2 := Lib.hid (SKN.out (by omega))
                go_wp2_with fail
                go_roundw
                case rel => exact ⟨k + 1, by omega, by go_num, SK2, trivial⟩
                case measure => simp [intOf]; omega
            · obtain rfl : k = m := by omega
              have SI := Lib.hid (SN.out ⟨by omega, SK.out⟩)
              go_wp2_with fail
              go_roundw
              case rel => exact ⟨i + 1, by omega, by omega, by go_num, SI, HB⟩
              case measure => simp [intOf]; omega
    · obtain rfl : i = z := by omega
      have SR := Lib.hid (show Short R from fun j hj => SH.out j (by have := HZ.out; omega))
      have C1 := Lib.hid (fun W (st : Below w.heap.size w W) => V1.out W (RR.out.below st) hi2 SR.out)
      have C2 := Lib.hid (fun W (st : Below w.heap.size w W) => V2.out W (RR.out.below st) hi2 SR.out)
      clear V1 V2 SH
      go_wp2_with fail
      refine (C1.out _ HB.out).mono ?_
      rintro e w1 ⟨a, rfl, q1, st1⟩
      have Q1 := Lib.hid q1
      replace HB := Lib.hid (HB.out.trans (st1.mono HB.out.size))
      clear q1 st1 C1
      go_wp2_with fail
      refine (C2.out _ HB.out).mono ?_
      rintro e w2 ⟨b, rfl, q2, st2⟩
      obtain rfl := Q1.out.det q2
      replace HB := Lib.hid (HB.out.trans (st2.mono HB.out.size))
      have e1 : (a == a) = true := by simp
      clear q2 st2 C2 Q1
      go_wp2_with fail
      refine (AL.out _).mono ?_
      rintro e w3 ⟨rfl, st⟩
      go_wp2_with fail
      go_ret
      exact ⟨rfl, HB.out.trans (st.mono HB.out.size)⟩
end Go.Proofs.Ythfnaegfjacjbab.accountsVerifies
