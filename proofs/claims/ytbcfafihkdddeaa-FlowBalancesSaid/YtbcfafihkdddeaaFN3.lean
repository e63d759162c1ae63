/- Flow: Balance, on both sides. -/
import Derived.Test.YtbcfafihkdddeaaFN2
namespace Go.Proofs.Ytbcfafihkdddeaa
open Go.RowKit
set_option linter.unusedVariables false
set_option linter.unusedSimpArgs false

/-- What the first i arcs leave. -/
def balS (A : Nat → Ar) (M : Nat → Int) : Nat → Nat → Int
  | 0 => fun _ => 0
  | i + 1 => upd (upd (balS A M i) (A i).fr.toNat (balS A M i (A i).fr.toNat + M i)) (A i).to'.toNat (upd (balS A M i) (A i).fr.toNat (balS A M i (A i).fr.toNat + M i) (A i).to'.toNat - M i)
theorem balS_bd {A : Nat → Ar} {M : Nat → Int} : ∀ {i : Nat}, (∀ j, j < i → 0 ≤ M j ∧ M j ≤ 1099511627776) → ∀ v, -(i * 1099511627776) ≤ balS A M i v ∧ balS A M i v ≤ i * 1099511627776
  | 0, _, v => by simp [balS]
  | i + 1, h, v => by
    have ih := fun v => balS_bd (A := A) (M := M) (i := i) (fun j hj => h j (by omega)) v
    have m := h i (by omega)
    have a := ih v
    have b := ih (A i).fr.toNat
    have c := ih (A i).to'.toNat
    show -(((i + 1 : Nat) : Int) * 1099511627776) ≤ upd (upd _ _ _) _ _ v ∧ upd (upd _ _ _) _ _ v ≤ ((i + 1 : Nat) : Int) * 1099511627776
    unfold upd
    by_cases e1 : v = (A i).to'.toNat
    · rw [if_pos e1]
      by_cases e2 : (A i).to'.toNat = (A i).fr.toNat
      · rw [if_pos e2]; omega
      · rw [if_neg e2]; omega
    · rw [if_neg e1]
      by_cases e2 : v = (A i).fr.toNat
      · rw [if_pos e2]; omega
      · rw [if_neg e2]; omega
/-- What Balance answers. -/
def BalQ (n : Int) (m : Nat) (A : Nat → Ar) (k : Nat) (M : Nat → Int) (w : World) (e : Ending) (w' : World) : Prop := ∃ x v, e = .returned (.tuple #[v, .int .i64 x]) ∧ AErr n m A k M x ∧ Below w.heap.size w w' ∧ (x ≠ 0 → v = .slice none 0 0) ∧ (x = 0 → ∃ b, v = .slice (some ⟨b, 0, none⟩) n.toNat n.toNat ∧ w.heap.size ≤ b ∧ IR w' b 3 n.toNat (balS A M m))
/-- An arc's box in a world. -/
structure AB (g : Nat) (v0 v1 v2 v3 : Int) (W : World) : Prop where
  sz : g < W.heap.size
  c0 : W.cell? ⟨g, 0, none⟩ = some (.int .i64 v0)
  c1 : W.cell? ⟨g, 1, none⟩ = some (.int .i64 v1)
  c2 : W.cell? ⟨g, 2, none⟩ = some (.int .i64 v2)
  c3 : W.cell? ⟨g, 3, none⟩ = some (.int .i64 v3)
theorem AB.new (W : World) (a b c d : Int) : AB W.heap.size a b c d (W.alloc (Obj.cells #[Value.int .i64 a, Value.int .i64 b, Value.int .i64 c, Value.int .i64 d] 127)) := by
  obtain ⟨b0, b1, b2, b3, -, sz⟩ := arBox W a b c d
  exact ⟨sz, b0, b1, b2, b3⟩
theorem AB.keep {g : Nat} {v0 v1 v2 v3 : Int} {W W' : World} (h : AB g v0 v1 v2 v3 W) (hs : W.heap.size ≤ W'.heap.size) (e : W'.heap[g]? = W.heap[g]?) : AB g v0 v1 v2 v3 W' := by
  obtain ⟨s, a, b, c, d⟩ := h
  have k : ∀ o, W'.cell? ⟨g, o, none⟩ = W.cell? ⟨g, o, none⟩ := fun o => World.cell?_of_block e
  exact ⟨by omega, (k 0).trans a, (k 1).trans b, (k 2).trans c, (k 3).trans d⟩
theorem AB.below {g : Nat} {v0 v1 v2 v3 : Int} {W W' : World} (h : AB g v0 v1 v2 v3 W) (hb : Below W.heap.size W W') : AB g v0 v1 v2 v3 W' := h.keep hb.size (hb.block g h.sz)
theorem AB.set {g b : Nat} {v0 v1 v2 v3 : Int} {W : World} (h : AB g v0 v1 v2 v3 W) (ne : b ≠ g) (k : Nat) (v : Value) : AB g v0 v1 v2 v3 (W.setCell ⟨b, k, none⟩ v) := h.keep (by simp [World.setCell]) (Below.heap_setCell _ _ _ _ (by dsimp only; omega))

set_option maxRecDepth 100000 in
set_option maxHeartbeats 8000000 in
theorem Balance_any (n : Int) (hn : -9223372036854775808 ≤ n ∧ n ≤ 9223372036854775807) (p : Option Addr) (c m : Nat) (A : Nat → Ar) (q : Option Addr) (d k : Nat) (M : Nat → Int) (w : World) (r : ArcR w p m A) (r2 : NmR w q k M) (lm : m ≤ 1000000) (lk : k ≤ 1000000) :
    Calls Try.prog 47 #[.int .i64 n, .slice p m c, .slice q k d] w (BalQ n m A k M w) := by
  obtain ⟨i0, hi, hz0, hz1, hz2⟩ := info_parts intInfo
  have R := Lib.hid r
  have R2 := Lib.hid r2
  have CA := Lib.hid (checkAmounts_any n hn p c m A q d k M w r r2 lm lk)
  clear r r2
  go_enter Try.func47, Try.ntmps47
  go_wp2_with fail
  refine CA.out.mono ?_
  rintro e w1 ⟨x, rfl, nq, st⟩
  have NQ := Lib.hid nq
  have KB := Lib.hid st
  clear nq st CA
  by_cases x0 : x = 0
  case neg =>
    have x1 : (x == 0) = false := by simpa using x0
    have x2 : (x != 0) = true := by simpa using x0
    have X0 := Lib.hid x0
    clear x0
    go_wp2_with fail
    go_ret2
    exact ⟨x, _, rfl, NQ.out, KB.out, fun _ => rfl, fun h => absurd h X0.out⟩
  subst x0
  have x1 : ((0 : Int) == 0) = true := by decide
  have x2 : ((0 : Int) != 0) = false := by decide
  obtain ⟨nb, m128, OKS, rfl, AMT⟩ := NQ.out.good
  obtain ⟨u, rfl⟩ := Int.eq_ofNat_of_zero_le (show 0 ≤ n by omega)
  have OKS := Lib.hid OKS
  have AMT := Lib.hid AMT
  have u32 : u ≤ 32 := by omega
  have BD := Lib.hid (show ∀ i, i ≤ k → ∀ v, -(128 * 1099511627776) ≤ balS A M i v ∧ balS A M i v ≤ 128 * 1099511627776 from fun i hi v => by
    have := balS_bd (A := A) (M := M) (i := i) (fun j hj => by have h1 := AMT.out j (by omega); have h2 := OKS.out j (by omega); unfold arOk at h2; omega) v
    omega)
  clear nb
  go_upto_region 5 with (first
    | (at_make; refine wpList_make_full _ rfl _ _ 40 rfl w1.heap.size 3 i0 (.int .i64 0) 1 Try.underlying40 hi hz0 hz1 .i64 .i64 _ _ u rfl rfl (by omega) (by omega) (by rw [hz2]; omega) (by unfold maxLen; omega) (Nat.le_refl _) ?_; intro w2 hown0 hgrow0))
  rw [made_ints] at hown0
  have I1 := Lib.hid (IR.of hown0)
  have B1 := Lib.hid (show Below w1.heap.size w1 w2 from (Below.refl _ _).grown hgrow0 (Nat.le_refl _) (fun k e => by cases e))
  clear hown0 hgrow0
  obtain ⟨b, hb⟩ : ∃ b, b = w1.heap.size := ⟨_, rfl⟩
  rw [← hb] at I1 ⊢
  have HBB := Lib.hid (show w1.heap.size ≤ b ∧ w.heap.size ≤ b from by rw [hb]; exact ⟨Nat.le_refl _, KB.out.size⟩)
  have KB2 := Lib.hid (KB.out.trans (B1.out.mono KB.out.size))
  clear hb KB B1 x1 x2
  go_wp2_with fail
  go_loopw [23] (fun kv wr => ∃ i : Nat, i ≤ k ∧ kv = .int .i64 i ∧ Hid (IR wr b 3 u (balS A M i)) ∧ Hid (Below w.heap.size w wr)) (fun kv _ => k - (intOf kv).toNat)
  case atStart => exact ⟨0, Nat.zero_le _, rfl, Lib.hid (I1.out.ext fun k _ => rfl), KB2⟩
  case round =>
    obtain ⟨i, hi', rfl, IS, HB⟩ := hrel
    clear I1 KB2
    by_cases t1 : i < k
    · have i1 : (0 : Int) ≤ (i : Int) := by omega
      have i2 : (i : Int) < (k : Int) := by omega
      have bd := BD.out i (by omega)
      have am := AMT.out i t1
      have ok := OKS.out i t1
      unfold arOk at ok
      have SS := Lib.hid (show balS A M (i + 1) = upd (upd (balS A M i) (A i).fr.toNat (balS A M i (A i).fr.toNat + M i)) (A i).to'.toNat (upd (balS A M i) (A i).fr.toNat (balS A M i (A i).fr.toNat + M i) (A i).to'.toNat - M i) from rfl)
      obtain ⟨x, ex, xa⟩ := (R.out.below HB.out) i t1
      obtain ⟨y, ey, ky, cy⟩ := (R2.out.below HB.out) i t1
      subst ex ey
      have AR := Lib.hid (show ∀ W, Below w.heap.size w W → ArAt W (x.add (i * 4)) (A i) from fun W B => by
        obtain ⟨z, ez, za⟩ := (R.out.below B) i t1
        cases ez; exact za)
      have NRR := Lib.hid (show ∀ W, Below w.heap.size w W → W.cell? (y.add i) = some (.int .i64 (M i)) from fun W B => by
        obtain ⟨z, ez, _, za⟩ := (R2.out.below B) i t1
        cases ez; exact za)
      clear ky cy
      obtain ⟨v0, hv0⟩ : ∃ v, v = (A i).fr := ⟨_, rfl⟩
      obtain ⟨v1, hv1⟩ : ∃ v, v = (A i).to' := ⟨_, rfl⟩
      rw [← hv0, ← hv1] at ok SS
      obtain ⟨s, rfl⟩ := Int.eq_ofNat_of_zero_le ok.1
      obtain ⟨t, rfl⟩ := Int.eq_ofNat_of_zero_le ok.2.2.1
      have HV0 := Lib.hid hv0.symm
      have HV1 := Lib.hid hv1.symm
      have su : s < u := by omega
      have tu : t < u := by omega
      have s1 : (0 : Int) ≤ (s : Int) := by omega
      have s2 : (s : Int) < (u : Int) := by omega
      have r1 : (0 : Int) ≤ (t : Int) := by omega
      have r2 : (t : Int) < (u : Int) := by omega
      have st : t ≠ s := by omega
      have SS := Lib.hid (show balS A M (i + 1) = upd (upd (balS A M i) s (balS A M i s + M i)) t (balS A M i t - M i) from by
        rw [SS.out]
        simp only [Int.toNat_natCast]
        rw [show upd (balS A M i) s (balS A M i s + M i) t = balS A M i t from if_neg st])
      have bs := bd s
      have bt := bd t
      have MC := Lib.hid (show (A i).cap ≤ 1099511627776 from ok.2.2.2.2.2.2.1)
      have mb : 0 ≤ M i ∧ M i ≤ 1099511627776 := ⟨am.1, Int.le_trans am.2 MC.out⟩
      clear hv0 hv1 ok am bd
      obtain ⟨f, hf⟩ : ∃ f, f = balS A M i := ⟨_, rfl⟩
      rw [← hf] at SS IS bs bt
      clear hf
      obtain ⟨-, a0, a1, a2, a3⟩ := xa
      rw [HV0.out] at a0
      rw [HV1.out] at a1
      generalize (A i).cap = v2 at *
      generalize (A i).cost = v3 at *
      have PT := Lib.hid (AB.new wr (s : Int) (t : Int) v2 v3)
      have P2 := Lib.hid (show Below wr.heap.size wr (wr.alloc (Obj.cells #[Value.int .i64 (s : Int), Value.int .i64 (t : Int), Value.int .i64 v2, Value.int .i64 v3] 127)) from (Below.refl _ wr).alloc (Nat.le_refl _) _)
      clear AR
      go_upto_region 8 with fail
      generalize wr.alloc (Obj.cells #[Value.int .i64 (s : Int), Value.int .i64 (t : Int), Value.int .i64 v2, Value.int .i64 v3] 127) = wa at *
      obtain ⟨g, hg⟩ : ∃ g, g = wr.heap.size := ⟨_, rfl⟩
      rw [← hg] at PT ⊢
      have GB := Lib.hid (show b ≠ g from by have := IS.out.lt; omega)
      replace IS := Lib.hid (show IR wa b 3 u f from IS.out.keep (P2.out.block _ IS.out.lt))
      replace HB := Lib.hid (HB.out.trans (P2.out.mono HB.out.size))
      clear hg P2 a0 a1 a2 a3
      obtain ⟨-, b0, b1, -, -⟩ := PT.out
      have cs := IS.out.cell su
      have fs := IS.out.frozen s
      have cm := NRR.out _ HB.out
      have IS2 := Lib.hid (IS.out.set s (f s + M i))
      have HB2 := Lib.hid (show Below w.heap.size w (wa.setCell ⟨b, s, none⟩ (.int .i64 (f s + M i))) from HB.out.setCell (by show w.heap.size ≤ b; exact HBB.out.2) _)
      have PT2 := Lib.hid (PT.out.set GB.out s (.int .i64 (f s + M i)))
      have wS : IntKind.i64.wrap (f s + M i) = f s + M i := hwI (by omega) (by omega)
      have wT : IntKind.i64.wrap (f t - M i) = f t - M i := hwI (by omega) (by omega)
      have UT := Lib.hid (show upd f s (f s + M i) t = f t from if_neg st)
      clear st bs bt mb MC
      go_cut [] from 28 to 39 (fun wx => Hid (IR wx b 3 u (upd f s (f s + M i))) ∧ Hid (Below w.heap.size w wx) ∧ Hid (AB g (s : Int) (t : Int) v2 v3 wx))
      case first =>
        clear IS HB wT SS UT
        go_region_law (fail)
        all_goals
          go_wp2_with fail
          go_meet
          exact ⟨(by first | exact IS2 | exact Lib.hid (IS2.out.keep rfl)), (by first | exact HB2 | exact Lib.hid HB2.out.drew | exact Lib.hid (below_drewN HB2.out _)), (by first | exact PT2 | exact Lib.hid ((PT2).out.below ((Below.refl _ _).drew)) | exact Lib.hid ((PT2).out.below (below_drewN (Below.refl _ _) _)))⟩
      case rest =>
      obtain ⟨IS3, HB3, PT3⟩ := hcut
      clear IS IS2 HB HB2 cs fs cm b0 b1 PT PT2
      have ct := IS3.out.cell tu
      rw [UT.out] at ct
      have ft := IS3.out.frozen t
      have cm := NRR.out _ HB3.out
      obtain ⟨-, b0, b1, -, -⟩ := PT3.out
      have IS4 := Lib.hid (show IR (wc.setCell ⟨b, t, none⟩ (.int .i64 (f t - M i))) b 3 u (balS A M (i + 1)) from by rw [SS.out]; exact IS3.out.set t _)
      have HB4 := Lib.hid (show Below w.heap.size w (wc.setCell ⟨b, t, none⟩ (.int .i64 (f t - M i))) from HB3.out.setCell (by show w.heap.size ≤ b; exact HBB.out.2) _)
      clear IS3 HB3 SS wS UT
      go_upto_region 9 with fail
      go_region_law (fail)
      all_goals
        go_wp2_with fail
        go_roundw
      all_goals first
        | exact ⟨i + 1, by omega, by go_num, (by first | exact IS4 | exact Lib.hid (IS4.out.keep rfl)), (by first | exact HB4 | exact Lib.hid HB4.out.drew | exact Lib.hid (below_drewN HB4.out _))⟩
        | (simp [intOf]; omega)
    · obtain rfl : i = k := by omega
      go_wp2_with fail
      go_ret2
      exact ⟨0, _, rfl, NQ.out, HB.out, fun h => absurd rfl h, fun _ => ⟨b, by simp, HBB.out.2, by simpa using IS.out⟩⟩

set_option maxRecDepth 100000 in
set_option maxHeartbeats 8000000 in
theorem rBalance_any (n : Int) (hn : -9223372036854775808 ≤ n ∧ n ≤ 9223372036854775807) (p : Option Addr) (c m : Nat) (A : Nat → Ar) (q : Option Addr) (d k : Nat) (M : Nat → Int) (w : World) (r : ArcR w p m A) (r2 : NmR w q k M) (lm : m ≤ 1000000) (lk : k ≤ 1000000) :
    Calls Try.prog 48 #[.int .i64 n, .slice p m c, .slice q k d] w (BalQ n m A k M w) := by
  obtain ⟨i0, hi, hz0, hz1, hz2⟩ := info_parts intInfo
  have R := Lib.hid r
  have R2 := Lib.hid r2
  have CA := Lib.hid (rAmounts_any n hn p c m A q d k M w r r2 lm lk)
  clear r r2
  go_enter Try.func48, Try.ntmps48
  go_wp2_with fail
  refine CA.out.mono ?_
  rintro e w1 ⟨x, rfl, nq, st⟩
  have NQ := Lib.hid nq
  have KB := Lib.hid st
  clear nq st CA
  by_cases x0 : x = 0
  case neg =>
    have x1 : (x == 0) = false := by simpa using x0
    have x2 : (x != 0) = true := by simpa using x0
    have X0 := Lib.hid x0
    clear x0
    go_wp2_with fail
    go_ret2
    exact ⟨x, _, rfl, NQ.out, KB.out, fun _ => rfl, fun h => absurd h X0.out⟩
  subst x0
  have x1 : ((0 : Int) == 0) = true := by decide
  have x2 : ((0 : Int) != 0) = false := by decide
  obtain ⟨nb, m128, OKS, rfl, AMT⟩ := NQ.out.good
  obtain ⟨u, rfl⟩ := Int.eq_ofNat_of_zero_le (show 0 ≤ n by omega)
  have OKS := Lib.hid OKS
  have AMT := Lib.hid AMT
  have u32 : u ≤ 32 := by omega
  have BD := Lib.hid (show ∀ i, i ≤ k → ∀ v, -(128 * 1099511627776) ≤ balS A M i v ∧ balS A M i v ≤ 128 * 1099511627776 from fun i hi v => by
    have := balS_bd (A := A) (M := M) (i := i) (fun j hj => by have h1 := AMT.out j (by omega); have h2 := OKS.out j (by omega); unfold arOk at h2; omega) v
    omega)
  clear nb
  go_upto_region 5 with (first
    | (at_make; refine wpList_make_full _ rfl _ _ 40 rfl w1.heap.size 3 i0 (.int .i64 0) 1 Try.underlying40 hi hz0 hz1 .i64 .i64 _ _ u rfl rfl (by omega) (by omega) (by rw [hz2]; omega) (by unfold maxLen; omega) (Nat.le_refl _) ?_; intro w2 hown0 hgrow0))
  rw [made_ints] at hown0
  have I1 := Lib.hid (IR.of hown0)
  have B1 := Lib.hid (show Below w1.heap.size w1 w2 from (Below.refl _ _).grown hgrow0 (Nat.le_refl _) (fun k e => by cases e))
  clear hown0 hgrow0
  obtain ⟨b, hb⟩ : ∃ b, b = w1.heap.size := ⟨_, rfl⟩
  rw [← hb] at I1 ⊢
  have HBB := Lib.hid (show w1.heap.size ≤ b ∧ w.heap.size ≤ b from by rw [hb]; exact ⟨Nat.le_refl _, KB.out.size⟩)
  have KB2 := Lib.hid (KB.out.trans (B1.out.mono KB.out.size))
  clear hb KB B1 x1 x2
  go_wp2_with fail
  go_loopw [10] (fun kv wr => ∃ i : Nat, i ≤ k ∧ kv = .int .i64 i ∧ Hid (IR wr b 3 u (balS A M i)) ∧ Hid (Below w.heap.size w wr)) (fun kv _ => k - (intOf kv).toNat)
  case atStart => exact ⟨0, Nat.zero_le _, rfl, Lib.hid (I1.out.ext fun k _ => rfl), KB2⟩
  case round =>
    obtain ⟨i, hi', rfl, IS, HB⟩ := hrel
    clear I1 KB2
    by_cases t1 : i < k
    · have i1 : (0 : Int) ≤ (i : Int) := by omega
      have i2 : (i : Int) < (k : Int) := by omega
      have bd := BD.out i (by omega)
      have am := AMT.out i t1
      have ok := OKS.out i t1
      unfold arOk at ok
      have SS := Lib.hid (show balS A M (i + 1) = upd (upd (balS A M i) (A i).fr.toNat (balS A M i (A i).fr.toNat + M i)) (A i).to'.toNat (upd (balS A M i) (A i).fr.toNat (balS A M i (A i).fr.toNat + M i) (A i).to'.toNat - M i) from rfl)
      obtain ⟨x, ex, xa⟩ := (R.out.below HB.out) i t1
      obtain ⟨y, ey, ky, cy⟩ := (R2.out.below HB.out) i t1
      subst ex ey
      have AR := Lib.hid (show ∀ W, Below w.heap.size w W → ArAt W (x.add (i * 4)) (A i) from fun W B => by
        obtain ⟨z, ez, za⟩ := (R.out.below B) i t1
        cases ez; exact za)
      have NRR := Lib.hid (show ∀ W, Below w.heap.size w W → W.cell? (y.add i) = some (.int .i64 (M i)) from fun W B => by
        obtain ⟨z, ez, _, za⟩ := (R2.out.below B) i t1
        cases ez; exact za)
      clear ky cy
      obtain ⟨v0, hv0⟩ : ∃ v, v = (A i).fr := ⟨_, rfl⟩
      obtain ⟨v1, hv1⟩ : ∃ v, v = (A i).to' := ⟨_, rfl⟩
      rw [← hv0, ← hv1] at ok SS
      obtain ⟨s, rfl⟩ := Int.eq_ofNat_of_zero_le ok.1
      obtain ⟨t, rfl⟩ := Int.eq_ofNat_of_zero_le ok.2.2.1
      have HV0 := Lib.hid hv0.symm
      have HV1 := Lib.hid hv1.symm
      have su : s < u := by omega
      have tu : t < u := by omega
      have s1 : (0 : Int) ≤ (s : Int) := by omega
      have s2 : (s : Int) < (u : Int) := by omega
      have r1 : (0 : Int) ≤ (t : Int) := by omega
      have r2 : (t : Int) < (u : Int) := by omega
      have st : t ≠ s := by omega
      have SS := Lib.hid (show balS A M (i + 1) = upd (upd (balS A M i) s (balS A M i s + M i)) t (balS A M i t - M i) from by
        rw [SS.out]
        simp only [Int.toNat_natCast]
        rw [show upd (balS A M i) s (balS A M i s + M i) t = balS A M i t from if_neg st])
      have bs := bd s
      have bt := bd t
      have MC := Lib.hid (show (A i).cap ≤ 1099511627776 from ok.2.2.2.2.2.2.1)
      have mb : 0 ≤ M i ∧ M i ≤ 1099511627776 := ⟨am.1, Int.le_trans am.2 MC.out⟩
      clear hv0 hv1 ok am bd
      obtain ⟨f, hf⟩ : ∃ f, f = balS A M i := ⟨_, rfl⟩
      rw [← hf] at SS IS bs bt
      clear hf
      clear xa
      obtain ⟨-, b0, b1, -, -⟩ := AR.out _ HB.out
      rw [HV0.out] at b0
      rw [HV1.out] at b1
      go_upto_region 8 with fail
      have cs := IS.out.cell su
      have fs := IS.out.frozen s
      have cm := NRR.out _ HB.out
      have IS2 := Lib.hid (IS.out.set s (f s + M i))
      have HB2 := Lib.hid (show Below w.heap.size w (wr.setCell ⟨b, s, none⟩ (.int .i64 (f s + M i))) from HB.out.setCell (by show w.heap.size ≤ b; exact HBB.out.2) _)
      have wS : IntKind.i64.wrap (f s + M i) = f s + M i := hwI (by omega) (by omega)
      have wT : IntKind.i64.wrap (f t - M i) = f t - M i := hwI (by omega) (by omega)
      have UT := Lib.hid (show upd f s (f s + M i) t = f t from if_neg st)
      clear st bs bt mb MC
      go_cut [] from 26 to 40 (fun wx => Hid (IR wx b 3 u (upd f s (f s + M i))) ∧ Hid (Below w.heap.size w wx))
      case first =>
        clear IS HB wT SS UT
        go_region_law (fail)
        all_goals
          go_wp2_with fail
          go_meet
          exact ⟨(by first | exact IS2 | exact Lib.hid (IS2.out.keep rfl)), (by first | exact HB2 | exact Lib.hid HB2.out.drew | exact Lib.hid (below_drewN HB2.out _))⟩
      case rest =>
      obtain ⟨IS3, HB3⟩ := hcut
      clear IS IS2 HB HB2 cs fs cm b0 b1
      have ct := IS3.out.cell tu
      rw [UT.out] at ct
      have ft := IS3.out.frozen t
      have cm := NRR.out _ HB3.out
      obtain ⟨-, b0, b1, -, -⟩ := AR.out _ HB3.out
      rw [HV0.out] at b0
      rw [HV1.out] at b1
      have IS4 := Lib.hid (show IR (wc.setCell ⟨b, t, none⟩ (.int .i64 (f t - M i))) b 3 u (balS A M (i + 1)) from by rw [SS.out]; exact IS3.out.set t _)
      have HB4 := Lib.hid (show Below w.heap.size w (wc.setCell ⟨b, t, none⟩ (.int .i64 (f t - M i))) from HB3.out.setCell (by show w.heap.size ≤ b; exact HBB.out.2) _)
      clear IS3 HB3 SS wS UT
      go_upto_region 9 with fail
      go_region_law (fail)
      all_goals
        go_wp2_with fail
        go_roundw
      all_goals first
        | exact ⟨i + 1, by omega, by go_num, (by first | exact IS4 | exact Lib.hid (IS4.out.keep rfl)), (by first | exact HB4 | exact Lib.hid HB4.out.drew | exact Lib.hid (below_drewN HB4.out _))⟩
        | (simp [intOf]; omega)
    · obtain rfl : i = k := by omega
      go_wp2_with fail
      go_ret2
      exact ⟨0, _, rfl, NQ.out, HB.out, fun h => absurd rfl h, fun _ => ⟨b, by simp, HBB.out.2, by simpa using IS.out⟩⟩
end Go.Proofs.Ytbcfafihkdddeaa
