/- The laws' same; Of of any list. -/
import Derived.Test.YtgbhddiligdemaaTW7
namespace Go.Proofs.Ytgbhddiligdemaa
open Go.RowKit Go.Proofs.Ytgbhddiligdemaa.Mii
set_option linter.unusedVariables false
set_option linter.unusedSimpArgs false

structure BoxM (w : World) (p : Option Addr) (w2 : World) : Prop where
  c1 : w2.cell? ⟨w.heap.size, 0, none⟩ = some (.pointer p)
  f1 : w2.frozen? ⟨w.heap.size, 0, none⟩ = false
  sz : w.heap.size < w2.heap.size
  bel : Below w.heap.size w w2
theorem boxM (w : World) (p : Option Addr) : ∀ w2, (w.alloc (Obj.cells #[Value.pointer p] 35)) = w2 → BoxM w p w2 := fun w2 e => by
  subst e
  exact ⟨by simp [go_sem], by simp [go_sem], by simp, (Below.refl _ w).alloc (Nat.le_refl _) _⟩
theorem encL_len (L : List (Int × Int)) : (encL L).length = L.length := by simp [encL]
theorem sz_enc {t : Tr Int Value} {L : List (Int × Int)} (h : t.rows = encL L) : t.sz = L.length := by rw [← t.sz_eq, h, encL_len]

set_option maxRecDepth 100000 in
set_option maxHeartbeats 2000000 in
theorem same_any (p : Option Addr) (t : Tr Int Value) (s : Option Addr) (c : Nat) (L : List (Int × Int)) (w : World) (h : At w p t) (hL : t.rows = encL L) (r : RowsR w s L) (ln : L.length ≤ 1000000) :
    Calls Try.prog 16 #[.agg #[.pointer p], .slice s L.length c] w fun e w' => e = .returned (.bool true) ∧ Below w.heap.size w w' := by
  have R := Lib.hid r
  have TT := Lib.hid h
  have CP := Lib.hid (fun W hW => Pairs_any p t L W hW hL (by omega))
  have CL := Lib.hid (fun n W hW hn => Len_any p t n W hW hn)
  have SZ := Lib.hid (sz_enc hL)
  have HB := Lib.hid (boxM w p)
  obtain ⟨x, hx⟩ : ∃ x, x = L.length := ⟨_, rfl⟩
  rw [← hx] at ln CP SZ ⊢
  have HX := Lib.hid hx
  clear hx r h hL
  go_enter Try.func16, Try.ntmps16
  go_wp2_with fail
  generalize e0 : w.alloc (Obj.cells #[Value.pointer p] 35) = w0
  obtain ⟨k1, f1, sz, bel⟩ := HB.out w0 e0
  have BL := Lib.hid bel
  replace TT := Lib.hid (TT.out.below bel (Nat.le_refl _))
  clear HB e0 bel f1
  go_wp2_with fail
  refine (CP.out _ TT.out).mono ?_
  rintro e w1 ⟨v, rfl, ho, st⟩
  replace k1 := cell_gr st k1
  replace TT := Lib.hid (TT.out.grow st)
  replace BL := Lib.hid (BL.out.trans (st.mono BL.out.size))
  obtain ⟨pv, cv, rfl, rp⟩ := ownRows (by rw [HX.out] at ho; exact ho)
  rw [← HX.out]
  have RP := Lib.hid rp
  clear ho rp st CP
  go_wp2_with fail
  refine (CL.out x _ (by first | exact TT.out | exact TT.out.drew) (by rw [SZ.out])).mono ?_
  rintro e w2 ⟨rfl, st⟩
  replace RP := Lib.hid (RP.out.below st)
  replace BL := Lib.hid (BL.out.trans (st.mono BL.out.size))
  clear st TT CL SZ k1
  go_wp2_with fail
  go_loopw [6] (fun kv wr => ∃ i : Nat, i ≤ x ∧ kv = .int .i64 i ∧ ∃ n, wr = w2.drewN n) (fun kv _ => x - (intOf kv).toNat)
  case atStart => exact ⟨0, Nat.zero_le _, rfl, 0, rfl⟩
  case round =>
    obtain ⟨i, hi, rfl, n, rfl⟩ := hrel
    by_cases t1 : i < x
    · have l1 : i < L.length := by have := HX.out; omega
      obtain ⟨xa, rfl, kx, cx0, dx0⟩ := R.out i l1
      obtain ⟨xb, rfl, ky, cy, dy⟩ := RP.out i l1
      have cx : w2.cell? (xa.add (i * 2)) = some (.int .i64 (kd L i)) := (BL.out.cell (by rw [adb]; exact kx)).trans cx0
      have dx : w2.cell? ⟨(xa.add (i * 2)).block, (xa.add (i * 2)).off + 1, none⟩ = some (.int .i64 (vd L i)) := (BL.out.cell (p := ⟨(xa.add (i * 2)).block, (xa.add (i * 2)).off + 1, none⟩) (by rw [adb]; exact kx)).trans dx0
      have i1 : (0 : Int) ≤ (i : Int) := by omega
      have i2 : (i : Int) < (x : Int) := by omega
      clear cx0 dx0
      generalize kd L i = k at *
      generalize vd L i = y at *
      go_wp2_with fail
      go_quiet (fail)
      go_wp2_with fail
      go_roundw
      case rel => exact ⟨i + 1, by omega, by go_num, _, rfl⟩
      case measure => simp [intOf]; omega
    · go_wp2_with fail
      go_ret
      exact ⟨rfl, below_drewN BL.out _⟩

/-- What Of answers. -/
def OfR (n₀ : Nat) (w : World) (L : List (Int × Int)) (e : Ending) (w' : World) : Prop :=
  (Asc L ∧ ∃ q t, e = .returned (.tuple #[.agg #[.pointer q], .int .i64 0]) ∧ AtF n₀ w' q t ∧ t.rows = encL L ∧ t.Avl ∧ Below w.heap.size w w') ∨
  (¬ Asc L ∧ e = .returned (.tuple #[.agg #[.pointer none], .int .i64 2]) ∧ Below w.heap.size w w')
theorem pairsAt_of {w : World} {g : Nat} {L : List (Int × Int)} (h : RowsR w (some ⟨g, 0, none⟩) L) : PairsAt w g (encL L) := fun i x hx => by
  unfold encL at hx
  rw [List.getElem?_map] at hx
  obtain ⟨y, hy, rfl⟩ := Option.map_eq_some_iff.1 hx
  have hi := (List.getElem?_eq_some_iff.1 hy).1
  have ey : y = (kd L i, vd L i) := by rw [kvd hi]; exact ((List.getElem?_eq_some_iff.1 hy).2).symm
  subst ey
  obtain ⟨xa, e, _, c, d⟩ := h i hi
  cases e
  rw [add0] at c d
  exact ⟨by rw [Nat.mul_comm]; exact c, by rw [Nat.mul_comm]; exact d, rfl⟩
set_option maxRecDepth 100000 in
set_option maxHeartbeats 2000000 in
theorem Of_any (n₀ : Nat) (p : Option Addr) (c : Nat) (L : List (Int × Int)) (w : World) (hz : n₀ ≤ w.heap.size) (r : RowsR w p L) (hp : p = none ∧ L.length = 0 ∨ ∃ g, p = some ⟨g, 0, none⟩) (hc : L.length ≤ c) (hcm : c ≤ maxLen) (ln : L.length ≤ 1000000) :
    Calls Try.prog 23 #[.slice p L.length c] w (OfR n₀ w L) := by
  have HH : Hid (∀ W, n₀ ≤ W.heap.size → RowsR W p L → Calls Try.prog 64 #[.slice p L.length c] W (MapF n₀ W (HalQ (encL L)))) := Lib.hid (fun W hW hR => by
    obtain ⟨g, pl, he⟩ : ∃ g, PairsAt W g (encL L) ∧ (0 < L.length → p = some ⟨g, 2 * 0, none⟩) := by
      rcases hp with ⟨rfl, h0⟩ | ⟨g, rfl⟩
      · obtain rfl := List.length_eq_zero_iff.1 h0
        exact ⟨0, fun i x hx => by simp [encL] at hx, fun h => by simp at h⟩
      · exact ⟨g, pairsAt_of hR, fun _ => rfl⟩
    have := halveF_all n₀ g (encL L) (by rw [encL_len]; omega) L.length L.length 0 c p W (Nat.le_refl _) hc (by rw [encL_len]; omega) hcm he ⟨pl, hW⟩
    rwa [List.drop_zero, List.take_of_length_le (by rw [encL_len]; omega)] at this)
  have HZ := Lib.hid hz
  have R := Lib.hid r
  have HB := Lib.hid (boxM w none)
  obtain ⟨x, hx⟩ : ∃ x, x = L.length := ⟨_, rfl⟩
  rw [← hx] at ln HH ⊢
  have HX := Lib.hid hx
  clear hx r hz hp hc hcm
  go_enter Try.func23, Try.ntmps23
  go_wp2_with fail
  generalize e0 : w.alloc (Obj.cells #[Value.pointer none] 35) = w0
  obtain ⟨k1, f1, sz, bel⟩ := HB.out w0 e0
  have BL := Lib.hid bel
  replace R := Lib.hid (R.out.below bel)
  replace HZ := Lib.hid (Nat.le_trans HZ.out bel.size)
  clear HB e0 bel
  go_loopw [4] (fun kv wr => ∃ i : Nat, (i + 1 ≤ x ∨ i = 0) ∧ kv = .int .i64 ((i : Int) + 1) ∧ Hid (Asc (L.take (i + 1))) ∧ ∃ n, wr = w0.drewN n) (fun kv _ => x + 1 - (intOf kv).toNat)
  case atStart => exact ⟨0, .inr rfl, rfl, Lib.hid (by cases L with | nil => exact Asc.nil | cons a L => exact List.pairwise_singleton _ _), 0, rfl⟩
  case round =>
    obtain ⟨i, hi, rfl, hn, n, rfl⟩ := hrel
    by_cases t1 : i + 1 < x
    · have l1 : i + 1 < L.length := by have := HX.out; omega
      obtain ⟨xa, rfl, kx, cx, _⟩ := R.out i (by omega)
      obtain ⟨xb, e, ky, cy, _⟩ := R.out (i + 1) l1
      cases e
      have q1 : IntKind.i64.wrap ((i : Int) + 1 - 1) = (i : Int) := by rw [show (i : Int) + 1 - 1 = i by omega]; exact IntWalk.i64_in _ (by omega)
      have q2 : IntKind.i64.wrap ((i : Int) + 1 + 1) = (i : Int) + 1 + 1 := IntWalk.i64_in _ (by omega)
      have i1 : (0 : Int) ≤ (i : Int) := by omega
      have i2 : (i : Int) < (x : Int) := by omega
      have i3 : (0 : Int) ≤ (i : Int) + 1 := by omega
      have i4 : (i : Int) + 1 < (x : Int) := by omega
      have q3 : ((i : Int) + 1).toNat = i + 1 := by omega
      have F1 := Lib.hid (fun (e : kd L i < kd L (i + 1)) => asc_take_succ l1 hn.out (.inr e))
      have F2 := Lib.hid (fun (e : kd L (i + 1) ≤ kd L i) => not_asc l1 (by omega) e)
      generalize kd L i = u at *
      generalize kd L (i + 1) = v at *
      by_cases t2 : v ≤ u
      · have F := Lib.hid (F2.out t2)
        clear F1 F2 hn HH
        go_wp2_with fail
        go_quiet (fail)
        go_wp2_with fail
        exact bodyPost_ret (v := .tuple #[.agg #[.pointer none], .int .i64 2]) (by simp [results, Try.results23, go_sem, k1, sz]) rfl (Or.inr ⟨F.out, rfl, ((below_drewN BL.out _).setCell (p := ⟨w.heap.size, 0, none⟩) (Nat.le_refl _) _)⟩)
      · have G := Lib.hid (F1.out (by omega))
        clear F1 F2 hn
        go_wp2_with fail
        go_quiet (fail)
        go_wp2_with fail
        go_roundw
        case rel => exact ⟨i + 1, .inl (by omega), by simp, G, _, rfl⟩
        case measure => simp [intOf]; omega
    · have F := Lib.hid (show Asc L from by have := hn.out; rwa [List.take_of_length_le (by have := HX.out; omega)] at this)
      have t2 : ¬ (i : Int) + 1 < x := by omega
      have st0 := below_drewN (Below.refl w0.heap.size w0) n
      clear hn
      go_wp2_with fail
      refine (HH.out _ (Nat.le_trans HZ.out st0.size) (R.out.below st0)).mono ?_
      rintro e w2 ⟨x1, u1, rfl, a1, g1, st1⟩
      have st := st0.trans (st1.mono st0.size)
      have k2 := cell_gr st k1
      have f2 := fro_gr st k1 f1
      have sz2 := Nat.lt_of_lt_of_le sz st.size
      have FIN : Hid (OfR n₀ w L (.returned (.tuple #[.agg #[.pointer x1], .int .i64 0])) (w2.setCell ⟨w.heap.size, 0, none⟩ (.pointer x1))) := Lib.hid (.inl ⟨F.out, x1, u1, rfl, a1.set _ k2, g1.rows, g1.avl, (BL.out.trans (st.mono BL.out.size)).setCell (Nat.le_refl _) _⟩)
      clear st st0 st1 a1 g1 BL HH k1 f1 R HZ
      go_wp2_with fail
      exact bodyPost_ret (v := .tuple #[.agg #[.pointer x1], .int .i64 0]) (by simp [results, Try.results23, go_sem, k2, sz2]) rfl FIN.out
end Go.Proofs.Ytgbhddiligdemaa
