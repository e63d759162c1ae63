/- TreeOf, walked. -/
import Derived.Test.YtgbhddiligdemaaTW8
import Derived.Test.YtgbhddiligdemaaK22v
namespace Go.Proofs.Ytgbhddiligdemaa
open Go.RowKit Go.Proofs.Ytgbhddiligdemaa.Mii
set_option linter.unusedVariables false
set_option linter.unusedSimpArgs false

/-- The rows from number i on, in a block that may be written. -/
def RowW (w : World) (g : Nat) (L : List (Int × Int)) (i : Nat) : Prop := ∀ j, i ≤ j → j < L.length → w.cell? ⟨g, j * 2, none⟩ = some (.int .i64 (kd L j)) ∧ w.cell? ⟨g, j * 2 + 1, none⟩ = some (.int .i64 (vd L j)) ∧ w.frozen? ⟨g, j * 2, none⟩ = false ∧ w.frozen? ⟨g, j * 2 + 1, none⟩ = false
theorem RowW.grow {A B : World} {g : Nat} {L : List (Int × Int)} {i : Nat} (st : Below A.heap.size A B) (h : RowW A g L i) : RowW B g L i := fun j h1 h2 =>
  have ⟨a, b, c, d⟩ := h j h1 h2
  ⟨cell_gr st a, cell_gr st b, fro_gr st a c, fro_gr st b d⟩
theorem RowW.set {A : World} {g : Nat} {L : List (Int × Int)} {i : Nat} (o : Nat) (v : Value) (ho : o < (i + 1) * 2) (h : RowW A g L i) : RowW (A.setCell ⟨g, o, none⟩ v) g L (i + 1) := fun j h1 h2 => by
  obtain ⟨a, b, c, d⟩ := h j (by omega) h2
  exact ⟨(World.cell?_setCell_other _ _ _ _ (by intro e; have := congrArg Addr.off e; dsimp only at this; omega)).trans a, (World.cell?_setCell_other _ _ _ _ (by intro e; have := congrArg Addr.off e; dsimp only at this; omega)).trans b,
    by rw [World.frozen?_setCell]; exact c, by rw [World.frozen?_setCell]; exact d⟩
/-- An own row of rows that may be written. -/
theorem ownRowsW {W : World} {b : Nat} {t : TypeId} {v : Value} {M : List (Int × Int)} (h : W.ownsRow b t 2 v M.length (rowsV M)) : ∃ p c, v = .slice p M.length c ∧ RowsR W p M ∧ M.length ≤ c ∧ c ≤ maxLen ∧ (p = none ∧ M.length = 0 ∨ ∃ g, p = some ⟨g, 0, none⟩ ∧ b ≤ g ∧ g < W.heap.size ∧ RowW W g M 0) := by
  obtain ⟨p, c, e, r⟩ := ownRows h
  rcases h.2 with ⟨rfl, h0⟩ | ⟨g, cap, cur, rfl, hb, hg, hn, hm, hs, ht⟩
  · obtain ⟨rfl, -, rfl⟩ : none = p ∧ 0 = M.length ∧ 0 = c := by simpa using e
    exact ⟨none, 0, by rw [h0], r, by omega, by unfold maxLen; omega, .inl ⟨rfl, h0⟩⟩
  · cases e
    refine ⟨_, _, rfl, r, hn, hm, .inr ⟨g, rfl, hb, (Array.getElem?_eq_some_iff.1 hg).1, fun j _ hj => ?_⟩⟩
    obtain ⟨x, ex, _, c, d⟩ := r j hj
    cases ex
    rw [add0] at c d
    exact ⟨c, d, by simp [World.frozen?, hg], by simp [World.frozen?, hg]⟩

set_option maxRecDepth 100000 in
set_option maxHeartbeats 4000000 in
theorem treeOf_walk (p : Option Addr) (c : Nat) (L : List (Int × Int)) (w : World) (r : RowsR w p L) (ln : L.length ≤ 9223372036854775807) :
    Calls Try.prog 6 #[.slice p L.length c] w fun e w' => e = .returned (.bool true) ∧ Below w.heap.size w w' := by
  have AL := Lib.hid Go.Proofs.Ytgbhddiligdemaa.Mis.alive_any
  by_cases hlen : 2000 < L.length
  · generalize hx : L.length = x at *
    have g1 : (2000 : Int) < (x : Int) := by omega
    clear hx r
    go_enter Try.func6, Try.ntmps6
    go_wp2_with fail
    refine (AL.out _).mono ?_
    rintro e w1 ⟨rfl, st⟩
    go_wp2_with fail
    go_ret
    exact ⟨rfl, st⟩
  have l2 : L.length ≤ 2000 := by omega
  have R := Lib.hid r
  have CP := Lib.hid (fun W hW => pairs_any p c L W hW (by omega))
  have CO := Lib.hid (fun n₀ q d W h1 h2 h3 h4 h5 => Of_any n₀ q d L W h1 h2 h3 h4 h5 (by omega))
  have CA := Lib.hid (fun W hW => rAscending_any p c L W hW (by omega))
  have CS := Lib.hid (fun q t W h1 h2 h3 => same_any q t p c L W h1 h2 h3 (by omega))
  have CQ := Lib.hid (fun q t W h1 h2 => Pairs_any q t L W h1 h2 (by omega))
  obtain ⟨x, hx⟩ : ∃ x, x = L.length := ⟨_, rfl⟩
  rw [← hx] at l2 CP CO CA CS CQ ⊢
  have HX := Lib.hid hx
  have g1 : ¬ (2000 : Int) < (x : Int) := by omega
  clear hx r ln hlen
  go_enter Try.func6, Try.ntmps6
  go_wp2_with fail
  refine (CP.out _ R.out).mono ?_
  rintro e w1 ⟨v, rfl, ho, st⟩
  obtain ⟨pp, cp, rfl, rp, h1, h2, h3⟩ := ownRowsW (by rw [HX.out] at ho; exact ho)
  rw [← HX.out] at h1 h3 ⊢
  have BL := Lib.hid st
  have B1 := Lib.hid st.size
  have RP := Lib.hid rp
  have H3 := Lib.hid h3
  have OF := Lib.hid (CO.out w1.heap.size pp cp _ (Nat.le_refl _) rp (by rcases h3 with h | ⟨g, h, _⟩; exact .inl h; exact .inr ⟨g, h⟩) h1 h2)
  clear ho rp h3 st CP CO h1 h2
  go_wp2_with fail
  refine (OF.out).mono ?_
  rintro e w2 hof
  clear OF
  rcases hof with ⟨hasc, q, t, rfl, at1, hr, av, st⟩ | ⟨hasc, rfl, st⟩
  · have D : decide (Asc L) = true := by simpa using hasc
    rw [D] at CA
    have AT := Lib.hid at1
    have HB := Lib.hid (boxM w2 q)
    replace H3 : Hid (pp = none ∧ x = 0 ∨ ∃ g, pp = some ⟨g, 0, none⟩ ∧ w.heap.size ≤ g ∧ g < w1.heap.size ∧ RowW w2 g L 0) := Lib.hid (by rcases H3.out with h | ⟨g, h1, h2, h3, h4⟩; exact .inl h; exact .inr ⟨g, h1, h2, h3, h4.grow st⟩)
    replace BL := Lib.hid (BL.out.trans (st.mono BL.out.size))
    have N0 := Lib.hid B1.out
    have N1 := Lib.hid (show w1.heap.size ≤ w2.heap.size from st.size)
    clear at1 hasc D st
    go_wp2_with fail
    generalize e0 : w2.alloc (Obj.cells #[Value.pointer q] 35) = w3
    obtain ⟨k1, f1, sz, bel⟩ := HB.out w3 e0
    have R3 := Lib.hid (R.out.below (BL.out.trans (bel.mono BL.out.size)))
    refine (CA.out _ R3.out).mono ?_
    rintro e w4 ⟨rfl, n, hn⟩
    have st4 : Below w2.heap.size w2 w4 := by rw [hn]; exact below_drewN bel n
    replace k1 : w4.cell? ⟨w2.heap.size, 0, none⟩ = some (.pointer q) := by rw [hn]; exact k1
    replace AT := Lib.hid (AT.out.grow st4)
    replace H3 : Hid (pp = none ∧ x = 0 ∨ ∃ g, pp = some ⟨g, 0, none⟩ ∧ w.heap.size ≤ g ∧ g < w1.heap.size ∧ RowW w4 g L 0) := Lib.hid (by rcases H3.out with h | ⟨g, h1, h2, h3, h4⟩; exact .inl h; exact .inr ⟨g, h1, h2, h3, h4.grow st4⟩)
    replace BL := Lib.hid (BL.out.trans (st4.mono BL.out.size))
    have BX : w2.heap.size < w4.heap.size := World.block_lt_of_cell? w4 _ k1
    clear HB e0 bel f1 sz R3 hn st4 CA RP
    go_wp2_with fail
    go_loopw [6] (fun kv wr => ∃ i : Nat, i ≤ x ∧ kv = .int .i64 i ∧ Hid (pp = none ∧ x = 0 ∨ ∃ g, pp = some ⟨g, 0, none⟩ ∧ w.heap.size ≤ g ∧ g < w1.heap.size ∧ RowW wr g L i) ∧ Hid (AtF w1.heap.size wr q t) ∧ wr.cell? ⟨w2.heap.size, 0, none⟩ = some (.pointer q) ∧ Below w.heap.size w wr) (fun kv _ => x - (intOf kv).toNat)
    case atStart => exact ⟨0, Nat.zero_le _, rfl, H3, AT, k1, BL.out⟩
    case round =>
      obtain ⟨i, hi, rfl, hp, ha, kk, hb⟩ := hrel
      by_cases t1 : i < x
      · have l1 : i < L.length := by have := HX.out; omega
        obtain ⟨xa, rfl, kx, cx0, dx0⟩ := R.out i l1
        rcases hp.out with ⟨_, h0⟩ | ⟨g, rfl, n1, n2, rw1⟩
        · omega
        obtain ⟨cy, dy, fy, fz⟩ := rw1 i (Nat.le_refl _) l1
        have cx : wr.cell? (xa.add (i * 2)) = some (.int .i64 (kd L i)) := (hb.cell (by rw [adb]; exact kx)).trans cx0
        have dx : wr.cell? ⟨(xa.add (i * 2)).block, (xa.add (i * 2)).off + 1, none⟩ = some (.int .i64 (vd L i)) := (hb.cell (p := ⟨(xa.add (i * 2)).block, (xa.add (i * 2)).off + 1, none⟩) (by rw [adb]; exact kx)).trans dx0
        have i1 : (0 : Int) ≤ (i : Int) := by omega
        have i2 : (i : Int) < (x : Int) := by omega
        have nb : ¬ w2.heap.size = g := by have := N1.out; omega
        have ST := Lib.hid (fun (W : World) v (hW : Below wr.heap.size wr W) => (show (RowW (W.setCell ⟨g, i * 2 + 1, none⟩ v) g L (i + 1)) ∧ AtF w1.heap.size (W.setCell ⟨g, i * 2 + 1, none⟩ v) q t ∧ (W.setCell ⟨g, i * 2 + 1, none⟩ v).cell? ⟨w2.heap.size, 0, none⟩ = some (.pointer q) ∧ Below w.heap.size w (W.setCell ⟨g, i * 2 + 1, none⟩ v) from
          ⟨(rw1.grow hW).set _ _ (by omega), (ha.out.grow hW).setLow (x := ⟨g, i * 2 + 1, none⟩) _ n2, cell_st nb (cell_gr hW kk), (hb.trans (hW.mono hb.size)).setCell (p := ⟨g, i * 2 + 1, none⟩) n1 _⟩))
        clear cx0 dx0 rw1 hp ha
        generalize kd L i = k at *
        generalize vd L i = y at *
        go_wp2_with fail
        go_quiet (fail)
        go_wp2_with fail
        go_roundw
        case rel =>
          obtain ⟨s1, s2, s3, s4⟩ := ST.out _ _ (below_drewN (Below.refl _ _) _)
          exact ⟨i + 1, by omega, by go_num, Lib.hid (.inr ⟨g, rfl, n1, n2, s1⟩), Lib.hid s2, s3, s4⟩
        case measure => simp [intOf]; omega
      · obtain ⟨wa, rfl⟩ : ∃ wa, wa = wr := ⟨_, rfl⟩
        have R2 := Lib.hid (R.out.below hb)
        have AW := Lib.hid ha.out.at
        have KK := kk
        clear hp
        go_wp2_with fail
        refine (CQ.out q t _ ha.out.at hr).mono ?_
        rintro e w5 ⟨v, rfl, ho, st⟩
        obtain ⟨pz, cz, rfl, -, -, -, h3⟩ := ownRowsW (by rw [HX.out] at ho; exact ho)
        rw [← HX.out] at h3 ⊢
        have H5 : Hid (pz = none ∧ x = 0 ∨ ∃ g, pz = some ⟨g, 0, none⟩ ∧ wa.heap.size ≤ g ∧ RowW w5 g L 0) := Lib.hid (by rcases h3 with h | ⟨g, h1, h2, _, h4⟩; exact .inl h; exact .inr ⟨g, h1, h2, h4⟩)
        have ST5 := Lib.hid st
        have BW := Lib.hid hb
        clear ho h3 st ha CQ H3 AT k1 BX BL
        go_wp2_with fail
        go_loopw [8] (fun kv wr => ∃ j : Nat, j ≤ x ∧ kv = .int .i64 j ∧ Hid (pz = none ∧ x = 0 ∨ ∃ g, pz = some ⟨g, 0, none⟩ ∧ wa.heap.size ≤ g ∧ RowW wr g L j) ∧ Below wa.heap.size wa wr) (fun kv _ => x - (intOf kv).toNat)
        case atStart => exact ⟨0, Nat.zero_le _, rfl, H5, ST5.out⟩
        case round =>
          obtain ⟨j, hj, rfl, hp, hb2⟩ := hrel
          by_cases t2 : j < x
          · have l1 : j < L.length := by have := HX.out; omega
            rcases hp.out with ⟨_, h0⟩ | ⟨g, rfl, n1, rw1⟩
            · omega
            obtain ⟨cy, dy, fy, fz⟩ := rw1 j (Nat.le_refl _) l1
            have i1 : (0 : Int) ≤ (j : Int) := by omega
            have i2 : (j : Int) < (x : Int) := by omega
            have ST := Lib.hid (fun v => (show RowW (wr.setCell ⟨g, j * 2, none⟩ v) g L (j + 1) ∧ Below wa.heap.size wa (wr.setCell ⟨g, j * 2, none⟩ v) from ⟨rw1.set _ _ (by omega), hb2.setCell (p := ⟨g, j * 2, none⟩) n1 _⟩))
            clear rw1 hp hb2
            generalize kd L j = k at *
            generalize vd L j = y at *
            go_wp2_with fail
            go_roundw
            case rel =>
              obtain ⟨s1, s2⟩ := ST.out _
              exact ⟨j + 1, by omega, by go_num, Lib.hid (.inr ⟨g, rfl, n1, s1⟩), s2⟩
            case measure => simp [intOf]; omega
          · replace KK := cell_gr hb2 KK
            have AW2 := Lib.hid (AW.out.grow hb2)
            have R3 := Lib.hid (R2.out.below hb2)
            have B3 := Lib.hid (BW.out.trans (hb2.mono BW.out.size))
            clear hp hb2 AW R2 BW kk hb
            go_wp2_with fail
            refine (CS.out q t _ AW2.out hr R3.out).mono ?_
            rintro e w6 ⟨rfl, st⟩
            replace B3 := Lib.hid (B3.out.trans (st.mono B3.out.size))
            clear st AW2 R3 KK CS
            go_wp2_with fail
            refine (AL.out _).mono ?_
            rintro e w7 ⟨rfl, st⟩
            replace B3 := Lib.hid (B3.out.trans (st.mono B3.out.size))
            go_wp2_with fail
            go_ret
            exact ⟨rfl, B3.out⟩
  · have D : decide (Asc L) = false := by simpa using hasc
    rw [D] at CA
    replace BL := Lib.hid (BL.out.trans (st.mono BL.out.size))
    have R2 := Lib.hid (R.out.below BL.out)
    have HB := Lib.hid (boxM w2 none)
    have PN := Lib.hid (fun W => Pairs_any none (.nil : Tr Int Value) [] W rfl rfl (by decide))
    have LN := Lib.hid (fun W => Len_any none (.nil : Tr Int Value) 0 W rfl rfl)
    clear st hasc D RP H3 CS CQ
    go_wp2_with fail
    generalize e0 : w2.alloc (Obj.cells #[Value.pointer none] 35) = w3
    obtain ⟨k1, f1, sz, bel⟩ := HB.out w3 e0
    replace BL := Lib.hid (BL.out.trans (bel.mono BL.out.size))
    refine (CA.out _ (R2.out.below bel)).mono ?_
    rintro e w4 ⟨rfl, n, hn⟩
    replace k1 : w4.cell? ⟨w2.heap.size, 0, none⟩ = some (.pointer none) := by rw [hn]; exact k1
    replace BL : Hid (Below w.heap.size w w4) := Lib.hid (by rw [hn]; exact below_drewN BL.out n)
    clear HB e0 bel f1 sz R2 hn CA R
    go_wp2_with fail
    refine (LN.out _).mono ?_
    rintro e w5 ⟨rfl, st⟩
    replace k1 := cell_gr st k1
    replace BL := Lib.hid (BL.out.trans (st.mono BL.out.size))
    clear st LN
    go_wp2_with fail
    refine (PN.out _).mono ?_
    rintro e w6 ⟨v, rfl, ho, st⟩
    obtain ⟨pz, cz, rfl, -⟩ := ownRows (M := []) ho
    replace BL := Lib.hid (BL.out.trans (st.mono BL.out.size))
    clear st PN ho
    go_wp2_with fail
    refine (AL.out _).mono ?_
    rintro e w7 ⟨rfl, st⟩
    replace BL := Lib.hid (BL.out.trans (st.mono BL.out.size))
    go_wp2_with fail
    go_ret
    exact ⟨rfl, BL.out⟩
end Go.Proofs.Ytgbhddiligdemaa
