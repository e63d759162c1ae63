/- The reference's Fair in general. -/
import Derived.Test.YtblaakjldpcjlaaDoorV4
namespace Go.Proofs.YtblaakjldpcjlaaDoor
open Go.RowKit
set_option linter.unusedVariables false
set_option linter.unusedSimpArgs false

/-- The four cells of a round. -/
structure Four (W wr : World) (xp xq : Addr) (i k : Nat) (li lj ai aj : Int) : Prop where
  c1 : wr.cell? (xq.add i) = some (.int .i64 li)
  c2 : wr.cell? (xq.add k) = some (.int .i64 lj)
  c3 : wr.cell? (xp.add i) = some (.int .i64 ai)
  c4 : wr.cell? (xp.add k) = some (.int .i64 aj)
  zp : xp.block < wr.heap.size
  zq : xq.block < wr.heap.size
  bel : Below W.heap.size W wr
theorem Four.below {W wr wr' : World} {xp xq : Addr} {i k : Nat} {li lj ai aj : Int} (h : Four W wr xp xq i k li lj ai aj) (hb : Below wr.heap.size wr wr') : Four W wr' xp xq i k li lj ai aj :=
  ⟨(hb.cell (p := xq.add i) (by rw [add_block]; exact h.zq)).trans h.c1, (hb.cell (p := xq.add k) (by rw [add_block]; exact h.zq)).trans h.c2, (hb.cell (p := xp.add i) (by rw [add_block]; exact h.zp)).trans h.c3, (hb.cell (p := xp.add k) (by rw [add_block]; exact h.zp)).trans h.c4, Nat.lt_of_lt_of_le h.zp hb.size, Nat.lt_of_lt_of_le h.zq hb.size, h.bel.trans (hb.mono h.bel.size)⟩

set_option maxRecDepth 100000 in
set_option maxHeartbeats 8000000 in
theorem rFair_any (p q : Option Addr) (c d : Nat) (a l : List Int) (w : World) (r : RowA w p a) (s : RowA w q l) (la : a.length ≤ 1000000) (ll : l.length ≤ 1000000) :
    Calls Tryd.prog 24 #[.slice p a.length c, .slice q l.length d] w fun e w' => FairP a l e ∧ Below w.heap.size w w' := by
  obtain ⟨x, hx⟩ : ∃ x, x = l.length := ⟨_, rfl⟩
  obtain ⟨y, hy⟩ : ∃ y, y = a.length := ⟨_, rfl⟩
  by_cases h1 : 256 < a.length ∨ 256 < l.length
  · have F := Lib.hid (show FairR a l false 3 from .inl ⟨h1, rfl, rfl⟩)
    rw [← hx, ← hy] at h1
    rw [← hx, ← hy] at ⊢
    clear hx hy r s la ll
    rcases (by omega : 256 < y ∨ (¬ 256 < y ∧ 256 < x)) with h | ⟨h, h'⟩
    · clear h1
      go_enter Tryd.func24, Tryd.ntmps24
      go_wp2_with fail
      go_ret2
      exact ⟨⟨_, _, rfl, F.out⟩, by go_grown⟩
    · clear h1
      go_enter Tryd.func24, Tryd.ntmps24
      go_wp2_with fail
      go_ret2
      exact ⟨⟨_, _, rfl, F.out⟩, by go_grown⟩
  by_cases h2 : a.length = l.length
  · have R := Lib.hid r
    have S := Lib.hid s
    have BAD : Hid (∀ i, i < x → ¬ (AmtOk (gd a i) ∧ WgtOk (gd l i)) → FairR a l false 2) := fun i hi hb => .inr (.inl ⟨h1, .inr ⟨h2, i, by omega, hb⟩, rfl, rfl⟩)
    have DONE : Hid ((∀ i, i < x → AmtOk (gd a i) ∧ WgtOk (gd l i)) → OkF a l → FairR a l true 0) := fun h k => .inr (.inr ⟨h1, h2, fun i hi => h i (by omega), ⟨fun _ => k, fun _ => rfl⟩, rfl⟩)
    have FAIL : Hid ((∀ i, i < x → AmtOk (gd a i) ∧ WgtOk (gd l i)) → ¬ OkF a l → FairR a l false 0) := fun h k => .inr (.inr ⟨h1, h2, fun i hi => h i (by omega), ⟨fun z => (by cases z), fun z => absurd z k⟩, rfl⟩)
    have OK : Hid (OkF a l ↔ ∀ i, i < x → 0 < gd a i → Due a l x i) := by show OkF a l ↔ _; rw [hx]; exact Iff.rfl
    have HL := Lib.hid h2
    have hxy : y = x := by omega
    subst hxy
    rw [← hx] at h1
    rw [← hy] at h1
    rw [← hx, ← hy]
    have HX := Lib.hid hx
    have ln : y ≤ 256 := by omega
    clear hx hy h1 h2 r s la ll
    go_enter Tryd.func24, Tryd.ntmps24
    go_wp2_with fail
    go_loopw [6] (fun kv wr => ∃ k : Nat, k ≤ y ∧ kv = .int .i64 k ∧ Hid (∀ j, j < k → AmtOk (gd a j) ∧ WgtOk (gd l j)) ∧ ∃ n, wr = w.drewN n) (fun kv _ => y - (intOf kv).toNat)
    case atStart => exact ⟨0, Nat.zero_le _, rfl, by show ∀ j, _; intro j hj; omega, 0, rfl⟩
    case round =>
      obtain ⟨k, hk, rfl, HK, n, rfl⟩ := hrel
      by_cases t2 : k < y
      · obtain ⟨xp, rfl, kp, cp⟩ := R.out k (by have := HX.out; have := HL.out; omega)
        obtain ⟨xq, rfl, kq, cq⟩ := S.out k (by have := HX.out; omega)
        have NX : Hid (AmtOk (gd a k) ∧ WgtOk (gd l k) → ∀ j, j < k + 1 → AmtOk (gd a j) ∧ WgtOk (gd l j)) := fun h j hj => by
          rcases (by omega : j < k ∨ j = k) with e | e
          · exact HK.out j e
          · subst e; exact h
        have BK := Lib.hid (BAD.out k t2)
        have i3 : (k : Int) < (y : Int) := by omega
        have i4 : (0 : Int) ≤ (k : Int) := by omega
        clear HK
        generalize gd a k = u at *
        generalize gd l k = v at *
        have CS : (u < 0 ∧ Hid (FairR a l false 2)) ∨ (¬ u < 0 ∧ 1125899906842624 < u ∧ Hid (FairR a l false 2)) ∨ (¬ u < 0 ∧ ¬ 1125899906842624 < u ∧ v < 0 ∧ Hid (FairR a l false 2)) ∨ (¬ u < 0 ∧ ¬ 1125899906842624 < u ∧ ¬ v < 0 ∧ 1073741824 < v ∧ Hid (FairR a l false 2)) ∨ (¬ u < 0 ∧ ¬ 1125899906842624 < u ∧ ¬ v < 0 ∧ ¬ 1073741824 < v ∧ Hid (∀ j, j < k + 1 → AmtOk (gd a j) ∧ WgtOk (gd l j))) := by
          have NXo := NX.out
          have BKo := BK.out
          unfold AmtOk WgtOk at NXo BKo
          by_cases z1 : u < 0
          · exact .inl ⟨z1, BKo (by omega)⟩
          by_cases z2 : 1125899906842624 < u
          · exact .inr (.inl ⟨z1, z2, BKo (by omega)⟩)
          by_cases z3 : v < 0
          · exact .inr (.inr (.inl ⟨z1, z2, z3, BKo (by omega)⟩))
          by_cases z4 : 1073741824 < v
          · exact .inr (.inr (.inr (.inl ⟨z1, z2, z3, z4, BKo (by omega)⟩)))
          · exact .inr (.inr (.inr (.inr ⟨z1, z2, z3, z4, NXo (by omega)⟩)))
        clear NX BK
        rcases CS with ⟨z1, F⟩ | ⟨z1, z2, F⟩ | ⟨z1, z2, z3, F⟩ | ⟨z1, z2, z3, z4, F⟩ | ⟨z1, z2, z3, z4, F⟩
        · go_wp2_with fail
          go_ret2
          exact ⟨⟨_, _, rfl, F.out⟩, below_drewN (Below.refl _ _) _⟩
        · go_wp2_with fail
          go_ret2
          exact ⟨⟨_, _, rfl, F.out⟩, below_drewN (Below.refl _ _) _⟩
        · go_wp2_with fail
          go_ret2
          exact ⟨⟨_, _, rfl, F.out⟩, below_drewN (Below.refl _ _) _⟩
        · go_wp2_with fail
          go_ret2
          exact ⟨⟨_, _, rfl, F.out⟩, below_drewN (Below.refl _ _) _⟩
        · go_wp2_with fail
          go_roundw
          case rel => exact ⟨k + 1, by omega, by go_num, F, _, rfl⟩
          case measure => simp [intOf]; omega
      · have GD : Hid (∀ i, i < y → AmtOk (gd a i) ∧ WgtOk (gd l i)) := fun i hi => HK.out i (by omega)
        have DN := Lib.hid (DONE.out GD.out)
        have FL := Lib.hid (FAIL.out GD.out)
        have B0 := Lib.hid (below_drewN (Below.refl w.heap.size w) n)
        clear HK BAD DONE FAIL
        generalize w.drewN n = w0 at *
        go_wp2_with fail
        go_loopw [7] (fun kv wr => ∃ i : Nat, i ≤ y ∧ kv = .int .i64 i ∧ Hid (∀ j, j < i → 0 < gd a j → Due a l y j) ∧ Hid (Below w.heap.size w wr)) (fun kv _ => y - (intOf kv).toNat)
        case atStart => exact ⟨0, Nat.zero_le _, rfl, by show ∀ j, _; intro j hj; omega, B0⟩
        case round =>
          clear B0
          obtain ⟨i, hi, rfl, HI, B0⟩ := hrel
          by_cases t3 : i < y
          · obtain ⟨xp, rfl, kp, cp⟩ := R.out i (by have := HX.out; have := HL.out; omega)
            obtain ⟨xq, rfl, kq, cq⟩ := S.out i (by have := HX.out; omega)
            obtain ⟨⟨a0, a1⟩, l0, l1⟩ := GD.out i t3
            have NO : Hid (0 < gd a i → ¬ Due a l y i → FairR a l false 0) := fun h0 h => FL.out (fun z => h (OK.out.1 z i t3 h0))
            have NX : Hid ((0 < gd a i → Due a l y i) → ∀ j, j < i + 1 → 0 < gd a j → Due a l y j) := fun h j hj => by
              rcases (by omega : j < i ∨ j = i) with e | e
              · exact HI.out j e
              · subst e; exact h
            have DU : Hid (Due a l y i ↔ gd l i ≠ 0 ∧ ∀ j, j < y → NotDue a l i j) := Iff.rfl
            have ND : Hid (∀ j, NotDue a l i j ↔ (0 < gd l j → ¬ (2 * gd a j + 1) * gd l i < (2 * gd a i - 1) * gd l j)) := fun j => Iff.rfl
            have cpw : wr.cell? (xp.add i) = some (.int .i64 (gd a i)) := (B0.out.cell (p := xp.add i) (by rw [add_block]; exact kp)).trans cp
            have cqw : wr.cell? (xq.add i) = some (.int .i64 (gd l i)) := (B0.out.cell (p := xq.add i) (by rw [add_block]; exact kq)).trans cq
            have i3 : (i : Int) < (y : Int) := by omega
            have i4 : (0 : Int) ≤ (i : Int) := by omega
            clear cp cq HI
            generalize hai : gd a i = ai at *
            generalize hli : gd l i = li at *
            have HAI := Lib.hid hai
            have HLI := Lib.hid hli
            clear hai hli
            rcases (by omega : (li = 0 ∧ ai ≠ 0) ∨ (li = 0 ∧ ai = 0) ∨ li ≠ 0) with ⟨z1, z2⟩ | z
            · have F := Lib.hid (NO.out (by omega) (fun h => (DU.out.1 h).1 z1))
              have z3 : (ai != 0) = true := by simpa using z2
              subst z1
              clear NO NX DU ND z2
              go_wp2_with fail
              go_ret2
              exact ⟨⟨_, _, rfl, F.out⟩, B0.out⟩
            · have L0 : Hid (0 < ai → li ≠ 0) := fun h e => by omega
              rcases z with ⟨z1, z2⟩ | z
              · have y1 : (li == 0) = true := by simpa using z1
                have y2 : (ai != 0) = false := by simpa using z2
                go_wp2_with fail
                go_loopw [8] (fun kv wr => ∃ k : Nat, k ≤ y ∧ kv = .int .i64 k ∧ Hid (∀ j, j < k → 0 < ai → NotDue a l i j) ∧ Hid (Below w.heap.size w wr)) (fun kv _ => y - (intOf kv).toNat)
                case atStart => exact ⟨0, Nat.zero_le _, rfl, by show ∀ j, _; intro j hj; omega, B0⟩
                case round =>
                  clear B0 cpw cqw kp kq
                  obtain ⟨k, hk, rfl, HJ, B1⟩ := hrel
                  by_cases t4 : k < y
                  · obtain ⟨xp', ep, kp, cp⟩ := R.out k (by have := HX.out; have := HL.out; omega)
                    obtain rfl : xp = xp' := Option.some.inj ep
                    obtain ⟨xq', eq, kq, cq⟩ := S.out k (by have := HX.out; omega)
                    obtain rfl : xq = xq' := Option.some.inj eq
                    obtain ⟨xp2, ep2, kp2, cp2⟩ := R.out i (by have := HX.out; have := HL.out; omega)
                    obtain rfl : xp = xp2 := Option.some.inj ep2
                    obtain ⟨xq2, eq2, kq2, cq2⟩ := S.out i (by have := HX.out; omega)
                    obtain rfl : xq = xq2 := Option.some.inj eq2
                    have cpk : wr.cell? (xp.add k) = some (.int .i64 (gd a k)) := (B1.out.cell (p := xp.add k) (by rw [add_block]; exact kp)).trans cp
                    have cqk : wr.cell? (xq.add k) = some (.int .i64 (gd l k)) := (B1.out.cell (p := xq.add k) (by rw [add_block]; exact kq)).trans cq
                    have cpi : wr.cell? (xp.add i) = some (.int .i64 ai) := by rw [← HAI.out]; exact (B1.out.cell (p := xp.add i) (by rw [add_block]; exact kp2)).trans cp2
                    have cqi : wr.cell? (xq.add i) = some (.int .i64 li) := by rw [← HLI.out]; exact (B1.out.cell (p := xq.add i) (by rw [add_block]; exact kq2)).trans cq2
                    have zp : xp.block < wr.heap.size := Nat.lt_of_lt_of_le kp B1.out.size
                    have zq : xq.block < wr.heap.size := Nat.lt_of_lt_of_le kq B1.out.size
                    obtain ⟨⟨u0, u1⟩, v0, v1⟩ := GD.out k t4
                    have NDk := Lib.hid (ND.out k)
                    have NY : Hid ((0 < ai → NotDue a l i k) → ∀ j, j < k + 1 → 0 < ai → NotDue a l i j) := fun h j hj => by
                      rcases (by omega : j < k ∨ j = k) with e | e
                      · exact HJ.out j e
                      · subst e; exact h
                    have FN : Hid (0 < ai → ¬ NotDue a l i k → FairR a l false 0) := fun h0 h => NO.out h0 (fun z => h ((DU.out.1 z).2 k t4))
                    have j3 : (k : Int) < (y : Int) := by omega
                    have j4 : (0 : Int) ≤ (k : Int) := by omega
                    clear HJ ep eq ep2 eq2 cp cq cp2 cq2 kp kq kp2 kq2
                    generalize gd a k = aj at *
                    generalize gd l k = lj at *
                    have F := Lib.hid (NY.out (fun h => absurd h (by omega)))
                    have pd : decide (0 < li) = false := by rw [decide_eq_false_iff_not]; omega
                    clear NY NDk FN
                    go_wp2_with fail
                    go_quiet (fail)
                    go_wp2_with fail
                    go_roundw
                    case rel => exact ⟨k + 1, by omega, by go_num, F, by first | exact B1 | exact below_drewN B1.out _⟩
                    case measure => simp [intOf]; omega
                  · have F := Lib.hid (NX.out (fun h => DU.out.2 ⟨L0.out h, fun j hj => HJ.out j (by omega) h⟩))
                    clear HJ NO NX DU ND
                    go_wp2_with fail
                    go_roundw
                    case rel => exact ⟨i + 1, by omega, by go_num, F, B1⟩
                    case measure => simp [intOf]; omega
              · have y1 : (li == 0) = false := by simpa using z
                have lpos : 0 < li := by omega
                clear z
                go_wp2_with fail
                go_loopw [8] (fun kv wr => ∃ k : Nat, k ≤ y ∧ kv = .int .i64 k ∧ Hid (∀ j, j < k → 0 < ai → NotDue a l i j) ∧ Hid (Below w.heap.size w wr)) (fun kv _ => y - (intOf kv).toNat)
                case atStart => exact ⟨0, Nat.zero_le _, rfl, by show ∀ j, _; intro j hj; omega, B0⟩
                case round =>
                  clear B0 cpw cqw kp kq
                  obtain ⟨k, hk, rfl, HJ, B1⟩ := hrel
                  by_cases t4 : k < y
                  · obtain ⟨xp', ep, kp, cp⟩ := R.out k (by have := HX.out; have := HL.out; omega)
                    obtain rfl : xp = xp' := Option.some.inj ep
                    obtain ⟨xq', eq, kq, cq⟩ := S.out k (by have := HX.out; omega)
                    obtain rfl : xq = xq' := Option.some.inj eq
                    obtain ⟨xp2, ep2, kp2, cp2⟩ := R.out i (by have := HX.out; have := HL.out; omega)
                    obtain rfl : xp = xp2 := Option.some.inj ep2
                    obtain ⟨xq2, eq2, kq2, cq2⟩ := S.out i (by have := HX.out; omega)
                    obtain rfl : xq = xq2 := Option.some.inj eq2
                    have cpk : wr.cell? (xp.add k) = some (.int .i64 (gd a k)) := (B1.out.cell (p := xp.add k) (by rw [add_block]; exact kp)).trans cp
                    have cqk : wr.cell? (xq.add k) = some (.int .i64 (gd l k)) := (B1.out.cell (p := xq.add k) (by rw [add_block]; exact kq)).trans cq
                    have cpi : wr.cell? (xp.add i) = some (.int .i64 ai) := by rw [← HAI.out]; exact (B1.out.cell (p := xp.add i) (by rw [add_block]; exact kp2)).trans cp2
                    have cqi : wr.cell? (xq.add i) = some (.int .i64 li) := by rw [← HLI.out]; exact (B1.out.cell (p := xq.add i) (by rw [add_block]; exact kq2)).trans cq2
                    have zp : xp.block < wr.heap.size := Nat.lt_of_lt_of_le kp B1.out.size
                    have zq : xq.block < wr.heap.size := Nat.lt_of_lt_of_le kq B1.out.size
                    obtain ⟨⟨u0, u1⟩, v0, v1⟩ := GD.out k t4
                    have NDk := Lib.hid (ND.out k)
                    have NY : Hid ((0 < ai → NotDue a l i k) → ∀ j, j < k + 1 → 0 < ai → NotDue a l i j) := fun h j hj => by
                      rcases (by omega : j < k ∨ j = k) with e | e
                      · exact HJ.out j e
                      · subst e; exact h
                    have FN : Hid (0 < ai → ¬ NotDue a l i k → FairR a l false 0) := fun h0 h => NO.out h0 (fun z => h ((DU.out.1 z).2 k t4))
                    have j3 : (k : Int) < (y : Int) := by omega
                    have j4 : (0 : Int) ≤ (k : Int) := by omega
                    clear HJ ep eq ep2 eq2 cp cq cp2 cq2 kp kq kp2 kq2
                    generalize gd a k = aj at *
                    generalize gd l k = lj at *
                    by_cases pj : 0 < lj
                    · by_cases pa : 0 < ai
                      · have e1 : IntKind.i64.wrap (2 * ai) = 2 * ai := IntWalk.i64_in _ (by omega)
                        have e2 : IntKind.i64.wrap (2 * ai - 1) = 2 * ai - 1 := IntWalk.i64_in _ (by omega)
                        have e3 : IntKind.i64.wrap (2 * aj) = 2 * aj := IntWalk.i64_in _ (by omega)
                        have e4 : IntKind.i64.wrap (2 * aj + 1) = 2 * aj + 1 := IntWalk.i64_in _ (by omega)
                        have PR1 := Lib.hid (fun W => product_any (2 * aj + 1) li (by omega) (by omega) (by omega) (by omega) W)
                        have PR2 := Lib.hid (fun W => product_any (2 * ai - 1) lj (by omega) (by omega) (by omega) (by omega) W)
                        have LS0 := fun (b : Bool) (h : b = true ↔ (2 * aj + 1) * li < (2 * ai - 1) * lj) W => pless_any ((2 * aj + 1) * li / 67108864) ((2 * aj + 1) * li % 67108864) ((2 * ai - 1) * lj / 67108864) ((2 * ai - 1) * lj % 67108864) b (h.trans pair_lt.symm) W
                        by_cases hc : (2 * aj + 1) * li < (2 * ai - 1) * lj
                        · have LS := Lib.hid (LS0 true ⟨fun _ => hc, fun _ => rfl⟩)
                          have F := Lib.hid (FN.out pa (fun h => absurd hc (by have := (NDk.out.1 h) pj; omega)))
                          clear NY NDk FN hc LS0
                          generalize (2 * aj + 1) * li / 67108864 = m1 at *
                          generalize (2 * aj + 1) * li % 67108864 = m2 at *
                          generalize (2 * ai - 1) * lj / 67108864 = m3 at *
                          generalize (2 * ai - 1) * lj % 67108864 = m4 at *
                          have K0 : Hid (Four w wr xp xq i k li lj ai aj) := ⟨cqi, cqk, cpi, cpk, zp, zq, B1.out⟩
                          clear B1 cqi cqk cpi cpk zp zq
                          obtain ⟨c1, c2, c3, c4, zp, zq, kb⟩ := K0.out
                          go_wp2_with fail
                          go_region_held3 (fun w' => w'.cell? (xq.add i) = some (.int .i64 li) ∧ w'.cell? (xq.add k) = some (.int .i64 lj) ∧ w'.cell? (xp.add i) = some (.int .i64 ai) ∧ w'.cell? (xp.add k) = some (.int .i64 aj))
                            (first | exact ⟨c1, c2, c3, c4⟩)
                            (first
                              | (go_at_call 58; (with_reducible refine (PR1.out _).mono ?_); rintro e v1 ⟨rfl, r3⟩; have st : Below wr.heap.size wr v1 := (by first | exact r3 | exact ((Below.refl _ _).drew).trans r3 | exact (below_drewN (Below.refl _ _) _).trans r3); have K1 := Lib.hid (K0.out.below st); clear c1 c2 c3 c4 zp zq kb; obtain ⟨c1, c2, c3, c4, zp, zq, kb⟩ := K1.out; clear r3; clear st)
                              | (go_at_call 58; (with_reducible refine (PR2.out _).mono ?_); rintro e v2 ⟨rfl, r3⟩; have st : Below v1.heap.size v1 v2 := (by first | exact r3 | exact ((Below.refl _ _).drew).trans r3 | exact (below_drewN (Below.refl _ _) _).trans r3); have K2 := Lib.hid (K1.out.below st); clear c1 c2 c3 c4 zp zq kb; obtain ⟨c1, c2, c3, c4, zp, zq, kb⟩ := K2.out; clear r3; clear st)
                              | (go_at_call 57; (with_reducible refine (LS.out _).mono ?_); rintro e v3 ⟨rfl, r3⟩; have st : Below v2.heap.size v2 v3 := (by first | exact r3 | exact ((Below.refl _ _).drew).trans r3 | exact (below_drewN (Below.refl _ _) _).trans r3); have K3 := Lib.hid (K2.out.below st); clear c1 c2 c3 c4 zp zq kb; obtain ⟨c1, c2, c3, c4, zp, zq, kb⟩ := K3.out; clear r3; clear st))
                          clear PR1 PR2 LS K0 K1 K2
                          go_wp2_with fail
                          go_ret2
                          exact ⟨⟨_, _, rfl, F.out⟩, by first | exact kb | exact kb.drew | exact below_drewN kb _⟩
                        · have LS := Lib.hid (LS0 false ⟨fun h => (by cases h), fun h => absurd h hc⟩)
                          have F := Lib.hid (NY.out (fun _ => NDk.out.2 (fun _ => by omega)))
                          clear NY NDk FN hc LS0
                          generalize (2 * aj + 1) * li / 67108864 = m1 at *
                          generalize (2 * aj + 1) * li % 67108864 = m2 at *
                          generalize (2 * ai - 1) * lj / 67108864 = m3 at *
                          generalize (2 * ai - 1) * lj % 67108864 = m4 at *
                          have K0 : Hid (Four w wr xp xq i k li lj ai aj) := ⟨cqi, cqk, cpi, cpk, zp, zq, B1.out⟩
                          clear B1 cqi cqk cpi cpk zp zq
                          obtain ⟨c1, c2, c3, c4, zp, zq, kb⟩ := K0.out
                          go_wp2_with fail
                          go_region_held3 (fun w' => w'.cell? (xq.add i) = some (.int .i64 li) ∧ w'.cell? (xq.add k) = some (.int .i64 lj) ∧ w'.cell? (xp.add i) = some (.int .i64 ai) ∧ w'.cell? (xp.add k) = some (.int .i64 aj))
                            (first | exact ⟨c1, c2, c3, c4⟩)
                            (first
                              | (go_at_call 58; (with_reducible refine (PR1.out _).mono ?_); rintro e v1 ⟨rfl, r3⟩; have st : Below wr.heap.size wr v1 := (by first | exact r3 | exact ((Below.refl _ _).drew).trans r3 | exact (below_drewN (Below.refl _ _) _).trans r3); have K1 := Lib.hid (K0.out.below st); clear c1 c2 c3 c4 zp zq kb; obtain ⟨c1, c2, c3, c4, zp, zq, kb⟩ := K1.out; clear r3; clear st)
                              | (go_at_call 58; (with_reducible refine (PR2.out _).mono ?_); rintro e v2 ⟨rfl, r3⟩; have st : Below v1.heap.size v1 v2 := (by first | exact r3 | exact ((Below.refl _ _).drew).trans r3 | exact (below_drewN (Below.refl _ _) _).trans r3); have K2 := Lib.hid (K1.out.below st); clear c1 c2 c3 c4 zp zq kb; obtain ⟨c1, c2, c3, c4, zp, zq, kb⟩ := K2.out; clear r3; clear st)
                              | (go_at_call 57; (with_reducible refine (LS.out _).mono ?_); rintro e v3 ⟨rfl, r3⟩; have st : Below v2.heap.size v2 v3 := (by first | exact r3 | exact ((Below.refl _ _).drew).trans r3 | exact (below_drewN (Below.refl _ _) _).trans r3); have K3 := Lib.hid (K2.out.below st); clear c1 c2 c3 c4 zp zq kb; obtain ⟨c1, c2, c3, c4, zp, zq, kb⟩ := K3.out; clear r3; clear st))
                          clear PR1 PR2 LS K0 K1 K2
                          have B3 := Lib.hid kb
                          go_wp2_with fail
                          go_roundw
                          case rel => exact ⟨k + 1, by omega, by go_num, F, by first | exact B3 | exact below_drewN B3.out _⟩
                          case measure => simp [intOf]; omega
                      · have F := Lib.hid (NY.out (fun h => absurd h pa))
                        have pd : decide (0 < ai) = false := by simpa using pa
                        clear NY NDk FN
                        go_wp2_with fail
                        go_quiet (fail)
                        go_wp2_with fail
                        go_roundw
                        case rel => exact ⟨k + 1, by omega, by go_num, F, by first | exact B1 | exact below_drewN B1.out _⟩
                        case measure => simp [intOf]; omega
                    · have F := Lib.hid (NY.out (fun _ => NDk.out.2 (fun h => absurd h pj)))
                      have pd : decide (0 < lj) = false := by simpa using pj
                      clear NY NDk FN
                      go_wp2_with fail
                      go_quiet (fail)
                      go_wp2_with fail
                      go_roundw
                      case rel => exact ⟨k + 1, by omega, by go_num, F, by first | exact B1 | exact below_drewN B1.out _⟩
                      case measure => simp [intOf]; omega
                  · have F := Lib.hid (NX.out (fun h => DU.out.2 ⟨L0.out h, fun j hj => HJ.out j (by omega) h⟩))
                    clear HJ NO NX DU ND
                    go_wp2_with fail
                    go_roundw
                    case rel => exact ⟨i + 1, by omega, by go_num, F, B1⟩
                    case measure => simp [intOf]; omega
          · have F := Lib.hid (DN.out (OK.out.2 (fun i' hi' => HI.out i' (by omega))))
            clear HI DN FL OK
            go_wp2_with fail
            go_ret2
            exact ⟨⟨_, _, rfl, F.out⟩, B0.out⟩
  · have F := Lib.hid (show FairR a l false 2 from .inr (.inl ⟨h1, .inl h2, rfl, rfl⟩))
    rw [← hx, ← hy] at h1 h2
    rw [← hx, ← hy] at ⊢
    have hb : ((y : Int) != (x : Int)) = true := by simp; omega
    clear hx hy r s la ll
    go_enter Tryd.func24, Tryd.ntmps24
    go_wp2_with fail
    go_ret2
    exact ⟨⟨_, _, rfl, F.out⟩, by go_grown⟩
end Go.Proofs.YtblaakjldpcjlaaDoor
