/- The laws' pairs and same; Of of any list. -/
import Derived.Test.YtgbhddiligdemaaK2F
import Derived.Deep.AppendLies
namespace Go.Proofs.Ytgbhddiligdemaa
open Go.RowKit Go.Proofs.Ytgbhddiligdemaa.Mii
set_option linter.unusedVariables false
set_option linter.unusedSimpArgs false

theorem cellsPair (w : World) (x y : Int) : ∀ j u, [Value.int .i64 x, .int .i64 y][j]? = some u → (w.alloc (.cells #[.int .i64 x, .int .i64 y] 52)).cell? ((⟨w.heap.size, 0, none⟩ : Addr).add j) = some u := cellsTwo w _ _ _
theorem take_succ_kvd {L : List (Int × Int)} {i : Nat} (h : i < L.length) : L.take (i + 1) = L.take i ++ [(kd L i, vd L i)] := by rw [List.take_succ_eq_append_getElem h, kvd h]

set_option maxRecDepth 100000 in
set_option maxHeartbeats 2000000 in
theorem pairs_any (p : Option Addr) (c : Nat) (L : List (Int × Int)) (w : World) (r : RowsR w p L) (ln : L.length ≤ 1000000) :
    Calls Try.prog 22 #[.slice p L.length c] w fun e w' => ∃ v, e = .returned v ∧ w'.ownsRow w.heap.size 52 2 v L.length (rowsV L) ∧ Below w.heap.size w w' := by
  obtain ⟨i0, hi, hz0, hz1, hz2⟩ := info_parts info_pair
  have R := Lib.hid r
  obtain ⟨x, hx⟩ : ∃ x, x = L.length := ⟨_, rfl⟩
  rw [← hx] at ln ⊢
  have HX := Lib.hid hx
  clear hx r
  go_enter Try.func22, Try.ntmps22
  go_wp2_with fail
  go_loopw [3, 4] (fun ov kv wr => ∃ (i : Nat), i ≤ x ∧ kv = .int .i64 i ∧ wr.ownsRow w.heap.size 52 2 ov i (rowsV (L.take i)) ∧ Below w.heap.size w wr) (fun _ kv _ => x - (intOf kv).toNat)
  case atStart => exact ⟨0, Nat.zero_le _, rfl, World.ownsRow_nil _ _ _ _, Below.refl _ _⟩
  case round =>
    obtain ⟨i, hi', rfl, hown, hbel⟩ := hrel
    by_cases t1 : i < x
    · have l1 : i < L.length := by have := HX.out; omega
      obtain ⟨xa, rfl, kx, cx0, dx0⟩ := R.out i l1
      have cx : wr.cell? (xa.add (i * 2)) = some (.int .i64 (kd L i)) := (hbel.cell (by rw [adb]; exact kx)).trans cx0
      have dx : wr.cell? ⟨(xa.add (i * 2)).block, (xa.add (i * 2)).off + 1, none⟩ = some (.int .i64 (vd L i)) := (hbel.cell (p := ⟨(xa.add (i * 2)).block, (xa.add (i * 2)).off + 1, none⟩) (by rw [adb]; exact kx)).trans dx0
      have i1 : (0 : Int) ≤ (i : Int) := by omega
      have i2 : (i : Int) < (x : Int) := by omega
      have ST := Lib.hid (fun v' w1 W (bW : Below w.heap.size w W) (ho : w1.ownsRow w.heap.size 52 2 v' (i + 1) (rowsV (L.take i) ++ [.int .i64 (kd L i), .int .i64 (vd L i)])) (hg : W.grownBy w1 (u3).ownBlock) =>
        ((show w1.ownsRow w.heap.size 52 2 v' (i + 1) (rowsV (L.take (i + 1))) ∧ Below w.heap.size w w1 from ⟨by rw [take_succ_kvd l1, rowsV_snoc]; exact ho, bW.grown hg bW.size fun k ek => (World.ownsRow.lt hown k ek).1⟩)))
      generalize kd L i = k at *
      generalize vd L i = y at *
      go_wp2_with fail
      go_region_held3 (fun w' => w'.cell? (xa.add (i * 2)) = some (.int .i64 k) ∧ w'.cell? ⟨(xa.add (i * 2)).block, (xa.add (i * 2)).off + 1, none⟩ = some (.int .i64 y))
        (first | exact ⟨cx, dx⟩ | exact ⟨cell_dr cx, cell_dr dx⟩ | exact ⟨cell_al _ cx, cell_al _ dx⟩ | exact ⟨cell_al _ (cell_dr cx), cell_al _ (cell_dr dx)⟩)
        ((refine step_append_lies _ (by rfl) _ _ _ (by rfl) w.heap.size 52 i0 (.agg #[.int .i64 0, .int .i64 0]) 2 16 Try.underlying43 hi hz0 hz1 hz2 rfl (by omega) u3 i (rowsV (L.take i)) (by rfl) (hown.drew.alloc _) ⟨wr.heap.size, 0, none⟩ 1 1 [.int .i64 k, .int .i64 y] (by rfl) (by rfl) (World.news_of_block (cs := #[.int .i64 k, .int .i64 y]) (t := 52) (fr := (0, 0)) (heap_alloc_new _ _)) (by simp [Value.oneCell']) (by omega) (by unfold maxLen; omega) (by omega) (by have := hbel.size; simp; omega) (wr.heap.size + 1) (by simp) ?_; intro gg cap w1 hown1 hgrow hat hlt; obtain ⟨O1, B1⟩ := ST.out _ w1 _ ((Below.dr hbel).alloc hbel.size _) hown1 hgrow; replace cx := (B1.cell (by rw [adb]; exact kx)).trans cx0; replace dx := (B1.cell (p := ⟨(xa.add (i * 2)).block, (xa.add (i * 2)).off + 1, none⟩) (by rw [adb]; exact kx)).trans dx0; clear hown1 hgrow hown hbel ST hat hlt cx0 dx0))
      go_wp2_with fail
      go_roundw
      case rel => exact ⟨i + 1, by omega, by go_num, O1, B1⟩
      case measure => simp [intOf]; omega
    · obtain rfl : i = x := by omega
      have e : L.take i = L := List.take_of_length_le (by have := HX.out; omega)
      rw [e] at hown
      go_wp2_with fail
      go_ret
      exact ⟨_, rfl, hown, hbel⟩
end Go.Proofs.Ytgbhddiligdemaa
