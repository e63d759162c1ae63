/- The laws' list. -/
import Derived.Test.YtbphmcjjanchlaaTWK
import Derived.Deep.AppendLies
namespace Go.Proofs.Ytbphmcjjanchlaa
open Go.RowKit Go.Proofs.Ytbphmcjjanchlaa.Mii
set_option linter.unusedVariables false
set_option linter.unusedSimpArgs false

theorem own_base {W : World} {a b : Nat} {e : TypeId} {s : Nat} {v : Value} {n : Nat} {xs : List Value} (hab : a ≤ b) (h : W.ownsRow b e s v n xs) : W.ownsRow a e s v n xs := by
  refine ⟨h.1, ?_⟩
  rcases h.2 with h0 | ⟨g, cap, cur, e1, hb, r⟩
  · exact .inl h0
  · exact .inr ⟨g, cap, cur, e1, Nat.le_trans hab hb, r⟩
theorem own_apart {W w1 : World} {n m : Nat} {t1 t2 : TypeId} {s1 s2 k1 k2 : Nat} {v1 v2 : Value} {xs ys : List Value} (hne : t1 ≠ t2) (h : W.ownsRow n t1 s1 v1 k1 xs) (g : W.ownsRow m t2 s2 v2 k2 ys) (hg : W.grownBy w1 v2.ownBlock) : w1.ownsRow n t1 s1 v1 k1 xs := by
  refine h.kept hg ?_
  rcases h.2 with ⟨rfl, _⟩ | ⟨b, cap, cur, rfl, _, hb, _⟩
  · exact .inl rfl
  · refine .inr ?_
    rcases row_ne hb hne g with e | e
    · rw [e]; simp [Value.ownBlock]
    · exact fun e2 => e e2.symm
theorem own_cells {W : World} {n x : Nat} {t : TypeId} {xa : Addr} {c i : Nat} {L : List (Int × Int)} (hi : i < L.length) (hx : x = L.length) (h : W.ownsRow n t 2 (.slice (some xa) x c) x (rowsV L)) :
    W.cell? (xa.add (i * 2)) = some (.int .i64 (kd L i)) ∧ W.cell? ⟨(xa.add (i * 2)).block, (xa.add (i * 2)).off + 1, none⟩ = some (.int .i64 (vd L i)) := by
  subst hx
  obtain ⟨p', c', e, r⟩ := ownRows h
  cases e
  obtain ⟨y, e, _, c, d⟩ := r i hi
  cases e
  exact ⟨c, d⟩

set_option maxRecDepth 100000 in
set_option maxHeartbeats 2000000 in
theorem list_any (q : Option Addr) (t : Tr Int Value) (L : List (Int × Int)) (w : World) (h : At w q t) (hL : t.rows = encL L) (ln : L.length ≤ 1000000) :
    Calls Try.prog 38 #[.agg #[.pointer q]] w fun e w' => ∃ v, e = .returned v ∧ w'.ownsRow w.heap.size 39 2 v L.length (rowsV L) ∧ Below w.heap.size w w' := by
  obtain ⟨i0, hi, hz0, hz1, hz2⟩ := info_parts info_row
  have CP := Lib.hid (fun W hW => Pairs_any q t L W hW hL (by omega))
  have TT := Lib.hid h
  have HB := Lib.hid (boxM w q)
  obtain ⟨x, hx⟩ : ∃ x, x = L.length := ⟨_, rfl⟩
  rw [← hx] at ln CP ⊢
  have HX := Lib.hid hx
  clear hx h hL
  go_enter Try.func38, Try.ntmps38
  go_wp2_with fail
  generalize e0 : w.alloc (Obj.cells #[Value.pointer q] 35) = w0
  obtain ⟨k1, f1, sz, bel⟩ := HB.out w0 e0
  replace TT := Lib.hid (TT.out.below bel (Nat.le_refl _))
  clear HB e0 f1
  refine (CP.out _ TT.out).mono ?_
  rintro e wp ⟨v, rfl, ho, st⟩
  obtain ⟨p, c, rfl, -⟩ := ownRows (by rw [HX.out] at ho; exact ho)
  rw [← HX.out] at ho ⊢
  have R := Lib.hid (own_base bel.size ho)
  have BP := Lib.hid (bel.trans (st.mono bel.size))
  clear ho st CP TT k1 bel sz
  go_wp2_with fail
  go_loopw [3, 5] (fun ov kv wr => ∃ (i : Nat), i ≤ x ∧ kv = .int .i64 i ∧ wr.ownsRow w.heap.size 39 2 ov i (rowsV (L.take i)) ∧ Below w.heap.size w wr ∧ Hid (wr.ownsRow w.heap.size 52 2 (.slice p x c) x (rowsV L))) (fun _ kv _ => x - (intOf kv).toNat)
  case atStart => exact ⟨0, Nat.zero_le _, rfl, World.ownsRow_nil _ _ _ _, BP.out, R⟩
  case round =>
    obtain ⟨i, hi', rfl, hown, hbel, RR⟩ := hrel
    by_cases t1 : i < x
    · have l1 : i < L.length := by have := HX.out; omega
      have hR : RowsR wr p L := by
        have h0 := RR.out
        rw [HX.out] at h0
        obtain ⟨p', c', e, r'⟩ := ownRows h0
        cases e
        exact r'
      obtain ⟨xa, rfl, kx, cx, dx⟩ := hR i l1
      clear hR
      have i1 : (0 : Int) ≤ (i : Int) := by omega
      have i2 : (i : Int) < (x : Int) := by omega
      have ST := Lib.hid (fun v' w1 W (bW : Below w.heap.size w W) (ho : w1.ownsRow w.heap.size 39 2 v' (i + 1) (rowsV (L.take i) ++ [.int .i64 (kd L i), .int .i64 (vd L i)])) (hg : W.grownBy w1 (u3).ownBlock) =>
        ((show w1.ownsRow w.heap.size 39 2 v' (i + 1) (rowsV (L.take (i + 1))) ∧ Below w.heap.size w w1 from ⟨by rw [take_succ_kvd l1, rowsV_snoc]; exact ho, bW.grown hg bW.size fun k ek => (World.ownsRow.lt hown k ek).1⟩)))
      have OC := Lib.hid (fun (W : World) (n : Nat) (t : TypeId) h => own_cells (W := W) (n := n) (t := t) (xa := xa) (c := c) l1 HX.out h)
      generalize kd L i = k at *
      generalize vd L i = y at *
      go_wp2_with fail
      go_region_held3 (fun w' => w'.cell? (xa.add (i * 2)) = some (.int .i64 k) ∧ w'.cell? ⟨(xa.add (i * 2)).block, (xa.add (i * 2)).off + 1, none⟩ = some (.int .i64 y))
        (first | exact ⟨cx, dx⟩ | exact ⟨cell_dr cx, cell_dr dx⟩ | exact ⟨cell_al _ cx, cell_al _ dx⟩ | exact ⟨cell_al _ (cell_dr cx), cell_al _ (cell_dr dx)⟩)
        ((refine step_append_lies _ (by rfl) _ _ _ (by rfl) w.heap.size 39 i0 (.agg #[.int .i64 0, .int .i64 0]) 2 16 Try.underlying36 hi hz0 hz1 hz2 rfl (by omega) u3 i (rowsV (L.take i)) (by rfl) (hown.drew.alloc _) ⟨wr.heap.size, 0, none⟩ 1 1 [.int .i64 k, .int .i64 y] (by rfl) (by rfl) (World.news_of_block (cs := #[.int .i64 k, .int .i64 y]) (t := 39) (fr := (0, 0)) (heap_alloc_new _ _)) (by simp [Value.oneCell']) (by omega) (by unfold maxLen; omega) (by omega) (by have := hbel.size; simp; omega) (wr.heap.size + 1) (by simp) ?_; intro gg cap w1 hown1 hgrow hat hlt; obtain ⟨O1, B1⟩ := ST.out _ w1 _ ((Below.dr hbel).alloc hbel.size _) hown1 hgrow; have R9 := Lib.hid (own_apart (by decide) (RR.out.drew.alloc _) (hown.drew.alloc _) hgrow); obtain ⟨cx9, dx9⟩ := OC.out _ _ _ R9.out; replace cx := cx9; replace dx := dx9; clear hown1 hgrow hown hbel ST hat hlt cx9 dx9 RR))
      go_wp2_with fail
      go_roundw
      case rel => exact ⟨i + 1, by omega, by go_num, O1, B1, R9⟩
      case measure => simp [intOf]; omega
    · obtain rfl : i = x := by omega
      have e : L.take i = L := List.take_of_length_le (by have := HX.out; omega)
      rw [e] at hown
      go_wp2_with fail
      go_ret
      exact ⟨_, rfl, hown, hbel⟩
end Go.Proofs.Ytbphmcjjanchlaa
