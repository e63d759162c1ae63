/- chain. -/
import Derived.Test.YtbphmcjjanchlaaK5
namespace Go.Proofs.Ytbphmcjjanchlaa.Mii
open Go.RowKit
set_option linter.unusedVariables false
set_option linter.unusedSimpArgs false

theorem At.ones {w : World} : ∀ {p : Option Addr} {t : Tr Int Value}, At w p t → ∀ x ∈ t.rows, x.2.oneCell' = true
  | _, .nil, _, _, hx => by cases hx
  | _, .node k v l r, ⟨b, pl, pr, e, c0, c1, c2, c3, c4, c5, ov, hl, hr⟩, x, hx => by
    rcases List.mem_append.1 hx with h | h
    · exact At.ones hl x h
    · rcases List.mem_cons.1 h with rfl | h
      · exact ov
      · exact At.ones hr x h
/-- What deleting answers. -/
def DelR (w : World) (t : Tr Int Value) (k : Int) (e : Ending) (w' : World) : Prop := ∃ q t' f, e = .returned (.tuple #[.agg #[.pointer q], .bool f]) ∧ At w' q t' ∧ (t'.Avl ∧ DelT t.rows t'.rows k ∧ t'.sz + f.toNat = t.sz ∧ f = (val t.rows k).isSome) ∧ Below w.heap.size w w'
theorem DelR.set {w W : World} {t : Tr Int Value} {k : Int} {c : Nat} {x q : Option Addr} {t' : Tr Int Value} {f : Bool} (y : Value) (hc : W.cell? ⟨c, 0, none⟩ = some (.pointer x)) (h : At W q t') (hq : t'.Avl ∧ DelT t.rows t'.rows k ∧ t'.sz + f.toNat = t.sz ∧ f = (val t.rows k).isSome) (hb : Below w.heap.size w W) (hn : w.heap.size ≤ c) :
    DelR w t k (.returned (.tuple #[.agg #[.pointer q], .bool f])) (W.setCell ⟨c, 0, none⟩ y) := ⟨q, t', f, rfl, h.set y hc, hq, hb.setCell hn y⟩
/-- What chaining makes. -/
def ChQ (l r t : Tr Int Value) : Prop := t.rows = l.rows ++ r.rows ∧ t.Avl
theorem ChQ.sz {l r t : Tr Int Value} (h : ChQ l r t) : t.sz = l.sz + r.sz := by rw [← t.sz_eq, h.1, List.length_append, l.sz_eq, r.sz_eq]
theorem del_head {x : Int × Value} {tl t' : List (Int × Value)} (h : Asc (x :: tl)) (d : DelT (x :: tl) t' x.1) : t' = tl := by
  have e := del_eq (l := []) (m := tl) (k := x.1) (u := x.2) h
  exact asc_ext (l := t') (m := tl) d.asc e.asc fun q => by
    have h1 := d.v q
    have h2 := e.v q
    rw [List.nil_append, List.nil_append] at h2
    rw [h1, h2]
set_option maxRecDepth 100000 in
set_option maxHeartbeats 1000000 in
theorem chain_ih (p q : Option Addr) (l r : Tr Int Value) (w : World) (hl : At w p l) (hr : At w q r) (al : l.Avl) (ar : Asc r.rows) (hz : l.sz + 1 + r.sz ≤ 2 ^ 59)
    (IH : Hid (∀ (x : Option Addr) (k : Int) (W : World), At W x r → Calls Try.prog 36 #[.agg #[.pointer x], KV.kv k] W (DelR W r k))) :
    Calls Try.prog 72 #[.agg #[.pointer p], .agg #[.pointer q]] w (MapR w (ChQ l r)) := by
  have hq0 : w.heap.size < w.heap.size + 1 + 1 := by omega
  have TL := Lib.hid hl
  have TR := Lib.hid hr
  have AL := Lib.hid al
  have AR := Lib.hid ar
  have HZ := Lib.hid hz
  have ca := Lib.hid (At_any q r 0 · · (by decide) (by decide) (by omega))
  clear hl hr al ar hz hq0
  cases r with
  | nil =>
    obtain rfl : q = none := TR.out
    have hR : rowAt (Tr.nil : Tr Int Value).rows 0 = none := rowAt_nil 0
    rw [hR] at ca
    go_enter Try.func72, Try.ntmps72
    go_wp2_with fail
    refine (ca.out _ (((TR.out.alloc _).alloc _).alloc _)).mono ?_
    rintro e w1 ⟨rfl, st0⟩
    have bel := (((((Below.refl _ w).alloc (Nat.le_refl _) _).alloc (by simp) _).alloc (by simp; omega) _).trans (st0.mono (by simp; omega)))
    have k1 : w1.cell? ⟨w.heap.size, 0, none⟩ = some (.pointer p) := cell_gr st0 (by simp [go_sem])
    have k2 : w1.cell? ⟨w.heap.size + 1 + 1, 0, none⟩ = some (.pointer none) := cell_gr st0 (by simp [go_sem])
    have f2 : w1.frozen? ⟨w.heap.size + 1 + 1, 0, none⟩ = false := fro_gr (a := ⟨w.heap.size + 1 + 1, 0, none⟩) (x := .pointer none) st0 (by simp [go_sem]) (by simp [go_sem])
    have sz : w.heap.size + 1 + 1 < w1.heap.size := World.block_lt_of_cell? w1 _ k2
    have T1 := Lib.hid (TL.out.below bel (Nat.le_refl _))
    have FIN := Lib.hid (MapR.set (c := w.heap.size + 1 + 1) (Q := ChQ l Tr.nil) (.pointer p) k2 T1.out ⟨by simp [Tr.rows], AL.out⟩ bel (by omega))
    clear bel st0 TL TR AL AR HZ T1 ca IH hR
    unfold AtV
    go_wp2_with fail
    exact bodyPost_ret (v := .agg #[.pointer p]) (by simp [results, Try.results72, go_sem, k2, sz]) rfl FIN.out
  | node kn vn rl rr =>
    obtain ⟨x, tl, hx⟩ : ∃ x tl, (Tr.node kn vn rl rr).rows = x :: tl := by
      cases h : (Tr.node kn vn rl rr).rows with
      | nil => simp [Tr.rows] at h
      | cons x tl => exact ⟨x, tl, rfl⟩
    have hR : rowAt (Tr.node kn vn rl rr).rows 0 = some x := by rw [hx]; rfl
    rw [hR] at ca
    have HX := Lib.hid hx
    obtain ⟨xk, xv⟩ := x
    clear hx hR
    go_enter Try.func72, Try.ntmps72
    go_wp2_with fail
    refine (ca.out _ (((TR.out.alloc _).alloc _).alloc _)).mono ?_
    rintro e w1 ⟨rfl, st0⟩
    have bel := (((((Below.refl _ w).alloc (Nat.le_refl _) _).alloc (by simp) _).alloc (by simp; omega) _).trans (st0.mono (by simp; omega)))
    have k1 : w1.cell? ⟨w.heap.size, 0, none⟩ = some (.pointer p) := cell_gr st0 (by simp [go_sem])
    have k3 : w1.cell? ⟨w.heap.size + 1, 0, none⟩ = some (.pointer q) := cell_gr st0 (by simp [go_sem])
    have k2 : w1.cell? ⟨w.heap.size + 1 + 1, 0, none⟩ = some (.pointer none) := cell_gr st0 (by simp [go_sem])
    have f2 : w1.frozen? ⟨w.heap.size + 1 + 1, 0, none⟩ = false := fro_gr (a := ⟨w.heap.size + 1 + 1, 0, none⟩) (x := .pointer none) st0 (by simp [go_sem]) (by simp [go_sem])
    have sz : w.heap.size + 1 + 1 < w1.heap.size := World.block_lt_of_cell? w1 _ k2
    replace TL := Lib.hid (TL.out.below bel (Nat.le_refl _))
    replace TR := Lib.hid (TR.out.below bel (Nat.le_refl _))
    have BL := Lib.hid bel
    clear st0 ca bel
    unfold AtV
    have hv : xv.oneCell' = true := At.ones TR.out (xk, xv) (by rw [HX.out]; exact List.mem_cons_self)
    have HK : Hid (IsKV xk (.int .i64 xk : Value) xv) := ⟨rfl, hv⟩
    replace IH : Hid (∀ W : World, At W q (Tr.node kn vn rl rr) → Calls Try.prog 36 #[.agg #[.pointer q], (.int .i64 xk : Value)] W (DelR W (Tr.node kn vn rl rr) xk)) := Lib.hid (IH.out q xk)
    have hm := cells_of_one hv
    unfold Value.cells at hm
    dsimp only
    rw [show KV.kv xk = (.int .i64 xk : Value) from rfl]
    go_wp2_with fail
    refine (IH.out _ TR.out).mono ?_
    rintro e w2 ⟨x2, u2, f, rfl, a2, g2, st0⟩
    have st : Below w1.heap.size w1 w2 := (by first | exact st0 | exact Below.of_dr st0)
    replace f2 := fro_gr st k2 f2
    replace k1 := cell_gr st k1
    replace k3 := cell_gr st k3
    replace k2 := cell_gr st k2
    replace TL := Lib.hid (TL.out.grow st)
    replace TR := Lib.hid (TR.out.grow st)
    replace BL := Lib.hid (BL.out.trans (st.mono BL.out.size))
    replace sz := Nat.lt_of_lt_of_le sz st.size
    clear st st0
    have T2 := Lib.hid a2
    have G2 := Lib.hid g2
    clear a2 g2
    have z0 : w.heap.size < w2.heap.size := by omega
    have z1 : w.heap.size + 1 < w2.heap.size := by omega
    have st9 := (Below.refl w2.heap.size w2).alloc (Nat.le_refl _) (Obj.cells #[Value.pointer x2] 35)
    have L3 := Lib.hid (TL.out.grow st9)
    have T3 := Lib.hid (T2.out.grow st9)
    have B3 := Lib.hid (BL.out.trans (st9.mono BL.out.size))
    have c3 := cell_gr st9 k2
    have g3 := fro_gr st9 k2 f2
    clear st9
    go_wp2_with fail
    refine (link_any p x2 l u2 xk (.int .i64 xk) xv _ HK.out L3.out T3.out AL.out G2.out.1 (by have := HZ.out; have := G2.out.2.2.1; omega)).mono ?_
    rintro e w4 ⟨x4, u4, rfl, a4, g4, st0⟩
    have k5 := cell_gr st0 c3
    have f5 := fro_gr st0 c3 g3
    have T4 := Lib.hid a4
    have hdel : u2.rows = tl := del_head (x := (xk, xv)) (by rw [← HX.out]; exact AR.out) (by rw [← HX.out]; exact G2.out.2.1)
    have FIN := Lib.hid (MapR.set (c := w.heap.size + 1 + 1) (Q := ChQ l (Tr.node kn vn rl rr)) (.pointer x4) k5 T4.out ⟨by rw [g4.rows, HX.out, hdel], g4.avl⟩ (B3.out.trans (st0.mono B3.out.size)) (by omega))
    clear st0 hdel hm c3 g3 T4 L3 T3 B3 G2 T2 TL TR AL AR HZ HX HK IH a4 g4 k1 k3 k2 f2 BL z0 z1 sz
    go_wp2_with fail
    exact bodyPost_ret (v := .agg #[.pointer x4]) (by simp [results, Try.results72, go_sem, k5]) rfl FIN.out
end Go.Proofs.Ytbphmcjjanchlaa.Mii
