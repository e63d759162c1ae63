/- Join. -/
import Derived.Test.YtbphmcjjanchlaaK10
namespace Go.Proofs.Ytbphmcjjanchlaa.Mii
open Go.RowKit
set_option linter.unusedVariables false
set_option linter.unusedSimpArgs false

/-- What joining answers, where all of a lies below all of b. -/
def JoiR (w : World) (a b : Tr Int Value) (e : Ending) (w' : World) : Prop := ∃ q t, e = .returned (.tuple #[.agg #[.pointer q], .int .i64 0]) ∧ At w' q t ∧ ChQ a b t ∧ Below w.heap.size w w'
theorem JoiR.set {w W : World} {a b t : Tr Int Value} {c : Nat} {x q : Option Addr} (y : Value) (hc : W.cell? ⟨c, 0, none⟩ = some (.pointer x)) (h : At W q t) (hq : ChQ a b t) (hb : Below w.heap.size w W) (hn : w.heap.size ≤ c) :
    JoiR w a b (.returned (.tuple #[.agg #[.pointer q], .int .i64 0])) (W.setCell ⟨c, 0, none⟩ y) := ⟨q, t, rfl, h.set y hc, hq, hb.setCell hn y⟩
structure Box3j (w : World) (p q : Option Addr) (w2 : World) : Prop where
  c1 : w2.cell? ⟨w.heap.size, 0, none⟩ = some (.pointer p)
  c2 : w2.cell? ⟨w.heap.size + 1, 0, none⟩ = some (.pointer q)
  c3 : w2.cell? ⟨w.heap.size + 1 + 1, 0, none⟩ = some (.pointer none)
  f3 : w2.frozen? ⟨w.heap.size + 1 + 1, 0, none⟩ = false
  sz : w.heap.size + 1 + 1 < w2.heap.size
  bel : Below w.heap.size w w2
theorem box3j (w : World) (p q : Option Addr) : ∀ w2, (((w.alloc (Obj.cells #[Value.pointer p] 35)).alloc (Obj.cells #[Value.pointer q] 35)).alloc (Obj.cells #[Value.pointer none] 35)) = w2 → Box3j w p q w2 := fun w2 e => by
  subst e
  exact ⟨by simp [go_sem], by simp [go_sem], by simp [go_sem], by simp [go_sem], by simp, (((Below.refl _ w).alloc (Nat.le_refl _) _).alloc (by simp) _).alloc (by simp; omega) _⟩
theorem rowAt_mem {l : List (Int × Value)} {i : Int} {x : Int × Value} (h : rowAt l i = some x) : x ∈ l := by
  unfold rowAt at h
  by_cases g : 0 ≤ i
  · rw [if_pos g] at h; exact List.mem_of_getElem? h
  · rw [if_neg g] at h; cases h
set_option maxRecDepth 100000 in
set_option maxHeartbeats 1000000 in
theorem Join_any (p q : Option Addr) (a b : Tr Int Value) (w : World) (ha : At w p a) (hb : At w q b) (va : a.Avl) (vb : b.Avl) (sab : Asc (a.rows ++ b.rows)) (hz : a.sz + 1 + b.sz ≤ 2 ^ 58) :
    Calls Try.prog 32 #[.agg #[.pointer p], .agg #[.pointer q]] w (JoiR w a b) := by
  obtain ⟨n, hn⟩ : ∃ n : Int, (a.sz : Int) = n := ⟨_, rfl⟩
  have q1 := IntWalk.i64_in (n - 1) (by omega)
  obtain ⟨sa, sb, sc⟩ := asc_append.1 sab
  obtain ⟨X, hX⟩ : ∃ X, rowAt a.rows (n - 1) = X := ⟨_, rfl⟩
  obtain ⟨Y, hY⟩ : ∃ Y, rowAt b.rows 0 = Y := ⟨_, rfl⟩
  have hlt : ∀ x y, X = some x → Y = some y → KO.lt x.1 y.1 := fun x y h1 h2 => sc x (rowAt_mem (hX.trans h1)) y (rowAt_mem (hY.trans h2))
  have LA := Lib.hid (fun W hW => At_any p a (n - 1) W hW (by omega) (by omega) (by omega))
  rw [hX] at LA
  have LB := Lib.hid (fun W hW => At_any q b 0 W hW (by decide) (by decide) (by omega))
  rw [hY] at LB
  have LC := Lib.hid (fun W h1 h2 => chain_any p q a b W h1 h2 va vb sb (by omega))
  have Hn := Lib.hid hn
  have TA := Lib.hid ha
  have TB := Lib.hid hb
  have HL := Lib.hid hlt
  have HB := Lib.hid (box3j w p q)
  clear ha hb va vb sab hz sa sb sc hn hX hY hlt
  rcases X with _ | ⟨xk, xv⟩ <;> rcases Y with _ | ⟨yk, yv⟩
  case' some.some =>
    have t1 : decide (yk ≤ xk) = false := decide_eq_false ((fun h => KO.irr xk (by rcases KO.tot xk yk with g | g | g; exact absurd h (by exact Int.not_le.2 g); exact g ▸ HL.out _ _ rfl rfl; exact KO.tr (HL.out _ _ rfl rfl) g)))
  all_goals
    clear HL
    unfold AtV at LA LB
    dsimp only at LA LB
    try simp only [show ∀ z : Int, (KV.kv z : Value) = .int .i64 z from fun _ => rfl] at LA
    try simp only [show ∀ z : Int, (KV.kv z : Value) = .int .i64 z from fun _ => rfl] at LB
    go_enter Try.func32, Try.ntmps32
    go_wp2_with fail
    generalize e2 : (((w.alloc (Obj.cells #[Value.pointer p] 35)).alloc (Obj.cells #[Value.pointer q] 35)).alloc (Obj.cells #[Value.pointer none] 35)) = w0
    obtain ⟨k1, k2, k3, f3, sz, bel⟩ := HB.out w0 e2
    have BL := Lib.hid bel
    replace TA := Lib.hid (TA.out.below bel (Nat.le_refl _))
    replace TB := Lib.hid (TB.out.below bel (Nat.le_refl _))
    clear HB e2 bel
    go_region_held3 (fun w' => w'.cell? ⟨w.heap.size, 0, none⟩ = some (.pointer p))
      (first | exact k1 | exact cell_dr k1 | exact cell_al _ k1 | exact cell_al _ (cell_dr k1) | exact cell_al _ (cell_al _ k1) | exact cell_st (by dsimp only; omega) k1 | exact cell_st (by dsimp only; omega) (cell_dr k1) | exact cell_al _ (cell_st (by dsimp only; omega) k1) | exact cell_st (by dsimp only; omega) (cell_st (by dsimp only; omega) k1))
      (first
        | (go_at_call 25; (with_reducible refine (Len_any p _ n _ (by first | exact TA.out | exact TA.out.drew) Hn.out).mono ?_); rintro e w1 ⟨rfl, st0⟩; have st : Below w0.heap.size w0 w1 := (by first | exact st0 | exact Below.of_dr st0); replace f3 := fro_gr st k3 f3; replace k1 := cell_gr st k1; replace k2 := cell_gr st k2; replace k3 := cell_gr st k3; replace TA := Lib.hid (TA.out.grow st); replace TB := Lib.hid (TB.out.grow st); replace BL := Lib.hid (BL.out.trans (st.mono BL.out.size)); replace sz := Nat.lt_of_lt_of_le sz st.size; clear st st0)
        | (go_at_call 60; (with_reducible refine (LA.out _ (by first | exact TA.out | exact TA.out.drew)).mono ?_); rintro e w2 ⟨rfl, st0⟩; have st : Below w1.heap.size w1 w2 := (by first | exact st0 | exact Below.of_dr st0); replace f3 := fro_gr st k3 f3; replace k1 := cell_gr st k1; replace k2 := cell_gr st k2; replace k3 := cell_gr st k3; replace TA := Lib.hid (TA.out.grow st); replace TB := Lib.hid (TB.out.grow st); replace BL := Lib.hid (BL.out.trans (st.mono BL.out.size)); replace sz := Nat.lt_of_lt_of_le sz st.size; clear st st0))
    clear LA Hn q1
    have z0 : w.heap.size < w2.heap.size := by omega
    have z1 : w.heap.size + 1 < w2.heap.size := by omega
    go_wp2_with fail
    refine (LB.out _ TB.out).mono ?_
    rintro e w3 ⟨rfl, st0⟩
    have st : Below w2.heap.size w2 w3 := (by first | exact st0 | exact Below.of_dr st0)
    replace f3 := fro_gr st k3 f3
    replace k1 := cell_gr st k1
    replace k2 := cell_gr st k2
    replace k3 := cell_gr st k3
    replace TA := Lib.hid (TA.out.grow st)
    replace TB := Lib.hid (TB.out.grow st)
    replace BL := Lib.hid (BL.out.trans (st.mono BL.out.size))
    replace sz := Nat.lt_of_lt_of_le sz st.size
    clear st st0
    have z0 : w.heap.size < w3.heap.size := by omega
    have z1 : w.heap.size + 1 < w3.heap.size := by omega
    go_wp2_with fail
    refine (LC.out _ TA.out TB.out).mono ?_
    rintro e w4 ⟨x1, u1, rfl, a1, g1, st0⟩
    have st : Below w3.heap.size w3 w4 := (by first | exact st0 | exact Below.of_dr st0)
    replace f3 := fro_gr st k3 f3
    replace k1 := cell_gr st k1
    replace k2 := cell_gr st k2
    replace k3 := cell_gr st k3
    replace TA := Lib.hid (TA.out.grow st)
    replace TB := Lib.hid (TB.out.grow st)
    replace BL := Lib.hid (BL.out.trans (st.mono BL.out.size))
    replace sz := Nat.lt_of_lt_of_le sz st.size
    clear st st0
    have T1 := Lib.hid a1
    have FIN := Lib.hid (JoiR.set (c := w.heap.size + 1 + 1) (.pointer x1) k3 T1.out g1 BL.out (by omega))
    clear T1 a1 g1 TA TB BL LB LC
    go_wp2_with fail
    exact bodyPost_ret (v := .tuple #[.agg #[.pointer x1], .int .i64 0]) (by simp [results, Try.results32, go_sem, k3, sz]) rfl FIN.out
end Go.Proofs.Ytbphmcjjanchlaa.Mii
