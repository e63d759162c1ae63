/- tie and halve, whose nodes are new. -/
import Derived.Test.YtgbhddiligdemaaK20
import Derived.Test.YtgbhddiligdemaaTW6
namespace Go.Proofs.Ytgbhddiligdemaa.Mii
open Go.RowKit
set_option linter.unusedVariables false
set_option linter.unusedSimpArgs false

/-- The tree lies at p, in blocks from n₀ on. -/
def AtF {κ : Type} [KV κ] (n₀ : Nat) (w : World) : Option Addr → Tr κ Value → Prop
  | p, .nil => p = none
  | p, .node k v l r => ∃ (b : Nat) (pl pr : Option Addr), p = some ⟨b, 0, none⟩ ∧ n₀ ≤ b ∧ w.cell? ⟨b, 0, none⟩ = some (KV.kv k) ∧ w.cell? ⟨b, 1, none⟩ = some v ∧ w.cell? ⟨b, 2, none⟩ = some (.pointer pl) ∧ w.cell? ⟨b, 3, none⟩ = some (.pointer pr)
    ∧ w.cell? ⟨b, 4, none⟩ = some (.int .i64 ((l.sz + 1 + r.sz : Nat) : Int)) ∧ w.cell? ⟨b, 5, none⟩ = some (.int .i64 ((max l.dep r.dep + 1 : Nat) : Int)) ∧ v.oneCell' = true ∧ AtF n₀ w pl l ∧ AtF n₀ w pr r
theorem AtF.at {κ : Type} [KV κ] {n₀ : Nat} {w : World} : ∀ {p : Option Addr} {t : Tr κ Value}, AtF n₀ w p t → At w p t
  | _, .nil, h => h
  | _, .node k v l r, ⟨b, pl, pr, e, _, c0, c1, c2, c3, c4, c5, ov, hl, hr⟩ => ⟨b, pl, pr, e, c0, c1, c2, c3, c4, c5, ov, hl.at, hr.at⟩
theorem AtF.grow {κ : Type} [KV κ] {n₀ : Nat} {A B : World} (st : Below A.heap.size A B) : ∀ {p : Option Addr} {t : Tr κ Value}, AtF n₀ A p t → AtF n₀ B p t
  | _, .nil, h => h
  | _, .node k v l r, ⟨b, pl, pr, e, hb, c0, c1, c2, c3, c4, c5, ov, hl, hr⟩ =>
    ⟨b, pl, pr, e, hb, cell_gr st c0, cell_gr st c1, cell_gr st c2, cell_gr st c3, cell_gr st c4, cell_gr st c5, ov, AtF.grow st hl, AtF.grow st hr⟩
theorem AtF.below {κ : Type} [KV κ] {n₀ n : Nat} {A B : World} {p : Option Addr} {t : Tr κ Value} (h : AtF n₀ A p t) (st : Below n A B) (hn : A.heap.size ≤ n) : AtF n₀ B p t := h.grow (st.mono hn)
theorem AtF.alloc {κ : Type} [KV κ] {n₀ : Nat} {A : World} {p : Option Addr} {t : Tr κ Value} (o : Obj) (a : AtF n₀ A p t) : AtF n₀ (A.alloc o) p t := a.grow ((Below.refl _ A).alloc (Nat.le_refl _) o)
theorem AtF.drew {κ : Type} [KV κ] {n₀ : Nat} {A : World} {p : Option Addr} {t : Tr κ Value} (a : AtF n₀ A p t) : AtF n₀ A.drew p t := a.grow (Below.refl _ A).drew
/-- A store below hits no node. -/
theorem AtF.setLow {κ : Type} [KV κ] {n₀ : Nat} {A : World} {x : Addr} (y : Value) (hx : x.block < n₀) : ∀ {p : Option Addr} {t : Tr κ Value}, AtF n₀ A p t → AtF n₀ (A.setCell x y) p t
  | _, .nil, h => h
  | _, .node k v l r, ⟨b, pl, pr, e, hb, c0, c1, c2, c3, c4, c5, ov, hl, hr⟩ => by
    have hne : ¬ b = x.block := by omega
    exact ⟨b, pl, pr, e, hb, cell_st hne c0, cell_st hne c1, cell_st hne c2, cell_st hne c3, cell_st hne c4, cell_st hne c5, ov, AtF.setLow y hx hl, AtF.setLow y hx hr⟩
theorem AtF.set {κ : Type} [KV κ] {n₀ : Nat} {A : World} {c : Nat} {x : Option Addr} (y : Value) (hc : A.cell? ⟨c, 0, Option.none⟩ = some (.pointer x)) : ∀ {p : Option Addr} {t : Tr κ Value}, AtF n₀ A p t → AtF n₀ (A.setCell ⟨c, 0, Option.none⟩ y) p t
  | _, .nil, h => h
  | _, .node k v l r, ⟨b, pl, pr, e, hb, c0, c1, c2, c3, c4, c5, ov, hl, hr⟩ => by
    have hne : ¬ b = c := fun e => by subst e; rw [c0] at hc; exact KV.np k x (Option.some.inj hc)
    exact ⟨b, pl, pr, e, hb, cell_st hne c0, cell_st hne c1, cell_st hne c2, cell_st hne c3, cell_st hne c4, cell_st hne c5, ov, AtF.set y hc hl, AtF.set y hc hr⟩
def MapF {κ : Type} [KV κ] (n₀ : Nat) (w : World) (Q : Tr κ Value → Prop) (e : Ending) (w' : World) : Prop := ∃ q t, e = .returned (.agg #[.pointer q]) ∧ AtF n₀ w' q t ∧ Q t ∧ Below w.heap.size w w'
theorem MapF.set {κ : Type} [KV κ] {n₀ : Nat} {w W : World} {Q : Tr κ Value → Prop} {c : Nat} {x q : Option Addr} {t : Tr κ Value} (y : Value) (hc : W.cell? ⟨c, 0, Option.none⟩ = some (.pointer x)) (h : AtF n₀ W q t) (hq : Q t) (hb : Below w.heap.size w W) (hn : w.heap.size ≤ c) :
    MapF n₀ w Q (.returned (.agg #[.pointer q])) (W.setCell ⟨c, 0, Option.none⟩ y) := ⟨q, t, rfl, h.set y hc, hq, hb.setCell hn y⟩
def PairsF (n₀ : Nat) (w : World) (g : Nat) (L : List (Int × Value)) : Prop := PairsAt w g L ∧ n₀ ≤ w.heap.size
theorem PairsF.sz {n₀ : Nat} {A : World} {g : Nat} {L : List (Int × Value)} (h : PairsF n₀ A g L) : n₀ ≤ A.heap.size := h.2
theorem PairsF.grow {n₀ : Nat} {A B : World} {g : Nat} {L : List (Int × Value)} (st : Below A.heap.size A B) (h : PairsF n₀ A g L) : PairsF n₀ B g L := ⟨h.1.grow st, Nat.le_trans h.2 st.size⟩
/-- The new node at the end of memory. -/
theorem tieF_fin (n₀ : Nat) (w w4 : World) (p q : Option Addr) (l r : Tr Int Value) (kx : Int) (v : Value) (M x : Int) (X : Value) (t : TypeId) (hz0 : n₀ ≤ w.heap.size) (hl : AtF n₀ w p l) (hr : AtF n₀ w q r) (B : Below w.heap.size w w4) (hv : v.oneCell' = true) (hx : x = ((l.sz + 1 + r.sz : Nat) : Int)) (hM : M = ((max l.dep r.dep : Nat) : Int)) :
    MapF n₀ w (· = .node kx v l r) (.returned (.agg #[.pointer (some ⟨w4.heap.size, 0, none⟩)])) ((w4.setCell ⟨w.heap.size + 1 + 1 + 1, 0, none⟩ X).alloc (.cells #[KV.kv kx, v, .pointer p, .pointer q, .int .i64 x, .int .i64 (M + 1)] t)) := by
  have hs := B.size
  have hb : Below w.heap.size w ((w4.setCell ⟨w.heap.size + 1 + 1 + 1, 0, none⟩ X).alloc (.cells #[KV.kv kx, v, .pointer p, .pointer q, .int .i64 x, .int .i64 (M + 1)] t)) :=
    (B.setCell (by dsimp only; omega) _).alloc (by simpa using hs) _
  subst hx hM
  exact ⟨_, .node kx v l r, rfl, ⟨w4.heap.size, p, q, rfl, Nat.le_trans hz0 hs, by simp [go_sem], by simp [go_sem], by simp [go_sem], by simp [go_sem], by simp [go_sem], by simp [go_sem], hv, hl.below hb (Nat.le_refl _), hr.below hb (Nat.le_refl _)⟩, rfl, hb⟩
set_option maxRecDepth 100000 in
set_option maxHeartbeats 1000000 in
theorem tieF_any (n₀ : Nat) (p q : Option Addr) (l r : Tr Int Value) (kx0 : Int) (kx v : Value) (w : World) (hkx : IsKV kx0 kx v) (hz0 : n₀ ≤ w.heap.size) (hl : AtF n₀ w p l) (hr : AtF n₀ w q r) (sl : l.sz ≤ 2 ^ 60) (sr : r.sz ≤ 2 ^ 60) :
    Calls Try.prog 68 #[.agg #[.pointer p], .agg #[kx, v], .agg #[.pointer q]] w (MapF n₀ w (· = .node kx0 v l r)) := by
  have dl := l.dep_le
  have dr := r.dep_le
  obtain ⟨n, hn⟩ : ∃ n : Int, (l.sz : Int) = n := ⟨_, rfl⟩
  obtain ⟨m, hm⟩ : ∃ n : Int, (r.sz : Int) = n := ⟨_, rfl⟩
  obtain ⟨c, hc⟩ : ∃ n : Int, (l.dep : Int) = n := ⟨_, rfl⟩
  obtain ⟨d, hd⟩ : ∃ n : Int, (r.dep : Int) = n := ⟨_, rfl⟩
  have q1 := IntWalk.i64_in (n + 1) (by omega)
  have q2 := IntWalk.i64_in (n + 1 + m) (by omega)
  obtain ⟨M, hM⟩ : ∃ M : Int, (if c < d then d else c) = M := ⟨_, rfl⟩
  have hM2 : M = ((max l.dep r.dep : Nat) : Int) := by rw [← hM]; split <;> omega
  have q3 := IntWalk.i64_in (M + 1) (by omega)
  have HM := Lib.hid hM2
  have Hn := Lib.hid hn
  have Hm := Lib.hid hm
  have Hc := Lib.hid hc
  have Hd := Lib.hid hd
  have TL := Lib.hid hl
  have TR := Lib.hid hr
  have HL := Lib.hid hl
  have HR := Lib.hid hr
  have HB := Lib.hid (box4 w p q kx v)
  have HK := Lib.hid hkx
  have HZ0 := Lib.hid hz0
  clear hM2 hz0 hl hr hn hm hc hd dl dr sl sr hkx
  go_enter Try.func68, Try.ntmps68
  go_wp2_with fail
  generalize e4 : ((((w.alloc (Obj.cells #[Value.pointer p] 35)).alloc (Obj.cells #[kx, v] 52)).alloc (Obj.cells #[Value.pointer q] 35)).alloc (Obj.cells #[Value.pointer none] 35)) = w0
  obtain ⟨k1, k2, k3, k4, k5, f5, sz, bel⟩ := HB.out w0 e4
  have BL := Lib.hid bel
  replace TL := Lib.hid (TL.out.below bel (Nat.le_refl _))
  replace TR := Lib.hid (TR.out.below bel (Nat.le_refl _))
  clear HB e4 bel
  go_region_held3 (fun w' => w'.cell? ⟨w.heap.size, 0, none⟩ = some (.pointer p) ∧ w'.cell? ⟨w.heap.size + 1, 0, none⟩ = some (kx) ∧ w'.cell? ⟨w.heap.size + 1, 1, none⟩ = some (v) ∧ w'.cell? ⟨w.heap.size + 1 + 1, 0, none⟩ = some (.pointer q))
    (first | exact ⟨k1, k2, k3, k4⟩ | exact ⟨cell_dr k1, cell_dr k2, cell_dr k3, cell_dr k4⟩ | exact ⟨cell_al _ k1, cell_al _ k2, cell_al _ k3, cell_al _ k4⟩ | exact ⟨cell_al _ (cell_dr k1), cell_al _ (cell_dr k2), cell_al _ (cell_dr k3), cell_al _ (cell_dr k4)⟩ | exact ⟨cell_al _ (cell_al _ k1), cell_al _ (cell_al _ k2), cell_al _ (cell_al _ k3), cell_al _ (cell_al _ k4)⟩ | exact ⟨cell_st (by dsimp only; omega) k1, cell_st (by dsimp only; omega) k2, cell_st (by dsimp only; omega) k3, cell_st (by dsimp only; omega) k4⟩ | exact ⟨cell_st (by dsimp only; omega) (cell_dr k1), cell_st (by dsimp only; omega) (cell_dr k2), cell_st (by dsimp only; omega) (cell_dr k3), cell_st (by dsimp only; omega) (cell_dr k4)⟩ | exact ⟨cell_al _ (cell_st (by dsimp only; omega) k1), cell_al _ (cell_st (by dsimp only; omega) k2), cell_al _ (cell_st (by dsimp only; omega) k3), cell_al _ (cell_st (by dsimp only; omega) k4)⟩ | exact ⟨cell_st (by dsimp only; omega) (cell_st (by dsimp only; omega) k1), cell_st (by dsimp only; omega) (cell_st (by dsimp only; omega) k2), cell_st (by dsimp only; omega) (cell_st (by dsimp only; omega) k3), cell_st (by dsimp only; omega) (cell_st (by dsimp only; omega) k4)⟩)
    (first
      | (go_at_call 25; (with_reducible refine (Len_any p _ n _ (by first | exact TL.out.at | exact TL.out.drew.at) Hn.out).mono ?_); rintro e w1 ⟨rfl, st0⟩; have st : Below w0.heap.size w0 w1 := (by first | exact st0 | exact Below.of_dr st0); replace f5 := fro_gr st k5 f5; replace k1 := cell_gr st k1; replace k2 := cell_gr st k2; replace k3 := cell_gr st k3; replace k4 := cell_gr st k4; replace k5 := cell_gr st k5; replace TL := Lib.hid (TL.out.grow st); replace TR := Lib.hid (TR.out.grow st); replace BL := Lib.hid (BL.out.trans (st.mono BL.out.size)); replace sz := Nat.lt_of_lt_of_le sz st.size; clear st st0)
      | (go_at_call 25; (with_reducible refine (Len_any q _ m _ (by first | exact TR.out.at | exact TR.out.drew.at) Hm.out).mono ?_); rintro e w2 ⟨rfl, st0⟩; have st : Below w1.heap.size w1 w2 := (by first | exact st0 | exact Below.of_dr st0); replace f5 := fro_gr st k5 f5; replace k1 := cell_gr st k1; replace k2 := cell_gr st k2; replace k3 := cell_gr st k3; replace k4 := cell_gr st k4; replace k5 := cell_gr st k5; replace TL := Lib.hid (TL.out.grow st); replace TR := Lib.hid (TR.out.grow st); replace BL := Lib.hid (BL.out.trans (st.mono BL.out.size)); replace sz := Nat.lt_of_lt_of_le sz st.size; clear st st0)
      | (go_at_call 70; (with_reducible refine (Depth_any p _ c _ (by first | exact TL.out.at | exact TL.out.drew.at) Hc.out).mono ?_); rintro e w3 ⟨rfl, st0⟩; have st : Below w2.heap.size w2 w3 := (by first | exact st0 | exact Below.of_dr st0); replace f5 := fro_gr st k5 f5; replace k1 := cell_gr st k1; replace k2 := cell_gr st k2; replace k3 := cell_gr st k3; replace k4 := cell_gr st k4; replace k5 := cell_gr st k5; replace TL := Lib.hid (TL.out.grow st); replace TR := Lib.hid (TR.out.grow st); replace BL := Lib.hid (BL.out.trans (st.mono BL.out.size)); replace sz := Nat.lt_of_lt_of_le sz st.size; clear st st0)
      | (go_at_call 70; (with_reducible refine (Depth_any q _ d _ (by first | exact TR.out.at | exact TR.out.drew.at) Hd.out).mono ?_); rintro e w4 ⟨rfl, st0⟩; have st : Below w3.heap.size w3 w4 := (by first | exact st0 | exact Below.of_dr st0); replace f5 := fro_gr st k5 f5; replace k1 := cell_gr st k1; replace k2 := cell_gr st k2; replace k3 := cell_gr st k3; replace k4 := cell_gr st k4; replace k5 := cell_gr st k5; replace TL := Lib.hid (TL.out.grow st); replace TR := Lib.hid (TR.out.grow st); replace BL := Lib.hid (BL.out.trans (st.mono BL.out.size)); replace sz := Nat.lt_of_lt_of_le sz st.size; clear st st0))
  have FIN := Lib.hid (tieF_fin n₀ w w4 p q l r kx0 v M (n + 1 + m) (.pointer (some ⟨w4.heap.size, 0, none⟩)) 120 HZ0.out HL.out HR.out BL.out HK.out.2 (by have := Hn.out; have := Hm.out; omega) HM.out)
  rw [← HK.out.1] at FIN
  clear HL HR BL hM HM TL TR HK
  go_wp2_with fail
  exact bodyPost_ret (v := .agg #[.pointer (some ⟨w4.heap.size, 0, none⟩)]) (by simp [results, Try.results68, go_sem, k5, sz]) rfl FIN.out
set_option maxRecDepth 100000 in
theorem halveF_nil (n₀ : Nat) (p : Option Addr) (c : Nat) (w : World) : Calls Try.prog 64 #[.slice p 0 c] w (MapF n₀ w (HalQ ([] : List (Int × Value)))) := by
  go_enter Try.func64, Try.ntmps64
  go_wp2
  exact bodyPost_ret (v := .agg #[.pointer none]) (by simp [results, Try.results64, go_sem]) rfl ⟨none, .nil, rfl, rfl, ⟨rfl, trivial, rfl⟩, (Below.refl _ _).alloc (Nat.le_refl _) _⟩
set_option maxRecDepth 100000 in
set_option maxHeartbeats 2000000 in
theorem halveF_step (n₀ : Nat) (g off n c : Nat) (L : List (Int × Value)) (w : World) (hn : 0 < n) (hc : n ≤ c) (hoff : off + n ≤ L.length) (hL : L.length ≤ 2 ^ 40) (hcm : c ≤ maxLen) (pl : PairsF n₀ w g L)
    (I1 : Hid (∀ W, PairsF n₀ W g L → Calls Try.prog 64 #[.slice (some ⟨g, 2 * off, none⟩) (n / 2 : Nat) c] W (MapF n₀ W (HalQ ((L.drop off).take (n / 2))))))
    (I2 : Hid (∀ (W : World), PairsF n₀ W g L → Calls Try.prog 64 #[.slice (if c - (n / 2 + 1) = 0 then some ⟨g, 2 * off, none⟩ else some ⟨g, 2 * off + (n / 2 + 1) * 2, none⟩) (n - (n / 2 + 1)) (c - (n / 2 + 1))] W (MapF n₀ W (HalQ ((L.drop (off + (n / 2 + 1))).take (n - (n / 2 + 1))))))) :
    Calls Try.prog 64 #[.slice (some ⟨g, 2 * off, none⟩) n c] w (MapF n₀ w (HalQ ((L.drop off).take n))) := by
  obtain ⟨x, hx⟩ : ∃ x, L[off + n / 2]? = some x := ⟨L[off + n / 2]'(by omega), List.getElem?_eq_getElem (by omega)⟩
  obtain ⟨xk, xv⟩ := x
  obtain ⟨m1', m2', hv⟩ := pl.1 _ _ hx
  have hlen : ((L.drop off).take n).length = n := by rw [List.length_take, List.length_drop]; omega
  have HX : Hid (IsKV xk (.int .i64 xk : Value) xv) := ⟨rfl, hv⟩
  have HQ : Hid (∀ t u, HalQ ((L.drop off).take (n / 2)) t → HalQ ((L.drop (off + (n / 2 + 1))).take (n - (n / 2 + 1))) u → HalQ ((L.drop off).take n) (.node xk xv t u)) := Lib.hid (fun t u h1 h2 => by
    have e1 : ((L.drop off).take n).take (((L.drop off).take n).length / 2) = (L.drop off).take (n / 2) := by rw [hlen, List.take_take, Nat.min_eq_left (by omega)]
    have e2 : ((L.drop off).take n).drop (((L.drop off).take n).length / 2 + 1) = (L.drop (off + (n / 2 + 1))).take (n - (n / 2 + 1)) := by rw [hlen, List.drop_take, List.drop_drop]
    exact hal_node (x := (xk, xv)) (by rw [hlen]; omega) (by rw [hlen, sub_get (by omega)]; exact hx) (by rw [e1]; exact h1) (by rw [e2]; exact h2))
  obtain ⟨mid, hh⟩ : ∃ mid, mid = n / 2 := ⟨_, rfl⟩
  have m1 : w.cell? ⟨g, 2 * off + mid * 2, none⟩ = some (.int .i64 xk) := by rw [hh, show 2 * off + n / 2 * 2 = 2 * (off + n / 2) from by omega]; exact m1'
  have m2 : w.cell? ⟨g, 2 * off + mid * 2 + 1, none⟩ = some xv := by rw [hh, show 2 * off + n / 2 * 2 + 1 = 2 * (off + n / 2) + 1 from by omega]; exact m2'
  have PL := Lib.hid pl
  have HN : Hid (n ≤ 2 ^ 40) := Lib.hid (by omega)
  have b1 : mid < n := by omega
  have q1 : IntKind.i64.wrap ((n : Int).tdiv 2) = (mid : Int) := by
    rw [show (n : Int).tdiv 2 = (mid : Int) from by rw [hh]; rw [Int.tdiv_eq_ediv_of_nonneg (by omega)]; omega]
    exact IntWalk.i64_in _ (by omega)
  have q2 := IntWalk.i64_in ((mid : Int) + 1) (by omega)
  rw [← hh] at I1 I2 HQ
  clear m1' m2' hv pl hx hlen
  have HH := Lib.hid hh
  clear hh
  have q0 : (n : Int) / 2 = (mid : Int) := by rw [HH.out]; omega
  have i1 : (0 : Int) ≤ (mid : Int) := by omega
  have i2 : (mid : Int) < (n : Int) := by omega
  have i3 : (mid : Int) ≤ (c : Int) := by omega
  have i4 : (0 : Int) ≤ (mid : Int) + 1 := by omega
  have i5 : (mid : Int) + 1 ≤ (n : Int) := by omega
  have i6 : (n : Int) ≤ (c : Int) := by omega
  have i7 : ((mid : Int) + 1).toNat = mid + 1 := by omega
  have n0 : ((n : Int) == 0) = false := by simp; omega
  have HB : Hid (∀ w0, w.alloc (Obj.cells #[Value.pointer none] 35) = w0 → Below w.heap.size w w0 ∧ w0.cell? ⟨w.heap.size, 0, none⟩ = some (.pointer none) ∧ w0.frozen? ⟨w.heap.size, 0, none⟩ = false ∧ w.heap.size < w0.heap.size) := Lib.hid (fun w0 e => by
    subst e; exact ⟨(Below.refl _ _).alloc (Nat.le_refl _) _, by simp [go_sem], by simp [go_sem], by simp⟩)
  have gz : g < w.heap.size := World.block_lt_of_cell? w _ m1
  have ngw : ¬ g = w.heap.size := by omega
  clear q1
  by_cases hcc : c - (mid + 1) = 0
  case' pos =>
    rw [if_pos hcc] at I2
    have e1 : n - (mid + 1) = 0 := by omega
    replace I2 : Hid (∀ (W : World), PairsF n₀ W g L → Calls Try.prog 64 #[.slice (some ⟨g, 2 * off, none⟩) 0 0] W (MapF n₀ W (HalQ ((L.drop (off + (mid + 1))).take (n - (mid + 1)))))) := Lib.hid (fun W hW => by
      have t := I2.out W hW
      rw [e1, hcc] at t
      rw [e1]
      exact t)
    have hcc2 : mid + 1 = c := by omega
    have hnc : n - c = 0 := by omega
    clear e1 hcc
  case' neg =>
    rw [if_neg hcc] at I2
    have hcc2 : ¬ c = mid + 1 := by omega
  all_goals
    go_enter Try.func64, Try.ntmps64
    go_wp2_with fail
    generalize e0 : w.alloc (Obj.cells #[Value.pointer none] 35) = w0
    obtain ⟨bel, k1, f1, sz⟩ := HB.out w0 e0
    have BL := Lib.hid bel
    replace m1 := cell_gr bel m1
    replace m2 := cell_gr bel m2
    replace PL := Lib.hid (PL.out.grow (bel.mono (Nat.le_refl _)))
    clear HB e0 bel
    go_region_held3 (fun w' => w'.cell? ⟨g, 2 * off + mid * 2, none⟩ = some (.int .i64 xk) ∧ w'.cell? ⟨g, 2 * off + mid * 2 + 1, none⟩ = some (xv))
      (first | exact ⟨m1, m2⟩ | exact ⟨cell_dr m1, cell_dr m2⟩ | exact ⟨cell_al _ m1, cell_al _ m2⟩ | exact ⟨cell_al _ (cell_dr m1), cell_al _ (cell_dr m2)⟩ | exact ⟨cell_al _ (cell_al _ m1), cell_al _ (cell_al _ m2)⟩ | exact ⟨cell_st (by dsimp only; omega) m1, cell_st (by dsimp only; omega) m2⟩ | exact ⟨cell_st (by dsimp only; omega) (cell_dr m1), cell_st (by dsimp only; omega) (cell_dr m2)⟩ | exact ⟨cell_al _ (cell_st (by dsimp only; omega) m1), cell_al _ (cell_st (by dsimp only; omega) m2)⟩ | exact ⟨cell_st (by dsimp only; omega) (cell_st (by dsimp only; omega) m1), cell_st (by dsimp only; omega) (cell_st (by dsimp only; omega) m2)⟩)
      (first
        | (go_at_call 64; (with_reducible refine (I1.out _ (by first | exact PL.out | exact PL.out.grow (Below.refl _ _).drew)).mono ?_); rintro e w1 ⟨x1, u1, rfl, e1, h1, st0⟩; have st : Below w0.heap.size w0 w1 := (by first | exact st0 | exact Below.of_dr st0); replace f1 := fro_gr st k1 f1; replace k1 := cell_gr st k1; replace m1 := cell_gr st m1; replace m2 := cell_gr st m2; replace BL := Lib.hid (BL.out.trans (st.mono BL.out.size)); replace sz := Nat.lt_of_lt_of_le sz st.size; replace PL := Lib.hid (PL.out.grow st); clear st st0; have E1 := Lib.hid e1; clear e1; have H1 := Lib.hid h1; clear h1)
        | (go_at_call 64; (with_reducible refine (I2.out _ (by first | exact PL.out | exact PL.out.grow (Below.refl _ _).drew)).mono ?_); rintro e w2 ⟨x2, u2, rfl, e2, h2, st0⟩; have st : Below w1.heap.size w1 w2 := (by first | exact st0 | exact Below.of_dr st0); replace f1 := fro_gr st k1 f1; replace k1 := cell_gr st k1; replace m1 := cell_gr st m1; replace m2 := cell_gr st m2; replace E1 := Lib.hid (E1.out.grow st); replace BL := Lib.hid (BL.out.trans (st.mono BL.out.size)); replace sz := Nat.lt_of_lt_of_le sz st.size; replace PL := Lib.hid (PL.out.grow st); clear st st0; have E2 := Lib.hid e2; clear e2; have H2 := Lib.hid h2; clear h2)
        | (go_at_call 68; (with_reducible refine (tieF_any n₀ x1 x2 u1 u2 xk (.int .i64 xk) xv _ HX.out PL.out.sz (by first | exact E1.out | exact E1.out.drew) (by first | exact E2.out | exact E2.out.drew) (by have := H1.out.sz; have := HN.out; simp at *; omega) (by have := H2.out.sz; have := HN.out; simp at *; omega)).mono ?_); rintro e w3 ⟨x3, u3, rfl, e3, rfl, st0⟩; have st : Below w2.heap.size w2 w3 := (by first | exact st0 | exact Below.of_dr st0); replace f1 := fro_gr st k1 f1; replace k1 := cell_gr st k1; replace m1 := cell_gr st m1; replace m2 := cell_gr st m2; replace E1 := Lib.hid (E1.out.grow st); replace E2 := Lib.hid (E2.out.grow st); replace BL := Lib.hid (BL.out.trans (st.mono BL.out.size)); replace sz := Nat.lt_of_lt_of_le sz st.size; clear st st0; have E3 := Lib.hid e3; clear e3))
    have FIN := Lib.hid (MapF.set (c := w.heap.size) (.pointer x3) k1 E3.out (HQ.out _ _ H1.out H2.out) BL.out (Nat.le_refl _))
    clear E1 E2 E3 H1 H2 BL PL I1 I2 HQ HN HX HH
    go_wp2_with fail
    exact bodyPost_ret (v := .agg #[.pointer x3]) (by simp [results, Try.results64, go_sem, k1, sz]) rfl FIN.out
theorem halveF_all (n₀ : Nat) (g : Nat) (L : List (Int × Value)) (hL : L.length ≤ 2 ^ 40) : ∀ (m n off c : Nat) (p : Option Addr) (w : World), n ≤ m → n ≤ c → off + n ≤ L.length → c ≤ maxLen → (0 < n → p = some ⟨g, 2 * off, none⟩) → PairsF n₀ w g L →
    Calls Try.prog 64 #[.slice p n c] w (MapF n₀ w (HalQ ((L.drop off).take n))) := by
  intro m
  induction m with
  | zero =>
    intro n off c p w hm hc ho hcm hp pl
    obtain rfl : n = 0 := by omega
    rw [List.take_zero]
    exact halveF_nil n₀ p c w
  | succ m ih =>
    intro n off c p w hm hc ho hcm hp pl
    by_cases h0 : n = 0
    · subst h0; rw [List.take_zero]; exact halveF_nil n₀ p c w
    · rw [hp (by omega)]
      refine halveF_step n₀ g off n c L w (by omega) hc ho hL hcm pl (Lib.hid (fun W hW => ih (n / 2) off c _ W (by omega) (by omega) (by omega) hcm (fun _ => rfl) hW)) (Lib.hid (fun W hW => ?_))
      refine ih (n - (n / 2 + 1)) (off + (n / 2 + 1)) (c - (n / 2 + 1)) _ W (by omega) (by omega) (by omega) (by omega) (fun h => ?_) hW
      rw [if_neg (by omega), show 2 * off + (n / 2 + 1) * 2 = 2 * (off + (n / 2 + 1)) from by omega]
end Go.Proofs.Ytgbhddiligdemaa.Mii
