/- Several texts in one: V1 V2 V3 AQ4 AD3 I2. -/
import Derived.Test.YtlahdfmciaibdaaDoorND6
import Derived.Test.YtlahdfmciaibdaaDoorND7
import Derived.Test.YtlahdfmciaibdaaDoorND5
import Derived.Test.YtlahdfmciaibdaaDoorI1
import Derived.OrdersHeld
import Derived.StillTail
import Derived.Deep.RegionHeld

/- The laws' copied, same and kept. -/
namespace Go.Proofs.YtlahdfmciaibdaaDoor
open Go.RowKit
set_option linter.unusedVariables false
set_option linter.unusedSimpArgs false

/-- The cells at block b read as l and two marks. -/
structure Cop (w : World) (b : Nat) (l : List Int) : Prop where
  lt : b < w.heap.size
  row : ∀ i, i < l.length → w.cell? ⟨b, i, none⟩ = some (.int .i64 (gd l i))
  m0 : w.cell? ⟨b, l.length, none⟩ = some (.int .i64 77)
  m1 : w.cell? ⟨b, l.length + 1, none⟩ = some (.int .i64 77)
theorem Cop.below {w w' : World} {b : Nat} {l : List Int} (h : Cop w b l) (hb : Below w.heap.size w w') : Cop w' b l :=
  ⟨Nat.lt_of_lt_of_le h.lt hb.size, fun i hi => (hb.cell (p := ⟨b, i, none⟩) h.lt).trans (h.row i hi), (hb.cell (p := ⟨b, l.length, none⟩) h.lt).trans h.m0, (hb.cell (p := ⟨b, l.length + 1, none⟩) h.lt).trans h.m1⟩
theorem add_zero_addr (b i : Nat) : (Addr.mk b 0 none).add i = ⟨b, i, none⟩ := by
  unfold Addr.add
  split
  · next h => subst h; rfl
  · simp
theorem Cop.rowA {w : World} {b : Nat} {l : List Int} (h : Cop w b l) : RowA w (some ⟨b, 0, none⟩) l := fun i hi => ⟨⟨b, 0, none⟩, rfl, h.lt, by rw [add_zero_addr]; exact h.row i hi⟩

set_option maxRecDepth 100000 in
set_option maxHeartbeats 2000000 in
theorem copied_any (q : Option Addr) (c : Nat) (l : List Int) (w : World) (r : RowA w q l) (ln : l.length ≤ 300) :
    Calls Tryd.prog 7 #[.slice q l.length c] w fun e w' => ∃ b, e = .returned (.slice (some ⟨b, 0, none⟩) l.length (l.length + 2)) ∧ Cop w' b l ∧ w.heap.size ≤ b ∧ Below w.heap.size w w' := by
  obtain ⟨i0, hi, hz0, hz1, hz2⟩ := info_parts intInfo
  have R := Lib.hid r
  obtain ⟨x, hx⟩ : ∃ x, x = l.length := ⟨_, rfl⟩
  have FC := Lib.hid (fun (w' : World) b (a : b < w'.heap.size) (h : ∀ i, i < x → w'.cell? ⟨b, i, none⟩ = some (.int .i64 (gd l i))) (h0 : w'.cell? ⟨b, x, none⟩ = some (.int .i64 77)) (h1 : w'.cell? ⟨b, x + 1, none⟩ = some (.int .i64 77)) => (show Cop w' b l from by subst hx; exact ⟨a, h, h0, h1⟩))
  rw [← hx] at ln ⊢
  have HX := Lib.hid hx
  clear hx r
  go_enter Tryd.func7, Tryd.ntmps7
  go_wp2_with (first
    | (at_make; refine wpList_make_full _ rfl _ _ 22 rfl w.heap.size 3 i0 (.int .i64 0) 1 Tryd.underlying22 hi hz0 hz1 .i64 .i64 _ _ (x + 2) rfl rfl (by omega) (by omega) (by rw [hz2]; omega) (by unfold maxLen; omega) (Nat.le_refl _) ?_; intro w0 hown0 hgrow0))
  rw [made_zeros] at hown0
  have M0 := Lib.hid (show MadeI w w0 w.heap.size (x + 2) (List.replicate (x + 2) 0) from ⟨by simp, Nat.le_refl _, hown0, (Below.refl _ _).grown hgrow0 (Nat.le_refl _) (fun k e => by cases e)⟩)
  clear hown0 hgrow0
  go_wp2_with fail
  go_loopw [4] (fun kv wr => ∃ (k : Nat) (O : List Int), k ≤ x + 2 ∧ kv = .int .i64 k ∧ Hid (MadeI w wr w.heap.size (x + 2) O) ∧ Hid (∀ j, j < k → (j < x → gd O j = gd l j) ∧ (x ≤ j → gd O j = 77))) (fun kv _ => x + 2 - (intOf kv).toNat)
  case atStart => exact ⟨0, _, Nat.zero_le _, rfl, M0, by show ∀ j, _; intro j hj; omega⟩
  case round =>
    clear M0
    obtain ⟨k, O, hk, rfl, MO, HO⟩ := hrel
    by_cases t1 : k < x + 2
    · have lO : k < O.length := by have := MO.out.1; omega
      have fO := MO.out.frozen k
      have cO := MO.out.cell k lO
      have gO := MO.out.lt
      have i1 : (0 : Int) ≤ (k : Int) := by omega
      have i2 : (k : Int) < ((x + 2 : Nat) : Int) := by omega
      by_cases t2 : k < x
      · have l1 : k < l.length := by have := HX.out; omega
        obtain ⟨xa, rfl, kx, cx0⟩ := R.out k l1
        have cx : wr.cell? (xa.add k) = some (.int .i64 (gd l k)) := (MO.out.2.2.2.cell (p := xa.add k) (by rw [add_block]; exact kx)).trans cx0
        have nb : ¬ w.heap.size = (xa.add k).block := by rw [add_block]; omega
        have cx2 : (wr.setCell ⟨w.heap.size, k, none⟩ (.int .i64 77)).cell? (xa.add k) = some (.int .i64 (gd l k)) := by
          rw [World.cell?_setCell_other _ _ _ _ (by intro e2; have := congrArg Addr.block e2; first | exact nb this | exact nb this.symm)]
          exact cx
        have MS := Lib.hid ((MO.out.set k 77).set k (gd l k))
        have HS : Hid (∀ j, j < k + 1 → (j < x → gd ((O.set k 77).set k (gd l k)) j = gd l j) ∧ (x ≤ j → gd ((O.set k 77).set k (gd l k)) j = 77)) := fun j hj => by
          rw [gd_set (by simpa using lO)]
          by_cases e : j = k
          · subst e; rw [if_pos rfl]; exact ⟨fun _ => rfl, fun h => by omega⟩
          · rw [if_neg e, gd_set lO, if_neg e]; exact HO.out j (by omega)
        have i3 : (k : Int) < (x : Int) := by omega
        clear cx0 HO
        generalize gd l k = v at *
        generalize gd O k = o at *
        go_wp2_with fail
        go_roundw
        case rel => exact ⟨k + 1, _, by omega, by go_num, MS, HS⟩
        case measure => simp [intOf]; omega
      · have MS := Lib.hid (MO.out.set k 77)
        have HS : Hid (∀ j, j < k + 1 → (j < x → gd (O.set k 77) j = gd l j) ∧ (x ≤ j → gd (O.set k 77) j = 77)) := fun j hj => by
          rw [gd_set lO]
          by_cases e : j = k
          · subst e; rw [if_pos rfl]; exact ⟨fun h => by omega, fun _ => rfl⟩
          · rw [if_neg e]; exact HO.out j (by omega)
        clear HO
        generalize gd O k = o at *
        go_wp2_with fail
        go_roundw
        case rel => exact ⟨k + 1, _, by omega, by go_num, MS, HS⟩
        case measure => simp [intOf]; omega
    · have LO := MO.out.1
      have C0 := Lib.hid (FC.out wr w.heap.size MO.out.lt (fun i hi => by rw [MO.out.cell i (by omega), (HO.out i (by omega)).1 hi]) (by rw [MO.out.cell x (by omega), (HO.out x (by omega)).2 (Nat.le_refl _)]) (by rw [MO.out.cell (x + 1) (by omega), (HO.out (x + 1) (by omega)).2 (by omega)]))
      clear HO
      go_wp2_with fail
      go_ret
      exact ⟨w.heap.size, rfl, C0.out, Nat.le_refl _, MO.out.2.2.2⟩

set_option maxRecDepth 100000 in
theorem same_eq (p q : Option Addr) (c d : Nat) (l : List Int) (w : World) (r : RowA w p l) (s : RowA w q l) (ln : l.length ≤ 1000000) :
    Calls Tryd.prog 12 #[.slice p l.length c, .slice q l.length d] w fun e w' => e = .returned (.bool true) ∧ ∃ n, w' = w.drewN n := by
  have R := Lib.hid r
  have S := Lib.hid s
  obtain ⟨x, hx⟩ : ∃ x, x = l.length := ⟨_, rfl⟩
  rw [← hx] at ln ⊢
  have HX := Lib.hid hx
  clear hx r s
  go_enter Tryd.func12, Tryd.ntmps12
  go_wp2_with fail
  go_loopw [5] (fun kv wr => ∃ k : Nat, k ≤ x ∧ kv = .int .i64 k ∧ ∃ n, wr = w.drewN n) (fun kv _ => x - (intOf kv).toNat)
  case atStart => exact ⟨0, Nat.zero_le _, rfl, 0, rfl⟩
  case round =>
    obtain ⟨k, hk, rfl, n, rfl⟩ := hrel
    by_cases t1 : k < x
    · have l1 : k < l.length := by have := HX.out; omega
      obtain ⟨xa, rfl, kx, cx⟩ := R.out k l1
      obtain ⟨xb, rfl, ky, cy⟩ := S.out k l1
      have i1 : (0 : Int) ≤ (k : Int) := by omega
      have i2 : (k : Int) < (x : Int) := by omega
      generalize gd l k = v at *
      go_wp2_with fail
      go_quiet (fail)
      go_wp2_with fail
      go_roundw
      case rel => exact ⟨k + 1, by omega, by go_num, _, rfl⟩
      case measure => simp [intOf]; omega
    · go_wp2_with fail
      go_ret
      exact ⟨rfl, _, rfl⟩

set_option maxRecDepth 100000 in
theorem kept_any (b : Nat) (q : Option Addr) (d : Nat) (l : List Int) (w : World) (h : Cop w b l) (s : RowA w q l) (ln : l.length ≤ 1000) :
    Calls Tryd.prog 13 #[.slice (some ⟨b, 0, none⟩) l.length (l.length + 2), .slice q l.length d] w fun e w' => e = .returned (.bool true) ∧ ∃ n, w' = w.drewN n := by
  have SM := Lib.hid (same_eq (some ⟨b, 0, none⟩) q (l.length + 2) d l w h.rowA s (by omega))
  obtain ⟨bz, -, m0, m1⟩ := h
  obtain ⟨x, hx⟩ : ∃ x, x = l.length := ⟨_, rfl⟩
  rw [← hx] at ln SM m0 m1 ⊢
  clear hx s
  go_enter Tryd.func13, Tryd.ntmps13
  go_wp2_with fail
  refine SM.out.mono ?_
  rintro e w1 ⟨rfl, n, rfl⟩
  have e1 : IntKind.i64.wrap ((x : Int) + 1) = x + 1 := IntWalk.i64_in _ (by omega)
  have e5 : ((x : Int) + 1).toNat = x + 1 := by omega
  have i1 : (0 : Int) ≤ x := by omega
  have i3 : (0 : Int) ≤ (x : Int) + 1 := by omega
  have i4 : (x : Int) + 1 < ((x + 2 : Nat) : Int) := by omega
  have i5 : (x : Int) < ((x + 2 : Nat) : Int) := by omega
  clear SM
  go_wp2_with fail
  go_ret
  exact ⟨rfl, _, rfl⟩
end Go.Proofs.YtlahdfmciaibdaaDoor

/- num.Fair. -/
namespace Go.Proofs.YtlahdfmciaibdaaDoor
open Go.RowKit
set_option linter.unusedVariables false
set_option linter.unusedSimpArgs false

/-- The last unit of part i is not due to part j. -/
def NotDue (a l : List Int) (i j : Nat) : Prop := 0 < gd l j → ¬ (2 * gd a j + 1) * gd l i < (2 * gd a i - 1) * gd l j
def Due (a l : List Int) (n i : Nat) : Prop := gd l i ≠ 0 ∧ ∀ j, j < n → NotDue a l i j
/-- The division is fair. -/
def OkF (a l : List Int) : Prop := ∀ i, i < l.length → 0 < gd a i → Due a l l.length i
def AmtOk (x : Int) : Prop := 0 ≤ x ∧ x ≤ 1125899906842624
def WgtOk (x : Int) : Prop := 0 ≤ x ∧ x ≤ 1073741824
/-- What Fair returns. -/
def FairR (a l : List Int) (F : Bool) (E : Int) : Prop :=
  ((256 < a.length ∨ 256 < l.length) ∧ F = false ∧ E = 3) ∨ (¬ (256 < a.length ∨ 256 < l.length) ∧ (a.length ≠ l.length ∨ (a.length = l.length ∧ ∃ i, i < l.length ∧ ¬ (AmtOk (gd a i) ∧ WgtOk (gd l i)))) ∧ F = false ∧ E = 2) ∨
  (¬ (256 < a.length ∨ 256 < l.length) ∧ a.length = l.length ∧ (∀ i, i < l.length → AmtOk (gd a i) ∧ WgtOk (gd l i)) ∧ (F = true ↔ OkF a l) ∧ E = 0)
theorem FairR.uniq {a l : List Int} {F F' : Bool} {E E' : Int} (h : FairR a l F E) (h' : FairR a l F' E') : F = F' ∧ E = E' := by
  rcases h with ⟨x, y, z⟩ | ⟨x, t, y, z⟩ | ⟨x, t, u, y, z⟩ <;> rcases h' with ⟨x', y', z'⟩ | ⟨x', t', y', z'⟩ | ⟨x', t', u', y', z'⟩
  · exact ⟨by rw [y, y'], by omega⟩
  · exact absurd x x'
  · exact absurd x x'
  · exact absurd x' x
  · exact ⟨by rw [y, y'], by omega⟩
  · exfalso
    rcases t with t | ⟨_, i, hi, t⟩
    · exact t t'
    · exact t (u' i hi)
  · exact absurd x' x
  · exfalso
    rcases t' with t' | ⟨_, i, hi, t'⟩
    · exact t' t
    · exact t' (u i hi)
  · refine ⟨?_, by omega⟩
    rw [Bool.eq_iff_iff, y, y']

end Go.Proofs.YtlahdfmciaibdaaDoor

/- num.Fair in general. -/
namespace Go.Proofs.YtlahdfmciaibdaaDoor
open Go.RowKit
set_option linter.unusedVariables false
set_option linter.unusedSimpArgs false

/-- The two results. -/
def FairP (a l : List Int) (e : Ending) : Prop := ∃ F E, e = .returned (.tuple #[.bool F, .int .i64 E]) ∧ FairR a l F E
end Go.Proofs.YtlahdfmciaibdaaDoor

/- Plain: the errors of the divisions under scaling; a division in order is fair. -/
namespace Go.Proofs.YtlahdfmciaibdaaDoor
open Go.RowKit Go.Proofs.YtlahdfmciaibdaaDoor.Prs
set_option linter.unusedVariables false
set_option linter.unusedSimpArgs false

theorem SumR.det {T : Int} {l : List Int} {S S' E E' : Int} (h : SumR T l S E) (h' : SumR T l S' E') : E = E' := by
  rcases h with ⟨a, b, c⟩ | ⟨a, b, c, d⟩ | ⟨a, b, c, d, e⟩ | ⟨a, b, c, d⟩ <;> rcases h' with ⟨a', b', c'⟩ | ⟨a', b', c', d'⟩ | ⟨a', b', c', d', e'⟩ | ⟨a', b', c', d'⟩
  · omega
  · omega
  · have := a'.1; omega
  · have := a'.1; omega
  · omega
  · omega
  · exfalso; rcases b with b | ⟨i, hi, b⟩
    · exact b a'.2.1
    · exact b (a'.2.2 i hi)
  · exfalso; rcases b with b | ⟨i, hi, b⟩
    · exact b a'.2.1
    · exact b (a'.2.2 i hi)
  · have := a.1; omega
  · exfalso; rcases b' with b' | ⟨i, hi, b'⟩
    · exact b' a.2.1
    · exact b' (a.2.2 i hi)
  · omega
  · have := b' b; omega
  · have := a.1; omega
  · exfalso; rcases b' with b' | ⟨i, hi, b'⟩
    · exact b' a.2.1
    · exact b' (a.2.2 i hi)
  · have := b b'; omega
  · omega
/-- Weights that may be. -/
def WOk (l : List Int) : Prop := l.length ≤ 256 ∧ ∀ i, i < l.length → 0 ≤ gd l i ∧ gd l i ≤ 1073741824
theorem SumR.like {T : Int} {l m : List Int} {S E k : Int} (hl : WOk l) (hm : WOk m) (hk : 0 < k) (hs : m.sum = l.sum * k) (h : SumR T l S E) : ∃ S', SumR T m S' E := by
  have z : m.sum = 0 → l.sum = 0 := fun e => by
    rw [hs] at e
    rcases Int.mul_eq_zero.1 e with e | e
    · exact e
    · omega
  rcases h with ⟨a, b, c⟩ | ⟨a, b, c, d⟩ | ⟨a, b, c, d, e⟩ | ⟨a, b, c, d⟩
  · have := hl.1; omega
  · refine ⟨0, .inr (.inl ⟨hm.1, .inl ?_, rfl, d⟩)⟩
    rcases b with b | ⟨i, hi, b⟩
    · exact b
    · exact absurd (hl.2 i hi) b
  · exact ⟨0, .inr (.inr (.inl ⟨⟨hm.1, a.2.1, hm.2⟩, by rw [hs, b]; simp, c, rfl, e⟩))⟩
  · exact ⟨m.sum, .inr (.inr (.inr ⟨⟨hm.1, a.2.1, hm.2⟩, fun e => b (z e), rfl, d⟩))⟩
theorem sum_map_mul (l : List Int) (k : Int) : (l.map (· * k)).sum = l.sum * k := by
  induction l with
  | nil => simp
  | cons x l ih => rw [List.map_cons, List.sum_cons, List.sum_cons, ih, Int.add_mul]
theorem WOk.mul {l : List Int} {k : Int} (hn : l.length ≤ 200) (h : ∀ i, i < l.length → 0 ≤ gd l i ∧ gd l i ≤ 21474836) (k0 : 0 < k) (k1 : k ≤ 50) : WOk (l.map (· * k)) ∧ WOk (l.map (· * k) ++ [0]) ∧ WOk l := by
  have b : ∀ i, i < l.length → 0 ≤ gd l i * k ∧ gd l i * k ≤ 1073741824 := fun i hi => by
    obtain ⟨x, y⟩ := h i hi
    have p := Int.mul_nonneg x (show 0 ≤ k by omega)
    have q1 : gd l i * k ≤ 21474836 * k := Int.mul_le_mul_of_nonneg_right y (by omega)
    omega
  refine ⟨⟨by simp; omega, fun i hi => ?_⟩, ⟨by simp; omega, fun i hi => ?_⟩, ⟨by omega, fun i hi => by have := h i hi; omega⟩⟩
  · rw [gd_mul]; exact b i (by simpa using hi)
  · by_cases c : i < l.length
    · rw [gd_app (by simpa using c), gd_mul]; exact b i c
    · have : gd (l.map (· * k) ++ [0]) i = 0 := by
        have e : i = l.length := by simp at hi; omega
        subst e
        unfold gd; rw [List.getElem?_append_right (by simp)]; simp
      omega
theorem sum_mul_zero (l : List Int) (k : Int) : (l.map (· * k) ++ [0]).sum = l.sum * k := by rw [List.sum_append, sum_map_mul]; simp
theorem Dn.okF {l P : List Int} (h : Dn l P) (hl : ∀ i, i < l.length → 0 ≤ gd l i) : OkF P l := fun i hi pp => by
  have pi : 0 < gd l i := by
    rcases Int.lt_or_le 0 (gd l i) with z | z
    · exact z
    · have := h.none i hi z; omega
  refine ⟨by omega, fun j hj pj => ?_⟩
  by_cases e : i = j
  · subst e
    have : (2 * gd P i - 1) * gd l i ≤ (2 * gd P i + 1) * gd l i := Int.mul_le_mul_of_nonneg_right (by omega) (by omega)
    omega
  · have := h.down i j hi hj pi pj pp e
    unfold Ahead at this
    omega

/-- What a division answers, either way. -/
structure DivQ (G : List Int → Prop) (T : Int) (l : List Int) (w : World) (v : Value) (E : Int) (w' : World) : Prop where
  err : ∃ S, SumR T l S E
  bel : Below w.heap.size w w'
  bad : E ≠ 0 → v = .slice none 0 0
  good : E = 0 → ∃ b P, v = .slice (some ⟨b, 0, none⟩) l.length l.length ∧ w.heap.size ≤ b ∧ RowA w' (some ⟨b, 0, none⟩) P ∧ P.length = l.length ∧ Takes T l ∧ G P
def DivE (G : List Int → Prop) (T : Int) (l : List Int) (w : World) (e : Ending) (w' : World) : Prop := ∃ v E, e = .returned (.tuple #[v, .int .i64 E]) ∧ DivQ G T l w v E w'
theorem MadeI.rowA {w wr : World} {b N : Nat} {O : List Int} (h : MadeI w wr b N O) : RowA wr (some ⟨b, 0, none⟩) O := fun i hi => ⟨⟨b, 0, none⟩, rfl, h.lt, by rw [add_zero_addr]; exact h.cell i hi⟩
/-- By largest remainders. -/
def GA (T : Int) (l P : List Int) : Prop := (l.sum = 0 → P = List.replicate l.length 0) ∧ (0 < l.sum → ∃ o left, LR T l.sum l P o left)
/-- By highest averages. -/
def GD (T : Int) (l P : List Int) : Prop := Dn l P ∧ P.sum = T
theorem Apportion_q (T : Int) (q : Option Addr) (c : Nat) (l : List Int) (w : World) (r : RowA w q l) (ln : l.length ≤ 1000000) :
    Calls Tryd.prog 8 #[.int .i64 T, .slice q l.length c] w (DivE (GA T l) T l w) := by
  refine (Apportion_any T q c l w r ln).mono fun e w' h => ?_
  rcases h with ⟨E, hE, rfl, S, hb⟩ | ⟨b, P, rfl, MP, TK, TZ, z, g⟩
  · exact ⟨_, E, rfl, ⟨⟨_, S⟩, hb, fun _ => rfl, fun e => absurd e hE⟩⟩
  · exact ⟨_, 0, rfl, ⟨⟨_, .inr (.inr (.inr ⟨TK, TZ, rfl, rfl⟩))⟩, MP.2.2.2, fun h => absurd rfl h, fun _ => ⟨b, P, rfl, MP.2.1, MP.rowA, MP.1, TK, z, g⟩⟩⟩
theorem Divide_q (T : Int) (q : Option Addr) (c : Nat) (l : List Int) (w : World) (r : RowA w q l) (ln : l.length ≤ 1000000) :
    Calls Tryd.prog 10 #[.int .i64 T, .slice q l.length c] w (DivE (GD T l) T l w) := by
  refine (Divide_any T q c l w r ln).mono fun e w' h => ?_
  rcases h with ⟨E, hE, rfl, S, hb⟩ | ⟨b, P, rfl, MP, TK, TZ, z, g⟩
  · exact ⟨_, E, rfl, ⟨⟨_, S⟩, hb, fun _ => rfl, fun e => absurd e hE⟩⟩
  · exact ⟨_, 0, rfl, ⟨⟨_, .inr (.inr (.inr ⟨TK, TZ, rfl, rfl⟩))⟩, MP.2.2.2, fun h => absurd rfl h, fun _ => ⟨b, P, rfl, MP.2.1, MP.rowA, MP.1, TK, z, g⟩⟩⟩
theorem GA.scaled {T k : Int} {l P P' : List Int} (hk : 0 < k) (hl : ∀ i, i < l.length → 0 ≤ gd l i) (h : GA T l P) (h' : GA T (l.map (· * k)) P') : P = P' := by
  have s0 : 0 ≤ l.sum := by
    have := sum_le_of (a := List.replicate l.length 0) (b := l) (by simp) (fun i hi => by rw [gd_zeros]; exact hl i (by simpa using hi))
    rw [sum_zeros] at this; omega
  have e := sum_map_mul l k
  rcases (by omega : l.sum = 0 ∨ 0 < l.sum) with z | z
  · rw [h.1 z, h'.1 (by rw [e, z]; simp)]; simp
  · obtain ⟨o, left, a⟩ := h.2 z
    obtain ⟨o', left', b⟩ := h'.2 (by rw [e]; exact Int.mul_pos z hk)
    rw [e] at b
    exact a.scaled hk b
theorem GD.scaled {T k : Int} {l P P' : List Int} (hk : 0 < k) (h : GD T l P) (h' : GD T (l.map (· * k) ++ [0]) P') : P'.take l.length = P ∧ gd P' l.length = 0 := by
  obtain ⟨a, b, c⟩ := h'.1.scaled hk
  exact ⟨a.uniq h.1 (by rw [c, h'.2, h.2]), b⟩
end Go.Proofs.YtlahdfmciaibdaaDoor

/- The reference's sums: the sum of the weights, or the error of both divisions. -/
namespace Go.Proofs.YtlahdfmciaibdaaDoor
open Go.RowKit
set_option linter.unusedVariables false
set_option linter.unusedSimpArgs false

set_option maxRecDepth 100000 in
set_option maxHeartbeats 4000000 in
theorem rsums_any (t : Int) (p : Option Addr) (c : Nat) (l : List Int) (w : World) (r : RowA w p l) (ln : l.length ≤ 1000000) :
    Calls Tryd.prog 28 #[.int .i64 t, .slice p l.length c] w fun e w' => (∃ S E, e = .returned (.tuple #[.int .i64 S, .int .i64 E]) ∧ SumR t l S E) ∧ w = w' := by
  obtain ⟨x, hx⟩ : ∃ x, x = l.length := ⟨_, rfl⟩
  rw [← hx] at ln ⊢
  by_cases h1 : 256 < x
  · have F := Lib.hid (show SumR t l 0 3 from .inl ⟨by omega, rfl, rfl⟩)
    clear hx r
    go_enter Tryd.func28, Tryd.ntmps28
    go_wp2_with fail
    go_ret2
    exact ⟨⟨_, _, rfl, F.out⟩, rfl⟩
  by_cases h2 : t < 0
  · have F := Lib.hid (show SumR t l 0 2 from .inr (.inl ⟨by omega, .inl (by omega), rfl, rfl⟩))
    clear hx r
    go_enter Tryd.func28, Tryd.ntmps28
    go_wp2_with fail
    go_ret2
    exact ⟨⟨_, _, rfl, F.out⟩, rfl⟩
  by_cases h3 : 1125899906842624 < t
  · have F := Lib.hid (show SumR t l 0 2 from .inr (.inl ⟨by omega, .inl (by omega), rfl, rfl⟩))
    clear hx r
    go_enter Tryd.func28, Tryd.ntmps28
    go_wp2_with fail
    go_ret2
    exact ⟨⟨_, _, rfl, F.out⟩, rfl⟩
  have HX := Lib.hid hx
  have R := Lib.hid r
  have TT := Lib.hid (show 0 ≤ t ∧ t ≤ 1125899906842624 by omega)
  clear hx r
  go_enter Tryd.func28, Tryd.ntmps28
  go_wp2_with fail
  go_loop [6, 7] (fun sv kv => ∃ (k : Nat) (S : Int), k ≤ x ∧ sv = .int .i64 S ∧ kv = .int .i64 k ∧ 0 ≤ S ∧ S ≤ k * 1073741824 ∧ Hid (S = (l.take k).sum ∧ ∀ i, i < k → 0 ≤ gd l i ∧ gd l i ≤ 1073741824)) (fun _ kv => x - (intOf kv).toNat)
  case atStart => exact ⟨0, 0, Nat.zero_le _, rfl, rfl, by omega, by omega, by show _ ∧ _; exact ⟨rfl, by omega⟩⟩
  case round =>
    obtain ⟨k, S, hk, rfl, rfl, s0, s1, HS⟩ := hrel
    by_cases t2 : k < x
    · have l1 : k < l.length := by have := HX.out; omega
      obtain ⟨xa, rfl, kx, cx⟩ := R.out k l1
      have ST := sum_take_succ l1
      have NX : Hid (0 ≤ gd l k ∧ gd l k ≤ 1073741824 → S + gd l k = (l.take (k + 1)).sum ∧ ∀ i, i < k + 1 → 0 ≤ gd l i ∧ gd l i ≤ 1073741824) := fun g => ⟨by rw [ST, HS.out.1], fun i hi => by
        rcases (by omega : i < k ∨ i = k) with z | z
        · exact HS.out.2 i z
        · subst z; exact g⟩
      have BD : Hid (¬ (0 ≤ gd l k ∧ gd l k ≤ 1073741824) → SumR t l 0 2) := fun g => .inr (.inl ⟨by have := HX.out; omega, .inr ⟨k, l1, g⟩, rfl, rfl⟩)
      have i3 : (k : Int) < (x : Int) := by omega
      have i4 : (0 : Int) ≤ (k : Int) := by omega
      clear ST HS
      generalize gd l k = v at *
      by_cases g0 : v < 0
      · have F := Lib.hid (BD.out (by omega))
        clear NX BD
        go_wp2_with fail
        go_ret2
        exact ⟨⟨_, _, rfl, F.out⟩, rfl⟩
      · by_cases g1 : 1073741824 < v
        · have F := Lib.hid (BD.out (by omega))
          clear NX BD
          go_wp2_with fail
          go_ret2
          exact ⟨⟨_, _, rfl, F.out⟩, rfl⟩
        · have NY := Lib.hid (NX.out (by omega))
          clear NX BD
          go_wp2_with fail
          go_round
          case rel => exact ⟨k + 1, S + v, by omega, by first | rfl | go_num, by go_num, by omega, by omega, NY⟩
          case measure => simp [intOf]; omega
    · have kx : k = l.length := by have := HX.out; omega
      have SE : S = l.sum := by rw [HS.out.1, kx, List.take_length]
      have TK : Takes t l := ⟨by have := HX.out; omega, TT.out, fun i hi => HS.out.2 i (by omega)⟩
      clear HS
      by_cases z1 : S = 0
      · by_cases z2 : t = 0
        · have F := Lib.hid (show SumR t l 0 0 from .inr (.inr (.inr ⟨TK, fun _ => z2, by omega, rfl⟩)))
          subst z1 z2
          clear SE TK
          go_wp2_with fail
          go_ret2
          exact ⟨⟨_, _, rfl, F.out⟩, rfl⟩
        · have F := Lib.hid (show SumR t l 0 5 from .inr (.inr (.inl ⟨TK, by omega, by omega, rfl, rfl⟩)))
          have zb : (t != 0) = true := by simpa using z2
          subst z1
          clear SE TK z2
          go_wp2_with fail
          go_ret2
          exact ⟨⟨_, _, rfl, F.out⟩, rfl⟩
      · have F := Lib.hid (show SumR t l S 0 from .inr (.inr (.inr ⟨TK, fun h => by omega, SE, rfl⟩)))
        have zb : (S == 0) = false := by simpa using z1
        clear SE TK z1
        go_wp2_with fail
        go_ret2
        exact ⟨⟨_, _, rfl, F.out⟩, rfl⟩
end Go.Proofs.YtlahdfmciaibdaaDoor

/- A region whose last operations store into what its first ones read: what is held is held behind the first n operations alone. Plain facts on the model's own words. -/
namespace Go.Proofs.YtlahdfmciaibdaaDoor
open Go.RowKit
set_option linter.unusedVariables false
set_option linter.unusedSimpArgs false

section
variable {P : Program} {ops : Array Oper} {Q : Exit → Act → World → Prop} {md : Region.Mode} {S : World → Prop} {n : Nat}
/-- Whatever order is picked; S holds behind each of the first n. -/
def wpAnyG (P : Program) (md : Region.Mode) (ops : Array Oper) (Q : Exit → Act → World → Prop) (S : World → Prop) (n : Nat) : Nat → Array Bool → Act → World → Prop
  | 0, listed, a, w => Region.ready md ops listed = [] ∧ Q .normal a w
  | fuel + 1, listed, a, w =>
    (Region.ready md ops listed = [] → Q .normal a w) ∧
    ∀ i ∈ Region.ready md ops listed, wpOp P ops Q i (fun a' w' => (i < n → S w') ∧ wpAnyG P md ops Q S n fuel (listed.setIfInBounds i true) a' w') a w
theorem wpAny_of_G : ∀ (fuel : Nat) (listed : Array Bool) (a : Act) (w : World), wpAnyG P md ops Q S n fuel listed a w → wpAny P md ops Q fuel listed a w
  | 0, _, _, _, h => h
  | fuel + 1, _, _, _, h => ⟨h.1, fun i hi => wpOp_mono (fun a' w' h' => wpAny_of_G fuel _ a' w' h'.2) (h.2 i hi)⟩
/-- Number t waits for number i, at once or through others. -/
def waitsT (md : Region.Mode) (ops : Array Oper) : Nat → Nat → Nat → Bool
  | 0, _, _ => false
  | f + 1, t, i => match ops[t]? with
    | some o => o.after.any fun e => Region.binds md e && (e.on == i || waitsT md ops f e.on i)
    | none => false
theorem waitsT_spec {i : Nat} {listed : Array Bool} (hc : Closed md ops listed) (hi : listed.getD i false = false) : ∀ (f t : Nat), waitsT md ops f t i = true → ∃ o, ops[t]? = some o ∧ ∃ e ∈ o.after, Region.binds md e = true ∧ listed.getD e.on false = false
  | 0, t, h => by cases h
  | f + 1, t, h => by
    unfold waitsT at h
    split at h
    · rename_i o ho
      obtain ⟨e, he, hb⟩ := Array.any_eq_true'.1 h
      simp only [Bool.and_eq_true, Bool.or_eq_true, beq_iff_eq] at hb
      refine ⟨o, ho, e, he, hb.1, ?_⟩
      rcases hb.2 with h2 | h2
      · rw [h2]; exact hi
      · obtain ⟨o2, ho2, e2, he2, hb2, hl2⟩ := waitsT_spec hc hi f e.on h2
        cases hl : listed.getD e.on false with
        | false => rfl
        | true => have := hc e.on o2 ho2 hl e2 he2 hb2; rw [hl2] at this; cases this
    · cases h
/-- From number n on every operation waits for number i. -/
def tailB (md : Region.Mode) (ops : Array Oper) (n i : Nat) : Bool := (List.range ops.size).all fun t => decide (t < n) || waitsT md ops 6 t i
theorem tail_not {i : Nat} {listed : Array Bool} (hc : Closed md ops listed) (hT : tailB md ops n i = true) (hi : listed.getD i false = false) : ∀ j ∈ Region.ready md ops listed, j < n := fun j hj => by
  obtain ⟨_, oj, hoj, hall⟩ := mem_ready.1 hj
  unfold tailB at hT
  rw [List.all_eq_true] at hT
  have h1 := hT j (List.mem_range.2 (Array.getElem?_eq_some_iff.1 hoj).1)
  rw [Bool.or_eq_true] at h1
  rcases h1 with h1 | h1
  · simpa using h1
  · obtain ⟨o', ho', e, he, hb, hl⟩ := waitsT_spec hc hi 6 j h1
    rw [hoj] at ho'; cases ho'
    have := hall e he hb
    rw [hl] at this; cases this
def closedB (md : Region.Mode) (ops : Array Oper) (listed : Array Bool) : Bool := (List.range ops.size).all fun j => !listed.getD j false || ((ops[j]?).map fun o => o.after.all fun e => !Region.binds md e || listed.getD e.on false).getD true
theorem closedB_spec {listed : Array Bool} (h : closedB md ops listed = true) : Closed md ops listed := fun j o ho hl e he hb => by
  unfold closedB at h
  rw [List.all_eq_true] at h
  have h1 := h j (List.mem_range.2 (Array.getElem?_eq_some_iff.1 ho).1)
  rw [hl, ho] at h1
  simp only [Bool.not_true, Bool.false_or, Option.map_some, Option.getD_some] at h1
  have h2 := Array.all_eq_true_iff_forall_mem.1 h1 e he
  rw [hb] at h2
  simpa using h2
theorem wpAnyG_first {i : Nat} {oi : Oper} {v : Value} (hi : ops[i]? = some oi) (hsel : ∀ (j : Nat) (o : Oper) cs b, ops[j]? = some o → o.op ≠ .select cs b)
    (hQ : ∀ c a w, Q (.panic c) (a.put oi.dst v) w → Q (.panic c) a w) (hT : tailB md ops n i = true) (hin : i < n) :
    ∀ (fuel : Nat) (listed : Array Bool) (a : Act) (w : World), Closed md ops listed →
      (∀ j oj, ops[j]? = some oj → j ≠ i → listed.getD j true = false → (∀ e ∈ oj.after, Region.binds md e = true → e.on ≠ i) → oi.apart ops oj = true) →
      i ∈ Region.ready md ops listed → YieldsIf P ops S oi v a → S w →
      wpAnyG P md ops Q S n fuel (listed.setIfInBounds i true) (a.put oi.dst v) w → wpAnyG P md ops Q S n (fuel + 1) listed a w := by
  intro fuel
  induction fuel with
  | zero =>
    intro listed a w _ _ hr hy hS H
    refine ⟨fun h => (by rw [h] at hr; cases hr), fun j hj => ?_⟩
    by_cases hji : j = i
    · subst hji; exact hy.wpOp hi hS ⟨fun _ => hS, H⟩
    · have := ready_mono hj hji
      rw [H.1] at this
      cases this
  | succ fuel ih =>
    intro listed a w hcl hfree hr hy hS H
    refine ⟨fun h => (by rw [h] at hr; cases hr), fun j hj => ?_⟩
    by_cases hji : j = i
    · subst hji; exact hy.wpOp hi hS ⟨fun _ => hS, H⟩
    · have hjn : j < n := tail_not hcl hT (getD_both (mem_ready.1 hr).1) j hj
      have h1 := H.2 j (ready_mono hj hji)
      obtain ⟨hjun, oj, hoj, hall⟩ := mem_ready.1 hj
      have hnot : ∀ e ∈ oj.after, Region.binds md e = true → e.on ≠ i := fun e he hb heq => by
        have h1 := hall e he hb
        have h0 := getD_both (mem_ready.1 hr).1
        rw [heq, h0] at h1
        cases h1
      have h2 := wpOp_putIf hoj (hfree j oj hoj hji hjun hnot) (fun cs b => hsel i oi cs b hi) (fun cs b => hsel j oj cs b hoj) hQ hy h1
      have hfree' : ∀ k ok, ops[k]? = some ok → k ≠ i → (listed.setIfInBounds j true).getD k true = false →
          (∀ e ∈ ok.after, Region.binds md e = true → e.on ≠ i) → oi.apart ops ok = true := fun k ok hk hki hun hno => by
        refine hfree k ok hk hki ?_ hno
        by_cases hjk : j = k
        · subst hjk; exact hjun
        · rw [getD_set_ne true hjk] at hun; exact hun
      refine wpOp_mono (fun a' w' h3 => ⟨fun _ => h3.2.1 hjn, ih (listed.setIfInBounds j true) a' w' (hcl.step hj) hfree' (ready_mono hr (Ne.symm hji)) h3.1 (h3.2.1 hjn) ?_⟩) h2
      rw [Array.setIfInBounds_comm _ _ hji]
      exact h3.2.2
theorem wpAnyG_take {i : Nat} {oi : Oper} {v : Value} {fuel : Nat} {listed : Array Bool} {a : Act} {w : World} (hi : ops[i]? = some oi)
    (hs : Region.noSelect ops = true) (hf : Region.free md ops listed i = true) (hr : (Region.ready md ops listed).contains i = true) (hT : tailB md ops n i = true) (hcl : closedB md ops listed = true) (hin : i < n)
    (hQ : ∀ c a w, Q (.panic c) (a.put oi.dst v) w → Q (.panic c) a w) (hw : Region.wanted oi (yielded ops a.tmps) = true) (hy : ∀ w, S w → (execOp a.eval oi).run P w = .ok (.value v) w) (hS : S w)
    (h : wpAnyG P md ops Q S n fuel (listed.setIfInBounds i true) (a.put oi.dst v) w) : wpAnyG P md ops Q S n (fuel + 1) listed a w :=
  wpAnyG_first hi (Region.noSelect_spec hs) hQ hT hin fuel listed a w (closedB_spec hcl) (Region.free_spec hi hf) (by simpa using hr) (.inl ⟨hw, hy⟩) hS h
/-- One alone may come up. -/
theorem wpAnyG_one {i : Nat} {o : Oper} {fuel : Nat} {listed : Array Bool} {a : Act} {w : World} (hr : Region.ready md ops listed = [i]) (ho : ops[i]? = some o)
    (h : ∀ K' : Act → World → Prop, Shut (∀ a w, (i < n → S w) → wpAnyG P md ops Q S n fuel (listed.setIfInBounds i true) a w → K' a w) → if Region.wanted o (yielded ops a.tmps) = true then Oper.wp P o a w K' Q else K' (a.put o.dst undef) w) : wpAnyG P md ops Q S n (fuel + 1) listed a w :=
  ⟨fun h0 => (by rw [hr] at h0; cases h0), hr ▸ fun j hj => by
    rw [List.mem_singleton] at hj; subst hj
    exact wpOp_step ho (fun K' hK => h K' (fun a w h1 h2 => hK a w ⟨h1, h2⟩))⟩
theorem wpAnyG_done {listed : Array Bool} {a : Act} {w : World} (hr : Region.ready md ops listed = []) (h : Q .normal a w) :
    ∀ fuel, wpAnyG P md ops Q S n fuel listed a w
  | 0 => ⟨hr, h⟩
  | _ + 1 => ⟨fun _ => h, by rw [hr]; simp⟩
theorem wp_region_G (S : World → Prop) (n : Nat) {id : Nat} {a : Act} {w : World} (hm : P.follows .mixedOrders = true)
    (h : wpAnyG P .any ops Q S n ops.size (Array.replicate ops.size false) a w.drew) : (Code.region id ops true).wp P Q a w := wp_region_any hm (wpAny_of_G _ _ _ _ h)
end
end Go.Proofs.YtlahdfmciaibdaaDoor
