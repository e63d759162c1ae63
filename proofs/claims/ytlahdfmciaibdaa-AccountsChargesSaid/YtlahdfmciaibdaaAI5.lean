/- Several texts in one: R15 R18 R19. -/
import Derived.Test.YtlahdfmciaibdaaAI4

/- The reference's Big: Within. -/
namespace Go.Proofs.Ytlahdfmciaibdaa
open Go.RowKit
set_option linter.unusedVariables false
set_option linter.unusedSimpArgs false

theorem cmp_gt {a b : Int} (h : b < a) : 0 < cmpZ a b ∧ cmpZ a b ≤ 1 := by unfold cmpZ; rw [if_neg (by omega), if_pos h]; omega
theorem cmp_le {a b : Int} (h : a ≤ b) : cmpZ a b ≤ 0 ∧ -1 ≤ cmpZ a b := by unfold cmpZ; split; omega; split <;> omega
theorem drop_val {l : List Int} {j : Nat} (h : j < l.length) : dval (l.drop j) = dval (l.drop (j + 1)) * 10000 + l[j] := by
  rw [List.drop_eq_getElem_cons h]; simp only [dval]; omega

theorem fld1 (u : Bool) (q : Option Addr) (n c : Nat) (W : World) : (Instr.field 81 (.agg #[.bool u, .slice q n c]) 1).run Try.prog W = .ok (.slice q n c) W := by kernel_rfl

set_option maxRecDepth 100000 in
set_option maxHeartbeats 1000000 in
theorem Within_any {N : Nat} (p : Option Addr) (c : Nat) (l : List Int) (x most : Int) (h0 : 0 ≤ most) (hm : most ≤ 4611686018427387904) (w : World) (A : BigR N w p l x) (hN : N ≤ 90000) :
    Calls Try.prog 53 #[.agg #[.bool (decide (x < 0)), .slice p l.length c], .int .i64 most] w fun e w' => e = .returned (.tuple #[.int .i64 (wiV x most), .bool (wiB x most)]) ∧ Below w.heap.size w w' := by
  have OF := Lib.hid (fun W => Of_any most (by omega) (by omega) W)
  have HA := Lib.hid A
  have LN := A.size
  have CM := Lib.hid (fun q t cc W (hq : BigR 5 W q t most) (h : Below w.heap.size w W) => by
    have := cmpD_any p q c cc l t W A.can.digs hq.can.digs A.can.norm hq.can.norm (A.row.below h) hq.row (by omega) (by have := hq.size; omega)
    rwa [A.can.val, hq.can.val] at this)
  have c0 : (w.alloc (Obj.cells #[Value.bool (decide (x < 0)), Value.slice p l.length c] 81)).cell? ⟨w.heap.size, 0, none⟩ = some (.bool (decide (x < 0))) := by simp [go_sem]
  have c1 : (w.alloc (Obj.cells #[Value.bool (decide (x < 0)), Value.slice p l.length c] 81)).cell? ⟨w.heap.size, 1, none⟩ = some (.slice p l.length c) := by simp [go_sem]
  have z : w.heap.size < (w.alloc (Obj.cells #[Value.bool (decide (x < 0)), Value.slice p l.length c] 81)).heap.size := by simp
  have b : Below w.heap.size w (w.alloc (Obj.cells #[Value.bool (decide (x < 0)), Value.slice p l.length c] 81)) := by go_grown
  clear A
  have hfd := fld1
  obtain ⟨n, hn⟩ : ∃ n, n = l.length := ⟨_, rfl⟩
  have HN := Lib.hid hn
  rw [← hn] at CM c0 c1 z b LN ⊢
  clear hn
  generalize hs : decide (x < 0) = s at *
  have HS := Lib.hid hs
  clear hs
  generalize hmn : (most.natAbs : Int) = mn at CM
  have hmn' : mn = most := by omega
  subst hmn'
  clear hmn
  obtain ⟨u, hu⟩ : ∃ u, u = decide (mn < 0) := ⟨_, rfl⟩
  unfold BigRes at OF
  rw [← hu] at OF
  clear hu
  by_cases hle : (x.natAbs : Int) ≤ mn
  · have e1 : wiV x mn = x := if_pos hle
    have e2 : wiB x mn = true := by simpa [wiB] using hle
    rw [e1, e2]
    clear e1 e2
    obtain ⟨z1, z2⟩ := cmp_le hle
    generalize cmpZ (x.natAbs : Int) mn = cz at *
    have HLE := Lib.hid hle
    clear hle
    go_enter Try.func53, Try.ntmps53
    go_upto_region 1 with fail
    generalize (w.alloc (Obj.cells #[Value.bool s, Value.slice p n c] 81)) = v at *
    have BV := Lib.hid b
    go_region_held3 (fun w' => w'.cell? ⟨w.heap.size, 1, none⟩ = some (.slice p n c))
      (first | exact c1)
      (first
        | (go_at_call 52; refine (OF.out _).mono ?_; rintro e w1 ⟨q, t, cc, rfl, r1, r2, r3⟩; have B1 := Lib.hid (show Below w.heap.size w w1 from (by first | exact BV.out.trans (r3.mono BV.out.size) | exact BV.out.drew.trans (r3.mono BV.out.drew.size))); have R1 := Lib.hid r1; replace c0 := (r3.cell (p := ⟨w.heap.size, 0, none⟩) z).trans c0; replace c1 := (r3.cell (p := ⟨w.heap.size, 1, none⟩) z).trans c1; replace z := Nat.lt_of_lt_of_le z r3.size; clear r1 r2 r3)
        | (go_at_call 88; refine (CM.out q t cc _ (by exact R1.out) (by first | exact B1.out | exact B1.out.drew)).mono ?_; rintro e w2 ⟨rfl, n2, rfl⟩))
    have B2 := Lib.hid (below_drewN B1.out n2)
    have c0' : (w1.drewN n2).cell? ⟨w.heap.size, 0, none⟩ = some (.bool s) := c0
    have c1' : (w1.drewN n2).cell? ⟨w.heap.size, 1, none⟩ = some (.slice p n c) := c1
    have z' : w.heap.size < (w1.drewN n2).heap.size := z
    clear c0 c1 z B1 R1 CM OF b BV
    generalize w1.drewN n2 = W2 at *
    have RW := Lib.hid (HA.out.row.below B2.out)
    go_wp2_with fail
    go_loop [6, 7] (fun nv iv => ∃ k : Nat, k ≤ n ∧ iv = .int .i64 ((k : Int) - 1) ∧ nv = .int .i64 (dval (l.drop k))) (fun _ iv => (intOf iv + 1).toNat)
    case atStart => exact ⟨n, Nat.le_refl _, rfl, by rw [List.drop_of_length_le (by have := HN.out; omega)]; rfl⟩
    case round =>
      obtain ⟨k, hk, rfl, rfl⟩ := hrel
      rcases k with _ | j
      · have e : dval (l.drop 0) = x.natAbs := by rw [List.drop_zero]; exact HA.out.can.val
        rw [e]
        have d0 : 0 ≤ (x.natAbs : Int) := by omega
        have d1 : (x.natAbs : Int) ≤ 4611686018427387904 := by have := HLE.out; omega
        clear e
        cases s
        · have E : (x.natAbs : Int) = x := by have := HS.out; simp at this; omega
          have HE := Lib.hid E
          clear E
          generalize (x.natAbs : Int) = y at *
          go_wp2_with fail
          go_ret2
          exact ⟨by rw [HE.out]; rfl, B2.out⟩
        · have E : -(x.natAbs : Int) = x := by have := HS.out; simp at this; omega
          have HE := Lib.hid E
          clear E
          generalize (x.natAbs : Int) = y at *
          go_wp2_with fail
          go_ret2
          exact ⟨by rw [HE.out]; rfl, B2.out⟩
      · have ja : j < l.length := by have := HN.out; omega
        obtain ⟨ga, rfl, ka, cA⟩ := RW.out j ja
        have K := drop_val ja
        have G := HA.out.can.digs _ (List.getElem_mem ja)
        have U := dval_nonneg (HA.out.can.digs.drop (j + 1))
        have M := dval_drop_le HA.out.can.digs j
        rw [HA.out.can.val] at M
        have M2 : dval (l.drop (j + 1)) * 10000 + l[j] ≤ 4611686018427387904 := by have := HLE.out; omega
        have e1 : (((j + 1 : Nat) : Int) - 1) = (j : Int) := by omega
        rw [e1]
        have j0 : (0 : Int) ≤ (j : Int) := by omega
        have jx : (j : Int) < (n : Int) := by omega
        have HK := Lib.hid K
        clear K M e1
        generalize l[j] = u at *
        generalize dval (l.drop (j + 1)) = d at *
        go_wp2_with fail
        go_round
        case rel => exact ⟨j, by omega, rfl, by rw [HK.out]⟩
        case measure => simp [intOf]
  · have e1 : wiV x mn = 0 := if_neg hle
    have e2 : wiB x mn = false := by simpa [wiB] using hle
    rw [e1, e2]
    clear e1 e2
    obtain ⟨z1, z2⟩ := cmp_gt (show mn < (x.natAbs : Int) by omega)
    generalize cmpZ (x.natAbs : Int) mn = cz at *
    clear hle
    go_enter Try.func53, Try.ntmps53
    go_upto_region 1 with fail
    generalize (w.alloc (Obj.cells #[Value.bool s, Value.slice p n c] 81)) = v at *
    have BV := Lib.hid b
    go_region_held3 (fun w' => w'.cell? ⟨w.heap.size, 1, none⟩ = some (.slice p n c))
      (first | exact c1)
      (first
        | (go_at_call 52; refine (OF.out _).mono ?_; rintro e w1 ⟨q, t, cc, rfl, r1, r2, r3⟩; have B1 := Lib.hid (show Below w.heap.size w w1 from (by first | exact BV.out.trans (r3.mono BV.out.size) | exact BV.out.drew.trans (r3.mono BV.out.drew.size))); have R1 := Lib.hid r1; replace c0 := (r3.cell (p := ⟨w.heap.size, 0, none⟩) z).trans c0; replace c1 := (r3.cell (p := ⟨w.heap.size, 1, none⟩) z).trans c1; replace z := Nat.lt_of_lt_of_le z r3.size; clear r1 r2 r3)
        | (go_at_call 88; refine (CM.out q t cc _ (by exact R1.out) (by first | exact B1.out | exact B1.out.drew)).mono ?_; rintro e w2 ⟨rfl, n2, rfl⟩))
    go_wp2_with fail
    go_ret2
    exact ⟨rfl, below_drewN B1.out _⟩
end Go.Proofs.Ytlahdfmciaibdaa

/- The reference's Make, Opposite. -/
namespace Go.Proofs.Ytlahdfmciaibdaa
open Go.RowKit
set_option linter.unusedVariables false
set_option linter.unusedSimpArgs false

theorem ext0 (a b : Value) (W : World) : (Instr.extract (.tuple #[a, b]) 0).run Try.prog W = .ok a W := rfl
theorem BigR.drew {n : Nat} {w : World} {p : Option Addr} {l : List Int} {x : Int} (r : BigR n w p l x) : BigR n w.drew p l x := ⟨r.can, r.size, r.row⟩
theorem BigR.drewN {n : Nat} {w : World} {p : Option Addr} {l : List Int} {x : Int} (r : BigR n w p l x) (k : Nat) : BigR n (w.drewN k) p l x := ⟨r.can, r.size, r.row⟩

end Go.Proofs.Ytlahdfmciaibdaa

/- The reference's Big once more, its signs behind letters. -/
namespace Go.Proofs.Ytlahdfmciaibdaa
open Go.RowKit
set_option linter.unusedVariables false
set_option linter.unusedSimpArgs false

/-- A call's result is the whole number x, whose sign is s. -/
def BigS (n : Nat) (x : Int) (s : Bool) (w : World) (e : Ending) (w' : World) : Prop :=
  ∃ p l c, e = .returned (.agg #[.bool s, .slice p (List.length l) c]) ∧ BigR n w' p l x ∧ (∀ a, p = some a → w.heap.size ≤ a.block) ∧ Below w.heap.size w w'
theorem BigRes.s {n : Nat} {x : Int} {s : Bool} (hs : s = decide (x < 0)) {w w' : World} {e : Ending} (h : BigRes n x w e w') : BigS n x s w e w' := by subst hs; exact h

theorem of_s (x : Int) (s : Bool) (hs : s = decide (x < 0)) (h1 : -9223372036854775808 ≤ x) (h2 : x ≤ 9223372036854775807) (w : World) :
    Calls Try.prog 52 #[.int .i64 x] w (BigS 5 x s w) := (Of_any x h1 h2 w).mono fun _ _ h => h.s hs
theorem times_s {n m : Nat} (x y : Int) (s t u : Bool) (hs : s = decide (x < 0)) (ht : t = decide (y < 0)) (hu : u = decide (x * y < 0)) (pa pb : Option Addr) (ca cb : Nat) (a b : List Int) (w : World) (A : BigR n w pa a x) (B : BigR m w pb b y) (hn : n ≤ 90000) (hm : m ≤ 90000) :
    Calls Try.prog 51 #[.agg #[.bool s, .slice pa a.length ca], .agg #[.bool t, .slice pb b.length cb]] w (BigS (n + m) (x * y) u w) := by
  subst hs ht
  exact (Times_any pa pb ca cb a b x y w A B hn hm).mono fun _ _ h => h.s hu
theorem plus_s {k : Nat} (x y : Int) (s t u : Bool) (hs : s = decide (x < 0)) (ht : t = decide (y < 0)) (hu : u = decide (x + y < 0)) (pa pb : Option Addr) (ca cb : Nat) (a b : List Int) (w : World) (A : BigR k w pa a x) (B : BigR k w pb b y) (hk : k ≤ 90000) :
    Calls Try.prog 50 #[.agg #[.bool s, .slice pa a.length ca], .agg #[.bool t, .slice pb b.length cb]] w (BigS (k + 1) (x + y) u w) := by
  subst hs ht
  exact (Plus_any pa pb ca cb a b x y w A B hk).mono fun _ _ h => h.s hu
theorem compare_s {n m : Nat} (x y : Int) (s t : Bool) (hs : s = decide (x < 0)) (ht : t = decide (y < 0)) (pa pb : Option Addr) (ca cb : Nat) (a b : List Int) (w : World) (A : BigR n w pa a x) (B : BigR m w pb b y) (hn : n ≤ 90000) (hm : m ≤ 90000) :
    Calls Try.prog 94 #[.agg #[.bool s, .slice pa a.length ca], .agg #[.bool t, .slice pb b.length cb]] w fun e w' => e = .returned (.int .i64 (cmpZ x y)) ∧ Below w.heap.size w w' := by
  subst hs ht
  exact Compare_any pa pb ca cb a b x y w A B (by omega) (by omega)
end Go.Proofs.Ytlahdfmciaibdaa
