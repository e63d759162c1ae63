/- The reference's Big: Plus, Minus. -/
import Derived.Test.YtblaakjldpcjlaaDoorR11
namespace Go.Proofs.YtblaakjldpcjlaaDoor
open Go.RowKit
set_option linter.unusedVariables false
set_option linter.unusedSimpArgs false

theorem whole_to {s : Bool} {V X : Int} (E : (bif s then -V else V) = X) (p : Option Addr) (c : Nat) (l : List Int) (W : World) (h1 : Digs l) (h1' : dval l = V) (h2 : RowR W p l) (h3 : l.length ≤ 1000000) :
    Calls Tryd.prog 45 #[.bool s, .slice p l.length c] W (BigRes l.length X W) := by
  have := whole_any s p c l W h1 h2 h3
  rw [h1', E] at this
  exact this

set_option maxHeartbeats 1000000 in
theorem Plus_any {k : Nat} (pa pb : Option Addr) (ca cb : Nat) (a b : List Int) (x y : Int) (w : World) (A : BigR k w pa a x) (B : BigR k w pb b y) (hk : k ≤ 90000) :
    Calls Tryd.prog 62 #[.agg #[.bool (decide (x < 0)), .slice pa a.length ca], .agg #[.bool (decide (y < 0)), .slice pb b.length cb]] w (BigRes (k + 1) (x + y) w) := by
  have SA := A.size
  have SB := B.size
  have K := Box3.new w (decide (x < 0)) (decide (y < 0)) (.slice pa a.length ca) (.slice pb b.length cb)
  by_cases st : decide (x < 0) = decide (y < 0)
  · have E : (bif decide (x < 0) then -(dval a + dval b) else dval a + dval b) = x + y := by
      rw [A.can.val, B.can.val]
      by_cases h : x < 0 <;> simp [h] at st ⊢ <;> omega
    have G := Lib.hid (fun W (h : Below w.heap.size w W) => addD_any pa pb ca cb a b W k A.can.digs B.can.digs (A.row.below h) (B.row.below h) (by omega) (by omega) (by omega))
    have WH := Lib.hid (whole_to E)
    rw [← st] at K ⊢
    clear E A B st
    generalize decide (x < 0) = s at *
    generalize x + y = X at *
    have ss : (s == s) = true := by simp
    go_enter Tryd.func62, Tryd.ntmps62
    go_wp2_with fail
    generalize (((w.alloc (Obj.cells #[Value.bool s, Value.slice pa a.length ca] 30)).alloc (Obj.cells #[Value.bool s, Value.slice pb b.length cb] 30)).alloc (Obj.cells #[Value.bool false, Value.slice none 0 0] 30)) = v at *
    have HK := Lib.hid K
    obtain ⟨k1, k2, k3, k4, k5, k6, k7, k8, k9, kb⟩ := K
    go_region_held3 (fun w' => w'.cell? ⟨w.heap.size, 0, none⟩ = some (.bool s) ∧ w'.cell? ⟨w.heap.size, 1, none⟩ = some (.slice pa a.length ca) ∧ w'.cell? ⟨w.heap.size + 1, 0, none⟩ = some (.bool s) ∧ w'.cell? ⟨w.heap.size + 1, 1, none⟩ = some (.slice pb b.length cb))
      (first | exact ⟨k1, k2, k3, k4⟩ | (refine ⟨?_, ?_, ?_, ?_⟩ <;> simp [go_sem, k1, k2, k3, k4]; done))
      (first
        | (go_at_call 74; refine (G.out _ (by first | exact kb | exact kb.drew)).mono ?_; rintro e w1 ⟨l1, p1, c1, rfl, d1, dv, d2, d3, d6⟩; have K1 := Lib.hid (show Box3 w w1 s s _ _ from (by first | exact HK.out.below d6 | exact HK.out.drew.below d6)); clear k1 k2 k3 k4 k5 k6 k7 k8 k9 kb; obtain ⟨k1, k2, k3, k4, k5, k6, k7, k8, k9, kb⟩ := K1.out; have D1 := Lib.hid d1; have DV := Lib.hid dv; have D2 := Lib.hid d2; have D3 := Lib.hid d3; clear d1 dv d2 d3 d6)
        | (go_at_call 45; refine (WH.out p1 c1 l1 _ D1.out DV.out (by exact D3.out) (by have := D2.out; omega)).mono ?_; rintro e w2 ⟨p2, l2, c2, rfl, r1, r2, r3⟩; have K2 := Lib.hid (show Box3 w w2 s s _ _ from (by first | exact K1.out.below r3 | exact K1.out.drew.below r3)); clear k1 k2 k3 k4 k5 k6 k7 k8 k9 kb; obtain ⟨k1, k2, k3, k4, k5, k6, k7, k8, k9, kb⟩ := K2.out; have R1 := Lib.hid r1; have R2 := Lib.hid r2; have R3 := Lib.hid r3; clear r1 r2 r3))
    have FIN := Lib.hid (BigRes.stored (c := c2) (r := w.heap.size + 1 + 1) K1.out.bel (by omega) K1.out.sz (R1.out.more (m := k + 1) (by have := D2.out; omega)) R2.out R3.out)
    clear WH G HK K1 K2 D1 D2 D3 DV R1 R2 R3
    generalize decide (X < 0) = sg at *
    go_wp2_with fail
    exact bodyPost_ret (v := .agg #[.bool sg, .slice p2 l2.length c2]) (by simp [results, Tryd.results62, go_sem, k5, k6, k9]) rfl FIN.out
  · have CM := Lib.hid (fun W (h : Below w.heap.size w W) => cmpD_any pa pb ca cb a b W A.can.digs B.can.digs A.can.norm B.can.norm (A.row.below h) (B.row.below h) (by omega) (by omega))
    by_cases hle : dval b ≤ dval a
    · have E : (bif decide (x < 0) then -(dval a - dval b) else dval a - dval b) = x + y := by
        rw [A.can.val, B.can.val]
        rw [A.can.val, B.can.val] at hle
        by_cases h : x < 0 <;> by_cases h' : y < 0 <;> simp [h, h'] at st ⊢ <;> omega
      have LL := can_len B.can A.can (by rw [← A.can.val, ← B.can.val]; exact hle)
      have G := Lib.hid (fun W (h : Below w.heap.size w W) => subD_any pa pb ca cb a b W A.can.digs B.can.digs (A.row.below h) (B.row.below h) (by omega) LL hle)
      have WH := Lib.hid (whole_to E)
      have Z1 : 0 ≤ cmpZ (dval a) (dval b) := by unfold cmpZ; split; omega; split <;> omega
      have Z2 := (cmpZ_le (dval a) (dval b)).2
      have st' : (decide (x < 0) == decide (y < 0)) = false := by simpa using st
      clear E A B st hle LL
      generalize decide (x < 0) = s at *
      generalize decide (y < 0) = t at *
      generalize x + y = X at *
      generalize cmpZ (dval a) (dval b) = z at *
      go_enter Tryd.func62, Tryd.ntmps62
      go_wp2_with fail
      refine (CM.out _ (by go_grown)).mono ?_
      rintro e w3 ⟨rfl, n3, rfl⟩
      replace K := K.below (below_drewN (Below.refl _ _) n3)
      clear CM
      generalize (((w.alloc (Obj.cells #[Value.bool s, Value.slice pa a.length ca] 30)).alloc (Obj.cells #[Value.bool t, Value.slice pb b.length cb] 30)).alloc (Obj.cells #[Value.bool false, Value.slice none 0 0] 30)).drewN n3 = v at *
      go_wp2_with fail
      have HK := Lib.hid K
      obtain ⟨k1, k2, k3, k4, k5, k6, k7, k8, k9, kb⟩ := K
      go_region_held3 (fun w' => w'.cell? ⟨w.heap.size, 0, none⟩ = some (.bool s) ∧ w'.cell? ⟨w.heap.size, 1, none⟩ = some (.slice pa a.length ca) ∧ w'.cell? ⟨w.heap.size + 1, 0, none⟩ = some (.bool t) ∧ w'.cell? ⟨w.heap.size + 1, 1, none⟩ = some (.slice pb b.length cb))
        (first | exact ⟨k1, k2, k3, k4⟩ | (refine ⟨?_, ?_, ?_, ?_⟩ <;> simp [go_sem, k1, k2, k3, k4]; done))
        (first
          | (go_at_call 75; refine (G.out _ (by first | exact kb | exact kb.drew)).mono ?_; rintro e w1 ⟨l1, p1, c1, rfl, dc, d2, d3, d4, d5, d6⟩; have K1 := Lib.hid (show Box3 w w1 s t _ _ from (by first | exact HK.out.below d6 | exact HK.out.drew.below d6)); clear k1 k2 k3 k4 k5 k6 k7 k8 k9 kb; obtain ⟨k1, k2, k3, k4, k5, k6, k7, k8, k9, kb⟩ := K1.out; have D1 := Lib.hid dc.digs; have DV := Lib.hid dc.val; have D2 := Lib.hid d2; have D3 := Lib.hid d3; clear dc d2 d3 d4 d5 d6)
          | (go_at_call 45; refine (WH.out p1 c1 l1 _ D1.out DV.out (by exact D3.out) (by have := D2.out; omega)).mono ?_; rintro e w2 ⟨p2, l2, c2, rfl, r1, r2, r3⟩; have K2 := Lib.hid (show Box3 w w2 s t _ _ from (by first | exact K1.out.below r3 | exact K1.out.drew.below r3)); clear k1 k2 k3 k4 k5 k6 k7 k8 k9 kb; obtain ⟨k1, k2, k3, k4, k5, k6, k7, k8, k9, kb⟩ := K2.out; have R1 := Lib.hid r1; have R2 := Lib.hid r2; have R3 := Lib.hid r3; clear r1 r2 r3))
      have FIN := Lib.hid (BigRes.stored (c := c2) (r := w.heap.size + 1 + 1) K1.out.bel (by omega) K1.out.sz (R1.out.more (m := k + 1) (by have := D2.out; omega)) R2.out R3.out)
      clear WH G HK K1 K2 D1 D2 D3 DV R1 R2 R3
      generalize decide (X < 0) = sg at *
      go_wp2_with fail
      exact bodyPost_ret (v := .agg #[.bool sg, .slice p2 l2.length c2]) (by simp [results, Tryd.results62, go_sem, k5, k6, k9]) rfl FIN.out
    · have E : (bif decide (y < 0) then -(dval b - dval a) else dval b - dval a) = x + y := by
        rw [A.can.val, B.can.val]
        rw [A.can.val, B.can.val] at hle
        by_cases h : x < 0 <;> by_cases h' : y < 0 <;> simp [h, h'] at st ⊢ <;> omega
      have LL := can_len A.can B.can (by rw [← A.can.val, ← B.can.val]; omega)
      have G := Lib.hid (fun W (h : Below w.heap.size w W) => subD_any pb pa cb ca b a W B.can.digs A.can.digs (B.row.below h) (A.row.below h) (by omega) LL (by omega))
      have WH := Lib.hid (whole_to E)
      have Z1 : cmpZ (dval a) (dval b) < 0 := by unfold cmpZ; rw [if_pos (by omega)]; omega
      have Z2 := (cmpZ_le (dval a) (dval b)).1
      have st' : (decide (x < 0) == decide (y < 0)) = false := by simpa using st
      clear E A B st hle LL
      generalize decide (x < 0) = s at *
      generalize decide (y < 0) = t at *
      generalize x + y = X at *
      generalize cmpZ (dval a) (dval b) = z at *
      go_enter Tryd.func62, Tryd.ntmps62
      go_wp2_with fail
      refine (CM.out _ (by go_grown)).mono ?_
      rintro e w3 ⟨rfl, n3, rfl⟩
      replace K := K.below (below_drewN (Below.refl _ _) n3)
      clear CM
      generalize (((w.alloc (Obj.cells #[Value.bool s, Value.slice pa a.length ca] 30)).alloc (Obj.cells #[Value.bool t, Value.slice pb b.length cb] 30)).alloc (Obj.cells #[Value.bool false, Value.slice none 0 0] 30)).drewN n3 = v at *
      go_wp2_with fail
      have HK := Lib.hid K
      obtain ⟨k1, k2, k3, k4, k5, k6, k7, k8, k9, kb⟩ := K
      go_region_held3 (fun w' => w'.cell? ⟨w.heap.size, 0, none⟩ = some (.bool s) ∧ w'.cell? ⟨w.heap.size, 1, none⟩ = some (.slice pa a.length ca) ∧ w'.cell? ⟨w.heap.size + 1, 0, none⟩ = some (.bool t) ∧ w'.cell? ⟨w.heap.size + 1, 1, none⟩ = some (.slice pb b.length cb))
        (first | exact ⟨k1, k2, k3, k4⟩ | (refine ⟨?_, ?_, ?_, ?_⟩ <;> simp [go_sem, k1, k2, k3, k4]; done))
        (first
          | (go_at_call 75; refine (G.out _ (by first | exact kb | exact kb.drew)).mono ?_; rintro e w1 ⟨l1, p1, c1, rfl, dc, d2, d3, d4, d5, d6⟩; have K1 := Lib.hid (show Box3 w w1 s t _ _ from (by first | exact HK.out.below d6 | exact HK.out.drew.below d6)); clear k1 k2 k3 k4 k5 k6 k7 k8 k9 kb; obtain ⟨k1, k2, k3, k4, k5, k6, k7, k8, k9, kb⟩ := K1.out; have D1 := Lib.hid dc.digs; have DV := Lib.hid dc.val; have D2 := Lib.hid d2; have D3 := Lib.hid d3; clear dc d2 d3 d4 d5 d6)
          | (go_at_call 45; refine (WH.out p1 c1 l1 _ D1.out DV.out (by exact D3.out) (by have := D2.out; omega)).mono ?_; rintro e w2 ⟨p2, l2, c2, rfl, r1, r2, r3⟩; have K2 := Lib.hid (show Box3 w w2 s t _ _ from (by first | exact K1.out.below r3 | exact K1.out.drew.below r3)); clear k1 k2 k3 k4 k5 k6 k7 k8 k9 kb; obtain ⟨k1, k2, k3, k4, k5, k6, k7, k8, k9, kb⟩ := K2.out; have R1 := Lib.hid r1; have R2 := Lib.hid r2; have R3 := Lib.hid r3; clear r1 r2 r3))
      have FIN := Lib.hid (BigRes.stored (c := c2) (r := w.heap.size + 1 + 1) K1.out.bel (by omega) K1.out.sz (R1.out.more (m := k + 1) (by have := D2.out; omega)) R2.out R3.out)
      clear WH G HK K1 K2 D1 D2 D3 DV R1 R2 R3
      generalize decide (X < 0) = sg at *
      go_wp2_with fail
      exact bodyPost_ret (v := .agg #[.bool sg, .slice p2 l2.length c2]) (by simp [results, Tryd.results62, go_sem, k5, k6, k9]) rfl FIN.out
end Go.Proofs.YtblaakjldpcjlaaDoor
