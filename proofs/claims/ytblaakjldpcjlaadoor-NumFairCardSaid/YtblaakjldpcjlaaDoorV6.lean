/- The law NumFair: its walk. -/
import Derived.Test.YtblaakjldpcjlaaDoorV5
import Derived.Test.YtblaakjldpcjlaaDoorE1
namespace Go.Proofs.YtblaakjldpcjlaaDoor
open Go.RowKit
set_option linter.unusedVariables false
set_option linter.unusedSimpArgs false

theorem few_all (p : Option Addr) (n c : Nat) (w : World) :
    Calls Tryd.prog 20 #[.slice p n c] w fun e w' => e = .returned (.bool (decide (n ≤ 300))) ∧ w = w' := by
  go_enter Tryd.func20, Tryd.ntmps20
  go_wp2
  all_goals go_ret
  all_goals exact ⟨ret_b (by rw [Bool.eq_iff_iff]; simp; try omega), rfl⟩
end Go.Proofs.YtblaakjldpcjlaaDoor
namespace Go.Proofs.YtblaakjldpcjlaaDoor.numFair
open Go.RowKit
set_option linter.unusedVariables false
set_option linter.unusedSimpArgs false

set_option maxRecDepth 100000 in
set_option maxHeartbeats 4000000 in
theorem walk (p : Option Addr) (c : Nat) (a : List Int) (q : Option Addr) (d : Nat) (l : List Int) (w : World) (r : RowA w p a) (s : RowA w q l) :
    Calls Tryd.prog 6 #[.slice p a.length c, .slice q l.length d] w fun e w' => e = .returned (.bool true) ∧ Below w.heap.size w w' := by
  have R := Lib.hid r
  have S := Lib.hid s
  have CP1 := Lib.hid (fun W h (ln : a.length ≤ 300) => copied_any p c a W h ln)
  have CP2 := Lib.hid (fun W h (ln : l.length ≤ 300) => copied_any q d l W h ln)
  have FA := Lib.hid (fun b b' cc dd W h h' (la : a.length ≤ 300) (ll : l.length ≤ 300) => Fair_any (some ⟨b, 0, none⟩) (some ⟨b', 0, none⟩) cc dd a l W h h' (by omega) (by omega))
  have RF := Lib.hid (fun W h h' (la : a.length ≤ 300) (ll : l.length ≤ 300) => rFair_any p q c d a l W h h' (by omega) (by omega))
  have KP1 := Lib.hid (fun b W h h' (la : a.length ≤ 300) => kept_any b p c a W h h' (by omega))
  have KP2 := Lib.hid (fun b W h h' (ll : l.length ≤ 300) => kept_any b q d l W h h' (by omega))
  obtain ⟨x, hx⟩ : ∃ x, x = a.length := ⟨_, rfl⟩
  obtain ⟨y, hy⟩ : ∃ y, y = l.length := ⟨_, rfl⟩
  rw [← hx] at CP1 KP1
  rw [← hy] at CP2 KP2
  rw [← hx, ← hy] at FA RF ⊢
  clear hx hy r s
  have KB : Hid (Below w.heap.size w w) := Below.refl _ _
  go_enter Tryd.func6, Tryd.ntmps6
  go_wp2_with fail
  refine (few_all p x c _).mono ?_
  rintro e w1 ⟨rfl, rfl⟩
  by_cases hf : x ≤ 300
  · rw [show decide (x ≤ 300) = true by simpa using hf]
    go_wp2_with fail
    refine (few_all q y d _).mono ?_
    rintro e w1 ⟨rfl, rfl⟩
    by_cases hg : y ≤ 300
    · rw [show decide (y ≤ 300) = true by simpa using hg]
      go_wp2_with fail
      refine (CP1.out _ R.out hf).mono ?_
      rintro e w1 ⟨b1, rfl, C1, z1, hb1⟩
      replace KB := Lib.hid hb1
      have R1 := Lib.hid (R.out.below hb1)
      have S1 := Lib.hid (S.out.below hb1)
      have C1 := Lib.hid C1
      clear hb1 z1 CP1
      go_wp2_with fail
      refine (CP2.out _ S1.out hg).mono ?_
      rintro e w2 ⟨b2, rfl, C2, z2, hb2⟩
      replace KB := Lib.hid (KB.out.trans (hb2.mono KB.out.size))
      have R2 := Lib.hid (R1.out.below hb2)
      have S2 := Lib.hid (S1.out.below hb2)
      have D1 := Lib.hid (C1.out.below hb2)
      have C2 := Lib.hid C2
      clear hb2 z2 CP2 C1 R1 S1
      go_wp2_with fail
      refine (FA.out b1 b2 _ _ _ D1.out.rowA C2.out.rowA hf hg).mono ?_
      rintro e w3 ⟨⟨F, E, rfl, FR⟩, n, rfl⟩
      have hb3 := below_drewN (Below.refl w2.heap.size w2) n
      replace KB := Lib.hid (KB.out.trans (hb3.mono KB.out.size))
      have R3 := Lib.hid (R2.out.below hb3)
      have S3 := Lib.hid (S2.out.below hb3)
      have D3 := Lib.hid (D1.out.below hb3)
      have C3 := Lib.hid (C2.out.below hb3)
      clear hb3 FA D1 C2 R2 S2
      generalize w2.drewN n = w3 at *
      go_wp2_with fail
      refine (RF.out _ R3.out S3.out hf hg).mono ?_
      rintro e w4 ⟨⟨F', E', rfl, FR'⟩, hb4⟩
      obtain ⟨rfl, rfl⟩ := FR.uniq FR'
      clear FR FR'
      replace KB := Lib.hid (KB.out.trans (hb4.mono KB.out.size))
      have R4 := Lib.hid (R3.out.below hb4)
      have S4 := Lib.hid (S3.out.below hb4)
      have D4 := Lib.hid (D3.out.below hb4)
      have C4 := Lib.hid (C3.out.below hb4)
      clear hb4 RF D3 C3 R3 S3
      go_wp2_with fail
      refine (KP1.out b1 _ D4.out R4.out hf).mono ?_
      rintro e w5 ⟨rfl, n, rfl⟩
      have hb5 := below_drewN (Below.refl w4.heap.size w4) n
      replace KB := Lib.hid (KB.out.trans (hb5.mono KB.out.size))
      have S5 := Lib.hid (S4.out.below hb5)
      have C5 := Lib.hid (C4.out.below hb5)
      clear hb5 KP1 D4 C4 R4 S4
      generalize w4.drewN n = w5 at *
      go_wp2_with fail
      refine (KP2.out b2 _ C5.out S5.out hg).mono ?_
      rintro e w6 ⟨rfl, n, rfl⟩
      have hb6 := below_drewN (Below.refl w5.heap.size w5) n
      replace KB := Lib.hid (KB.out.trans (hb6.mono KB.out.size))
      clear hb6 KP2 C5 S5
      generalize w5.drewN n = w6 at *
      go_wp2_with fail
      refine (alive_any _).mono ?_
      rintro e wq ⟨rfl, hq⟩
      have B9 := Lib.hid (KB.out.trans ((show Below _ _ wq from by first | exact hq | exact ((Below.refl _ _).drew).trans hq | exact (below_drewN (Below.refl _ _) _).trans hq).mono KB.out.size))
      clear hq
      go_wp2_with fail
      go_ret
      exact ⟨rfl, by first | exact B9.out | exact B9.out.drew | exact below_drewN B9.out _⟩
    · rw [show decide (y ≤ 300) = false by simpa using hg]
      go_wp2_with fail
      refine (alive_any _).mono ?_
      rintro e wq ⟨rfl, hq⟩
      have B9 := Lib.hid (KB.out.trans ((show Below _ _ wq from by first | exact hq | exact ((Below.refl _ _).drew).trans hq | exact (below_drewN (Below.refl _ _) _).trans hq).mono KB.out.size))
      clear hq
      go_wp2_with fail
      go_ret
      exact ⟨rfl, by first | exact B9.out | exact B9.out.drew | exact below_drewN B9.out _⟩
  · rw [show decide (x ≤ 300) = false by simpa using hf]
    go_wp2_with fail
    refine (alive_any _).mono ?_
    rintro e wq ⟨rfl, hq⟩
    have B9 := Lib.hid (KB.out.trans ((show Below _ _ wq from by first | exact hq | exact ((Below.refl _ _).drew).trans hq | exact (below_drewN (Below.refl _ _) _).trans hq).mono KB.out.size))
    clear hq
    go_wp2_with fail
    go_ret
    exact ⟨rfl, by first | exact B9.out | exact B9.out.drew | exact below_drewN B9.out _⟩
end Go.Proofs.YtblaakjldpcjlaaDoor.numFair
