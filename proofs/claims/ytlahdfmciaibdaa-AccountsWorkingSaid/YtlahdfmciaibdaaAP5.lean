/- Accounts: the laws' copied and same for numbers; the law AccountsWorking: its walk. -/
import Derived.Test.YtlahdfmciaibdaaAP4
import Derived.Test.YtlahdfmciaibdaaABA
namespace Go.Proofs.Ytlahdfmciaibdaa
open Go.RowKit
set_option linter.unusedVariables false
set_option linter.unusedSimpArgs false

theorem intInfoA : (Try.prog.info? 3).map (fun i => (i.zero, i.size, i.bytes)) = some (some (.int .i64 0), 1, 8) := by kernel_rfl
theorem info_partsA {o : Option TypeInfo} {z : Option Value} {s b : Nat} (h : o.map (fun i => (i.zero, i.size, i.bytes)) = some (z, s, b)) : ∃ i, o = some i ∧ i.zero = z ∧ i.size = s ∧ i.bytes = b := by
  cases o with
  | none => cases h
  | some i => simp at h; exact ⟨i, rfl, h.1, h.2.1, h.2.2⟩
theorem made_zerosA (n : Nat) : (madeCells (Value.int .i64 0).cells (n * 1)).toList = (List.replicate n (0 : Int)).map (Value.int .i64) := by
  rw [Nat.mul_one, show (Value.int .i64 0).cells = #[.int .i64 0] from rfl, toList_madeCells_one, List.map_replicate]
theorem gi_set {l : List Int} {k j : Nat} {x : Int} (h : k < l.length) : gi (l.set k x) j = if j = k then x else gi l j := by
  unfold gi
  rw [List.getElem?_set]
  by_cases e : k = j
  · subst e; simp [h]
  · rw [if_neg e, if_neg (fun z => e z.symm)]
theorem gi_in {l : List Int} {k : Nat} (h : k < l.length) : gi l k = l[k] := by unfold gi; rw [List.getElem?_eq_getElem h]; rfl
/-- A row of numbers that is being written, in memory that is new to w. -/
def MadeN (w wr : World) (b N : Nat) (O : List Int) : Prop := O.length = N ∧ w.heap.size ≤ b ∧ wr.ownsRow w.heap.size 3 1 (.slice (some ⟨b, 0, none⟩) N N) N (O.map (Value.int .i64)) ∧ Below w.heap.size w wr
theorem MadeN.set {w wr : World} {b N : Nat} {O : List Int} (h : MadeN w wr b N O) (j : Nat) (x : Int) : MadeN w (wr.setCell ⟨b, j, none⟩ (.int .i64 x)) b N (O.set j x) := by
  obtain ⟨a, hb, c, d⟩ := h
  refine ⟨by simpa using a, hb, ?_, d.setCell hb _⟩
  have := (c.stored j (.int .i64 x)).1
  rwa [← List.map_set] at this
theorem MadeN.cell {w wr : World} {b N : Nat} {O : List Int} (h : MadeN w wr b N O) (j : Nat) (hj : j < O.length) : wr.cell? ⟨b, j, none⟩ = some (.int .i64 (gi O j)) := by
  rw [h.2.2.1.cellAt j (by have := h.1; omega), gi_in hj]
  simp [hj]
theorem MadeN.frozen {w wr : World} {b N : Nat} {O : List Int} (h : MadeN w wr b N O) (j : Nat) : wr.frozen? ⟨b, j, none⟩ = false := h.2.2.1.frozenAt j
theorem MadeN.lt {w wr : World} {b N : Nat} {O : List Int} (h : MadeN w wr b N O) : b < wr.heap.size := (h.2.2.1.lt _ rfl).2
theorem add_zero_addrA (b i : Nat) : (Addr.mk b 0 none).add i = ⟨b, i, none⟩ := by
  unfold Addr.add
  split
  · next h => subst h; rfl
  · simp

set_option maxRecDepth 100000 in
set_option maxHeartbeats 2000000 in
theorem copiedA_any (q : Option Addr) (c : Nat) (l : List Int) (w : World) (r : NumR w q l) (ln : l.length ≤ 300) :
    Calls Try.prog 16 #[.slice q l.length c] w fun e w' => ∃ b, e = .returned (.slice (some ⟨b, 0, none⟩) l.length l.length) ∧ NumR w' (some ⟨b, 0, none⟩) l ∧ Below w.heap.size w w' := by
  obtain ⟨i0, hi, hz0, hz1, hz2⟩ := info_partsA intInfoA
  have R := Lib.hid r
  obtain ⟨x, hx⟩ : ∃ x, x = l.length := ⟨_, rfl⟩
  have FC := Lib.hid (fun (w' : World) b (a : b < w'.heap.size) (h : ∀ i, i < x → w'.cell? ⟨b, i, none⟩ = some (.int .i64 (gi l i))) => (show NumR w' (some ⟨b, 0, none⟩) l from fun i hi => by subst hx; exact ⟨_, rfl, a, by rw [add_zero_addrA]; exact h i hi⟩))
  rw [← hx] at ln ⊢
  have HX := Lib.hid hx
  clear hx r
  go_enter Try.func16, Try.ntmps16
  go_wp2_with (first
    | (at_make; refine wpList_make_full _ rfl _ _ 31 rfl w.heap.size 3 i0 (.int .i64 0) 1 Try.underlying31 hi hz0 hz1 .i64 .i64 _ _ x rfl rfl (by omega) (by omega) (by rw [hz2]; omega) (by unfold maxLen; omega) (Nat.le_refl _) ?_; intro w0 hown0 hgrow0))
  rw [made_zerosA] at hown0
  have M0 := Lib.hid (show MadeN w w0 w.heap.size x (List.replicate x 0) from ⟨by simp, Nat.le_refl _, hown0, (Below.refl _ _).grown hgrow0 (Nat.le_refl _) (fun k e => by cases e)⟩)
  clear hown0 hgrow0
  go_wp2_with fail
  go_loopw [4] (fun kv wr => ∃ (k : Nat) (O : List Int), k ≤ x ∧ kv = .int .i64 k ∧ Hid (MadeN w wr w.heap.size x O) ∧ Hid (∀ j, j < k → gi O j = gi l j)) (fun kv _ => x - (intOf kv).toNat)
  case atStart => exact ⟨0, _, Nat.zero_le _, rfl, M0, Lib.hid fun j hj => absurd hj (by omega)⟩
  case round =>
    clear M0
    obtain ⟨k, O, hk, rfl, MO, HO⟩ := hrel
    by_cases t1 : k < x
    · have lO : k < O.length := by have := MO.out.1; omega
      have fO := MO.out.frozen k
      have cO := MO.out.cell k lO
      have i1 : (0 : Int) ≤ (k : Int) := by omega
      have i2 : (k : Int) < (x : Int) := by omega
      obtain ⟨xa, rfl, kx, cx⟩ := (R.out.below MO.out.2.2.2) k (by have := HX.out; omega)
      have MS := Lib.hid (MO.out.set k (gi l k))
      have HS : Hid (∀ j, j < k + 1 → gi (O.set k (gi l k)) j = gi l j) := fun j hj => by
        rw [gi_set lO]
        by_cases e : j = k
        · subst e; rw [if_pos rfl]
        · rw [if_neg e]; exact HO.out j (by omega)
      clear HO kx
      generalize gi l k = v at *
      generalize gi O k = o at *
      go_wp2_with fail
      go_roundw
      case rel => exact ⟨k + 1, _, by omega, by go_num, MS, HS⟩
      case measure => simp [intOf]; omega
    · have LO := MO.out.1
      have C0 := Lib.hid (FC.out wr w.heap.size MO.out.lt (fun i hi => by rw [MO.out.cell i (by omega), HO.out i (by omega)]))
      clear HO
      go_wp2_with fail
      go_ret
      exact ⟨w.heap.size, rfl, C0.out, MO.out.2.2.2⟩

set_option maxRecDepth 100000 in
theorem sameA_eq (p q : Option Addr) (c d : Nat) (l : List Int) (w : World) (r : NumR w p l) (s : NumR w q l) (ln : l.length ≤ 1000000) :
    Calls Try.prog 21 #[.slice p l.length c, .slice q l.length d] w fun e w' => e = .returned (.bool true) ∧ Below w.heap.size w w' := by
  have R := Lib.hid r
  have S := Lib.hid s
  obtain ⟨x, hx⟩ : ∃ x, x = l.length := ⟨_, rfl⟩
  rw [← hx] at ln ⊢
  have HX := Lib.hid hx
  clear hx r s
  go_enter Try.func21, Try.ntmps21
  go_wp2_with fail
  go_loopw [5] (fun kv wr => ∃ k : Nat, k ≤ x ∧ kv = .int .i64 k ∧ ∃ n, wr = w.drewN n) (fun kv _ => x - (intOf kv).toNat)
  case atStart => exact ⟨0, Nat.zero_le _, rfl, 0, rfl⟩
  case round =>
    obtain ⟨k, hk, rfl, n, rfl⟩ := hrel
    by_cases t1 : k < x
    · have l1 : k < l.length := by have := HX.out; omega
      obtain ⟨xa, rfl, kx, cx⟩ := R.out k l1
      obtain ⟨xb, rfl, ky, cy⟩ := S.out k l1
      have i1 : (0 : Int) ≤ (k : Int) := by omega
      have i2 : (k : Int) < (x : Int) := by omega
      generalize gi l k = v at *
      go_wp2_with fail
      go_quiet (fail)
      go_wp2_with fail
      go_roundw
      case rel => exact ⟨k + 1, by omega, by go_num, _, rfl⟩
      case measure => simp [intOf]; omega
    · go_wp2_with fail
      go_ret
      exact ⟨rfl, below_drewN (Below.refl _ _) _⟩
theorem work_eq {day : Int} {H : List Int} {b c : Bool} {E F : Int} (h : WkQ day H b E) (g : WkQ day H c F) : b = c ∧ E = F := by
  have e := h.1.det g.1
  subst e
  by_cases z : E = 0
  · exact ⟨(h.2.2 z).trans (g.2.2 z).symm, rfl⟩
  · exact ⟨(h.2.1 z).trans (g.2.1 z).symm, rfl⟩
end Go.Proofs.Ytlahdfmciaibdaa
namespace Go.Proofs.Ytlahdfmciaibdaa.accountsWorking
open Go.RowKit
set_option linter.unusedVariables false
set_option linter.unusedSimpArgs false

set_option maxRecDepth 100000 in
set_option maxHeartbeats 8000000 in
theorem walk (day : Int) (g0 : -9223372036854775808 ≤ day ∧ day ≤ 9223372036854775807) (n : Int) (g1 : -9223372036854775808 ≤ n ∧ n ≤ 9223372036854775807) (p : Option Addr) (c : Nat) (H : List Int) (w : World) (r : NumR w p H) (ln : H.length ≤ 9223372036854775807) :
    Calls Try.prog 4 #[.int .i64 day, .int .i64 n, .slice p H.length c] w fun e w' => e = .returned (.bool true) ∧ Below w.heap.size w w' := by
  have R := Lib.hid r
  have CP := Lib.hid (fun W h (l : H.length ≤ 100) => copiedA_any p c H W h (by omega))
  have W1 := Lib.hid (fun q d W h (l : H.length ≤ 100) => Working_any day q d H W h (by omega))
  have W2 := Lib.hid (fun W h (l : H.length ≤ 100) => rWorking_any day p c H W h (by omega))
  have P1 := Lib.hid (fun q d W h (l : H.length ≤ 100) => Prompt_any day n g1.1 g1.2 q d H W h (by omega))
  have P2 := Lib.hid (fun W h (l : H.length ≤ 100) => rPrompt_any day n g1.1 g1.2 p c H W h (by omega))
  have SM := Lib.hid (fun q d W h h' (l : H.length ≤ 100) => sameA_eq q p d c H W h h' (by omega))
  obtain ⟨z, hz⟩ : ∃ z, z = H.length := ⟨_, rfl⟩
  rw [← hz] at CP W1 W2 P1 P2 SM ln ⊢
  clear hz r
  have KB : Hid (Below w.heap.size w w) := Below.refl _ _
  go_enter Try.func4, Try.ntmps4
  by_cases hf : 100 < z
  · clear CP W1 W2 P1 P2 SM
    go_wp2_with fail
    refine (alive_any _).mono ?_
    rintro e wq ⟨rfl, hq⟩
    have B9 := Lib.hid (KB.out.trans ((show Below _ _ wq from by first | exact hq | exact ((Below.refl _ _).drew).trans hq | exact (below_drewN (Below.refl _ _) _).trans hq).mono KB.out.size))
    clear hq
    go_wp2_with fail
    go_ret
    exact ⟨rfl, (by first | exact B9.out | exact B9.out.drew | exact below_drewN B9.out _)⟩
  have hl : z ≤ 100 := by omega
  go_wp2_with fail
  refine (CP.out _ R.out hl).mono ?_
  rintro e w1 ⟨b, rfl, C1, b2⟩
  have CO := Lib.hid C1
  replace KB := Lib.hid b2
  clear C1 b2 CP
  go_wp2_with fail
  refine (W1.out _ _ _ CO.out hl).mono ?_
  rintro e w2 ⟨x, E, rfl, q1, b2⟩
  have Q1 := Lib.hid q1
  replace CO := Lib.hid (CO.out.below b2)
  replace KB := Lib.hid (KB.out.trans (b2.mono KB.out.size))
  have R1 := Lib.hid (R.out.below KB.out)
  clear q1 b2 W1
  go_wp2_with fail
  refine (W2.out _ R1.out hl).mono ?_
  rintro e w3 ⟨y, F, rfl, q2, b2⟩
  obtain ⟨rfl, rfl⟩ := work_eq Q1.out q2
  replace CO := Lib.hid (CO.out.below b2)
  replace KB := Lib.hid (KB.out.trans (b2.mono KB.out.size))
  clear q2 b2 W2 R1 Q1
  go_wp2_with fail
  refine (P1.out _ _ _ CO.out hl).mono ?_
  rintro e w4 ⟨a, G, rfl, q1, b2⟩
  have Q1 := Lib.hid q1
  replace CO := Lib.hid (CO.out.below b2)
  replace KB := Lib.hid (KB.out.trans (b2.mono KB.out.size))
  have R1 := Lib.hid (R.out.below KB.out)
  clear q1 b2 P1
  go_wp2_with fail
  refine (P2.out _ R1.out hl).mono ?_
  rintro e w5 ⟨a', G', rfl, q2, b2⟩
  obtain ⟨rfl, rfl⟩ := prompt_eq Q1.out q2
  replace CO := Lib.hid (CO.out.below b2)
  replace KB := Lib.hid (KB.out.trans (b2.mono KB.out.size))
  have R1 := Lib.hid (R.out.below KB.out)
  have eb : (x == x) = true := by simp
  clear q2 b2 P2 Q1
  go_wp2_with fail
  try (go_quiet (fail))
  try (go_wp2_with fail)
  refine (SM.out _ _ _ (by first | exact CO.out | exact CO.out.below ((Below.refl _ _).drew) | exact CO.out.below (below_drewN (Below.refl _ _) _)) (by first | exact R1.out | exact R1.out.below ((Below.refl _ _).drew) | exact R1.out.below (below_drewN (Below.refl _ _) _)) hl).mono ?_
  rintro e w6 ⟨rfl, b2⟩
  replace KB := Lib.hid (KB.out.trans ((show Below _ _ w6 from (by first | exact b2 | exact ((Below.refl _ _).drew).trans b2 | exact (below_drewN (Below.refl _ _) _).trans b2)).mono KB.out.size))
  clear b2 SM CO R1
  go_wp2_with fail
  refine (alive_any _).mono ?_
  rintro e wq ⟨rfl, hq⟩
  have B9 := Lib.hid (KB.out.trans ((show Below _ _ wq from by first | exact hq | exact ((Below.refl _ _).drew).trans hq | exact (below_drewN (Below.refl _ _) _).trans hq).mono KB.out.size))
  clear hq
  go_wp2_with fail
  go_ret
  exact ⟨rfl, (by first | exact B9.out | exact B9.out.drew | exact below_drewN B9.out _)⟩
end Go.Proofs.Ytlahdfmciaibdaa.accountsWorking
