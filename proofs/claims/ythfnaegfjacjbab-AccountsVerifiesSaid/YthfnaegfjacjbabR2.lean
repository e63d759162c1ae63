/- The reference's rows of digits: cmpD. -/
import Derived.Test.YthfnaegfjacjbabM6
namespace Go.Proofs.Ythfnaegfjacjbab
open Go.RowKit
set_option linter.unusedVariables false
set_option linter.unusedSimpArgs false

/-- The slice reads as this row. -/
def RowR (w : World) (p : Option Addr) (l : List Int) : Prop := ∀ i (h : i < l.length), ∃ g, p = some ⟨g, 0, none⟩ ∧ g < w.heap.size ∧ w.cell? ⟨g, i, none⟩ = some (.int .i64 l[i])

theorem RowR.below {w w' : World} {p : Option Addr} {l : List Int} (r : RowR w p l) (hb : Below w.heap.size w w') : RowR w' p l := fun i h => by
  obtain ⟨g, e, k, c⟩ := r i h
  exact ⟨g, e, Nat.lt_of_lt_of_le k hb.size, by rw [(bcell hb).1 g i k]; exact c⟩

/-- cmpD's answer. -/
def cmpZ (a b : Int) : Int := if a < b then -1 else if b < a then 1 else 0

theorem cmpD_any (pa pb : Option Addr) (ca cb : Nat) (a b : List Int) (w : World) (ha : Digs a) (hb : Digs b) (na : Norm a) (nb : Norm b) (ra : RowR w pa a) (rb : RowR w pb b) (la : a.length ≤ 1000000) (lb : b.length ≤ 1000000) :
    Calls Try.prog 88 #[.slice pa a.length ca, .slice pb b.length cb] w fun e w' => e = .returned (.int .i64 (cmpZ (dval a) (dval b))) ∧ ∃ n, w' = w.drewN n := by
  by_cases h1 : a.length < b.length
  · have k := dval_shorter ha hb nb h1
    have K : Hid (-1 = cmpZ (dval a) (dval b)) := by show -1 = cmpZ _ _; unfold cmpZ; rw [if_pos k]
    clear k ra rb na nb ha hb
    generalize cmpZ (dval a) (dval b) = V at *
    generalize a.length = x at *
    generalize b.length = y at *
    go_enter Try.func88, Try.ntmps88
    go_wp2
    go_ret
    exact ⟨ret_i K.out, 0, rfl⟩
  by_cases h2 : b.length < a.length
  · have k := dval_shorter hb ha na h2
    have K : Hid (1 = cmpZ (dval a) (dval b)) := by show 1 = cmpZ _ _; unfold cmpZ; rw [if_neg (by omega), if_pos k]
    clear k ra rb na nb ha hb
    generalize cmpZ (dval a) (dval b) = V at *
    generalize a.length = x at *
    generalize b.length = y at *
    go_enter Try.func88, Try.ntmps88
    go_wp2
    go_ret
    exact ⟨ret_i K.out, 0, rfl⟩
  have h3 : a.length = b.length := by omega
  have H3 := Lib.hid h3
  generalize hx : a.length = x at *
  rw [← h3]
  clear h3 h1 h2
  generalize hV : cmpZ (dval a) (dval b) = V
  have HV := Lib.hid hV
  clear hV
  have Ra := Lib.hid ra
  have Rb := Lib.hid rb
  have Da := Lib.hid ha
  have Db := Lib.hid hb
  have Hx := Lib.hid hx
  clear ra rb ha hb na nb hx
  go_enter Try.func88, Try.ntmps88
  go_wp2
  go_loopw [5] (fun v wr => ∃ k : Nat, k ≤ x ∧ v = .int .i64 ((k : Int) - 1) ∧ Hid (a.drop k = b.drop k) ∧ ∃ n, wr = w.drewN n) (fun v _ => (intOf v + 1).toNat)
  case atStart => exact ⟨x, Nat.le_refl _, rfl, by show a.drop x = b.drop x; rw [List.drop_of_length_le (by have := Hx.out; omega), List.drop_of_length_le (by have := H3.out; omega)], 0, rfl⟩
  case round =>
    obtain ⟨k, hk, rfl, hd, n, rfl⟩ := hrel
    rcases k with _ | j
    · have K : Hid (0 = V) := by
        have e : a = b := by simpa using hd.out
        show 0 = V
        rw [← HV.out, e]; unfold cmpZ; rw [if_neg (by omega), if_neg (by omega)]
      clear hd
      go_wp2
      go_ret
      exact ⟨ret_i K.out, n, rfl⟩
    · have ja : j < a.length := by have := Hx.out; omega
      have jb : j < b.length := by have := H3.out; omega
      obtain ⟨ga, rfl, ka, cA⟩ := Ra.out j ja
      obtain ⟨gb, rfl, kb, cB⟩ := Rb.out j jb
      have eA : a = a.take j ++ a[j] :: a.drop (j + 1) := by simp
      have eB : b = b.take j ++ b[j] :: b.drop (j + 1) := by simp
      have dA : Digs (a.take j) := fun x m => Da.out x (List.mem_of_mem_take m)
      have dB : Digs (b.take j) := fun x m => Db.out x (List.mem_of_mem_take m)
      have rA := Da.out a[j] (List.getElem_mem ja)
      have rB := Db.out b[j] (List.getElem_mem jb)
      have lenE : (a.take j).length = (b.take j).length := by simp; omega
      have kLt : a[j] < b[j] → Hid (-1 = V) := fun t => by
        have := dval_at (c := b.drop (j + 1)) dA dB lenE t
        rw [← hd.out, ← eA, hd.out, ← eB] at this
        show -1 = V
        rw [← HV.out]; unfold cmpZ; rw [if_pos this]
      have kGt : b[j] < a[j] → Hid (1 = V) := fun t => by
        have := dval_at (c := b.drop (j + 1)) dB dA lenE.symm t
        rw [← eB, ← hd.out, ← eA] at this
        show 1 = V
        rw [← HV.out]; unfold cmpZ; rw [if_neg (by omega), if_pos this]
      have kEq : a[j] = b[j] → Hid (a.drop j = b.drop j) := fun t => by
        show a.drop j = b.drop j
        rw [List.drop_eq_getElem_cons ja, List.drop_eq_getElem_cons jb, t, hd.out]
      have e1 : (((j + 1 : Nat) : Int) - 1) = (j : Int) := by omega
      have j0 : (0 : Int) ≤ (j : Int) := by omega
      have jx : (j : Int) < (x : Int) := by omega
      rw [e1]
      generalize a[j] = u at *
      generalize b[j] = v at *
      clear eA eB dA dB lenE hd e1 ka kb
      rcases (by omega : u < v ∨ v < u ∨ (u ≤ v ∧ v ≤ u)) with t | t | ⟨t, t'⟩
      · have K := kLt t
        clear kLt kGt kEq
        go_wp2
        go_quiet (fail)
        go_wp2
        go_ret
        exact ⟨ret_i K.out, _, World.drewN_drewN _ _ _⟩
      · have K := kGt t
        clear kLt kGt kEq
        go_wp2
        go_quiet (fail)
        go_wp2
        go_quiet (fail)
        go_wp2
        go_ret
        exact ⟨ret_i K.out, _, by rw [World.drewN_drewN, World.drewN_drewN]⟩
      · have K := kEq (by omega)
        clear kLt kGt kEq
        go_wp2
        go_quiet (fail)
        go_wp2
        go_quiet (fail)
        go_wp2
        go_roundw
        case rel => exact ⟨j, by omega, rfl, K, _, by first | rfl | rw [World.drewN_drewN, World.drewN_drewN]⟩
        case measure => simp [intOf]
end Go.Proofs.Ythfnaegfjacjbab
