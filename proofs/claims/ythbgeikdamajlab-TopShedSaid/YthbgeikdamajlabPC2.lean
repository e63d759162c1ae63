/- Press: the makespan. -/
import Derived.Test.YthbgeikdamajlabPC1
namespace Go.Proofs.Ythbgeikdamajlab
open Go.RowKit Go.Proofs.Ythbgeikdamajlab.Prs
set_option linter.unusedVariables false
set_option linter.unusedSimpArgs false

theorem DOk.all {D : List (Int × Int)} (h : DOk D D.length) (i : Nat) : 0 ≤ pd D i ∧ pd D i ≤ 1073741824 ∧ 0 ≤ sd D i ∧ sd D i ≤ 1073741824 := by
  by_cases c : i < D.length
  · exact h i c
  · have e : D[i]? = none := by simp; omega
    simp [pd, sd, e]
/-- The order as places. -/
def od (O : List Int) (k : Nat) : Nat := (gi O k).toNat
theorem IsOrd.ord {n : Nat} {O : List Int} (h : IsOrd n O) : Ord n (od O) := by
  have e : ∀ k, k < n → (od O k : Int) = gi O k := fun k hk => by have := h.2.1 k hk; unfold od; omega
  refine ⟨fun k hk => by have := h.2.1 k hk; have := e k hk; omega, fun i j hi hj eq => ?_⟩
  have e1 := e i hi
  have e2 := e j hj
  rcases Nat.lt_trichotomy i j with l | l | l
  · exact absurd (by omega) (h.2.2 i j l hj)
  · exact l
  · exact absurd (by omega) (h.2.2 j i l hi)
theorem mks_top {P S : Nat → Int} {o : Nat → Nat} (h : ∀ i, 0 ≤ P i ∧ P i ≤ 1073741824 ∧ 0 ≤ S i ∧ S i ≤ 1073741824) : ∀ k : Nat, (0 ≤ sm (fun j => P (o j)) k ∧ sm (fun j => P (o j)) k ≤ k * 1073741824) ∧ 0 ≤ mks P S o k ∧ mks P S o k ≤ k * 2147483648
  | 0 => by simp [sm, mks]
  | k + 1 => by
    obtain ⟨⟨a, b⟩, c, d⟩ := mks_top (o := o) h k
    have := h (o k)
    simp only [sm, mks] at *
    push_cast
    omega

set_option maxRecDepth 100000 in
set_option maxHeartbeats 4000000 in
theorem makespan_any (p : Option Addr) (c : Nat) (D : List (Int × Int)) (q : Option Addr) (d : Nat) (O : List Int) (w : World) (r : DmpR w p D) (ro : NumR w q O) (n64 : D.length ≤ 64) (dk : DOk D D.length) (io : IsOrd D.length O) :
    Calls Try.prog 45 #[.slice p D.length c, .slice q O.length d] w fun e w' => e = .returned (.int .i64 (mks (pd D) (sd D) (od O) D.length)) ∧ w = w' := by
  have R := Lib.hid r
  have RO := Lib.hid ro
  have DK := Lib.hid dk.all
  have IO := Lib.hid io
  have BD := Lib.hid (fun k => mks_top (o := od O) dk.all k)
  rw [io.1]
  obtain ⟨n, hn⟩ : ∃ n, n = D.length := ⟨_, rfl⟩
  rw [← hn] at n64 IO ⊢
  have HN := Lib.hid (show n = D.length ∧ O.length = n from ⟨hn, by rw [hn]; exact io.1⟩)
  clear hn r ro dk io
  go_enter Try.func45, Try.ntmps45
  go_wp2_with fail
  go_loopw [5, 6, 11] (fun pv sv kv wr => ∃ i : Nat, i ≤ n ∧ pv = .int .i64 (sm (fun j => pd D (od O j)) i) ∧ sv = .int .i64 (mks (pd D) (sd D) (od O) i) ∧ kv = .int .i64 i ∧ wr = w) (fun _ _ kv _ => n - (intOf kv).toNat)
  case atStart => exact ⟨0, Nat.zero_le _, rfl, rfl, rfl, rfl⟩
  case round =>
    obtain ⟨i, hi, rfl, rfl, rfl, rfl⟩ := hrel
    by_cases t2 : i < n
    · obtain ⟨y, rfl, ky, cy⟩ := RO.out i (by have := HN.out; omega)
      obtain ⟨u, hu⟩ : ∃ u, u = od O i := ⟨_, rfl⟩
      have eu : gi O i = (u : Int) := by have := IO.out.2.1 i t2; rw [hu]; unfold od; omega
      have un : u < n := by rw [hu]; exact IO.out.ord.lt i t2
      obtain ⟨x, rfl, kx, cx, dx⟩ := R.out u (by have := HN.out; omega)
      have b1 := DK.out u
      have b2 := BD.out i
      have b3 := BD.out (i + 1)
      have e1 : sm (fun j => pd D (od O j)) (i + 1) = sm (fun j => pd D (od O j)) i + pd D u := by rw [hu]; rfl
      have e2 : mks (pd D) (sd D) (od O) (i + 1) = max (sm (fun j => pd D (od O j)) (i + 1)) (mks (pd D) (sd D) (od O) i) + sd D u := by rw [hu]; rfl
      rw [eu] at cy
      have E1 := Lib.hid e1
      have E2 := Lib.hid e2
      rw [e1] at b3
      have i1 : (0 : Int) ≤ (i : Int) := by omega
      have i2 : (i : Int) < (n : Int) := by omega
      have u1 : (0 : Int) ≤ (u : Int) := by omega
      have u2 : (u : Int) < (n : Int) := by omega
      clear eu hu e1 e2
      rw [E1.out] at E2
      generalize sm (fun j => pd D (od O j)) i = T at *
      generalize mks (pd D) (sd D) (od O) i = M at *
      generalize pd D u = P at *
      generalize sd D u = S at *
      have w1 : IntKind.i64.wrap (T + P) = T + P := wI rfl (by omega) (by omega)
      have B := Lib.hid (show (0 ≤ T + P ∧ T + P ≤ 64 * 1073741824) ∧ 0 ≤ M ∧ M ≤ 64 * 2147483648 ∧ 0 ≤ S ∧ S ≤ 1073741824 by omega)
      clear b1 b2 b3
      by_cases mx : T + P < M
      · have w2 : IntKind.i64.wrap (M + S) = M + S := wI rfl (by have := B.out; omega) (by have := B.out; omega)
        have w3 : wrap64 (M + S) = M + S := IntWalk.wrap64_in _ (by have := B.out; omega)
        go_wp2_with fail
        go_roundw
        case rel => exact ⟨i + 1, by omega, by rw [E1.out], by rw [E2.out, Int.max_eq_right (by omega)], by go_num, trivial⟩
        case measure => clear w1 w2 w3; simp [intOf]; omega
      · have w2 : IntKind.i64.wrap (T + P + S) = T + P + S := wI rfl (by have := B.out; omega) (by have := B.out; omega)
        have w3 : wrap64 (T + P + S) = T + P + S := IntWalk.wrap64_in _ (by have := B.out; omega)
        go_wp2_with fail
        go_roundw
        case rel => exact ⟨i + 1, by omega, by rw [E1.out], by rw [E2.out, Int.max_eq_left (by omega)], by go_num, trivial⟩
        case measure => clear w1 w2 w3; simp [intOf]; omega
    · obtain rfl : i = n := by omega
      go_wp2_with fail
      go_ret
      exact ⟨rfl, rfl⟩

/-- What Makespan answers. -/
def MkQ (D : List (Int × Int)) (O : List Int) (x m : Int) : Prop := OErr D O x ∧ (x ≠ 0 → m = 0) ∧ (x = 0 → m = mks (pd D) (sd D) (od O) D.length)
theorem OErr.good {D : List (Int × Int)} {O : List Int} (h : OErr D O 0) : D.length ≤ 64 ∧ DOk D D.length ∧ IsOrd D.length O := by
  rcases h with ⟨a, b⟩ | ⟨a, b, c⟩ | ⟨a, b, c, d⟩ | ⟨a, b, c, d⟩
  · omega
  · omega
  · exact ⟨a, b, c⟩
  · omega
theorem OErr.len {D : List (Int × Int)} {O : List Int} (h : OErr D O 0) : O.length = D.length := h.good.2.2.1

set_option maxRecDepth 100000 in
set_option maxHeartbeats 4000000 in
theorem Makespan_any (p : Option Addr) (c : Nat) (D : List (Int × Int)) (q : Option Addr) (d : Nat) (O : List Int) (w : World) (r : DmpR w p D) (ro : NumR w q O) (ln : D.length ≤ 1000000) (lo : O.length ≤ 1000000) :
    Calls Try.prog 22 #[.slice p D.length c, .slice q O.length d] w fun e w' => ∃ x m, e = .returned (.tuple #[.int .i64 m, .int .i64 x]) ∧ MkQ D O x m ∧ Below w.heap.size w w' := by
  have CO := Lib.hid (checkOrder_any p c D q d O w r ro ln lo)
  have MK := Lib.hid (fun W (st : Below w.heap.size w W) (h : OErr D O 0) => makespan_any p c D q d O W (r.below st) (ro.below st) h.good.1 h.good.2.1 h.good.2.2)
  clear r ro
  generalize hn : D.length = n at *
  generalize hm : O.length = m at *
  have HN := Lib.hid hn
  clear hn hm
  go_enter Try.func22, Try.ntmps22
  go_wp2_with fail
  refine CO.out.mono ?_
  rintro e w1 ⟨x, rfl, OE, st⟩
  have OE := Lib.hid OE
  have ST := Lib.hid st
  clear CO st
  by_cases x0 : x = 0
  · subst x0
    have MC := Lib.hid (MK.out w1 ST.out OE.out)
    clear MK
    go_wp2_with fail
    refine MC.out.mono ?_
    rintro e w2 ⟨rfl, rfl⟩
    go_wp2_with fail
    go_ret2
    exact ⟨0, _, rfl, ⟨OE.out, fun h => absurd rfl h, fun _ => by rw [HN.out]⟩, ST.out⟩
  · have x1 : (x == 0) = false := by simpa using x0
    have X0 := Lib.hid x0
    clear x0 MK
    go_wp2_with fail
    go_ret2
    exact ⟨x, 0, rfl, ⟨OE.out, fun _ => rfl, fun h => absurd h X0.out⟩, ST.out⟩
end Go.Proofs.Ythbgeikdamajlab
