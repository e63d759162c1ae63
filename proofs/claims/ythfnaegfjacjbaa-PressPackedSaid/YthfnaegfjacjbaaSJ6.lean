/- Press: the laws' finish of an assignment. -/
import Derived.Test.YthfnaegfjacjbaaSJ5
namespace Go.Proofs.Ythfnaegfjacjbaa
open Go.RowKit Go.Proofs.Ythfnaegfjacjbaa.Prs Go.Proofs.Ythfnaegfjacjbaa.Stb
set_option linter.unusedVariables false
set_option linter.unusedSimpArgs false

/-- The list reads as these presses. -/
structure IsAt (T A : List Int) (M : Nat) (E : List Nat) : Prop where
  lenA : A.length = T.length
  lenE : E.length = T.length
  at_ : ∀ i, i < T.length → gi A i = nv E i
  ok : Sea.Ok M E
/-- What finish answers. -/
def FinQ (T A : List Int) (M : Nat) (z : Int) (ok : Bool) : Prop := (ok = false ∧ z = 0 ∧ ¬ (A.length = T.length ∧ ∀ i, i < T.length → 0 ≤ gi A i ∧ gi A i < M)) ∨ (ok = true ∧ ∃ E s', IsAt T A M E ∧ Sea.fin Sea.addS T (fun _ => 0) E = some s' ∧ z = Sea.mx s' M)
def FinR (T A : List Int) (M : Nat) (w : World) (e : Ending) (w' : World) : Prop := ∃ z ok, e = .returned (.tuple #[.int .i64 z, .bool ok]) ∧ FinQ T A M z ok ∧ Below w.heap.size w w'
theorem FinQ.of {T A : List Int} {M : Nat} (hT : TmOk T T.length) (hl : A.length = T.length) (ha : ∀ i, i < T.length → 0 ≤ gi A i ∧ gi A i < M) : ∃ E s', IsAt T A M E ∧ Sea.fin Sea.addS T (fun _ => 0) E = some s' ∧ s' = fun b => Sea.ldf (fun i => (gi A i).toNat) (fun i => gi T i) T.length b := by
  have nvE : ∀ i, i < T.length → ((List.range T.length).map fun i => (gi A i).toNat).getD i 0 = (gi A i).toNat := fun i hi => by simp [hi]
  refine ⟨(List.range T.length).map fun i => (gi A i).toNat, _, ⟨hl, by simp, fun i hi => ?_, fun b hb => ?_⟩, Sea.fin_ldf (by simp) (fun t ht => by obtain ⟨i, hi, e⟩ := mem_gi ht; have := hT i hi; omega), ?_⟩
  · unfold nv
    rw [nvE i hi]
    have := ha i hi; omega
  · obtain ⟨i, hi, rfl⟩ := List.mem_map.1 hb
    have := ha i (List.mem_range.1 hi); omega
  · funext b
    have e1 : Sea.ldf (fun i => ((List.range T.length).map fun i => (gi A i).toNat).getD i 0) (fun i => T.getD i 0) T.length b = Sea.ldf (fun i => (gi A i).toNat) (fun i => T.getD i 0) T.length b := ldf_same nvE
    rw [e1]
    have e2 : Sea.ldf (fun i => (gi A i).toNat) (fun i => T.getD i 0) T.length b = Sea.ldf (fun i => (gi A i).toNat) (fun i => gi T i) T.length b := Sea.ldf_congr fun i hi _ => by rw [List.getD_eq_getElem?_getD]; rfl
    rw [e2]; omega
theorem ldf_bd0 {T : List Int} {a : Nat → Nat} {k b : Nat} (ok : ∀ i, i < k → 1 ≤ gi T i ∧ gi T i ≤ 1073741824) : 0 ≤ Sea.ldf a (fun i => gi T i) k b ∧ Sea.ldf a (fun i => gi T i) k b ≤ k * 1073741824 := by
  refine ⟨Sea.ldf_nonneg fun i hi => by have := ok i hi; omega, sm_top (fun i hi => by
    have := ok i hi
    show (if a i = b then gi T i else 0) ≤ _
    split <;> omega) (by omega)⟩

set_option maxRecDepth 100000 in
set_option maxHeartbeats 8000000 in
theorem finish_any (p : Option Addr) (c : Nat) (T : List Int) (q : Option Addr) (d : Nat) (A : List Int) (M : Nat) (w : World) (r : NumR w p T) (ra : NumR w q A) (n12 : T.length ≤ 12) (tok : TmOk T T.length) (m4 : M ≤ 4) (la : A.length ≤ 9223372036854775807) :
    Calls Try.prog 38 #[.slice p T.length c, .slice q A.length d, .int .i64 M] w (FinR T A M w) := by
  obtain ⟨i0, hi, hz0, hz1, hz2⟩ := info_parts intInfo
  have R := Lib.hid r
  have RA := Lib.hid ra
  have TOK := Lib.hid tok
  obtain ⟨n, hn⟩ : ∃ n, n = T.length := ⟨_, rfl⟩
  obtain ⟨m, hm⟩ : ∃ m, m = A.length := ⟨_, rfl⟩
  have QB := Lib.hid (show ¬ (m = n ∧ ∀ i, i < n → 0 ≤ gi A i ∧ gi A i < M) → FinQ T A M 0 false from fun h => .inl ⟨rfl, rfl, by rw [← hn, ← hm]; exact h⟩)
  have QG := Lib.hid (show m = n → (∀ i, i < n → 0 ≤ gi A i ∧ gi A i < M) → FinQ T A M (Sea.mx (fun b => Sea.ldf (fun i => (gi A i).toNat) (fun i => gi T i) n b) M) true from fun h1 h2 => by
    obtain ⟨E, s', a, b, e⟩ := FinQ.of tok (by rw [← hm, h1, hn]) (by rw [← hn]; exact h2)
    exact .inr ⟨rfl, E, s', a, b, by rw [e, hn]⟩)
  rw [← hn] at n12 TOK ⊢
  rw [← hm] at la ⊢
  have HN := Lib.hid (show n = T.length ∧ m = A.length from ⟨hn, hm⟩)
  clear hn hm r ra tok
  by_cases mn : m = n
  case neg =>
    have m1 : ((m : Int) == (n : Int)) = false := by simp; omega
    have m2 : ((m : Int) != (n : Int)) = true := by simp; omega
    have FF := Lib.hid (QB.out (fun h => mn h.1))
    clear mn QB QG
    go_enter Try.func38, Try.ntmps38
    go_wp2_with fail
    go_ret2
    exact ⟨0, false, rfl, FF.out, Below.refl _ _⟩
  subst mn
  have m1 : ((m : Int) != (m : Int)) = false := by simp
  go_enter Try.func38, Try.ntmps38
  go_upto_region 4 with (first
    | (at_make; refine wpList_make_full _ rfl _ _ 23 rfl w.heap.size 3 i0 (.int .i64 0) 1 Try.underlying23 hi hz0 hz1 .i64 .i64 _ _ M rfl rfl (by omega) (by omega) (by rw [hz2]; omega) (by unfold maxLen; omega) (Nat.le_refl _) ?_; intro w1 hown0 hgrow0))
  rw [made_ints] at hown0
  have I1 := Lib.hid (IR.of hown0)
  have B1 := Lib.hid (show Below w.heap.size w w1 from (Below.refl _ _).grown hgrow0 (Nat.le_refl _) (fun k e => by cases e))
  clear hown0 hgrow0 m1
  obtain ⟨rs, hrs⟩ : ∃ b, b = w.heap.size := ⟨_, rfl⟩
  rw [← hrs] at I1 ⊢
  have HRS := Lib.hid hrs
  clear hrs
  go_wp2_with fail
  go_loopw [9, 10] (fun bv kv wr => ∃ i : Nat, i ≤ m ∧ kv = .int .i64 i ∧ bv = .int .i64 (Sea.mx (fun b => Sea.ldf (fun i => (gi A i).toNat) (fun i => gi T i) i b) M) ∧ Hid (IR wr rs 3 M (fun b => Sea.ldf (fun i => (gi A i).toNat) (fun i => gi T i) i b)) ∧ Hid (∀ j, j < i → 0 ≤ gi A j ∧ gi A j < M) ∧ Hid (Below w.heap.size w wr)) (fun _ kv _ => m - (intOf kv).toNat)
  case atStart => exact ⟨0, Nat.zero_le _, rfl, by
    rw [show Sea.mx (fun b => Sea.ldf (fun i => (gi A i).toNat) (fun i => gi T i) 0 b) M = 0 from Int.le_antisymm (Sea.mx_le.2 ⟨Int.le_refl _, fun _ _ => Int.le_refl _⟩) (Sea.mx_nonneg _ _)], Lib.hid (I1.out.ext fun _ _ => rfl), Lib.hid fun j h => by omega, B1⟩
  case round =>
    obtain ⟨i, hi', rfl, rfl, IS, OK, HB⟩ := hrel
    clear I1 B1
    by_cases t1 : i < m
    · have i1 : (0 : Int) ≤ (i : Int) := by omega
      have i2 : (i : Int) < (m : Int) := by omega
      obtain ⟨y, rfl, ky, cy⟩ := (RA.out.below HB.out) i (by have := HN.out; omega)
      have NB := Lib.hid (show ¬ (0 ≤ gi A i ∧ gi A i < M) → FinQ T A M 0 false from fun h => QB.out (fun g => h (g.2 i t1)))
      by_cases g0 : gi A i < 0
      · have FF := Lib.hid (NB.out (by omega))
        have g2 : decide (gi A i < 0) = true := decide_eq_true g0
        clear NB QB QG OK IS
        generalize gi A i = z at *
        generalize Sea.mx (fun b => Sea.ldf (fun i => (gi A i).toNat) (fun i => gi T i) i b) M = X at *
        go_wp2_with fail
        go_ret2
        exact ⟨0, false, rfl, FF.out, HB.out⟩
      · have g2 : decide (gi A i < 0) = false := decide_eq_false g0
        by_cases g1 : gi A i < M
        case neg =>
          have FF := Lib.hid (NB.out (by omega))
          have g3 : decide ((M : Int) ≤ gi A i) = true := decide_eq_true (by omega)
          have g4 : (M : Int) ≤ gi A i := by omega
          clear NB QB QG OK IS
          generalize gi A i = z at *
          generalize Sea.mx (fun b => Sea.ldf (fun i => (gi A i).toNat) (fun i => gi T i) i b) M = X at *
          go_wp2_with fail
          go_ret2
          exact ⟨0, false, rfl, FF.out, HB.out⟩
        obtain ⟨u, hu⟩ := Int.eq_ofNat_of_zero_le (show 0 ≤ gi A i by omega)
        have um : u < M := by omega
        have u1 : (0 : Int) ≤ (u : Int) := by omega
        have u2 : (u : Int) < (M : Int) := by omega
        have u3 : ¬ M ≤ u := by omega
        have u4 : decide (M ≤ u) = false := decide_eq_false u3
        obtain ⟨x, rfl, kx, cx⟩ := (R.out.below HB.out) i (by have := HN.out; omega)
        have KC := Lib.hid (show ∀ W, Below w.heap.size w W → W.cell? (y.add i) = some (.int .i64 (u : Int)) from fun W B => by
          obtain ⟨y', e, _, c'⟩ := (RA.out.below B) i (by have := HN.out; omega)
          cases e
          rw [← hu]; exact c')
        have AU := Lib.hid (show (gi A i).toNat = u from by omega)
        rw [hu] at cy
        have OK2 := Lib.hid (show ∀ j, j < i + 1 → 0 ≤ gi A j ∧ gi A j < M from fun j hj => by
          by_cases e : j = i
          · subst e; omega
          · exact OK.out j (by omega))
        have cs := IS.out.cell um
        have fs := IS.out.frozen u
        obtain ⟨t, ht⟩ : ∃ t, t = gi T i := ⟨_, rfl⟩
        rw [← ht] at cx
        have tb := TOK.out i t1
        rw [← ht] at tb
        have bd := ldf_bd0 (T := T) (a := fun i => (gi A i).toNat) (b := u) (k := i) (fun j hj => TOK.out j (by omega))
        have LS := Lib.hid (show ∀ b, Sea.ldf (fun i => (gi A i).toNat) (fun i => gi T i) (i + 1) b = upd (fun b => Sea.ldf (fun i => (gi A i).toNat) (fun i => gi T i) i b) u (Sea.ldf (fun i => (gi A i).toNat) (fun i => gi T i) i u + t) b from fun b => by
          rw [Sea.ldf_succ, AU.out, ht]
          unfold upd
          by_cases e : b = u
          · subst e; rw [if_pos rfl, if_pos rfl]
          · rw [if_neg e, if_neg (fun g => e g.symm)]; exact Int.add_zero _)
        have MXN := Lib.hid (show Sea.mx (fun b => Sea.ldf (fun i => (gi A i).toNat) (fun i => gi T i) (i + 1) b) M = max (Sea.mx (fun b => Sea.ldf (fun i => (gi A i).toNat) (fun i => gi T i) i b) M) (Sea.ldf (fun i => (gi A i).toNat) (fun i => gi T i) i u + t) from by
          rw [Sea.mx_congr (r := upd (fun b => Sea.ldf (fun i => (gi A i).toNat) (fun i => gi T i) i b) u (Sea.ldf (fun i => (gi A i).toNat) (fun i => gi T i) i u + t)) (fun b _ => LS.out b)]
          exact Sea.mx_up um (by omega))
        have IS2 := Lib.hid (show IR (wr.setCell ⟨rs, u, none⟩ (.int .i64 (Sea.ldf (fun i => (gi A i).toNat) (fun i => gi T i) i u + t))) rs 3 M (fun b => Sea.ldf (fun i => (gi A i).toNat) (fun i => gi T i) (i + 1) b) from (IS.out.set u _).ext fun b _ => (LS.out b).symm)
        clear NB QB ht g0 g1 g2 hu AU LS OK IS kx ky
        generalize Sea.mx (fun b => Sea.ldf (fun i => (gi A i).toNat) (fun i => gi T i) i b) M = X at *
        obtain ⟨S0, hS0⟩ : ∃ S0, S0 = Sea.ldf (fun i => (gi A i).toNat) (fun i => gi T i) i u := ⟨_, rfl⟩
        rw [← hS0] at cs bd IS2 MXN
        have wy : IntKind.i64.wrap (S0 + t) = S0 + t := wI rfl (by omega) (by omega)
        have HB2 := Lib.hid (show Below w.heap.size w (wr.setCell ⟨rs, u, none⟩ (.int .i64 (S0 + t))) from HB.out.setCell (by dsimp only; have := HRS.out; omega) _)
        clear hS0 bd tb
        go_upto_region 10 with fail
        go_cut [] from 37 to 49 (fun wx => Hid (IR wx rs 3 M (fun b => Sea.ldf (fun i => (gi A i).toNat) (fun i => gi T i) (i + 1) b)) ∧ Hid (Below w.heap.size w wx) ∧ wx.cell? ⟨rs, u, none⟩ = some (.int .i64 (S0 + t)))
        case first =>
          have cn : (wr.setCell ⟨rs, u, none⟩ (.int .i64 (S0 + t))).cell? ⟨rs, u, none⟩ = some (.int .i64 (S0 + t)) := World.cell?_setCell_same' _ _ _ (by rw [cs]; rfl)
          have CN := Lib.hid cn
          clear cn
          go_region_law (fail)
          all_goals
            go_wp2_with fail
            go_meet
            exact ⟨(by first | exact IS2 | exact Lib.hid (IS2.out.keep rfl)), (by first | exact HB2 | exact Lib.hid HB2.out.drew | exact Lib.hid (below_drewN HB2.out _)), (by first | exact CN.out | exact cellDr CN.out)⟩
        case rest =>
          obtain ⟨IS3, HB3, cs3⟩ := hcut
          have cy := KC.out _ HB3.out
          clear IS2 HB2 cs fs cx wy KC
          by_cases g : X < S0 + t
          · have d3 : decide (X < S0 + t) = true := decide_eq_true g
            rw [show max X (S0 + t) = S0 + t from by omega] at MXN
            go_wp2_with fail
            go_roundw
            case rel => exact ⟨i + 1, by omega, by go_num, by rw [MXN.out], IS3, OK2, HB3⟩
            case measure => simp [intOf]; omega
          · have d3 : decide (X < S0 + t) = false := decide_eq_false g
            rw [show max X (S0 + t) = X from by omega] at MXN
            go_wp2_with fail
            go_roundw
            case rel => exact ⟨i + 1, by omega, by go_num, by rw [MXN.out], IS3, OK2, HB3⟩
            case measure => simp [intOf]; omega
    · obtain rfl : i = m := by omega
      have FF := Lib.hid (QG.out trivial OK.out)
      clear QG QB
      generalize Sea.mx (fun b => Sea.ldf (fun i => (gi A i).toNat) (fun i => gi T i) i b) M = X at *
      go_wp2_with fail
      go_ret2
      exact ⟨_, true, rfl, FF.out, HB.out⟩
end Go.Proofs.Ythfnaegfjacjbaa
