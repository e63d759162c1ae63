/- The law PressShares: copies, the reference's Share and Longest, the walk (SRC SR0 to SR3 in one). -/
import Derived.Test.YthfnaegfjacjbaaSJ3
import Derived.Test.YthfnaegfjacjbaaSQB
import Derived.Test.YthfnaegfjacjbaaSQA
import Derived.Test.YthfnaegfjacjbaaSH3
import Derived.Test.YthfnaegfjacjbaaSJM
import Derived.Test.YthfnaegfjacjbaaPBA
/- Press: copies; rows that are the same. -/
namespace Go.Proofs.Ythfnaegfjacjbaa
open Go.RowKit Go.Proofs.Ythfnaegfjacjbaa.Prs Go.Proofs.Ythfnaegfjacjbaa.Stb
set_option linter.unusedVariables false
set_option linter.unusedSimpArgs false

set_option maxRecDepth 100000 in
set_option maxHeartbeats 8000000 in
theorem copied_any (p : Option Addr) (c : Nat) (T : List Int) (w : World) (r : NumR w p T) (ln : T.length ≤ 64) :
    Calls Try.prog 16 #[.slice p T.length c] w fun e w' => ∃ b, e = .returned (.slice (some ⟨b, 0, none⟩) T.length T.length) ∧ w.heap.size ≤ b ∧ NumR w' (some ⟨b, 0, none⟩) T ∧ Below w.heap.size w w' := by
  obtain ⟨i0, hi, hz0, hz1, hz2⟩ := info_parts intInfo
  have R := Lib.hid r
  obtain ⟨n, hn⟩ : ∃ n, n = T.length := ⟨_, rfl⟩
  rw [← hn] at ln ⊢
  have HN := Lib.hid hn
  clear hn r
  go_enter Try.func16, Try.ntmps16
  go_upto_region 2 with (first
    | (at_make; refine wpList_make_full _ rfl _ _ 23 rfl w.heap.size 3 i0 (.int .i64 0) 1 Try.underlying23 hi hz0 hz1 .i64 .i64 _ _ n rfl rfl (by omega) (by omega) (by rw [hz2]; omega) (by unfold maxLen; omega) (Nat.le_refl _) ?_; intro w1 hown0 hgrow0))
  rw [made_ints] at hown0
  have I1 := Lib.hid (IR.of hown0)
  have B1 := Lib.hid (show Below w.heap.size w w1 from (Below.refl _ _).grown hgrow0 (Nat.le_refl _) (fun k e => by cases e))
  clear hown0 hgrow0
  obtain ⟨b, hb⟩ : ∃ b, b = w.heap.size := ⟨_, rfl⟩
  rw [← hb] at I1 ⊢
  have HBB := Lib.hid hb
  clear hb
  go_wp2_with fail
  go_loopw [4] (fun kv wr => ∃ i : Nat, i ≤ n ∧ kv = .int .i64 i ∧ Hid (IR wr b 3 n (fun j => if j < i then gi T j else 0)) ∧ Hid (Below w.heap.size w wr)) (fun kv _ => n - (intOf kv).toNat)
  case atStart => exact ⟨0, Nat.zero_le _, rfl, Lib.hid (I1.out.ext fun k _ => by rw [if_neg (by omega)]), B1⟩
  case round =>
    obtain ⟨i, hi', rfl, IS, HB⟩ := hrel
    clear I1 B1
    by_cases t1 : i < n
    · have i1 : (0 : Int) ≤ (i : Int) := by omega
      have i2 : (i : Int) < (n : Int) := by omega
      obtain ⟨x, rfl, kx, cx⟩ := (R.out.below HB.out) i (by have := HN.out; omega)
      have ci := IS.out.cell t1
      have fi := IS.out.frozen i
      have IS2 := Lib.hid (show IR (wr.setCell ⟨b, i, none⟩ (.int .i64 (gi T i))) b 3 n (fun j => if j < i + 1 then gi T j else 0) from (IS.out.set i _).ext fun k _ => by
        unfold upd
        by_cases e : k = i
        · subst e; rw [if_pos rfl, if_pos (by omega)]
        · rw [if_neg e]
          show (if k < i then gi T k else 0) = _
          by_cases l : k < i
          · rw [if_pos l, if_pos (by omega)]
          · rw [if_neg l, if_neg (by omega)])
      have HB2 := Lib.hid (show Below w.heap.size w (wr.setCell ⟨b, i, none⟩ (.int .i64 (gi T i))) from HB.out.setCell (by show w.heap.size ≤ b; rw [HBB.out]; exact Nat.le_refl _) _)
      clear IS HB kx
      generalize gi T i = t at cx IS2 HB2
      generalize (if i < i then t else (0 : Int)) = z at *
      go_wp2_with fail
      go_roundw
      case rel => exact ⟨i + 1, by omega, by go_num, IS2, HB2⟩
      case measure => simp [intOf]; omega
    · obtain rfl : i = n := by omega
      have NR := Lib.hid (show NumR wr (some ⟨b, 0, none⟩) T from by
        have := (IS.out.ext (f' := gi T) fun k hk => by rw [if_pos hk]).num (Nat.le_refl _)
        have e : (List.range i).map (gi T) = T := by
          rw [HN.out]
          apply List.ext_getElem
          · simp
          · intro j h1 h2; simp [gi, h2]
        rwa [e] at this)
      clear IS
      go_wp2_with fail
      go_ret
      exact ⟨b, rfl, Nat.le_of_eq HBB.out.symm, NR.out, HB.out⟩

set_option maxRecDepth 100000 in
set_option maxHeartbeats 8000000 in
theorem same_any (p : Option Addr) (c : Nat) (q : Option Addr) (d : Nat) (T : List Int) (n : Nat) (hn : n = T.length) (w : World) (r : NumR w p T) (r2 : NumR w q T) (ln : n ≤ 64) :
    Calls Try.prog 19 #[.slice p n c, .slice q n d] w fun e w' => e = .returned (.bool true) ∧ Below w.heap.size w w' := by
  have R := Lib.hid r
  have R2 := Lib.hid r2
  have HN := Lib.hid hn
  clear hn r r2
  have m1 : ((n : Int) != (n : Int)) = false := by simp
  go_enter Try.func19, Try.ntmps19
  go_wp2_with fail
  clear m1
  go_loopw [5] (fun kv wr => ∃ i : Nat, i ≤ n ∧ kv = .int .i64 i ∧ Hid (Below w.heap.size w wr)) (fun kv _ => n - (intOf kv).toNat)
  case atStart => exact ⟨0, Nat.zero_le _, rfl, Lib.hid (Below.refl _ _)⟩
  case round =>
    obtain ⟨i, hi', rfl, HB⟩ := hrel
    by_cases t1 : i < n
    · have i1 : (0 : Int) ≤ (i : Int) := by omega
      have i2 : (i : Int) < (n : Int) := by omega
      obtain ⟨x, rfl, kx, cx⟩ := (R.out.below HB.out) i (by have := HN.out; omega)
      obtain ⟨y, rfl, ky, cy⟩ := (R2.out.below HB.out) i (by have := HN.out; omega)
      clear kx ky
      generalize gi T i = t at *
      have e1 : (t != t) = false := by simp
      go_upto_region 6 with fail
      go_quiet (fail)
      go_wp2_with fail
      go_roundw
      case rel => exact ⟨i + 1, by omega, by go_num, Lib.hid (below_drewN HB.out _)⟩
      case measure => simp [intOf]; omega
    · obtain rfl : i = n := by omega
      go_wp2_with fail
      go_ret
      exact ⟨rfl, HB.out⟩

end Go.Proofs.Ythfnaegfjacjbaa

/- Press: the reference's Share, plain. -/
namespace Go.Proofs.Ythfnaegfjacjbaa.Sea
set_option linter.unusedVariables false
set_option linter.unusedSimpArgs false
theorem finS_up : ∀ {ts : List Int} {s f : Nat → Int} {E : List Nat}, fin addS ts s E = some f → (∀ t ∈ ts, 0 ≤ t) → ∀ b, s b ≤ f b
  | [], s, f, [], h, _, b => by
    simp [fin] at h
    rw [h]; exact Int.le_refl _
  | [], s, f, c :: E, h, _, b => by have := fin_len h; simp at this
  | t :: ts, s, f, [], h, _, b => by have := fin_len h; simp at this
  | t :: ts, s, f, c :: E, h, ht, b => by
    have t0 := ht t (by simp)
    simp only [fin, addS] at h
    rw [if_pos t0] at h
    have := finS_up h (fun u hu => ht u (by simp [hu])) b
    by_cases e : b = c
    · subst e; rw [up_same] at this; omega
    · rwa [up_ne _ _ e] at this
theorem fin_PS {cap ea : Int} : ∀ {ts : List Int} {s s' : Nat → Int × Int} {E : List Nat}, fin (addP cap ea) ts s E = some s' → (∀ t ∈ ts, 0 ≤ t) → fin addS ts (fun b => (s b).1) E = some (fun b => (s' b).1) ∧ ((∀ b, (s b).1 ≤ cap) → ∀ b, (s' b).1 ≤ cap)
  | [], s, s', [], h, _ => by
    simp [fin] at h
    subst h
    exact ⟨rfl, fun h => h⟩
  | [], s, s', c :: E, h, _ => by have := fin_len h; simp at this
  | t :: ts, s, s', [], h, _ => by have := fin_len h; simp at this
  | t :: ts, s, s', c :: E, h, ht => by
    obtain ⟨y, hy, h⟩ := fin_cons h
    obtain ⟨h1, h2⟩ := fin_PS h (fun u hu => ht u (by simp [hu]))
    have y1 : y.1 = (s c).1 + t ∧ y.1 ≤ cap := by
      unfold addP at hy
      split at hy
      · next g => simp at hy; rw [← hy]; exact ⟨rfl, g.2.2⟩
      · cases hy
    have e : (fun b => (up s c y b).1) = up (fun b => (s b).1) c ((s c).1 + t) := by
      funext b
      unfold up
      split
      · exact y1.1
      · rfl
    refine ⟨?_, fun h => h2 fun b => ?_⟩
    · simp only [fin, addS]
      rw [if_pos (ht t (by simp))]
      dsimp only
      rw [← e]; exact h1
    · unfold up
      split
      · exact y1.2
      · exact h b
theorem fin_SP {cap ea : Int} : ∀ {ts : List Int} {s : Nat → Int × Int} {f : Nat → Int} {E : List Nat}, fin addS ts (fun b => (s b).1) E = some f → (∀ b ∈ E, f b ≤ cap) → (∀ t ∈ ts, 0 ≤ t) → (∀ b, 0 ≤ (s b).2 ∧ (s b).2 + ts.length ≤ ea) → ∃ s', fin (addP cap ea) ts s E = some s'
  | [], s, f, [], h, _, _, _ => ⟨s, rfl⟩
  | [], s, f, c :: E, h, _, _, _ => by have := fin_len h; simp at this
  | t :: ts, s, f, [], h, _, _, _ => by have := fin_len h; simp at this
  | t :: ts, s, f, c :: E, h, hc, ht, hk => by
    have t0 := ht t (by simp)
    simp only [fin, addS] at h
    rw [if_pos t0] at h
    dsimp only at h
    have le := finS_up h (fun u hu => ht u (by simp [hu])) c
    rw [up_same] at le
    have hcc := hc c (by simp)
    have kc := hk c
    simp only [List.length_cons] at kc
    have y : addP cap ea (s c) t = some ((s c).1 + t, (s c).2 + 1) := by
      unfold addP
      rw [if_pos ⟨kc.1, by omega, by omega⟩]
    have e : (fun b => (up s c ((s c).1 + t, (s c).2 + 1) b).1) = up (fun b => (s b).1) c ((s c).1 + t) := by
      funext b
      unfold up
      split <;> rfl
    rw [← e] at h
    obtain ⟨s', h'⟩ := fin_SP (cap := cap) (ea := ea) h (fun b hb => hc b (by simp [hb])) (fun u hu => ht u (by simp [hu])) (fun b => by
      have := hk b
      simp only [List.length_cons] at this
      unfold up
      split
      · dsimp only; omega
      · omega)
    exact ⟨s', by simp only [fin]; rw [y]; exact h'⟩
/-- What fits into less fits into more. -/
theorem NoF.less {cap cap' ea : Int} {M : Nat} {T : List Int} (h : NoF cap ea M T (fun _ => (0, 0))) (le : cap' ≤ cap) : NoF cap' ea M T (fun _ => (0, 0)) := fun E s' ok f =>
  h E s' ok (fin_weak (addP_weak le (Int.le_refl _)) f)
theorem fin_le {cap ea : Int} : ∀ {ts : List Int} {s s' : Nat → Int × Int} {E : List Nat}, fin (addP cap ea) ts s E = some s' → (∀ b, 0 ≤ (s b).1) → (∀ t ∈ ts, 0 ≤ t) → ∀ t ∈ ts, t ≤ cap
  | [], s, s', E, h, _, _ => fun t k => by cases k
  | t :: ts, s, s', [], h, _, _ => by have := fin_len h; simp at this
  | t :: ts, s, s', c :: E, h, h0, ht => by
    obtain ⟨y, hy, h⟩ := fin_cons h
    have y1 : y.1 = (s c).1 + t ∧ y.1 ≤ cap := by
      unfold addP at hy
      split at hy
      · next g => simp at hy; rw [← hy]; exact ⟨rfl, g.2.2⟩
      · cases hy
    have t0 := ht t (by simp)
    have c0 := h0 c
    intro u hu
    rcases List.mem_cons.1 hu with rfl | hu
    · omega
    · exact fin_le h (fun b => by
        unfold up
        split
        · omega
        · exact h0 b) (fun v hv => ht v (by simp [hv])) u hu
theorem NoF.big {cap ea t : Int} {M : Nat} {T : List Int} (ht : ∀ t ∈ T, 0 ≤ t) (h : t ∈ T) (c : cap < t) : NoF cap ea M T (fun _ => (0, 0)) := fun E s' ok f => by
  have := fin_le f (fun _ => Int.le_refl _) ht t h
  omega
theorem fin_zero : ∀ (ts : List Int) (s : Nat → Int), (∀ t ∈ ts, 0 ≤ t) → fin addS ts s (List.replicate ts.length 0) = some (up s 0 (s 0 + sums (fun t => t) ts))
  | [], s, _ => by
    simp only [fin, List.length_nil, List.replicate_zero, sums, Int.add_zero]
    congr 1
    funext b
    unfold up
    split
    · next e => rw [e]
    · rfl
  | t :: ts, s, ht => by
    simp only [List.length_cons, List.replicate_succ, fin, addS, sums]
    rw [if_pos (ht t (by simp))]
    dsimp only
    rw [fin_zero ts _ (fun u hu => ht u (by simp [hu]))]
    congr 1
    funext b
    unfold up
    split
    · rw [if_pos rfl]; omega
    · rfl
/-- All on one press. -/
theorem fits_sum {m : Nat} {T : List Int} {cap : Int} (m1 : 1 ≤ m) (ht : ∀ t ∈ T, 0 ≤ t) (c : sums (fun t => t) T ≤ cap) : ¬ NoF cap T.length m T (fun _ => (0, 0)) := fun no => by
  have f := fin_zero T (fun _ => 0) ht
  obtain ⟨s', g⟩ := fin_SP (cap := cap) (ea := T.length) (s := fun _ => (0, 0)) f (fun b hb => by
    obtain rfl := (List.mem_replicate.1 hb).2
    rw [up_same]; omega) ht (fun b => ⟨Int.le_refl _, by dsimp only; omega⟩)
  exact no _ s' (fun b hb => by have := (List.mem_replicate.1 hb).2; omega) g
/-- The first assignment at the least cap is the best one. -/
theorem BestS.is {m : Nat} {T : List Int} {L c : Int} {E E1 : List Nat} (b : BestS m T L E) (ht : ∀ t ∈ T, 0 ≤ t) (c0 : 0 ≤ c) (g : Fst c T.length m T (fun _ => (0, 0)) E1) (no : ∀ k, 0 ≤ k → k < c → NoF k T.length m T (fun _ => (0, 0))) : L = c ∧ E = E1 := by
  obtain ⟨f0, h0, v0, -⟩ := b.fin_
  have v0 : mx f0 m = L := v0
  obtain ⟨ok1, ⟨s1, f1⟩, l1⟩ := g
  obtain ⟨g1, g2⟩ := fin_PS f1 ht
  have g2 := g2 (fun b => c0)
  have m1 : mx (fun b => (s1 b).1) m ≤ c := mx_le.2 ⟨c0, fun b _ => g2 b⟩
  have lo : L ≤ mx (fun b => (s1 b).1) m := b.low E1 _ ok1 g1
  obtain ⟨s2, f2⟩ := fin_SP (cap := L) (ea := T.length) (s := fun _ => (0, 0)) h0 (fun d hd => by rw [← v0]; exact mx_ge (b.ok d hd)) ht (fun b => ⟨Int.le_refl _, by dsimp only; omega⟩)
  have e : L = c := by
    apply Classical.byContradiction; intro d
    exact no L (by rw [← v0]; exact mx_nonneg _ _) (by omega) E s2 b.ok f2
  subst e
  exact ⟨rfl, lexle_anti (by rw [fin_len h0, fin_len f1]) (b.first E1 _ ok1 g1 (by show mx (fun b => (s1 b).1) m = L; omega)) (l1 E s2 b.ok f2)⟩
end Go.Proofs.Ythfnaegfjacjbaa.Sea

/- Press: the reference's check of times; its Share. -/
namespace Go.Proofs.Ythfnaegfjacjbaa
open Go.RowKit Go.Proofs.Ythfnaegfjacjbaa.Prs Go.Proofs.Ythfnaegfjacjbaa.Stb
set_option linter.unusedVariables false
set_option linter.unusedSimpArgs false

set_option maxRecDepth 100000 in
set_option maxHeartbeats 8000000 in
theorem rtimes_any (p : Option Addr) (c : Nat) (T : List Int) (m : Int) (w : World) (r : NumR w p T) (ln : T.length ≤ 9223372036854775807) :
    Calls Try.prog 59 #[.slice p T.length c, .int .i64 m] w fun e w' => ∃ x, e = .returned (.int .i64 x) ∧ TErr T m x ∧ Below w.heap.size w w' := by
  have R := Lib.hid r
  obtain ⟨n, hn⟩ : ∃ n, n = T.length := ⟨_, rfl⟩
  have E3 := Lib.hid (show 12 < n → TErr T m 3 from fun h => .inl ⟨by omega, rfl⟩)
  have E2 := Lib.hid (show n ≤ 12 → ¬ (1 ≤ m ∧ m ≤ 4 ∧ TmOk T T.length) → TErr T m 2 from fun h g => .inr (.inl ⟨by omega, g, rfl⟩))
  have E0 := Lib.hid (show n ≤ 12 → (1 ≤ m ∧ m ≤ 4) → TmOk T T.length → TErr T m 0 from fun h g f => .inr (.inr ⟨by omega, g.1, g.2, f, rfl⟩))
  rw [← hn] at ln E2 E0 ⊢
  have HN := Lib.hid hn
  clear hn r
  go_enter Try.func59, Try.ntmps59
  by_cases n12 : (12 : Int) < n
  · have d1 : decide ((12 : Int) < n) = true := decide_eq_true n12
    have FF := Lib.hid (E3.out (by omega))
    clear E3 E2 E0
    go_wp2_with fail
    go_ret
    exact ⟨3, rfl, FF.out, Below.refl _ _⟩
  have d1 : decide ((12 : Int) < n) = false := decide_eq_false n12
  have n12' : n ≤ 12 := by omega
  by_cases b1 : m < 1
  · have e1 : decide (m < 1) = true := decide_eq_true b1
    have FF := Lib.hid (E2.out n12' (fun h => by omega))
    clear E3 E2 E0
    go_wp2_with fail
    go_ret
    exact ⟨2, rfl, FF.out, Below.refl _ _⟩
  have e1 : decide (m < 1) = false := decide_eq_false b1
  by_cases b2 : 4 < m
  · have e2 : decide (4 < m) = true := decide_eq_true b2
    have FF := Lib.hid (E2.out n12' (fun h => by omega))
    clear E3 E2 E0
    go_wp2_with fail
    go_ret
    exact ⟨2, rfl, FF.out, Below.refl _ _⟩
  have e2 : decide (4 < m) = false := decide_eq_false b2
  clear E3
  go_wp2_with fail
  clear d1 e1 e2
  go_loopw [5] (fun kv wr => ∃ i : Nat, i ≤ n ∧ kv = .int .i64 i ∧ Hid (TmOk T i) ∧ wr = w) (fun kv _ => n - (intOf kv).toNat)
  case atStart => exact ⟨0, Nat.zero_le _, rfl, Lib.hid fun j h => by omega, rfl⟩
  case round =>
    obtain ⟨i, hi', rfl, OK, rfl⟩ := hrel
    by_cases t1 : i < n
    · have i1 : (0 : Int) ≤ (i : Int) := by omega
      have i2 : (i : Int) < (n : Int) := by omega
      obtain ⟨x, rfl, kx, cx⟩ := R.out i (by have := HN.out; omega)
      have NO := Lib.hid (show ¬ (1 ≤ gi T i ∧ gi T i ≤ 1073741824) → TErr T m 2 from fun h => E2.out n12' (fun g => h (g.2.2 i (by have := HN.out; omega))))
      have OK2 := Lib.hid (show (1 ≤ gi T i ∧ gi T i ≤ 1073741824) → TmOk T (i + 1) from fun h j hj => by
        by_cases e : j = i
        · subst e; exact h
        · exact OK.out j (by omega))
      clear OK kx E2 E0
      generalize gi T i = t at *
      by_cases c1 : t < 1
      · have e1 : decide (t < 1) = true := decide_eq_true c1
        have FF := Lib.hid (NO.out (by omega))
        clear NO OK2
        go_wp2_with fail
        go_ret
        exact ⟨2, rfl, FF.out, Below.refl _ _⟩
      have e1 : decide (t < 1) = false := decide_eq_false c1
      by_cases c2 : 1073741824 < t
      · have e2 : decide (1073741824 < t) = true := decide_eq_true c2
        have FF := Lib.hid (NO.out (by omega))
        clear NO OK2
        go_wp2_with fail
        go_ret
        exact ⟨2, rfl, FF.out, Below.refl _ _⟩
      have e2 : decide (1073741824 < t) = false := decide_eq_false c2
      have OK3 := Lib.hid (OK2.out (by omega))
      clear NO OK2
      go_wp2_with fail
      go_roundw
      case rel => exact ⟨i + 1, by omega, by go_num, OK3, by first | rfl | trivial⟩
      case measure => simp [intOf]; omega
    obtain rfl : i = n := by omega
    have FF := Lib.hid (E0.out n12' ⟨by omega, by omega⟩ OK.out)
    clear E2 E0 OK
    go_wp2_with fail
    go_ret
    exact ⟨0, rfl, FF.out, Below.refl _ _⟩

/-- What the reference's Share answers. -/
def RShQ (T : List Int) (m : Int) (w : World) (e : Ending) (w' : World) : Prop := ∃ x v L, e = .returned (.tuple #[v, .int .i64 L, .int .i64 x]) ∧ TErr T m x ∧ Below w.heap.size w w' ∧ (x ≠ 0 → v = .slice none 0 0 ∧ L = 0) ∧
  (x = 0 → ∃ b E, v = .slice (some ⟨b, 0, none⟩) T.length T.length ∧ NumR w' (some ⟨b, 0, none⟩) ((List.range T.length).map (nv E)) ∧ 0 ≤ L ∧ Sea.Fst L T.length m.toNat T (fun _ => (0, 0)) E ∧ ∀ k, 0 ≤ k → k < L → Sea.NoF k T.length m.toNat T (fun _ => (0, 0)))
/-- The greatest and the sum of the first i. -/
structure MxS (T : List Int) (i : Nat) (X S : Int) : Prop where
  up : ∀ j, j < i → gi T j ≤ X
  at_ : X = 0 ∨ ∃ j, j < i ∧ X = gi T j
  sum : S = Sea.sums (fun t => t) (T.take i)
  bd : 0 ≤ X ∧ X ≤ 1073741824 ∧ X ≤ S ∧ S ≤ i * 1073741824
theorem MxS.step {T : List Int} {i : Nat} {X S : Int} (h : MxS T i X S) (hi : i < T.length) (t : 1 ≤ gi T i ∧ gi T i ≤ 1073741824) : MxS T (i + 1) (if X < gi T i then gi T i else X) (S + gi T i) := by
  obtain ⟨b1, b2, b3, b4⟩ := h.bd
  refine ⟨fun j hj => ?_, ?_, ?_, ?_⟩
  · by_cases e : j = i
    · subst e; split <;> omega
    · have := h.up j (by omega); split <;> omega
  · split
    · exact .inr ⟨i, by omega, rfl⟩
    · rcases h.at_ with g | ⟨j, hj, g⟩
      · exact .inl g
      · exact .inr ⟨j, by omega, g⟩
  · rw [take_gi hi, Sea.sums_snoc, ← h.sum]
  · split <;> omega
/-- Where the search for the least cap stands. -/
structure BinS (T : List Int) (m : Nat) (lo hi : Int) : Prop where
  no : ∀ k, 0 ≤ k → k < lo → Sea.NoF k T.length m T (fun _ => (0, 0))
  yes : ¬ Sea.NoF hi T.length m T (fun _ => (0, 0))
  up : ThFit T lo T.length
theorem MxS.bin {T : List Int} {m : Nat} {X S : Int} (h : MxS T T.length X S) (m1 : 1 ≤ m) (ok : ∀ i, i < T.length → 1 ≤ gi T i ∧ gi T i ≤ 1073741824) : BinS T m X S := by
  have tp : ∀ t ∈ T, 0 ≤ t := fun t ht => by obtain ⟨i, hi, e⟩ := mem_gi ht; have := ok i hi; omega
  refine ⟨fun k k0 hk => ?_, Sea.fits_sum m1 tp (by rw [h.sum, List.take_length]; exact Int.le_refl _), fun i hi => h.up i hi⟩
  rcases h.at_ with g | ⟨j, hj, g⟩
  · omega
  · exact Sea.NoF.big tp (t := gi T j) (by
      rw [show gi T j = T[j] from by simp [gi, hj]]; exact List.getElem_mem _) (by omega)
theorem BinS.lower {T : List Int} {m : Nat} {lo hi mid : Int} {E : List Nat} (h : BinS T m lo hi) (f : Sea.Fst mid T.length m T (fun _ => (0, 0)) E) : BinS T m lo mid :=
  ⟨h.no, fun no => by obtain ⟨ok, ⟨s', f⟩, _⟩ := f; exact no E s' ok f, h.up⟩
theorem BinS.raise {T : List Int} {m : Nat} {lo hi mid : Int} (h : BinS T m lo hi) (le : lo ≤ mid) (f : Sea.NoF mid T.length m T (fun _ => (0, 0))) : BinS T m (mid + 1) hi :=
  ⟨fun k _ hk => f.less (by omega), h.yes, fun i hi => by have := h.up i hi; omega⟩

set_option maxRecDepth 100000 in
set_option maxHeartbeats 8000000 in
theorem rShare_any (p : Option Addr) (c : Nat) (T : List Int) (m : Int) (w : World) (r : NumR w p T) (ln : T.length ≤ 9223372036854775807) :
    Calls Try.prog 27 #[.slice p T.length c, .int .i64 m] w (RShQ T m w) := by
  have R := Lib.hid r
  have C0 := Lib.hid (rtimes_any p c T m w r ln)
  have C1 := Lib.hid (fun (M : Nat) cap W (st : Below w.heap.size w W) (n12 : T.length ≤ 12) (ok : TmOk T T.length) (fit : ThFit T cap T.length) (hM : M ≤ 12) (h : 0 ≤ cap ∧ cap ≤ 12884901888) => assign_any p c T M cap (T.length : Int) W (r.below st) n12 ok fit hM h ⟨by omega, by omega⟩)
  have QE := Lib.hid (show ∀ x w', TErr T m x → x ≠ 0 → Below w.heap.size w w' → RShQ T m w (.returned (.tuple #[.slice none 0 0, .int .i64 0, .int .i64 x])) w' from fun x w' h g B => ⟨x, _, 0, rfl, h, B, fun _ => ⟨rfl, rfl⟩, fun e => absurd e g⟩)
  obtain ⟨n, hn⟩ : ∃ n, n = T.length := ⟨_, rfl⟩
  have HN := Lib.hid hn
  rw [← hn] at C0 ln ⊢
  have C1 := Lib.hid (show ∀ (M : Nat) cap W, Below w.heap.size w W → T.length ≤ 12 → TmOk T T.length → ThFit T cap T.length → M ≤ 12 → (0 ≤ cap ∧ cap ≤ 12884901888) → Calls Try.prog 60 #[.slice p n c, .int .i64 M, .int .i64 cap, .int .i64 n] W (AsQ T M cap (T.length : Int) W) from by rw [hn]; exact C1.out)
  clear hn r
  go_enter Try.func27, Try.ntmps27
  go_wp2_with fail
  refine C0.out.mono ?_
  rintro e w1 ⟨x, rfl, te, st⟩
  have KB := Lib.hid st
  by_cases x0 : x = 0
  case neg =>
    have x1 : (x != 0) = true := by simpa using x0
    have FF := Lib.hid (QE.out x w1 te x0 st)
    clear x0 QE te st C0 C1
    go_wp2_with fail
    go_returns
    exact FF.out
  subst x0
  obtain ⟨n12, m1, m4, tok⟩ := te.good
  have TE := Lib.hid te
  have TOK := Lib.hid tok
  obtain ⟨M, rfl⟩ := Int.eq_ofNat_of_zero_le (show 0 ≤ m by omega)
  have D1 := Lib.hid (fun cap W st fit h => C1.out M cap W st n12 tok fit (by omega) h)
  rw [← HN.out] at n12
  clear te st C0 C1 QE tok
  go_wp2_with fail
  go_loopw [8, 9, 10] (fun xv sv kv wr => ∃ (i : Nat) (X S : Int), i ≤ n ∧ kv = .int .i64 i ∧ xv = .int .i64 X ∧ sv = .int .i64 S ∧ Hid (MxS T i X S) ∧ wr = w1) (fun _ _ kv _ => n - (intOf kv).toNat)
  case atStart => exact ⟨0, 0, 0, Nat.zero_le _, rfl, rfl, rfl, Lib.hid ⟨fun j hj => by omega, .inl rfl, by simp [Sea.sums], by omega⟩, rfl⟩
  case round =>
    obtain ⟨i, X, S, hi', rfl, rfl, rfl, MX, rfl⟩ := hrel
    by_cases t1 : i < n
    · have i1 : (0 : Int) ≤ (i : Int) := by omega
      have i2 : (i : Int) < (n : Int) := by omega
      obtain ⟨y, rfl, ky, cy⟩ := (R.out.below KB.out) i (by have := HN.out; omega)
      have tb := TOK.out i (by have := HN.out; omega)
      have MX2 := Lib.hid (MX.out.step (by have := HN.out; omega) tb)
      obtain ⟨b1, b2, b3, b4⟩ := MX.out.bd
      clear MX ky
      generalize gi T i = t at *
      have wx : IntKind.i64.wrap (S + t) = S + t := wI rfl (by omega) (by omega)
      go_upto_region 8 with fail
      go_cut [8] from 28 to 33 (fun v wx => v = .int .i64 (if X < t then t else X) ∧ wx = wr)
      case first =>
        by_cases g : X < t
        · have d3 : decide (X < t) = true := decide_eq_true g
          go_wp2_with fail
          go_meet
          exact ⟨by rw [if_pos g], by first | rfl | trivial⟩
        · have d3 : decide (X < t) = false := decide_eq_false g
          go_wp2_with fail
          go_meet
          exact ⟨by rw [if_neg (by omega)], by first | rfl | trivial⟩
      case rest =>
      obtain ⟨rfl, rfl⟩ := hcut
      generalize (if X < t then t else X) = X2 at *
      go_wp2_with fail
      go_roundw
      case rel => exact ⟨i + 1, X2, S + t, by omega, by go_num, by first | rfl | trivial, by first | rfl | trivial, MX2, by first | rfl | trivial⟩
      case measure => simp [intOf]; omega
    obtain rfl : i = n := by omega
    have BS0 := Lib.hid (show BinS T M X S from by
      have := MX.out
      rw [HN.out] at this
      exact this.bin (by omega) TOK.out)
    obtain ⟨b1, b2, b3, b4⟩ := MX.out.bd
    clear MX
    go_wp2_with fail
    go_loopw [8, 9] (fun lv hv wr => ∃ lo hi : Int, lv = .int .i64 lo ∧ hv = .int .i64 hi ∧ (0 ≤ lo ∧ lo ≤ hi ∧ hi ≤ 12884901888) ∧ Hid (BinS T M lo hi) ∧ Hid (Below w.heap.size w wr)) (fun lv hv _ => (intOf hv - intOf lv).toNat)
    case atStart => exact ⟨X, S, rfl, rfl, by omega, BS0, KB⟩
    case round =>
      clear BS0 KB
      obtain ⟨lo, hi, rfl, rfl, lb, BS, HB⟩ := hrel
      by_cases t1 : lo < hi
      · have d1 : decide (lo < hi) = true := decide_eq_true t1
        obtain ⟨mid, hmid⟩ : ∃ mid, mid = (lo + hi) / 2 := ⟨_, rfl⟩
        have mb : lo ≤ mid ∧ mid < hi := by omega
        have w1' : IntKind.i64.wrap (lo + hi) = lo + hi := wI rfl (by omega) (by omega)
        have w2' : (lo + hi).tdiv 2 = mid := by rw [hmid]; exact Int.tdiv_eq_ediv_of_nonneg (by omega)
        have w3' : (lo + hi) / 2 = mid := hmid.symm
        have w4' : IntKind.i64.wrap mid = mid := wI rfl (by omega) (by omega)
        have w5' : wrap64 mid = mid := IntWalk.wrap64_in _ (by omega)
        have w6' : IntKind.i64.wrap (mid + 1) = mid + 1 := wI rfl (by omega) (by omega)
        clear hmid
        go_wp2_with fail
        refine (D1.out mid _ HB.out (fun i hi => by have := BS.out.up i hi; omega) (by omega)).mono ?_
        rintro e w3 ⟨f, b, rfl, st, -, no, yes⟩
        have HB2 := Lib.hid (HB.out.trans (st.mono HB.out.size))
        rw [← HN.out]
        cases f with
        | true =>
          obtain ⟨E, fst, -⟩ := yes rfl
          have BS2 := Lib.hid (BS.out.lower fst)
          clear no yes st fst BS HB
          go_wp2_with fail
          go_roundw
          case rel => exact ⟨lo, mid, by first | rfl | trivial, by first | rfl | trivial, by omega, BS2, HB2⟩
          case measure => simp [intOf]; omega
        | false =>
          have BS2 := Lib.hid (BS.out.raise mb.1 (no rfl))
          clear no yes st BS HB
          go_wp2_with fail
          go_roundw
          case rel => exact ⟨mid + 1, hi, by first | rfl | trivial, by first | rfl | trivial, by omega, BS2, HB2⟩
          case measure => simp [intOf]; omega
      · obtain rfl : lo = hi := by omega
        have d1 : decide (lo < lo) = false := decide_eq_false t1
        clear t1
        go_wp2_with fail
        refine (D1.out lo _ HB.out BS.out.up (by omega)).mono ?_
        rintro e w3 ⟨f, b, rfl, st, lo', no, yes⟩
        have HB2 := Lib.hid (HB.out.trans (st.mono HB.out.size))
        obtain rfl : f = true := by
          cases f with
          | true => rfl
          | false => exact absurd (no rfl) BS.out.yes
        obtain ⟨E, fst, nr⟩ := yes rfl
        have FF := Lib.hid (show RShQ T M w (.returned (.tuple #[.slice (some ⟨b, 0, none⟩) T.length T.length, .int .i64 lo, .int .i64 0])) w3 from ⟨0, _, lo, rfl, TE.out, HB2.out, fun g => absurd rfl g, fun _ => ⟨b, E, rfl, nr, lb.1, by rw [Int.toNat_natCast]; exact fst, by rw [Int.toNat_natCast]; exact BS.out.no⟩⟩)
        rw [← HN.out] at FF ⊢
        clear no yes st fst nr BS HB lo'
        go_wp2_with fail
        go_returns
        exact FF.out
end Go.Proofs.Ythfnaegfjacjbaa

/- Press: the reference's Longest. -/
namespace Go.Proofs.Ythfnaegfjacjbaa
open Go.RowKit Go.Proofs.Ythfnaegfjacjbaa.Prs Go.Proofs.Ythfnaegfjacjbaa.Stb
set_option linter.unusedVariables false
set_option linter.unusedSimpArgs false

theorem boolInfoR : (Try.prog.info? 4).map (fun i => (i.zero, i.size, i.bytes)) = some (some (.bool false), 1, 1) := by kernel_rfl
theorem made_boolsR (n : Nat) : (madeCells (Value.bool false).cells (n * 1)).toList = (List.range n).map fun k => Value.bool ((fun _ => false) k) := by
  rw [Nat.mul_one, show (Value.bool false).cells = #[.bool false] from rfl, toList_madeCells_one]
  apply List.ext_getElem <;> simp
def updb (f : Nat → Bool) (k : Nat) (x : Bool) : Nat → Bool := fun i => if i = k then x else f i
/-- A row of marks as a whole block. -/
def BR (W : World) (g : Nat) (n : Nat) (f : Nat → Bool) : Prop := W.heap[g]? = some (.cells ((List.range n).map fun k => Value.bool (f k)).toArray 4 (0, 0))
section
variable {W W' : World} {g b n : Nat} {f : Nat → Bool}
theorem BR.cell (h : BR W g n f) {k : Nat} (hk : k < n) : W.cell? ⟨g, k, none⟩ = some (.bool (f k)) := by
  unfold BR at h
  simp [World.cell?, h, hk]
theorem BR.frozen (h : BR W g n f) (k : Nat) : W.frozen? ⟨g, k, none⟩ = false := by
  unfold BR at h
  simp [World.frozen?, h]
theorem BR.lt (h : BR W g n f) : g < W.heap.size := (Array.getElem?_eq_some_iff.1 h).1
theorem BR.ext {f' : Nat → Bool} (h : BR W g n f) (e : ∀ k, k < n → f k = f' k) : BR W g n f' := by
  have e : ((List.range n).map fun k => Value.bool (f k)) = (List.range n).map fun k => Value.bool (f' k) := List.map_congr_left fun k hk => by rw [e k (List.mem_range.1 hk)]
  unfold BR at *
  rw [← e]; exact h
theorem BR.set (h : BR W g n f) (k : Nat) (x : Bool) : BR (W.setCell ⟨g, k, none⟩ (.bool x)) g n (updb f k x) := by
  have := heap_setCell_same W g k _ _ (.bool x) h
  unfold BR
  rw [this]
  congr 2
  apply Array.ext'
  simp only [Array.toList_setIfInBounds]
  apply List.ext_getElem
  · simp
  · intro i h1 h2
    simp only [List.getElem_set, List.getElem_map, List.getElem_range, updb]
    by_cases c : k = i
    · subst c; simp
    · rw [if_neg c, if_neg (fun e => c e.symm)]
theorem BR.keep (h : BR W g n f) (e : W'.heap[g]? = W.heap[g]?) : BR W' g n f := e.trans h
theorem BR.of (h : W.ownsRow b 4 1 (.slice (some ⟨g, 0, none⟩) n n) n ((List.range n).map fun k => .bool (f k))) : BR W g n f := by
  rcases h.2 with ⟨e, _⟩ | ⟨g', cap, cur, e, _, hg, hn, _, hs, ht⟩
  · cases e
  · simp at e
    obtain ⟨rfl, rfl⟩ := e
    unfold BR
    rw [hg]
    congr 2
    apply Array.ext'
    rw [← ht]
    simp only [Nat.mul_one] at hs ⊢
    rw [List.take_of_length_le (by simp [hs])]
end
/-- The first k of an order are done. -/
def dn (o : Nat → Nat) (k i : Nat) : Bool := (List.range k).any fun j => o j == i
theorem dn_t {o : Nat → Nat} {k i : Nat} : dn o k i = true ↔ ∃ j, j < k ∧ o j = i := by
  unfold dn
  simp
theorem dn_f {o : Nat → Nat} {k i : Nat} : dn o k i = false ↔ ∀ j, j < k → o j ≠ i := by
  cases h : dn o k i with
  | true =>
    obtain ⟨j, hj, e⟩ := dn_t.1 h
    exact ⟨fun g => (by cases g), fun g => absurd e (g j hj)⟩
  | false => exact ⟨fun _ j hj e => (by rw [dn_t.2 ⟨j, hj, e⟩] at h; cases h), fun _ => rfl⟩
theorem dn_succ (o : Nat → Nat) (k i : Nat) : dn o (k + 1) i = updb (dn o k) (o k) true i := by
  unfold updb
  split
  · next e => exact dn_t.2 ⟨k, by omega, e.symm⟩
  · next e =>
    cases h : dn o k i with
    | true => obtain ⟨j, hj, f⟩ := dn_t.1 h; exact dn_t.2 ⟨j, by omega, f⟩
    | false =>
      refine dn_f.2 fun j hj f => ?_
      by_cases g : j = k
      · subst g; exact e f.symm
      · exact dn_f.1 h j (by omega) f
/-- What the look for the longest that is left has found below i. -/
def Lk (T : List Int) (o : Nat → Nat) (k i : Nat) (c : Int) : Prop := (c = -1 ∧ ∀ j, j < i → dn o k j = true) ∨ ∃ x : Nat, c = x ∧ x < i ∧ dn o k x = false ∧ ∀ j, j < i → dn o k j = false → gi T j < gi T x ∨ (gi T j = gi T x ∧ x ≤ j)
theorem Lk.zero (T : List Int) (o : Nat → Nat) (k : Nat) : Lk T o k 0 (-1) := .inl ⟨rfl, fun j hj => by omega⟩
theorem Lk.done {T : List Int} {o : Nat → Nat} {k i : Nat} {c : Int} (h : Lk T o k i c) (d : dn o k i = true) : Lk T o k (i + 1) c := by
  rcases h with ⟨e, h⟩ | ⟨x, e, h1, h2, h3⟩
  · exact .inl ⟨e, fun j hj => by
      by_cases g : j = i
      · rw [g]; exact d
      · exact h j (by omega)⟩
  · exact .inr ⟨x, e, by omega, h2, fun j hj hd => by
      by_cases g : j = i
      · rw [g, d] at hd; cases hd
      · exact h3 j (by omega) hd⟩
theorem Lk.first {T : List Int} {o : Nat → Nat} {k i : Nat} (h : Lk T o k i (-1)) (d : dn o k i = false) : Lk T o k (i + 1) i := by
  rcases h with ⟨e, h⟩ | ⟨x, e, h1, h2, h3⟩
  · exact .inr ⟨i, rfl, by omega, d, fun j hj hd => by
      by_cases g : j = i
      · rw [g]; omega
      · rw [h j (by omega)] at hd; cases hd⟩
  · omega
theorem Lk.more {T : List Int} {o : Nat → Nat} {k i x : Nat} (h : Lk T o k i x) (d : dn o k i = false) (g : gi T x < gi T i) : Lk T o k (i + 1) i := by
  rcases h with ⟨e, h⟩ | ⟨y, e, h1, h2, h3⟩
  · omega
  · obtain rfl : x = y := by omega
    exact .inr ⟨i, rfl, by omega, d, fun j hj hd => by
      by_cases q : j = i
      · rw [q]; omega
      · have := h3 j (by omega) hd; omega⟩
theorem Lk.less {T : List Int} {o : Nat → Nat} {k i x : Nat} (h : Lk T o k i x) (g : ¬ gi T x < gi T i) : Lk T o k (i + 1) x := by
  rcases h with ⟨e, h⟩ | ⟨y, e, h1, h2, h3⟩
  · omega
  · obtain rfl : x = y := by omega
    exact .inr ⟨x, rfl, by omega, h2, fun j hj hd => by
      by_cases q : j = i
      · rw [q]; omega
      · exact h3 j (by omega) hd⟩
theorem Lk.is {T : List Int} {o : Nat → Nat} {k : Nat} {c : Int} (h : Lk T o k T.length c) (ord : Ord T.length o) (srt : ∀ i j, i < j → j < T.length → gi T (o j) < gi T (o i) ∨ (gi T (o j) = gi T (o i) ∧ o i < o j)) (hk : k < T.length) : c = (o k : Nat) := by
  have nd : dn o k (o k) = false := dn_f.2 fun j hj e => by have := ord.inj j k (by omega) hk e; omega
  rcases h with ⟨_, h⟩ | ⟨x, e, h1, h2, h3⟩
  · rw [h (o k) (ord.lt k hk)] at nd; cases nd
  · obtain ⟨p, hp, ep⟩ := ord.onto x h1
    have l := h3 (o k) (ord.lt k hk) nd
    have pk : k ≤ p := by
      apply Classical.byContradiction; intro g
      exact dn_f.1 h2 p (by omega) ep
    by_cases q : p = k
    · subst q; rw [e, ← ep]
    · have := srt k p (by omega) hp
      rw [ep] at this
      omega
/-- The least loaded of the first j presses. -/
def Ls (F : Nat → Int) (j b : Nat) : Prop := b < j ∧ (∀ c, c < j → F b ≤ F c) ∧ ∀ c, c < b → F b < F c
theorem Ls.one (F : Nat → Int) : Ls F 1 0 := ⟨by omega, fun c hc => by rw [show c = 0 by omega]; exact Int.le_refl _, fun c hc => by omega⟩
theorem Ls.less {F : Nat → Int} {j b : Nat} (h : Ls F j b) (g : F j < F b) : Ls F (j + 1) j := by
  obtain ⟨h1, h2, h3⟩ := h
  refine ⟨by omega, fun c hc => ?_, fun c hc => ?_⟩
  · by_cases e : c = j
    · rw [e]; exact Int.le_refl _
    · have := h2 c (by omega); omega
  · have := h2 c hc; omega
theorem Ls.more {F : Nat → Int} {j b : Nat} (h : Ls F j b) (g : ¬ F j < F b) : Ls F (j + 1) b := by
  obtain ⟨h1, h2, h3⟩ := h
  refine ⟨by omega, fun c hc => ?_, h3⟩
  by_cases e : c = j
  · rw [e]; omega
  · exact h2 c (by omega)
theorem Ls.is {F : Nat → Int} {m b a : Nat} (h : Ls F m b) (l : a < m) (g1 : ∀ c, c < m → F a ≤ F c) (g2 : ∀ c, c < a → F a < F c) : b = a := by
  obtain ⟨h1, h2, h3⟩ := h
  have := h2 a l
  have := g1 b h1
  by_cases x : b < a
  · have := g2 b x; omega
  · by_cases y : a < b
    · have := h3 a y; omega
    · omega
/-- What the reference's Longest answers, the program's assignment at hand. -/
def RLoQ (T : List Int) (A : List Nat) (g : Int) (w : World) (e : Ending) (w' : World) : Prop := ∃ b, e = .returned (.tuple #[.slice (some ⟨b, 0, none⟩) T.length T.length, .int .i64 g, .int .i64 0]) ∧ NumR w' (some ⟨b, 0, none⟩) ((List.range T.length).map (nv A)) ∧ Below w.heap.size w w'
/-- Two rows of ints made in any order. -/
structure Mk3 (w wx : World) (n m ra rs : Nat) : Prop where
  i1 : IR wx ra 3 n (fun _ => 0)
  i2 : IR wx rs 3 m (fun _ => 0)
  st : Below w.heap.size w wx
  lo : w.heap.size ≤ ra ∧ w.heap.size ≤ rs
  ne : ra ≠ rs
theorem Mk3.of {w wx : World} {n m ra rs : Nat} (i1 : wx.heap[ra]? = some (.cells (madeCells #[Value.int .i64 0] n) 3)) (i2 : wx.heap[rs]? = some (.cells (madeCells #[Value.int .i64 0] m) 3)) (st : Below w.heap.size w wx) (lo : w.heap.size ≤ ra ∧ w.heap.size ≤ rs) (ne : ra ≠ rs) : Mk3 w wx n m ra rs := by
  have mk := fun k => made_ints k
  simp only [Nat.mul_one, show (Value.int .i64 0).cells = #[.int .i64 0] from rfl] at mk
  exact ⟨by unfold IR; rw [i1, ← mk n], by unfold IR; rw [i2, ← mk m], st, lo, ne⟩
theorem two_madeR (w : World) (o1 o2 : Obj) : ((w.alloc o1).alloc o2).heap[w.heap.size]? = some o1 ∧ ((w.alloc o1).alloc o2).heap[w.heap.size + 1]? = some o2 ∧ Below w.heap.size w ((w.alloc o1).alloc o2) :=
  ⟨heap_alloc2_old w _ _, heap_alloc2_new w _ _, ((Below.refl _ w).alloc (Nat.le_refl _) _).alloc (by simp) _⟩
/-- The memory of the reference's Longest behind k works. -/
structure LM (T : List Int) (m : Nat) (A : List Nat) (o a : Nat → Nat) (ra rs rd k : Nat) (W : World) : Prop where
  xa : IR W ra 3 T.length (fun i => if dn o k i then nv A i else 0)
  xs : IR W rs 3 m (fun b => Sea.ldf a (fun i => gi T (o i)) k b)
  xd : BR W rd T.length (dn o k)
theorem LM.call {T : List Int} {m : Nat} {A : List Nat} {o a : Nat → Nat} {ra rs rd k : Nat} {W W' : World} (h : LM T m A o a ra rs rd k W) (f : Below W.heap.size W W') : LM T m A o a ra rs rd k W' :=
  ⟨h.xa.keep (f.block _ h.xa.lt), h.xs.keep (f.block _ h.xs.lt), h.xd.keep (f.block _ h.xd.lt)⟩

set_option maxRecDepth 100000 in
set_option maxHeartbeats 16000000 in
theorem rLongest_any (p : Option Addr) (c : Nat) (T : List Int) (M : Nat) (A : List Nat) (g : Int) (o a : Nat → Nat) (w : World) (r : NumR w p T) (te : TErr T M 0) (la : LoA T M A g o a) :
    Calls Try.prog 29 #[.slice p T.length c, .int .i64 M] w (RLoQ T A g w) := by
  obtain ⟨i0, hi, hz0, hz1, hz2⟩ := info_parts intInfo
  obtain ⟨j0, hj, hy0, hy1, hy2⟩ := info_parts boolInfoR
  obtain ⟨n12, m1, m4, tok⟩ := te.good
  have R := Lib.hid r
  have TE := Lib.hid te
  have TOK := Lib.hid tok
  have LA := Lib.hid la
  have C0 := Lib.hid (rtimes_any p c T M w r (by omega))
  obtain ⟨n, hn⟩ : ∃ n, n = T.length := ⟨_, rfl⟩
  have HN := Lib.hid hn
  rw [← hn] at C0 n12 ⊢
  clear hn r tok te la
  go_enter Try.func29, Try.ntmps29
  go_wp2_with fail
  refine C0.out.mono ?_
  rintro e w1 ⟨x, rfl, te, st⟩
  obtain rfl : x = 0 := TErr.fn te TE.out
  have KB := Lib.hid st
  clear te st C0
  go_upto_region 4 with fail
  go_cut [8, 9] from 23 to 27 (fun v1 v2 wx => ∃ ra rs, v1 = .slice (some ⟨ra, 0, none⟩) n n ∧ v2 = .slice (some ⟨rs, 0, none⟩) M M ∧ Hid (Mk3 w1 wx n M ra rs))
  case first =>
    have MK : ∀ (k : Nat), k ≤ 12 → ∀ W : World, (Instr.makeSlice 23 (.int .i64 (k : Int)) (.int .i64 (k : Int))).run Try.prog W = .ok (.slice (some ⟨W.heap.size, 0, none⟩) k k) (W.alloc (.cells (madeCells (Value.int .i64 0).cells (k * 1)) 3)) := fun k hk W => by
      have := run_make (P := Try.prog) W 23 3 i0 (.int .i64 0) Try.underlying23 hi hz0 .i64 .i64 k k (by omega) (Int.le_refl _) (by rw [hz2]; omega) (by omega)
      rw [hz1] at this
      simpa using this
    have MK1 := MK n n12
    have MK2 := MK M (by omega)
    clear MK
    go_region_held3 (fun _ => True) (trivial) (fail)
    all_goals
      go_wp2_with fail
      go_meet
      refine' ⟨_, _, rfl, rfl, Lib.hid (Mk3.of ?i1 ?i2 ?st ?lo ?ne)⟩
      case i1 => first | exact (two_madeR _ _ _).1 | exact (two_madeR _ _ _).2.1
      case i2 => first | exact (two_madeR _ _ _).1 | exact (two_madeR _ _ _).2.1
      case st => first | exact (two_madeR _ _ _).2.2 | exact (two_madeR _ _ _).2.2.drew | exact below_drewN (two_madeR _ _ _).2.2 _
      case lo => omega
      case ne => omega
  case rest =>
  obtain ⟨ra, rs, rfl, rfl, M3⟩ := hcut
  go_upto_region 6 with (first
    | (at_make; refine wpList_make_full _ rfl _ _ 46 rfl wc.heap.size 4 j0 (.bool false) 1 Try.underlying46 hj hy0 hy1 .i64 .i64 _ _ n rfl rfl (by omega) (by omega) (by rw [hy2]; omega) (by unfold maxLen; omega) (Nat.le_refl _) ?_; intro w2 hown0 hgrow0))
  rw [made_boolsR] at hown0
  have I2 := Lib.hid (BR.of hown0)
  have B2 := Lib.hid (show Below wc.heap.size wc w2 from (Below.refl _ _).grown hgrow0 (Nat.le_refl _) (fun k e => by cases e))
  clear hown0 hgrow0
  obtain ⟨rd, hrd⟩ : ∃ b, b = wc.heap.size := ⟨_, rfl⟩
  rw [← hrd] at I2 ⊢
  have NE := Lib.hid (show (ra ≠ rs ∧ ra ≠ rd ∧ rs ≠ rd) ∧ w.heap.size ≤ ra ∧ w.heap.size ≤ rs ∧ w.heap.size ≤ rd from by
    have h1 := M3.out.i1.lt
    have h2 := M3.out.i2.lt
    have h3 := M3.out.lo
    have h4 := M3.out.ne
    have h5 := KB.out.size
    omega)
  have LM0 := Lib.hid (show LM T M A o a ra rs rd 0 w2 from ⟨by
    rw [← HN.out]
    exact (M3.out.i1.keep (B2.out.block _ M3.out.i1.lt)).ext fun k _ => by
      rw [show dn o 0 k = false from dn_f.2 fun j hj => by omega]; rfl, (M3.out.i2.keep (B2.out.block _ M3.out.i2.lt)).ext fun b _ => rfl, by
    rw [← HN.out]
    exact I2.out.ext fun k _ => (dn_f.2 fun j hj => by omega).symm⟩)
  have KB2 := Lib.hid (show Below w.heap.size w w2 from (KB.out.trans (M3.out.st.mono KB.out.size)).trans (B2.out.mono (by have := M3.out.st.size; have := KB.out.size; omega)))
  clear hrd M3 I2 B2 KB
  go_wp2_with fail
  go_loopw [11, 12] (fun zv kv wr => ∃ k : Nat, k ≤ n ∧ kv = .int .i64 k ∧ zv = .int .i64 (Sea.mx (fun b => Sea.ldf a (fun i => gi T (o i)) k b) M) ∧ Hid (LM T M A o a ra rs rd k wr) ∧ Hid (Below w.heap.size w wr)) (fun _ kv _ => n - (intOf kv).toNat)
  case atStart => exact ⟨0, Nat.zero_le _, rfl, by
    rw [show Sea.mx (fun b => Sea.ldf a (fun i => gi T (o i)) 0 b) M = 0 from Int.le_antisymm (Sea.mx_le.2 ⟨Int.le_refl _, fun _ _ => Int.le_refl _⟩) (Sea.mx_nonneg _ _)], LM0, KB2⟩
  case round =>
    clear LM0 KB2
    obtain ⟨k, hk', rfl, rfl, ML, HB⟩ := hrel
    obtain ⟨Z, hZ⟩ : ∃ Z, Z = Sea.mx (fun b => Sea.ldf a (fun i => gi T (o i)) k b) M := ⟨_, rfl⟩
    rw [← hZ]
    have HZ := Lib.hid hZ
    clear hZ
    by_cases t1 : k < n
    case neg =>
      obtain rfl : k = n := by omega
      have FF := Lib.hid (show ∀ v, RLoQ T A g w (.returned (.tuple #[.slice (some ⟨ra, 0, none⟩) k k, .int .i64 Z, .int .i64 0])) (wr.drewN v) from fun v => by
        have e : Z = g := by rw [HZ.out, HN.out]; exact LA.out.fin_.symm
        rw [e, HN.out]
        refine ⟨ra, rfl, (show IR (wr.drewN v) ra 3 T.length (nv A) from ML.out.xa.ext fun i hi => ?_).num (Nat.le_refl _), below_drewN HB.out _⟩
        rw [HN.out]
        obtain ⟨j, hj, e⟩ := LA.out.ord.onto i hi
        rw [dn_t.2 ⟨j, hj, e⟩]; rfl)
      clear ML HZ
      go_wp2_with fail
      go_returns
      first | exact FF.out 0 | exact FF.out _
    have k1 : (0 : Int) ≤ (k : Int) := by omega
    have k2 : (k : Int) < (n : Int) := by omega
    obtain ⟨F, hF⟩ : ∃ F : Nat → Int, F = fun b => Sea.ldf a (fun i => gi T (o i)) k b := ⟨_, rfl⟩
    have HF := Lib.hid hF
    clear hF
    go_wp2_with fail
    go_loopw [13, 14] (fun cv iv wx => ∃ (i : Nat) (c1 : Int), i ≤ n ∧ iv = .int .i64 i ∧ cv = .int .i64 c1 ∧ Hid (Lk T o k i c1) ∧ Hid (LM T M A o a ra rs rd k wx) ∧ Hid (Below w.heap.size w wx)) (fun _ iv _ => n - (intOf iv).toNat)
    case atStart => exact ⟨0, -1, Nat.zero_le _, rfl, rfl, Lib.hid (Lk.zero T o k), ML, HB⟩
    case round =>
      clear ML HB
      obtain ⟨i, c1, hi', rfl, rfl, LK, ML, HB⟩ := hrel
      by_cases t2 : i < n
      · have i1 : (0 : Int) ≤ (i : Int) := by omega
        have i2 : (i : Int) < (n : Int) := by omega
        have cd := ML.out.xd.cell (k := i) (by have := HN.out; omega)
        cases hd : dn o k i with
        | true =>
          rw [hd] at cd
          have LK2 := Lib.hid (LK.out.done hd)
          clear LK hd
          go_upto_region 14 with fail
          go_quiet (fail)
          go_wp2_with fail
          go_roundw
          case rel => exact ⟨i + 1, c1, by omega, by go_num, by first | rfl | trivial, LK2, Lib.hid (ML.out.call (below_drewN (Below.refl _ _) _)), Lib.hid (below_drewN HB.out _)⟩
          case measure => simp [intOf]; omega
        | false =>
          rw [hd] at cd
          by_cases c0 : c1 < 0
          · have d1 : decide (c1 < 0) = true := decide_eq_true c0
            obtain rfl : c1 = -1 := by
              rcases LK.out with ⟨e, _⟩ | ⟨x, e, _⟩
              · exact e
              · omega
            have LK2 := Lib.hid (LK.out.first hd)
            clear LK hd c0
            go_upto_region 14 with fail
            go_quiet (fail)
            go_wp2_with fail
            go_roundw
            case rel => exact ⟨i + 1, i, by omega, by go_num, by first | rfl | trivial, LK2, Lib.hid (ML.out.call (below_drewN (Below.refl _ _) _)), Lib.hid (below_drewN HB.out _)⟩
            case measure => simp [intOf]; omega
          · have d1 : decide (c1 < 0) = false := decide_eq_false c0
            obtain ⟨x, rfl, xi⟩ : ∃ x : Nat, c1 = x ∧ x < i := by
              rcases LK.out with ⟨e, _⟩ | ⟨x, e, h, _⟩
              · omega
              · exact ⟨x, e, h⟩
            have x1 : (0 : Int) ≤ (x : Int) := by omega
            have x2 : (x : Int) < (n : Int) := by omega
            obtain ⟨y, rfl, ky, cy⟩ := (R.out.below HB.out) i (by have := HN.out; omega)
            obtain ⟨y', ey, ky', cx⟩ := (R.out.below HB.out) x (by have := HN.out; omega)
            cases ey
            clear ky ky'
            by_cases gr : gi T x < gi T i
            · have d2 : decide (gi T x < gi T i) = true := decide_eq_true gr
              have LK2 := Lib.hid (LK.out.more hd gr)
              clear LK hd gr
              generalize gi T i = t at *
              generalize gi T x = t' at *
              go_upto_region 14 with fail
              go_quiet (fail)
              go_wp2_with fail
              go_roundw
              case rel => exact ⟨i + 1, i, by omega, by go_num, by first | rfl | trivial, LK2, Lib.hid (ML.out.call (below_drewN (Below.refl _ _) _)), Lib.hid (below_drewN HB.out _)⟩
              case measure => simp [intOf]; omega
            · have d2 : decide (gi T x < gi T i) = false := decide_eq_false gr
              have LK2 := Lib.hid (LK.out.less gr)
              clear LK hd gr
              generalize gi T i = t at *
              generalize gi T x = t' at *
              go_upto_region 14 with fail
              go_quiet (fail)
              go_wp2_with fail
              go_roundw
              case rel => exact ⟨i + 1, x, by omega, by go_num, by first | rfl | trivial, LK2, Lib.hid (ML.out.call (below_drewN (Below.refl _ _) _)), Lib.hid (below_drewN HB.out _)⟩
              case measure => simp [intOf]; omega
      obtain rfl : i = n := by omega
      have ok := LA.out.ord.lt k (by have := HN.out; omega)
      have ce : c1 = (o k : Nat) := by
        have := LK.out
        rw [HN.out] at this
        exact this.is LA.out.ord LA.out.srt (by have := HN.out; omega)
      obtain ⟨x, hx⟩ : ∃ x, x = o k := ⟨_, rfl⟩
      rw [← hx] at ok ce
      have HX := Lib.hid hx
      obtain rfl := ce
      have xn : x < i := by have := HN.out; omega
      clear LK hx ok
      go_wp2_with fail
      go_loopw [15, 16] (fun bv jv wy => ∃ (j b : Nat), 1 ≤ j ∧ j ≤ M ∧ jv = .int .i64 j ∧ bv = .int .i64 b ∧ Hid (Ls F j b) ∧ Hid (LM T M A o a ra rs rd k wy) ∧ Hid (Below w.heap.size w wy)) (fun _ jv _ => M - (intOf jv).toNat)
      case atStart => exact ⟨1, 0, by omega, by omega, rfl, rfl, Lib.hid (Ls.one F), ML, HB⟩
      case round =>
        clear ML HB
        obtain ⟨j, b, hj1, hjM, rfl, rfl, LS, ML, HB⟩ := hrel
        have bj := LS.out.1
        by_cases t3 : j < M
        · have j1 : (0 : Int) ≤ (j : Int) := by omega
          have j2 : (j : Int) < (M : Int) := by omega
          have b1 : (0 : Int) ≤ (b : Int) := by omega
          have b2 : (b : Int) < (M : Int) := by omega
          have cj := ML.out.xs.cell t3
          have cb := ML.out.xs.cell (k := b) (by omega)
          have LSL := Lib.hid (show Sea.ldf a (fun i => gi T (o i)) k j < Sea.ldf a (fun i => gi T (o i)) k b → Ls F (j + 1) j from fun h => LS.out.less (by rw [HF.out]; exact h))
          have LSM := Lib.hid (show ¬ Sea.ldf a (fun i => gi T (o i)) k j < Sea.ldf a (fun i => gi T (o i)) k b → Ls F (j + 1) b from fun h => LS.out.more (by rw [HF.out]; exact h))
          clear LS
          generalize Sea.ldf a (fun i => gi T (o i)) k j = u at *
          generalize Sea.ldf a (fun i => gi T (o i)) k b = v at *
          by_cases uv : u < v
          · have d1 : decide (u < v) = true := decide_eq_true uv
            have LS2 := Lib.hid (LSL.out uv)
            clear LSL LSM uv
            go_upto_region 20 with fail
            go_quiet (fail)
            go_wp2_with fail
            go_roundw
            case rel => exact ⟨j + 1, j, by omega, by omega, by go_num, by first | rfl | trivial, LS2, Lib.hid (ML.out.call (below_drewN (Below.refl _ _) _)), Lib.hid (below_drewN HB.out _)⟩
            case measure => simp [intOf]; omega
          · have d1 : decide (u < v) = false := decide_eq_false uv
            have LS2 := Lib.hid (LSM.out uv)
            clear LSL LSM uv
            go_upto_region 20 with fail
            go_quiet (fail)
            go_wp2_with fail
            go_roundw
            case rel => exact ⟨j + 1, b, by omega, by omega, by go_num, by first | rfl | trivial, LS2, Lib.hid (ML.out.call (below_drewN (Below.refl _ _) _)), Lib.hid (below_drewN HB.out _)⟩
            case measure => simp [intOf]; omega
        obtain rfl : j = M := by omega
        have be : b = a k := by
          have := LS.out
          rw [HF.out] at this
          exact this.is (LA.out.lt k (by have := HN.out; omega)) (LA.out.min k (by have := HN.out; omega)) (LA.out.first k (by have := HN.out; omega))
        have BE := Lib.hid be
        have x1 : (0 : Int) ≤ (x : Int) := by omega
        have x2 : (x : Int) < (i : Int) := by omega
        have b1 : (0 : Int) ≤ (b : Int) := by omega
        have b2 : (b : Int) < (j : Int) := by omega
        have x3 : (x : Int).toNat = x := by omega
        have cd := ML.out.xd.cell (k := x) (by have := HN.out; omega)
        have fd := ML.out.xd.frozen x
        have XS1 := Lib.hid (show IR (wr.setCell ⟨rd, x, none⟩ (.bool true)) rs 3 j (fun b => Sea.ldf a (fun i => gi T (o i)) k b) from ML.out.xs.keep (Below.heap_setCell _ _ _ _ NE.out.1.2.2))
        have XD1 := Lib.hid (show BR (wr.setCell ⟨rd, x, none⟩ (.bool true)) rd T.length (dn o (k + 1)) from (ML.out.xd.set x true).ext fun i _ => by rw [dn_succ, HX.out])
        have XA1 := Lib.hid (show IR (wr.setCell ⟨rd, x, none⟩ (.bool true)) ra 3 T.length (fun i => if dn o k i then nv A i else 0) from ML.out.xa.keep (Below.heap_setCell _ _ _ _ NE.out.1.2.1))
        have HB1 := Lib.hid (show Below w.heap.size w (wr.setCell ⟨rd, x, none⟩ (.bool true)) from HB.out.setCell NE.out.2.2.2 _)
        clear LS ML HB be HF
        generalize dn o k x = z2 at cd
        go_upto_region 23 with fail
        clear cd fd
        generalize wr.setCell ⟨rd, x, none⟩ (.bool true) = w2 at *
        have ca := XA1.out.cell (k := x) (by have := HN.out; omega)
        have fa := XA1.out.frozen x
        have XS := Lib.hid (show IR (w2.setCell ⟨ra, x, none⟩ (.int .i64 b)) rs 3 j (fun b => Sea.ldf a (fun i => gi T (o i)) k b) from
          XS1.out.keep (Below.heap_setCell _ _ _ _ (Ne.symm NE.out.1.1)))
        have XD := Lib.hid (show BR (w2.setCell ⟨ra, x, none⟩ (.int .i64 b)) rd T.length (dn o (k + 1)) from
          XD1.out.keep (Below.heap_setCell _ _ _ _ (Ne.symm NE.out.1.2.1)))
        have XA := Lib.hid (show IR (w2.setCell ⟨ra, x, none⟩ (.int .i64 b)) ra 3 T.length (fun i => if dn o (k + 1) i then nv A i else 0) from
          (XA1.out.set x b).ext fun i _ => by
            rw [dn_succ, ← HX.out]
            unfold upd updb
            by_cases e : i = x
            · rw [if_pos e, if_pos e, e, HX.out]
              show _ = nv A (o k)
              unfold nv
              rw [LA.out.at_ k (by have := HN.out; omega), BE.out]
            · rw [if_neg e, if_neg e])
        have HB2 := Lib.hid (show Below w.heap.size w (w2.setCell ⟨ra, x, none⟩ (.int .i64 b)) from HB1.out.setCell NE.out.2.1 _)
        clear XS1 XD1 XA1 HB1
        generalize (if dn o k x = true then nv A x else (0 : Int)) = z1 at *
        go_upto_region 24 with fail
        clear ca fa
        generalize w2.setCell ⟨ra, x, none⟩ (.int .i64 b) = w3 at *
        have cs := XS.out.cell (k := b) (by omega)
        have fs := XS.out.frozen b
        obtain ⟨y, rfl, ky, cy⟩ := (R.out.below HB2.out) x (by have := HN.out; omega)
        obtain ⟨t, ht⟩ : ∃ t, t = gi T x := ⟨_, rfl⟩
        have tb := TOK.out x (by have := HN.out; omega)
        rw [← ht] at cy tb
        have bd := ldf_bd (T := T) (a := a) (b := b) (k := k) TOK.out LA.out.ord (by have := HN.out; omega)
        obtain ⟨S0, hS0⟩ : ∃ S0, S0 = Sea.ldf a (fun i => gi T (o i)) k b := ⟨_, rfl⟩
        rw [← hS0] at cs bd
        have SE := Lib.hid (show ∀ c, Sea.ldf a (fun i => gi T (o i)) (k + 1) c = upd (fun b => Sea.ldf a (fun i => gi T (o i)) k b) b (S0 + t) c from fun c => by
          rw [Sea.ldf_succ, ← BE.out, ← HX.out, ← ht]
          unfold upd
          by_cases e : c = b
          · subst e; rw [if_pos rfl, if_pos rfl, hS0]
          · rw [if_neg e, if_neg (fun g => e g.symm)]; exact Int.add_zero _)
        have MXN := Lib.hid (show Sea.mx (fun b => Sea.ldf a (fun i => gi T (o i)) (k + 1) b) j = max Z (S0 + t) from by
          rw [HZ.out, Sea.mx_congr (r := upd (fun b => Sea.ldf a (fun i => gi T (o i)) k b) b (S0 + t)) (fun c _ => SE.out c)]
          exact Sea.mx_up (by omega) (by rw [← hS0]; omega))
        have XS2 := Lib.hid (show IR (w3.setCell ⟨rs, b, none⟩ (.int .i64 (S0 + t))) rs 3 j (fun b => Sea.ldf a (fun i => gi T (o i)) (k + 1) b) from (XS.out.set b _).ext fun c _ => (SE.out c).symm)
        have LM2 := Lib.hid (show LM T j A o a ra rs rd (k + 1) (w3.setCell ⟨rs, b, none⟩ (.int .i64 (S0 + t))) from ⟨XA.out.keep (Below.heap_setCell _ _ _ _ NE.out.1.1), XS2.out, XD.out.keep (Below.heap_setCell _ _ _ _ (Ne.symm NE.out.1.2.2))⟩)
        have HB3 := Lib.hid (show Below w.heap.size w (w3.setCell ⟨rs, b, none⟩ (.int .i64 (S0 + t))) from HB2.out.setCell NE.out.2.2.1 _)
        have C4 := Lib.hid (show Sea.ldf a (fun i => gi T (o i)) (k + 1) b = S0 + t from by rw [SE.out]; exact if_pos rfl)
        have wy : IntKind.i64.wrap (S0 + t) = S0 + t := wI rfl (by omega) (by omega)
        clear XS XD XA HB2 XS2 SE hS0 ht ky tb HX BE HZ bd
        obtain ⟨PL, hPL⟩ : ∃ PL : World → Prop, PL = LM T j A o a ra rs rd (k + 1) := ⟨_, rfl⟩
        have HPL := Lib.hid hPL
        clear hPL
        go_cut [] from 86 to 94 (fun wx => Hid (PL wx) ∧ Hid (Below w.heap.size w wx))
        case first =>
          go_region_law (fail)
          all_goals
            go_wp2_with fail
            go_meet
            exact ⟨(by rw [HPL.out]; first | exact LM2 | exact Lib.hid (LM2.out.call ((Below.refl _ _).drew)) | exact Lib.hid (LM2.out.call (below_drewN (Below.refl _ _) _))), (by first | exact HB3 | exact Lib.hid HB3.out.drew | exact Lib.hid (below_drewN HB3.out _))⟩
        case rest =>
        obtain ⟨LM4, HB4⟩ := hcut
        rw [HPL.out] at LM4
        clear LM2 HB3 cs fs cy wy
        have cs := LM4.out.xs.cell (k := b) (by omega)
        rw [C4.out] at cs
        by_cases gg : Z < S0 + t
        · have d3 : decide (Z < S0 + t) = true := decide_eq_true gg
          rw [show max Z (S0 + t) = S0 + t from by omega] at MXN
          have GG := Lib.hid gg
          clear C4 gg
          go_wp2_with fail
          go_roundw
          case rel => exact ⟨k + 1, by omega, by go_num, by first | rw [MXN.out, if_pos GG.out] | rw [MXN.out, if_neg GG.out] | rw [MXN.out], LM4, HB4⟩
          case measure => simp [intOf]; omega
        · have d3 : decide (Z < S0 + t) = false := decide_eq_false gg
          rw [show max Z (S0 + t) = Z from by omega] at MXN
          have GG := Lib.hid gg
          clear C4 gg
          go_wp2_with fail
          go_roundw
          case rel => exact ⟨k + 1, by omega, by go_num, by first | rw [MXN.out, if_pos GG.out] | rw [MXN.out, if_neg GG.out] | rw [MXN.out], LM4, HB4⟩
          case measure => simp [intOf]; omega
end Go.Proofs.Ythfnaegfjacjbaa

/- The law PressShares: its walk. -/
namespace Go.Proofs.Ythfnaegfjacjbaa
open Go.RowKit Go.Proofs.Ythfnaegfjacjbaa.Prs Go.Proofs.Ythfnaegfjacjbaa.Stb
set_option linter.unusedVariables false
set_option linter.unusedSimpArgs false

set_option maxRecDepth 100000 in
set_option maxHeartbeats 8000000 in
theorem rLongest_err (p : Option Addr) (c : Nat) (T : List Int) (m x : Int) (w : World) (r : NumR w p T) (ln : T.length ≤ 9223372036854775807) (te : TErr T m x) (x0 : x ≠ 0) :
    Calls Try.prog 29 #[.slice p T.length c, .int .i64 m] w fun e w' => e = .returned (.tuple #[.slice none 0 0, .int .i64 0, .int .i64 x]) ∧ Below w.heap.size w w' := by
  have C0 := Lib.hid (rtimes_any p c T m w r ln)
  have TE := Lib.hid te
  generalize T.length = n at *
  clear r te
  go_enter Try.func29, Try.ntmps29
  go_wp2_with fail
  refine C0.out.mono ?_
  rintro e w1 ⟨y, rfl, te, st⟩
  obtain rfl : y = x := TErr.fn te TE.out
  have KB := Lib.hid st
  have x1 : (y != 0) = true := by simpa using x0
  clear te st C0 TE x0
  go_wp2_with fail
  go_returns
  exact ⟨rfl, KB.out⟩

set_option maxRecDepth 100000 in
set_option maxHeartbeats 16000000 in
theorem pressShares_walk (p : Option Addr) (c : Nat) (T : List Int) (w : World) (r : NumR w p T) (ln : T.length ≤ 9223372036854775807) (m : Int) (g1 : -9223372036854775808 ≤ m ∧ m ≤ 9223372036854775807) :
    Calls Try.prog 5 #[.slice p T.length c, .int .i64 m] w fun e w' => e = .returned (.bool true) ∧ Below w.heap.size w w' := by
  have AL := Lib.hid alive_any
  have R := Lib.hid r
  have C0 := Lib.hid (fun (l : T.length ≤ 64) => copied_any p c T w r l)
  have C1 := Lib.hid (fun b W (h : NumR W (some ⟨b, 0, none⟩) T) => Share_any (some ⟨b, 0, none⟩) T.length T m W h ln)
  have C2 := Lib.hid (fun W (st : Below w.heap.size w W) => rShare_any p c T m W (r.below st) ln)
  have C3 := Lib.hid (fun b W (h : NumR W (some ⟨b, 0, none⟩) T) => Longest_any (some ⟨b, 0, none⟩) T.length T m W h ln)
  obtain ⟨n, hn⟩ : ∃ n, n = T.length := ⟨_, rfl⟩
  have HN := Lib.hid hn
  have C1 := Lib.hid (show ∀ b W, NumR W (some ⟨b, 0, none⟩) T → Calls Try.prog 26 #[.slice (some ⟨b, 0, none⟩) n n, .int .i64 m] W (ShQ T m W) from by rw [hn]; exact C1.out)
  have C2 := Lib.hid (show ∀ W, Below w.heap.size w W → Calls Try.prog 27 #[.slice p n c, .int .i64 m] W (RShQ T m W) from by rw [hn]; exact C2.out)
  have C3 := Lib.hid (show ∀ b W, NumR W (some ⟨b, 0, none⟩) T → Calls Try.prog 28 #[.slice (some ⟨b, 0, none⟩) n n, .int .i64 m] W (LoQ T m W) from by rw [hn]; exact C3.out)
  rw [← hn] at C0 ln ⊢
  clear hn r
  go_enter Try.func5, Try.ntmps5
  by_cases n30 : (30 : Int) < n
  · have d1 : decide ((30 : Int) < n) = true := decide_eq_true n30
    clear C0 C1 C2 C3
    go_wp2_with fail
    refine (AL.out _).mono ?_
    rintro e w6 ⟨rfl, st⟩
    go_wp2_with fail
    go_ret
    exact ⟨rfl, st⟩
  have d1 : decide ((30 : Int) < n) = false := decide_eq_false n30
  have N30 := Lib.hid (show n ≤ 30 by omega)
  go_wp2_with fail
  refine (C0.out (by have := N30.out; have := HN.out; omega)).mono ?_
  rintro e w1 ⟨b0, rfl, lo, nr, st⟩
  have NR := Lib.hid nr
  have KB := Lib.hid st
  clear nr st lo C0 d1 n30
  go_wp2_with fail
  refine (C1.out b0 _ NR.out).mono ?_
  rintro e w2 ⟨x, v1, L, rfl, pe, st, k1, k2⟩
  have PE := Lib.hid pe
  have Q1 := Lib.hid (show (x ≠ 0 → v1 = .slice none 0 0 ∧ L = 0) ∧ (x = 0 → ∃ b E, v1 = .slice (some ⟨b, 0, none⟩) T.length T.length ∧ NumR w2 (some ⟨b, 0, none⟩) ((List.range T.length).map (nv E)) ∧ Sea.BestS m.toNat T L E) from ⟨k1, fun h => by obtain ⟨b, E, a1, a2, a3, a4, a5⟩ := k2 h; exact ⟨b, E, a1, a3, a5⟩⟩)
  replace NR := Lib.hid (NR.out.below st)
  replace KB := Lib.hid (KB.out.trans (st.mono KB.out.size))
  clear pe st k1 k2 C1
  go_wp2_with fail
  refine (C2.out _ KB.out).mono ?_
  rintro e w3 ⟨x', v2, L', rfl, pe', st, k1, k2⟩
  obtain rfl : x' = x := TErr.fn pe' PE.out
  have SM := Lib.hid (show L' = L ∧ (∀ W, Below w3.heap.size w3 W → Calls Try.prog 19 #[v1, v2] W fun e w' => e = .returned (.bool true) ∧ Below W.heap.size W w') from by
    by_cases x0 : x' = 0
    · obtain ⟨b1, E, rfl, nr1, best⟩ := Q1.out.2 x0
      obtain ⟨b2, E', rfl, nr2, l0, fst, no⟩ := k2 x0
      subst x0
      obtain ⟨e1, rfl⟩ := best.is (fun t ht => by obtain ⟨i, hi, e⟩ := mem_gi ht; have := PE.out.good.2.2.2 i hi; omega) l0 fst no
      refine ⟨e1.symm, fun W B => ?_⟩
      exact same_any _ _ _ _ ((List.range T.length).map (nv E)) T.length (by simp) W ((nr1.below st).below B) (nr2.below B) (by have := N30.out; have := HN.out; omega)
    · obtain ⟨rfl, rfl⟩ := Q1.out.1 x0
      obtain ⟨rfl, rfl⟩ := k1 x0
      exact ⟨rfl, fun W B => same_any none 0 none 0 [] 0 rfl W (fun i h => by simp at h) (fun i h => by simp at h) (by omega)⟩)
  obtain rfl : L' = L := SM.out.1
  have SAME := Lib.hid SM.out.2
  replace NR := Lib.hid (NR.out.below st)
  replace KB := Lib.hid (KB.out.trans (st.mono KB.out.size))
  clear pe' st k1 k2 C2 SM Q1
  have e1 : (L' != L') = false := by simp
  have e2 : (x' != x') = false := by simp
  go_wp2_with fail
  refine (SAME.out _ (Below.refl _ _)).mono ?_
  rintro e w4 ⟨rfl, st⟩
  replace NR := Lib.hid (NR.out.below st)
  replace KB := Lib.hid (KB.out.trans (st.mono KB.out.size))
  clear st SAME
  go_wp2_with fail
  refine (C3.out b0 _ NR.out).mono ?_
  rintro e w5 ⟨y, v3, G, rfl, pe', st, k1, k2⟩
  obtain rfl : y = x' := TErr.fn pe' PE.out
  replace NR := Lib.hid (NR.out.below st)
  replace KB := Lib.hid (KB.out.trans (st.mono KB.out.size))
  have CALL := Lib.hid (show Calls Try.prog 29 #[.slice p n c, .int .i64 m] w5 (fun e w' => ∃ v', e = .returned (.tuple #[v', .int .i64 G, .int .i64 y]) ∧ Below w5.heap.size w5 w' ∧ ∀ W, Below w'.heap.size w' W → Calls Try.prog 19 #[v3, v'] W fun e w'' => e = .returned (.bool true) ∧ Below W.heap.size W w'') from by
    rw [HN.out]
    by_cases x0 : y = 0
    · subst x0
      obtain ⟨b, A, o, a, rfl, -, nr3, la⟩ := k2 rfl
      obtain ⟨M, hM⟩ := Int.eq_ofNat_of_zero_le (show 0 ≤ m by have := PE.out.good; omega)
      subst hM
      rw [Int.toNat_natCast] at la
      refine (rLongest_any p c T M A G o a w5 (R.out.below KB.out) PE.out la).mono ?_
      rintro e w' ⟨b', rfl, nr, st'⟩
      refine ⟨_, rfl, st', fun W B => ?_⟩
      exact same_any _ _ _ _ ((List.range T.length).map (nv A)) T.length (by simp) W ((nr3.below st').below B) (nr.below B) (by have := N30.out; have := HN.out; omega)
    · obtain ⟨rfl, rfl⟩ := k1 x0
      refine (rLongest_err p c T m y w5 (R.out.below KB.out) (by have := HN.out; omega) PE.out x0).mono ?_
      rintro e w' ⟨rfl, st'⟩
      exact ⟨_, rfl, st', fun W B => same_any none 0 none 0 [] 0 rfl W (fun i h => by simp at h) (fun i h => by simp at h) (by omega)⟩)
  clear pe' st k1 k2 C3 PE e1 e2
  go_wp2_with fail
  refine CALL.out.mono ?_
  rintro e w6 ⟨v4, rfl, st, same⟩
  have SAME := Lib.hid same
  replace NR := Lib.hid (NR.out.below st)
  replace KB := Lib.hid (KB.out.trans (st.mono KB.out.size))
  clear st same CALL
  have e1 : (G == G) = true := by simp
  have e2 : (y == y) = true := by simp
  go_wp2_with fail
  refine (SAME.out _ (Below.refl _ _)).mono ?_
  rintro e w7 ⟨rfl, st⟩
  replace NR := Lib.hid (NR.out.below st)
  replace KB := Lib.hid (KB.out.trans (st.mono KB.out.size))
  clear st SAME
  have SAME := Lib.hid (same_any (some ⟨b0, 0, none⟩) n p c T n HN.out w7 NR.out (R.out.below KB.out) (by have := N30.out; omega))
  go_wp2_with fail
  refine SAME.out.mono ?_
  rintro e w8 ⟨rfl, st⟩
  replace KB := Lib.hid (KB.out.trans (st.mono KB.out.size))
  clear st SAME
  go_wp2_with fail
  refine (AL.out _).mono ?_
  rintro e w9 ⟨rfl, st⟩
  go_wp2_with fail
  go_ret
  exact ⟨rfl, KB.out.trans (st.mono KB.out.size)⟩
end Go.Proofs.Ythfnaegfjacjbaa
