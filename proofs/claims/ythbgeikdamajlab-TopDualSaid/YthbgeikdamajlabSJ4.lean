/- Press: the first place, the least, the greatest of a row; the comparison of Longest. -/
import Derived.Test.YthbgeikdamajlabSJ3
namespace Go.Proofs.Ythbgeikdamajlab
open Go.RowKit Go.Proofs.Ythbgeikdamajlab.Prs Go.Proofs.Ythbgeikdamajlab.Stb
set_option linter.unusedVariables false
set_option linter.unusedSimpArgs false

set_option maxRecDepth 100000 in
set_option maxHeartbeats 4000000 in
theorem indexF_any (p : Option Addr) (c : Nat) (H : List Int) (v : Int) (w : World) (r : NumR w p H) (ln : H.length ≤ 1000000) :
    Calls Try.prog 35 #[.slice p H.length c, .int .i64 v] w fun e w' => ∃ x, e = .returned (.int .i64 x) ∧ ((x = -1 ∧ v ∉ H) ∨ ∃ k : Nat, x = k ∧ k < H.length ∧ gi H k = v ∧ ∀ j, j < k → gi H j ≠ v) ∧ Below w.heap.size w w' := by
  have R := Lib.hid r
  have HM := Lib.hid (fun i (hi : i < H.length) => gi_mem hi)
  have HG := Lib.hid (fun (h : v ∈ H) => mem_gi h)
  obtain ⟨n, hn⟩ : ∃ n, n = H.length := ⟨_, rfl⟩
  rw [← hn] at ln HM HG ⊢
  have HN := Lib.hid hn
  clear hn r
  go_enter Try.func35, Try.ntmps35
  go_wp2_with fail
  go_loopw [8] (fun kv wr => ∃ i : Nat, i ≤ n ∧ kv = .int .i64 i ∧ Hid (∀ j, j < i → gi H j ≠ v) ∧ Hid (Below w.heap.size w wr)) (fun kv _ => n - (intOf kv).toNat)
  case atStart => exact ⟨0, Nat.zero_le _, rfl, Lib.hid fun j h => absurd h (by omega), Lib.hid (Below.refl _ _)⟩
  case round =>
    obtain ⟨i, hi, rfl, HO, HB⟩ := hrel
    by_cases t2 : i < n
    · obtain ⟨x, rfl, kx, cx⟩ := (R.out.below HB.out) i (by have := HN.out; omega)
      have i1 : (0 : Int) ≤ (i : Int) := by omega
      have i2 : (i : Int) < (n : Int) := by omega
      have MI := Lib.hid (HM.out i t2)
      have SX := Lib.hid (show gi H i ≠ v → ∀ j, j < i + 1 → gi H j ≠ v from fun h j hj => by
          by_cases e : j = i
          · subst e; exact h
          · exact HO.out j (by omega))
      have HO2 := HO
      obtain ⟨P, hP⟩ : ∃ P, P = gi H i := ⟨_, rfl⟩
      have HPE := Lib.hid hP.symm
      rw [← hP] at cx SX
      rw [← hP] at MI
      clear HO kx hP
      by_cases hp : P = v
      · have HP := Lib.hid hp
        have eb : (v == P) = true := by simp [hp]
        clear hp SX MI HM HG
        go_wp2_with fail
        try (go_quiet (fail))
        try (go_wp2_with fail)
        go_ret
        exact ⟨i, rfl, .inr ⟨i, rfl, t2, by rw [HPE.out]; exact HP.out, HO2.out⟩, (by first | exact HB.out | exact HB.out.drew | exact below_drewN HB.out _)⟩
      · have SN := Lib.hid (SX.out hp)
        have eb : (v == P) = false := by
          rw [beq_eq_false_iff_ne]; exact fun e => hp e.symm
        clear hp SX MI HM HG
        go_wp2_with fail
        try (go_quiet (fail))
        try (go_wp2_with fail)
        go_roundw
        case rel => exact ⟨i + 1, by omega, by go_num, SN, (by first | exact HB | exact Lib.hid HB.out.drew | exact Lib.hid (below_drewN HB.out _))⟩
        case measure => simp [intOf]; omega
    · obtain rfl : i = n := by omega
      have NM := Lib.hid (show v ∉ H from fun h => by
        obtain ⟨j, hj, e⟩ := HG.out h
        exact HO.out j hj e)
      clear HM HG HO
      go_wp2_with fail
      go_ret
      exact ⟨-1, rfl, .inl ⟨rfl, NM.out⟩, (by first | exact HB.out | exact HB.out.drew | exact below_drewN HB.out _)⟩


set_option maxRecDepth 100000 in
set_option maxHeartbeats 4000000 in
theorem min_any (p : Option Addr) (c : Nat) (H : List Int) (w : World) (r : NumR w p H) (ln : H.length ≤ 1000000) (l1 : 1 ≤ H.length) :
    Calls Try.prog 36 #[.slice p H.length c] w fun e w' => ∃ x, e = .returned (.int .i64 x) ∧ (∃ k, k < H.length ∧ gi H k = x) ∧ (∀ k, k < H.length → x ≤ gi H k) ∧ Below w.heap.size w w' := by
  have R := Lib.hid r
  obtain ⟨n, hn⟩ : ∃ n, n = H.length := ⟨_, rfl⟩
  rw [← hn] at ln l1 ⊢
  have HN := Lib.hid hn
  clear hn r
  obtain ⟨x0, rfl, k0, c0⟩ := R.out 0 (by have := HN.out; omega)
  obtain ⟨M0, hM0⟩ : ∃ M, M = gi H 0 := ⟨_, rfl⟩
  rw [← hM0] at c0
  have HM := Lib.hid hM0
  have L1 := Lib.hid l1
  have d0 : decide (n < 1) = false := decide_eq_false (by omega)
  have d1 : ¬ n < 1 := by omega
  have d2 : (0 : Int) < (n : Int) := by omega
  rw [show x0.add 0 = x0 from rfl] at c0
  clear hM0 k0
  go_enter Try.func36, Try.ntmps36
  go_wp2_with fail
  go_loopw [3, 4] (fun mv kv wr => ∃ (i : Nat) (M : Int), 1 ≤ i ∧ i ≤ n ∧ mv = .int .i64 M ∧ kv = .int .i64 i ∧ Hid (∃ k, k < i ∧ gi H k = M) ∧ Hid (∀ k, k < i → M ≤ gi H k) ∧ wr = w) (fun _ kv _ => n - (intOf kv).toNat)
  case atStart => exact ⟨1, M0, Nat.le_refl _, L1.out, rfl, rfl, Lib.hid ⟨0, by omega, HM.out.symm⟩, Lib.hid (fun k hk => by rw [show k = 0 by omega, HM.out]; exact Int.le_refl _), rfl⟩
  case round =>
    clear c0 HM
    obtain ⟨i, M, hi1, hi, rfl, rfl, HE, HA, rfl⟩ := hrel
    by_cases t2 : i < n
    · obtain ⟨x, ex, kx, cx⟩ := R.out i (by have := HN.out; omega)
      cases ex
      have i1 : (0 : Int) ≤ (i : Int) := by omega
      have i2 : (i : Int) < (n : Int) := by omega
      obtain ⟨P, hP⟩ : ∃ P, P = gi H i := ⟨_, rfl⟩
      rw [← hP] at cx
      have HP := Lib.hid hP
      clear kx hP
      by_cases g : P < M
      · have E2 := Lib.hid (show ∃ k, k < i + 1 ∧ gi H k = P from ⟨i, by omega, HP.out.symm⟩)
        have A2 := Lib.hid (show ∀ k, k < i + 1 → P ≤ gi H k from fun k hk => by
          by_cases e : k = i
          · rw [e, HP.out]; exact Int.le_refl _
          · have := HA.out k (by omega); omega)
        clear HE HA
        go_wp2_with fail
        go_roundw
        case rel => exact ⟨i + 1, P, by omega, by omega, rfl, by go_num, E2, A2, trivial⟩
        case measure => simp [intOf]; omega
      · have E2 := Lib.hid (show ∃ k, k < i + 1 ∧ gi H k = M from by obtain ⟨k, a, b⟩ := HE.out; exact ⟨k, by omega, b⟩)
        have A2 := Lib.hid (show ∀ k, k < i + 1 → M ≤ gi H k from fun k hk => by
          by_cases e : k = i
          · rw [e, ← HP.out]; omega
          · exact HA.out k (by omega))
        clear HE HA
        go_wp2_with fail
        go_roundw
        case rel => exact ⟨i + 1, M, by omega, by omega, rfl, by go_num, E2, A2, trivial⟩
        case measure => simp [intOf]; omega
    · obtain rfl : i = n := by omega
      go_wp2_with fail
      go_ret
      exact ⟨M, rfl, HE.out, HA.out, Below.refl _ _⟩

set_option maxRecDepth 100000 in
set_option maxHeartbeats 4000000 in
theorem max_any (p : Option Addr) (c : Nat) (H : List Int) (w : World) (r : NumR w p H) (ln : H.length ≤ 1000000) (l1 : 1 ≤ H.length) :
    Calls Try.prog 37 #[.slice p H.length c] w fun e w' => ∃ x, e = .returned (.int .i64 x) ∧ (∃ k, k < H.length ∧ gi H k = x) ∧ (∀ k, k < H.length → gi H k ≤ x) ∧ Below w.heap.size w w' := by
  have R := Lib.hid r
  obtain ⟨n, hn⟩ : ∃ n, n = H.length := ⟨_, rfl⟩
  rw [← hn] at ln l1 ⊢
  have HN := Lib.hid hn
  clear hn r
  obtain ⟨x0, rfl, k0, c0⟩ := R.out 0 (by have := HN.out; omega)
  obtain ⟨M0, hM0⟩ : ∃ M, M = gi H 0 := ⟨_, rfl⟩
  rw [← hM0] at c0
  have HM := Lib.hid hM0
  have L1 := Lib.hid l1
  have d0 : decide (n < 1) = false := decide_eq_false (by omega)
  have d1 : ¬ n < 1 := by omega
  have d2 : (0 : Int) < (n : Int) := by omega
  rw [show x0.add 0 = x0 from rfl] at c0
  clear hM0 k0
  go_enter Try.func37, Try.ntmps37
  go_wp2_with fail
  go_loopw [3, 4] (fun mv kv wr => ∃ (i : Nat) (M : Int), 1 ≤ i ∧ i ≤ n ∧ mv = .int .i64 M ∧ kv = .int .i64 i ∧ Hid (∃ k, k < i ∧ gi H k = M) ∧ Hid (∀ k, k < i → gi H k ≤ M) ∧ wr = w) (fun _ kv _ => n - (intOf kv).toNat)
  case atStart => exact ⟨1, M0, Nat.le_refl _, L1.out, rfl, rfl, Lib.hid ⟨0, by omega, HM.out.symm⟩, Lib.hid (fun k hk => by rw [show k = 0 by omega, HM.out]; exact Int.le_refl _), rfl⟩
  case round =>
    clear c0 HM
    obtain ⟨i, M, hi1, hi, rfl, rfl, HE, HA, rfl⟩ := hrel
    by_cases t2 : i < n
    · obtain ⟨x, ex, kx, cx⟩ := R.out i (by have := HN.out; omega)
      cases ex
      have i1 : (0 : Int) ≤ (i : Int) := by omega
      have i2 : (i : Int) < (n : Int) := by omega
      obtain ⟨P, hP⟩ : ∃ P, P = gi H i := ⟨_, rfl⟩
      rw [← hP] at cx
      have HP := Lib.hid hP
      clear kx hP
      by_cases g : M < P
      · have E2 := Lib.hid (show ∃ k, k < i + 1 ∧ gi H k = P from ⟨i, by omega, HP.out.symm⟩)
        have A2 := Lib.hid (show ∀ k, k < i + 1 → gi H k ≤ P from fun k hk => by
          by_cases e : k = i
          · rw [e, HP.out]; exact Int.le_refl _
          · have := HA.out k (by omega); omega)
        clear HE HA
        go_wp2_with fail
        go_roundw
        case rel => exact ⟨i + 1, P, by omega, by omega, rfl, by go_num, E2, A2, trivial⟩
        case measure => simp [intOf]; omega
      · have E2 := Lib.hid (show ∃ k, k < i + 1 ∧ gi H k = M from by obtain ⟨k, a, b⟩ := HE.out; exact ⟨k, by omega, b⟩)
        have A2 := Lib.hid (show ∀ k, k < i + 1 → gi H k ≤ M from fun k hk => by
          by_cases e : k = i
          · rw [e, ← HP.out]; omega
          · exact HA.out k (by omega))
        clear HE HA
        go_wp2_with fail
        go_roundw
        case rel => exact ⟨i + 1, M, by omega, by omega, rfl, by go_num, E2, A2, trivial⟩
        case measure => simp [intOf]; omega
    · obtain rfl : i = n := by omega
      go_wp2_with fail
      go_ret
      exact ⟨M, rfl, HE.out, HA.out, Below.refl _ _⟩

/-- What the comparison of Longest looks at. -/
def KpT (X : Nat) (p : Option Addr) (c : Nat) (T : List Int) (B : Nat) (w : World) : Prop := w.cell? ⟨X, 0, none⟩ = some (.slice p T.length c) ∧ NumR w p T ∧ X ≠ B ∧ ∀ x, p = some x → 0 < T.length → x.block ≠ B
theorem KpT.begin {X : Nat} {p : Option Addr} {c : Nat} {T : List Int} {w : World} (h : w.cell? ⟨X, 0, none⟩ = some (.slice p T.length c)) (r : NumR w p T) : KpT X p c T w.heap.size w :=
  ⟨h, r, by have := World.block_lt_of_cell? w _ h; dsimp only at this; omega, fun x e hl => by
    obtain ⟨y, e', k, _⟩ := r 0 hl
    rw [e] at e'; cases e'; omega⟩
theorem KpT.keep {X : Nat} {p : Option Addr} {c : Nat} {T : List Int} {B : Nat} {u v : World} (sz : u.heap.size ≤ v.heap.size) (bl : ∀ k, k ≠ B → k < u.heap.size → v.heap[k]? = u.heap[k]?) (h : KpT X p c T B u) : KpT X p c T B v := by
  obtain ⟨h1, h2, h3, h4⟩ := h
  refine ⟨(World.cell?_of_block (w := u) (a := ⟨X, 0, none⟩) (bl X h3 (World.block_lt_of_cell? u _ h1))).trans h1, fun i hi => ?_, h3, h4⟩
  obtain ⟨x, e, k, a⟩ := h2 i hi
  have g := bl x.block (h4 x e (by omega)) k
  exact ⟨x, e, Nat.lt_of_lt_of_le k sz, (World.cell?_of_block (w := u) (a := x.add i) (by rw [addB]; exact g)).trans a⟩
def lcD (T : List Int) (x y : Int) : Int := cmpV (gi T y.toNat) (gi T x.toNat)

set_option maxRecDepth 100000 in
set_option maxHeartbeats 4000000 in
theorem longLess_any (X : Nat) (p : Option Addr) (c : Nat) (T : List Int) (B : Nat) (x y : Int) (w : World) (h : KpT X p c T B w) (hx : 0 ≤ x ∧ x < T.length) (hy : 0 ≤ y ∧ y < T.length) (ln : T.length ≤ 1000000) :
    Calls Try.prog 34 #[.int .i64 x, .int .i64 y, .pointer (some ⟨X, 0, none⟩)] w fun e w' => e = .returned (.int .i64 (lcD T x y)) ∧ Below w.heap.size w w' := by
  obtain ⟨cX, r, -, -⟩ := h
  obtain ⟨u, rfl⟩ := Int.eq_ofNat_of_zero_le hx.1
  obtain ⟨v, rfl⟩ := Int.eq_ofNat_of_zero_le hy.1
  obtain ⟨xa, rfl, kx, a0⟩ := r u (by omega)
  obtain ⟨xb, e, -, b0⟩ := r v (by omega)
  cases e
  have JC := Lib.hid (fun W => cmpI_any (gi T v) (gi T u) W)
  have JE := Lib.hid (show lcD T (u : Int) (v : Int) = cmpV (gi T v) (gi T u) by unfold lcD; rw [Int.toNat_natCast, Int.toNat_natCast])
  obtain ⟨n, hn⟩ : ∃ n, n = T.length := ⟨_, rfl⟩
  rw [← hn] at hx hy cX ln
  have u1 : (0 : Int) ≤ (u : Int) := by omega
  have u2 : (u : Int) < (n : Int) := by omega
  have v1 : (0 : Int) ≤ (v : Int) := by omega
  have v2 : (v : Int) < (n : Int) := by omega
  rw [JE.out]
  clear JE hn hx hy r kx
  generalize cmpV (gi T v) (gi T u) = z at *
  generalize gi T u = pa at *
  generalize gi T v = pb at *
  go_enter Try.func34, Try.ntmps34
  go_wp2_with fail
  go_region_held3 (fun w' => w'.cell? ⟨X, 0, none⟩ = some (.slice (some xa) n c) ∧ w'.cell? (xa.add u) = some (.int .i64 pa) ∧ w'.cell? (xa.add v) = some (.int .i64 pb)) (first | exact ⟨cX, a0, b0⟩ | exact ⟨cellDr cX, cellDr a0, cellDr b0⟩) (first | (go_at_call 27; refine (JC.out _).mono ?_; rintro e w1 ⟨rfl, st⟩; have st : Below w.heap.size w w1 := (by subst st; first | exact Below.refl _ _ | exact (Below.refl _ _).drew); have cX := cellGr st cX; have a0 := cellGr st a0; have b0 := cellGr st b0))
  go_wp2_with fail
  go_ret
  exact ⟨rfl, st⟩
/-- The order: the longest first, equal ones by their numbers. -/
def LoRl (T : List Int) (x y : Int) : Prop := lcD T x y < 0 ∨ (lcD T x y = 0 ∧ x < y)
theorem lc_neg (T : List Int) (x y : Int) (h : x < y) : lcD T y x < 0 ↔ LoRl T y x := by unfold LoRl; omega
theorem rl_key (T : List Int) (x y : Int) : LoRl T x y ↔ gi T y.toNat < gi T x.toNat ∨ (gi T y.toNat = gi T x.toNat ∧ x < y) := by
  unfold LoRl lcD cmpV
  by_cases c1 : gi T y.toNat < gi T x.toNat
  · rw [if_pos c1]; omega
  · rw [if_neg c1]
    by_cases c2 : gi T x.toNat < gi T y.toNat
    · rw [if_pos c2]; omega
    · rw [if_neg c2]; omega
theorem rl_tot (T : List Int) (V : Int → Prop) : Tot (LoRl T) V := by
  refine ⟨fun x y z _ _ _ a b => ?_, fun x y _ _ ne n => ?_⟩
  · rw [rl_key] at a b ⊢; omega
  · rw [rl_key] at n ⊢; omega
end Go.Proofs.Ythbgeikdamajlab
