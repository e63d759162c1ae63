/- Press: the check of an order. -/
import Derived.Test.YthbgeikdamajlabPC0
namespace Go.Proofs.Ythbgeikdamajlab
open Go.RowKit Go.Proofs.Ythbgeikdamajlab.Prs
set_option linter.unusedVariables false
set_option linter.unusedSimpArgs false

theorem DErr.order {D : List (Int × Int)} {O : List Int} {x : Int} (h : DErr D x) (n : x ≠ 0) : OErr D O x := by
  rcases h with ⟨a, b⟩ | ⟨a, b, c⟩ | ⟨a, b, c⟩
  · exact .inl ⟨a, b⟩
  · exact absurd c n
  · exact .inr (.inl ⟨a, b, c⟩)
theorem DErr.good {D : List (Int × Int)} {x : Int} (h : DErr D x) (n : x = 0) : D.length ≤ 64 ∧ DOk D D.length := by
  rcases h with ⟨a, b⟩ | ⟨a, b, c⟩ | ⟨a, b, c⟩
  · omega
  · exact ⟨a, b⟩
  · omega
theorem OErr.fn {D : List (Int × Int)} {O : List Int} {x y : Int} (h : OErr D O x) (g : OErr D O y) : x = y := by
  rcases h with ⟨a, b⟩ | ⟨a, b, c⟩ | ⟨a, b, c, d⟩ | ⟨a, b, c, d⟩ <;> rcases g with ⟨a', b'⟩ | ⟨a', b', c'⟩ | ⟨a', b', c', d'⟩ | ⟨a', b', c', d'⟩ <;> first | omega | exact absurd b b' | exact absurd b' b | exact absurd c c' | exact absurd c' c

theorem Marks64.begin (W : World) (t : TypeId) (n₀ : Nat) (h : n₀ ≤ W.heap.size) (O : List Int) : Marks64 (W.alloc (Obj.cells (Array.replicate 64 (Value.bool false)) t)) W.heap.size n₀ O 0 := by
  refine ⟨h, fun v hv => ⟨false, ?_, by simp⟩, fun v => by simp [go_sem]⟩
  simp [go_sem, hv]
/-- What is known when so many numbers have been looked at. -/
structure OrdTo (O : List Int) (n i : Nat) : Prop where
  rng : ∀ k, k < i → 0 ≤ gi O k ∧ gi O k < n
  ne : ∀ a b, a < b → b < i → gi O a ≠ gi O b
theorem OrdTo.step {O : List Int} {n i : Nat} (h : OrdTo O n i) (h1 : 0 ≤ gi O i ∧ gi O i < n) (h2 : ¬ ∃ j, j < i ∧ gi O j = gi O i) : OrdTo O n (i + 1) :=
  ⟨fun k hk => by
    by_cases e : k = i
    · subst e; exact h1
    · exact h.rng k (by omega), fun a b ab bi => by
    by_cases e : b = i
    · subst e; exact fun g => h2 ⟨a, ab, g⟩
    · exact h.ne a b ab (by omega)⟩

set_option maxRecDepth 100000 in
set_option maxHeartbeats 4000000 in
theorem checkOrder_any (p : Option Addr) (c : Nat) (D : List (Int × Int)) (q : Option Addr) (d : Nat) (O : List Int) (w : World) (r : DmpR w p D) (ro : NumR w q O) (ln : D.length ≤ 1000000) (lo : O.length ≤ 1000000) :
    Calls Try.prog 46 #[.slice p D.length c, .slice q O.length d] w fun e w' => ∃ x, e = .returned (.int .i64 x) ∧ OErr D O x ∧ Below w.heap.size w w' := by
  have CD := Lib.hid (checkDumps_any p c D w r ln)
  have RO := Lib.hid ro
  obtain ⟨n, hn⟩ : ∃ n, n = D.length := ⟨_, rfl⟩
  obtain ⟨m, hm⟩ : ∃ m, m = O.length := ⟨_, rfl⟩
  rw [← hn] at ln CD ⊢
  rw [← hm] at lo ⊢
  have HN := Lib.hid (show n = D.length ∧ m = O.length from ⟨hn, hm⟩)
  clear hn hm r ro
  go_enter Try.func46, Try.ntmps46
  go_wp2_with fail
  refine CD.out.mono ?_
  rintro e w1 ⟨x, rfl, DE, st⟩
  have DE := Lib.hid DE
  have ST := Lib.hid st
  clear CD st
  by_cases x0 : x = 0
  case neg =>
    have x1 : (x == 0) = false := by simpa using x0
    have OE := Lib.hid (DE.out.order (O := O) x0)
    clear x0 DE
    go_wp2_with fail
    go_ret
    exact ⟨x, rfl, OE.out, ST.out⟩
  subst x0
  obtain ⟨n64, DK⟩ := DE.out.good rfl
  rw [← HN.out.1] at n64
  have DK := Lib.hid DK
  clear DE
  by_cases mn : m = n
  case neg =>
    have m1 : ((m : Int) == (n : Int)) = false := by simp; omega
    have OE := Lib.hid (show OErr D O 2 from .inr (.inr (.inr ⟨by rw [← HN.out.1]; exact n64, DK.out, fun h => mn (by rw [HN.out.1, HN.out.2]; exact h.1), rfl⟩)))
    clear mn DK
    go_wp2_with fail
    go_ret
    exact ⟨2, rfl, OE.out, ST.out⟩
  subst mn
  have HB := Lib.hid (RO.out.below ST.out)
  have N64 := Lib.hid n64
  go_wp2_with fail
  change Code.wp _ _ _ _ (w1.alloc (Obj.cells (Array.replicate 64 (Value.bool false)) 82))
  have M0 := Lib.hid (Marks64.begin w1 82 w.heap.size ST.out.size O)
  have B0 := Lib.hid (show Below w.heap.size w (w1.alloc (Obj.cells (Array.replicate 64 (Value.bool false)) 82)) from ST.out.alloc ST.out.size _)
  obtain ⟨b, hb⟩ : ∃ b, b = w1.heap.size := ⟨_, rfl⟩
  rw [← hb] at M0 ⊢
  clear hb HB
  generalize w1.alloc (Obj.cells (Array.replicate 64 (Value.bool false)) 82) = w2 at M0 B0 ⊢
  clear ST
  have W2 := Lib.hid B0.out.size
  go_loopw [21] (fun kv wr => ∃ i : Nat, i ≤ m ∧ kv = .int .i64 i ∧ Hid (OrdTo O m i) ∧ Hid (Marks64 wr b w.heap.size O i) ∧ Hid (Below w.heap.size w wr)) (fun kv _ => m - (intOf kv).toNat)
  case atStart => exact ⟨0, Nat.zero_le _, rfl, Lib.hid ⟨fun k hk => by omega, fun a b ab bi => by omega⟩, M0, B0⟩
  case round =>
    obtain ⟨i, hi, rfl, HO, HM, HB⟩ := hrel
    clear M0 B0
    by_cases t2 : i < m
    · obtain ⟨x, rfl, kx, cx⟩ := (RO.out.below HB.out) i (by have := HN.out; omega)
      have i1 : (0 : Int) ≤ (i : Int) := by omega
      have i2 : (i : Int) < (m : Int) := by omega
      obtain ⟨m1, hm1⟩ : ∃ m1, m1 = m - 1 := ⟨_, rfl⟩
      have em : IntKind.i64.wrap ((m : Int) - 1) = (m1 : Int) := wN (by omega) (by omega)
      have NB := Lib.hid (show (¬ (0 ≤ gi O i ∧ gi O i < m) ∨ ∃ j, j < i ∧ gi O j = gi O i) → OErr D O 2 from fun h => .inr (.inr (.inr ⟨by rw [← HN.out.1]; exact N64.out, DK.out, fun g => by
        rcases h with h | ⟨j, j1, j2⟩
        · exact h (by have := g.2.1 i (by rw [← HN.out.1]; exact t2); rwa [← HN.out.1] at this)
        · exact g.2.2 j i j1 (by rw [← HN.out.1]; exact t2) j2, rfl⟩)))
      by_cases g1 : 0 ≤ gi O i ∧ gi O i < m
      · obtain ⟨u, hu⟩ := Int.eq_ofNat_of_zero_le g1.1
        have um : u < m := by omega
        obtain ⟨tk, ct, ht⟩ := HM.out.at_ u (by have := N64.out; omega)
        have C1 := Lib.hid (fun W => isWithin_b (gi O i) 0 (m1 : Int) true (by
          have a1 : decide (0 ≤ gi O i) = true := decide_eq_true g1.1
          have a2 : decide (gi O i ≤ (m1 : Int)) = true := decide_eq_true (by omega)
          rw [a1, a2]; rfl) W)
        have u1 : (0 : Int) ≤ (u : Int) := by omega
        have u2 : (u : Int) < 64 := by have := N64.out; omega
        have HU := Lib.hid hu
        cases tk with
        | true =>
          have OE := Lib.hid (NB.out (.inr (by obtain ⟨j, j1, j2⟩ := ht.1 rfl; exact ⟨j, j1, by rw [j2, hu]⟩)))
          clear ht NB g1 hm1
          rw [hu] at cx C1
          clear hu
          go_wp2_with fail
          refine (C1.out _).mono ?_
          rintro e w3 ⟨rfl, rfl⟩
          go_wp2_with fail
          go_ret
          exact ⟨2, rfl, OE.out, HB.out⟩
        | false =>
          have OS := Lib.hid (HO.out.step g1 (fun ⟨j, j1, j2⟩ => by have := ht.2 ⟨j, j1, by rw [j2, hu]⟩; cases this))
          have MS := Lib.hid (HM.out.set (by have := N64.out; omega) hu)
          have fz := HM.out.fr u
          have BS := Lib.hid (HB.out.setCell (p := ⟨b, u, none⟩) HM.out.nb (.bool true))
          clear ht NB g1 hm1 HO HM HB
          rw [hu] at cx C1
          clear hu
          go_wp2_with fail
          refine (C1.out _).mono ?_
          rintro e w3 ⟨rfl, rfl⟩
          go_wp2_with fail
          go_roundw
          case rel => exact ⟨i + 1, by omega, by go_num, OS, MS, BS⟩
          case measure => simp [intOf]; omega
      · have OE := Lib.hid (NB.out (.inl g1))
        have C1 := Lib.hid (fun W => isWithin_b (gi O i) 0 (m1 : Int) false (by
          rw [Bool.and_eq_false_iff]
          by_cases c : 0 ≤ gi O i
          · exact .inr (decide_eq_false (fun g => g1 ⟨c, by omega⟩))
          · exact .inl (decide_eq_false c)) W)
        clear NB g1 hm1
        generalize gi O i = z at *
        go_wp2_with fail
        refine (C1.out _).mono ?_
        rintro e w3 ⟨rfl, rfl⟩
        go_wp2_with fail
        go_ret
        exact ⟨2, rfl, OE.out, HB.out⟩
    · obtain rfl : i = m := by omega
      go_wp2_with fail
      go_ret
      exact ⟨0, rfl, .inr (.inr (.inl ⟨by rw [← HN.out.1]; exact N64.out, DK.out, by rw [← HN.out.1]; exact ⟨HN.out.2.symm, HO.out.rng, HO.out.ne⟩, rfl⟩)), HB.out⟩
end Go.Proofs.Ythbgeikdamajlab
