/- Press: Critical. -/
import Derived.Test.YthfnaegfjacjbaaPC2
namespace Go.Proofs.Ythfnaegfjacjbaa
open Go.RowKit Go.Proofs.Ythfnaegfjacjbaa.Prs
set_option linter.unusedVariables false
set_option linter.unusedSimpArgs false

/-- What Critical answers. -/
def CrQ (D : List (Int × Int)) (O : List Int) (x k : Int) : Prop := OErr D O x ∧ (x ≠ 0 → k = 0) ∧ (x = 0 → (D.length = 0 ∧ k = -1) ∨ ∃ j : Nat, j < D.length ∧ k = j ∧ vl (pd D) (sd D) (od O) D.length j = mks (pd D) (sd D) (od O) D.length ∧ ∀ i, i < j → vl (pd D) (sd D) (od O) D.length i ≠ mks (pd D) (sd D) (od O) D.length)
theorem sm_bd {F : Nat → Int} (h : ∀ k, 0 ≤ F k ∧ F k ≤ 1073741824) (n : Nat) : 0 ≤ sm F n ∧ sm F n ≤ n * 1073741824 := ⟨sm_nonneg fun k _ => (h k).1, sm_top (fun k _ => (h k).2) (by omega)⟩

set_option maxRecDepth 100000 in
set_option maxHeartbeats 4000000 in
theorem Critical_any (p : Option Addr) (c : Nat) (D : List (Int × Int)) (q : Option Addr) (d : Nat) (O : List Int) (w : World) (r : DmpR w p D) (ro : NumR w q O) (ln : D.length ≤ 1000000) (lo : O.length ≤ 1000000) :
    Calls Try.prog 22 #[.slice p D.length c, .slice q O.length d] w fun e w' => ∃ x k, e = .returned (.tuple #[.int .i64 k, .int .i64 x]) ∧ CrQ D O x k ∧ Below w.heap.size w w' := by
  have CO := Lib.hid (checkOrder_any p c D q d O w r ro ln lo)
  have MK := Lib.hid (fun W (st : Below w.heap.size w W) (h : OErr D O 0) => makespan_any p c D q d O W (r.below st) (ro.below st) h.good.1 h.good.2.1 h.good.2.2)
  have R := Lib.hid r
  have RO := Lib.hid ro
  clear r ro
  obtain ⟨n, hn⟩ : ∃ n, n = D.length := ⟨_, rfl⟩
  obtain ⟨m, hm⟩ : ∃ m, m = O.length := ⟨_, rfl⟩
  have HQ := Lib.hid (show ∀ x k, CrQ D O x k = (OErr D O x ∧ (x ≠ 0 → k = 0) ∧ (x = 0 → (n = 0 ∧ k = -1) ∨ ∃ j : Nat, j < n ∧ k = j ∧ vl (pd D) (sd D) (od O) n j = mks (pd D) (sd D) (od O) n ∧ ∀ i, i < j → vl (pd D) (sd D) (od O) n i ≠ mks (pd D) (sd D) (od O) n)) from fun x k => by rw [hn]; rfl)
  rw [← hn] at ln CO MK ⊢
  rw [← hm] at lo CO MK ⊢
  have HN := Lib.hid (show n = D.length ∧ m = O.length from ⟨hn, hm⟩)
  clear hn hm
  go_enter Try.func22, Try.ntmps22
  go_wp2_with fail
  refine CO.out.mono ?_
  rintro e w1 ⟨x, rfl, OE, st⟩
  have OE := Lib.hid OE
  have ST := Lib.hid st
  clear CO st
  by_cases x0 : x = 0
  case neg =>
    have x1 : (x == 0) = false := by simpa using x0
    have X0 := Lib.hid x0
    clear x0 MK
    go_wp2_with fail
    go_ret2
    exact ⟨x, 0, rfl, by rw [HQ.out]; exact ⟨OE.out, fun _ => rfl, fun h => absurd h X0.out⟩, ST.out⟩
  subst x0
  have MC := Lib.hid (MK.out w1 ST.out OE.out)
  clear MK
  obtain ⟨n64, dk, io⟩ := OE.out.good
  obtain rfl : m = n := by rw [HN.out.1, HN.out.2]; exact OE.out.len
  rw [← HN.out.1] at n64 io
  have AL := Lib.hid (show ∀ i, 0 ≤ pd D i ∧ pd D i ≤ 1073741824 ∧ 0 ≤ sd D i ∧ sd D i ≤ 1073741824 from dk.all)
  have IO := Lib.hid io
  have BS := Lib.hid (fun k => sm_bd (F := sd D) (fun k => ⟨(dk.all k).2.2.1, (dk.all k).2.2.2⟩) k)
  have BO := Lib.hid (fun k => sm_bd (F := fun j => sd D (od O j)) (fun k => ⟨(dk.all _).2.2.1, (dk.all _).2.2.2⟩) k)
  have BP := Lib.hid (fun k => sm_bd (F := fun j => pd D (od O j)) (fun k => ⟨(dk.all _).1, (dk.all _).2.1⟩) k)
  have SO := Lib.hid (io.ord.sum (sd D))
  have BM := Lib.hid (mks_top (o := od O) dk.all m).2
  have N64 := Lib.hid n64
  clear dk io n64
  go_wp2_with fail
  refine MC.out.mono ?_
  rintro e w2 ⟨rfl, rfl⟩
  clear MC
  go_wp2_with fail
  go_loopw [9, 25] (fun bv kv wr => ∃ i : Nat, i ≤ m ∧ bv = .int .i64 (sm (sd D) i) ∧ kv = .int .i64 i ∧ Hid (Below w.heap.size w wr)) (fun _ kv _ => m - (intOf kv).toNat)
  case atStart => exact ⟨0, Nat.zero_le _, rfl, rfl, ST⟩
  case round =>
    obtain ⟨i, hi, rfl, rfl, HB⟩ := hrel
    clear ST
    by_cases t2 : i < m
    · obtain ⟨x, rfl, kx, cx, dx⟩ := (R.out.below HB.out) i (by have := HN.out; omega)
      have i1 : (0 : Int) ≤ (i : Int) := by omega
      have i2 : (i : Int) < (m : Int) := by omega
      have E1 := Lib.hid (show sm (sd D) (i + 1) = sm (sd D) i + sd D i from rfl)
      have w9 : IntKind.i64.wrap (sm (sd D) i + sd D i) = sm (sd D) i + sd D i := wI rfl (by have := BS.out i; have := AL.out i; have := N64.out; omega) (by have := BS.out i; have := AL.out i; have := N64.out; omega)
      generalize sd D i = S at *
      generalize sm (sd D) i = T at *
      generalize pd D i = P at *
      go_wp2_with fail
      go_roundw
      case rel => exact ⟨i + 1, by omega, by rw [E1.out], by go_num, Lib.hid (HB.out.alloc HB.out.size _)⟩
      case measure => clear w9; simp [intOf]; omega
    · obtain rfl : i = m := by omega
      have HS := Lib.hid (show sm (sd D) i = sm (fun j => sd D (od O j)) i - sm (fun j => sd D (od O j)) 0 from by rw [SO.out]; simp [sm])
      go_wp2_with fail
      rw [HS.out]
      go_loopw [8, 9, 36] (fun pv bv kv wx => ∃ k : Nat, k ≤ i ∧ pv = .int .i64 (sm (fun j => pd D (od O j)) k) ∧ bv = .int .i64 (sm (fun j => sd D (od O j)) i - sm (fun j => sd D (od O j)) k) ∧ kv = .int .i64 k ∧ Hid (Below w.heap.size w wx) ∧ Hid (∀ j, j < k → vl (pd D) (sd D) (od O) i j ≠ mks (pd D) (sd D) (od O) i)) (fun _ _ kv _ => i - (intOf kv).toNat)
      case atStart => exact ⟨0, Nat.zero_le _, rfl, rfl, rfl, HB, Lib.hid fun j h => by omega⟩
      case round =>
        obtain ⟨k, hk, rfl, rfl, rfl, B3, HL⟩ := hrel
        clear HB
        by_cases t3 : k < i
        · obtain ⟨y, rfl, ky, cy⟩ := (RO.out.below B3.out) k (by have := HN.out; omega)
          obtain ⟨u, hu⟩ : ∃ u, u = od O k := ⟨_, rfl⟩
          have eu : gi O k = (u : Int) := by have := IO.out.2.1 k t3; rw [hu]; unfold od; omega
          have un : u < i := by rw [hu]; exact IO.out.ord.lt k t3
          obtain ⟨x, rfl, kx, cx, dx⟩ := (R.out.below B3.out) u (by have := HN.out; omega)
          have E1 := Lib.hid (show sm (fun j => pd D (od O j)) (k + 1) = sm (fun j => pd D (od O j)) k + pd D u by rw [hu]; rfl)
          have E2 := Lib.hid (show sm (fun j => sd D (od O j)) (k + 1) = sm (fun j => sd D (od O j)) k + sd D u by rw [hu]; rfl)
          have EV := Lib.hid (show vl (pd D) (sd D) (od O) i k = sm (fun j => pd D (od O j)) k + pd D u + (sm (fun j => sd D (od O j)) i - sm (fun j => sd D (od O j)) k) by unfold vl; rw [E1.out])
          have BB := Lib.hid (show (0 ≤ sm (fun j => pd D (od O j)) k ∧ sm (fun j => pd D (od O j)) k ≤ 64 * 1073741824) ∧ (0 ≤ sm (fun j => sd D (od O j)) i - sm (fun j => sd D (od O j)) k ∧ sm (fun j => sd D (od O j)) i - sm (fun j => sd D (od O j)) k ≤ 64 * 1073741824) ∧ (0 ≤ pd D u ∧ pd D u ≤ 1073741824) ∧ 0 ≤ sd D u ∧ sd D u ≤ 1073741824 by
            have := BP.out k; have := BO.out k; have := BO.out i; have := AL.out u; have := N64.out
            have := sm_mono (F := fun j => sd D (od O j)) (m := k) (n := i) (fun j _ => (AL.out _).2.2.1) hk
            omega)
          have i1 : (0 : Int) ≤ (k : Int) := by omega
          have i2 : (k : Int) < (i : Int) := by omega
          have u1 : (0 : Int) ≤ (u : Int) := by omega
          have u2 : (u : Int) < (i : Int) := by omega
          have HL2 := Lib.hid (show vl (pd D) (sd D) (od O) i k ≠ mks (pd D) (sd D) (od O) i → ∀ j, j < k + 1 → vl (pd D) (sd D) (od O) i j ≠ mks (pd D) (sd D) (od O) i from fun h j hj => by
            by_cases e : j = k
            · rw [e]; exact h
            · exact HL.out j (by omega))
          have FQ := Lib.hid (show vl (pd D) (sd D) (od O) i k = mks (pd D) (sd D) (od O) i → CrQ D O 0 k from fun h => by rw [HQ.out]; exact ⟨OE.out, fun g => absurd rfl g, fun _ => .inr ⟨k, t3, rfl, h, HL.out⟩⟩)
          rw [eu] at cy
          clear eu hu HL un
          rw [EV.out] at HL2 FQ
          have E3 := Lib.hid (show sm (fun j => sd D (od O j)) i - sm (fun j => sd D (od O j)) (k + 1) = sm (fun j => sd D (od O j)) i - sm (fun j => sd D (od O j)) k - sd D u by rw [E2.out]; omega)
          clear E2 EV
          generalize mks (pd D) (sd D) (od O) i = M at *
          generalize sm (fun j => sd D (od O j)) i - sm (fun j => sd D (od O j)) k = Bh at *
          generalize sm (fun j => pd D (od O j)) k = T at *
          generalize pd D u = P at *
          generalize sd D u = S at *
          have w4 : IntKind.i64.wrap (T + P) = T + P := wI rfl (by have := BB.out; omega) (by have := BB.out; omega)
          have w5 : IntKind.i64.wrap (T + P + Bh) = T + P + Bh := wI rfl (by have := BB.out; omega) (by have := BB.out; omega)
          by_cases ve : T + P + Bh = M
          · have FF := Lib.hid (FQ.out ve)
            have v1 : (T + P + Bh == M) = true := by simpa using ve
            clear ve FQ HL2
            go_wp2_with fail
            go_ret2
            exact ⟨0, _, rfl, FF.out, B3.out⟩
          · have HL3 := Lib.hid (HL2.out ve)
            have v1 : (T + P + Bh == M) = false := by simpa using ve
            have w6 : IntKind.i64.wrap (Bh - S) = Bh - S := wI rfl (by have := BB.out; omega) (by have := BB.out; omega)
            clear ve FQ HL2
            go_wp2_with fail
            go_roundw
            case rel => exact ⟨k + 1, by omega, by rw [E1.out], by rw [E3.out], by go_num, B3, HL3⟩
            case measure => clear w4 w5 w6; simp [intOf]; omega
        · obtain rfl : k = i := by omega
          have K0 := Lib.hid (show k = 0 by
            apply Classical.byContradiction; intro h
            obtain ⟨j, j1, j2⟩ := mks_at (pd D) (sd D) (od O) (fun _ => (AL.out _).1) k (by omega)
            exact HL.out j j1 j2)
          go_wp2_with fail
          go_ret2
          exact ⟨0, -1, rfl, by rw [HQ.out]; exact ⟨OE.out, fun g => absurd rfl g, fun _ => .inl ⟨K0.out, rfl⟩⟩, B3.out⟩
end Go.Proofs.Ythfnaegfjacjbaa
