/- Accounts: the checksum of an entry, the program's. -/
import Derived.Test.YthfnaegfjacjbabAV0
import Derived.Test.YthfnaegfjacjbabAG0
namespace Go.Proofs.Ythfnaegfjacjbab
open Go.RowKit
set_option linter.unusedVariables false
set_option linter.unusedSimpArgs false

theorem u64_in (n : Int) : 0 ≤ IntKind.u64.wrap n ∧ IntKind.u64.wrap n < 18446744073709551616 := by
  simp [IntKind.wrap, IntKind.signed, IntKind.bits]
  omega
def ps (L : List (ByteArray × Int)) (i : Nat) : ByteArray := (L[i]?.getD (ByteArray.empty, 0)).1
def pc (L : List (ByteArray × Int)) (i : Nat) : Int := (L[i]?.getD (ByteArray.empty, 0)).2
/-- The slice, wherever it lies, reads as these postings. -/
def PosR (w : World) (p : Option Addr) (L : List (ByteArray × Int)) : Prop := ∀ i, i < L.length → ∃ x : Addr, p = some x ∧ x.block < w.heap.size ∧ w.cell? (x.add (i * 2)) = some (.string (ps L i)) ∧ w.cell? ⟨(x.add (i * 2)).block, (x.add (i * 2)).off + 1, none⟩ = some (.int .i64 (pc L i))
theorem PosR.below {w w' : World} {p : Option Addr} {L : List (ByteArray × Int)} (r : PosR w p L) (hb : Below w.heap.size w w') : PosR w' p L := fun i h => by
  obtain ⟨x, e, k, c, d⟩ := r i h
  exact ⟨x, e, Nat.lt_of_lt_of_le k hb.size, by rw [hb.cell (p := x.add (i * 2)) (by rw [addB]; exact k)]; exact c, by rw [hb.cell (p := ⟨(x.add (i * 2)).block, (x.add (i * 2)).off + 1, none⟩) (by show (x.add (i * 2)).block < _; rw [addB]; exact k)]; exact d⟩
def chr (s : ByteArray) (j : Nat) : Int := if h : j < s.size then ((s[j]'h).toNat : Int) else 0
/-- The hash behind the first j bytes of a name. -/
def chH (s : ByteArray) (h : Int) : Nat → Int
  | 0 => h
  | j + 1 => stp (chH s h j) (chr s j)
def posH (L : List (ByteArray × Int)) (h : Int) : Nat → Int
  | 0 => h
  | k + 1 => List.foldl stp (chH (ps L k) (stp (posH L h k) ((ps L k).size % 256)) (ps L k).size) (bys 8 (IntKind.u64.wrap (pc L k)))
def num8 (h n : Int) : Int := List.foldl stp h (bys 8 n)
/-- The checksum of an entry behind one with the sum l. -/
def ckS (l n d v : Int) (L : List (ByteArray × Int)) : Int :=
  posH L (num8 (num8 (num8 (num8 14695981039346656037 l) (IntKind.u64.wrap n)) (IntKind.u64.wrap d)) (IntKind.u64.wrap v)) L.length

/-- An entry's own cells. -/
structure RecB (b : Nat) (n d : Int) (p : Option Addr) (z c : Nat) (v : Int) (W : World) : Prop where
  c0 : W.cell? ⟨b, 0, none⟩ = some (.int .i64 n)
  c1 : W.cell? ⟨b, 1, none⟩ = some (.int .i64 d)
  c2 : W.cell? ⟨b, 2, none⟩ = some (.slice p z c)
  c3 : W.cell? ⟨b, 3, none⟩ = some (.int .i64 v)
theorem RecB.but {b g : Nat} {n d : Int} {p : Option Addr} {z c : Nat} {v : Int} {W W' : World} (h : RecB b n d p z c v W) (k : But g W W') (hb : b ≠ g) : RecB b n d p z c v W' :=
  ⟨(k.cell ⟨b, 0, none⟩ hb).trans h.c0, (k.cell ⟨b, 1, none⟩ hb).trans h.c1, (k.cell ⟨b, 2, none⟩ hb).trans h.c2, (k.cell ⟨b, 3, none⟩ hb).trans h.c3⟩
/-- A posting's own cells. -/
structure PosB (b : Nat) (S : ByteArray) (C : Int) (W : World) : Prop where
  c0 : W.cell? ⟨b, 0, none⟩ = some (.string S)
  c1 : W.cell? ⟨b, 1, none⟩ = some (.int .i64 C)
theorem PosB.but {b g : Nat} {S : ByteArray} {C : Int} {W W' : World} (h : PosB b S C W) (k : But g W W') (hb : b ≠ g) : PosB b S C W' :=
  ⟨(k.cell ⟨b, 0, none⟩ hb).trans h.c0, (k.cell ⟨b, 1, none⟩ hb).trans h.c1⟩
theorem HashAt.below {g : Nat} {h : Int} {W W' : World} (a : HashAt g h W) (hb : Below W.heap.size W W') : HashAt g h W' :=
  ⟨(hb.cell (p := ⟨g, 0, none⟩) a.sz).trans a.cell, (hb.frozen (p := ⟨g, 0, none⟩) a.sz).trans a.fr, Nat.lt_of_lt_of_le a.sz hb.size⟩

set_option maxRecDepth 100000 in
set_option maxHeartbeats 8000000 in
theorem checksum_any (l n d v s : Int) (l0 : 0 ≤ l) (l1 : l < 18446744073709551616) (p : Option Addr) (c : Nat) (L : List (ByteArray × Int)) (w : World) (r : PosR w p L) (ln : L.length ≤ 40) (sn : ∀ i, i < L.length → (ps L i).size ≤ 2000) :
    Calls Try.prog 57 #[.int .u64 l, .agg #[.int .i64 n, .int .i64 d, .slice p L.length c, .int .i64 v, .int .u64 s]] w fun e w' => e = .returned (.int .u64 (ckS l n d v L)) ∧ Below w.heap.size w w' := by
  have R := Lib.hid r
  have SN := Lib.hid sn
  obtain ⟨z, hz⟩ : ∃ z, z = L.length := ⟨_, rfl⟩
  have N1 := Lib.hid (fun g h W (a : HashAt g h W) => number_any g h l l0 l1 W a)
  have N2 := Lib.hid (fun g h W (a : HashAt g h W) => number_any g h _ (u64_in n).1 (u64_in n).2 W a)
  have N3 := Lib.hid (fun g h W (a : HashAt g h W) => number_any g h _ (u64_in d).1 (u64_in d).2 W a)
  have N4 := Lib.hid (fun g h W (a : HashAt g h W) => number_any g h _ (u64_in v).1 (u64_in v).2 W a)
  have CK := Lib.hid (show ckS l n d v L = posH L (num8 (num8 (num8 (num8 14695981039346656037 l) (IntKind.u64.wrap n)) (IntKind.u64.wrap d)) (IntKind.u64.wrap v)) z from by rw [hz]; rfl)
  rw [← hz] at ln ⊢
  have HZ := Lib.hid hz
  clear hz r sn l0 l1
  obtain ⟨u2, hu2⟩ : ∃ u, u = IntKind.u64.wrap n := ⟨_, rfl⟩
  obtain ⟨u3, hu3⟩ : ∃ u, u = IntKind.u64.wrap d := ⟨_, rfl⟩
  obtain ⟨u4, hu4⟩ : ∃ u, u = IntKind.u64.wrap v := ⟨_, rfl⟩
  rw [← hu2] at N2 CK
  rw [← hu3] at N3 CK
  rw [← hu4] at N4 CK
  have e2 := hu2.symm
  have e3 := hu3.symm
  have e4 := hu4.symm
  clear hu2 hu3 hu4
  have W0 := Lib.hid (show Below w.heap.size w ((w.alloc (Obj.cells #[Value.int .i64 n, Value.int .i64 d, Value.slice p z c, Value.int .i64 v, Value.int .u64 s] 46)).alloc (Obj.cells #[Value.int .u64 14695981039346656037] 122)) from ((Below.refl _ _).alloc (Nat.le_refl _) _).alloc (by simp) _)
  have A0 := Lib.hid (show HashAt (w.heap.size + 1) 14695981039346656037 ((w.alloc (Obj.cells #[Value.int .i64 n, Value.int .i64 d, Value.slice p z c, Value.int .i64 v, Value.int .u64 s] 46)).alloc (Obj.cells #[Value.int .u64 14695981039346656037] 122)) from by
    refine ⟨?_, ?_, ?_⟩ <;> simp [go_sem])
  go_enter Try.func57, Try.ntmps57
  have RB := Lib.hid (show RecB w.heap.size n d p z c v ((w.alloc (Obj.cells #[Value.int .i64 n, Value.int .i64 d, Value.slice p z c, Value.int .i64 v, Value.int .u64 s] 46)).alloc (Obj.cells #[Value.int .u64 14695981039346656037] 122)) from by refine ⟨?_, ?_, ?_, ?_⟩ <;> simp [go_sem])
  have HB := W0
  clear W0
  go_wp2_with fail
  generalize ((w.alloc (Obj.cells #[Value.int .i64 n, Value.int .i64 d, Value.slice p z c, Value.int .i64 v, Value.int .u64 s] 46)).alloc (Obj.cells #[Value.int .u64 14695981039346656037] 122)) = wa at *
  refine (N1.out _ _ _ A0.out).mono ?_
  rintro e y1 ⟨rfl, a1, b1⟩
  replace A0 := Lib.hid a1
  replace RB := Lib.hid (RB.out.but b1 (by omega))
  replace HB := Lib.hid (HB.out.trans (b1.below _ (by omega)))
  clear a1 b1 N1
  obtain ⟨k0, k1, k2, k3⟩ := RB.out
  go_wp2_with fail
  clear k0 k1 k2 k3
  refine (N2.out _ _ _ A0.out).mono ?_
  rintro e y2 ⟨rfl, a1, b1⟩
  replace A0 := Lib.hid a1
  replace RB := Lib.hid (RB.out.but b1 (by omega))
  replace HB := Lib.hid (HB.out.trans (b1.below _ (by omega)))
  clear a1 b1 N2
  obtain ⟨k0, k1, k2, k3⟩ := RB.out
  go_wp2_with fail
  clear k0 k1 k2 k3
  refine (N3.out _ _ _ A0.out).mono ?_
  rintro e y3 ⟨rfl, a1, b1⟩
  replace A0 := Lib.hid a1
  replace RB := Lib.hid (RB.out.but b1 (by omega))
  replace HB := Lib.hid (HB.out.trans (b1.below _ (by omega)))
  clear a1 b1 N3
  obtain ⟨k0, k1, k2, k3⟩ := RB.out
  go_wp2_with fail
  clear k0 k1 k2 k3
  refine (N4.out _ _ _ A0.out).mono ?_
  rintro e y4 ⟨rfl, a1, b1⟩
  replace A0 := Lib.hid a1
  replace RB := Lib.hid (RB.out.but b1 (by omega))
  replace HB := Lib.hid (HB.out.trans (b1.below _ (by omega)))
  clear a1 b1 N4
  obtain ⟨k0, k1, k2, k3⟩ := RB.out
  go_wp2_with fail
  clear k0 k1 k2 k3 RB
  have A1 := Lib.hid (show HashAt (w.heap.size + 1) (num8 (num8 (num8 (num8 14695981039346656037 l) u2) u3) u4) y4 from A0.out)
  clear A0
  generalize num8 (num8 (num8 (num8 14695981039346656037 l) u2) u3) u4 = h4 at *
  generalize hg : w.heap.size + 1 = g at *
  have GG := Lib.hid hg
  clear e2 e3 e4 hg
  go_loopw [26] (fun kv wr => ∃ k : Nat, k ≤ z ∧ kv = .int .i64 k ∧ Hid (HashAt g (posH L h4 k) wr) ∧ Hid (Below w.heap.size w wr)) (fun kv _ => z - (intOf kv).toNat)
  case atStart => exact ⟨0, Nat.zero_le _, rfl, A1, HB⟩
  case round =>
    clear A1 HB
    obtain ⟨k, hk, rfl, A, HB⟩ := hrel
    by_cases t : k < z
    · obtain ⟨x, rfl, kx, cx, dx⟩ := (R.out.below HB.out) k (by have := HZ.out; omega)
      have i1 : (0 : Int) ≤ (k : Int) := by omega
      have i2 : (k : Int) < (z : Int) := by omega
      have sz := SN.out k (by have := HZ.out; omega)
      have PH := Lib.hid (show posH L h4 (k + 1) = List.foldl stp (chH (ps L k) (stp (posH L h4 k) ((ps L k).size % 256)) (ps L k).size) (bys 8 (IntKind.u64.wrap (pc L k))) from rfl)
      generalize ps L k = S at *
      generalize pc L k = C at *
      generalize posH L h4 k = h at *
      obtain ⟨N, hN⟩ : ∃ N, S.size = N := ⟨_, rfl⟩
      rw [hN] at sz PH
      have HN := Lib.hid hN
      have al : Below wr.heap.size wr (wr.alloc (Obj.cells #[Value.string S, Value.int .i64 C] 48)) := (Below.refl _ _).alloc (Nat.le_refl _) _
      have A2 := Lib.hid (A.out.below al)
      have HB2 := Lib.hid (HB.out.trans (al.mono HB.out.size))
      have PB := Lib.hid (show PosB wr.heap.size S C (wr.alloc (Obj.cells #[Value.string S, Value.int .i64 C] 48)) from by refine ⟨?_, ?_⟩ <;> simp [go_sem])
      have bg : wr.heap.size ≠ g := by have := A.out.sz; omega
      clear al A HB
      go_upto_region 9 with fail
      generalize (wr.alloc (Obj.cells #[Value.string S, Value.int .i64 C] 48)) = wb at *
      generalize wr.heap.size = b at *
      obtain ⟨k0, k1⟩ := PB.out
      go_wp2_with fail
      refine (add_any g h (N % 256) _ A2.out).mono ?_
      rintro e y5 ⟨rfl, a1, b1⟩
      replace A2 := Lib.hid a1
      replace PB := Lib.hid (PB.out.but b1 bg)
      replace HB2 := Lib.hid (HB2.out.trans (b1.below _ (by have := GG.out; omega)))
      clear a1 b1 k0 k1
      generalize hh : stp h (N % 256) = h1 at *
      have HH := Lib.hid hh
      clear hh
      obtain ⟨k0, k1⟩ := PB.out
      go_wp2_with fail
      clear k0 k1
      go_loopw [38] (fun jv wq => ∃ j : Nat, j ≤ N ∧ jv = .int .i64 j ∧ Hid (HashAt g (chH S h1 j) wq) ∧ Hid (PosB b S C wq) ∧ Hid (Below w.heap.size w wq)) (fun jv _ => N - (intOf jv).toNat)
      case atStart => exact ⟨0, Nat.zero_le _, rfl, A2, PB, HB2⟩
      case round =>
        clear A2 PB HB2
        obtain ⟨j, hj, rfl, A2, PB, HB2⟩ := hrel
        obtain ⟨k0, k1⟩ := PB.out
        by_cases tj : j < N
        · have j1 : (0 : Int) ≤ (j : Int) := by omega
          have j2 : (j : Int) < (N : Int) := by omega
          go_wp2_with fail
          have E := Lib.hid (show stp (chH S h1 j) ((S[j]'(by omega)).toNat : Int) = chH S h1 (j + 1) from by
            simp only [chH, chr]; rw [dif_pos (by omega)])
          refine (add_any g (chH S h1 j) _ _ A2.out).mono ?_
          rintro e y6 ⟨rfl, a1, b1⟩
          rw [E.out] at a1
          replace A2 := Lib.hid a1
          replace PB := Lib.hid (PB.out.but b1 bg)
          replace HB2 := Lib.hid (HB2.out.trans (b1.below _ (by have := GG.out; omega)))
          clear a1 b1 k0 k1 E
          go_wp2_with fail
          go_roundw
          case rel => exact ⟨j + 1, by omega, by go_num, A2, PB, HB2⟩
          case measure => simp [intOf]; omega
        · obtain rfl : j = N := by omega
          obtain ⟨uc, huc⟩ : ∃ u, IntKind.u64.wrap C = u := ⟨_, rfl⟩
          have u0 := u64_in C
          rw [huc] at u0 PH
          have NN := Lib.hid (number_any g (chH S h1 j) uc u0.1 u0.2 wr A2.out)
          have PE := Lib.hid (show List.foldl stp (chH S h1 j) (bys 8 uc) = posH L h4 (k + 1) from by rw [PH.out])
          clear u0
          go_wp2_with fail
          refine (NN.out).mono ?_
          rintro e y7 ⟨rfl, a1, b1⟩
          rw [PE.out] at a1
          replace A2 := Lib.hid a1
          replace HB2 := Lib.hid (HB2.out.trans (b1.below _ (by have := GG.out; omega)))
          clear a1 b1 k0 k1 PE NN PB
          go_wp2_with fail
          go_roundw
          case rel => exact ⟨k + 1, by omega, by go_num, A2, HB2⟩
          case measure => simp [intOf]; omega
    · obtain rfl : k = z := by omega
      obtain ⟨k0, -, -⟩ := A.out
      go_wp2_with fail
      go_ret
      exact ⟨congrArg _ (congrArg _ CK.out.symm), HB.out⟩
end Go.Proofs.Ythfnaegfjacjbab
