/- Accounts: Verify, the program's. -/
import Derived.Test.YthfnaegfjacjbabAV1
import Derived.Deep.Cut
import Derived.Deep.CutRange
import Derived.Deep.RegionHeld3
namespace Go.Proofs.Ythfnaegfjacjbab
open Go.RowKit
set_option linter.unusedVariables false
set_option linter.unusedSimpArgs false

/-- An entry, as it lies in a row of entries. -/
structure Rc where
  no : Int
  day : Int
  rev : Int
  sum : Int
  pp : Option Addr
  cap : Nat
  ps : List (ByteArray × Int)
def rc (R : List Rc) (i : Nat) : Rc := R[i]?.getD ⟨0, 0, 0, 0, none, 0, []⟩
structure RcAt (w : World) (x : Addr) (r : Rc) : Prop where
  blk : x.block < w.heap.size
  c0 : w.cell? x = some (.int .i64 r.no)
  c1 : w.cell? ⟨x.block, x.off + 1, none⟩ = some (.int .i64 r.day)
  c2 : w.cell? ⟨x.block, x.off + 2, none⟩ = some (.slice r.pp r.ps.length r.cap)
  c3 : w.cell? ⟨x.block, x.off + 3, none⟩ = some (.int .i64 r.rev)
  c4 : w.cell? ⟨x.block, x.off + 4, none⟩ = some (.int .u64 r.sum)
  pos : PosR w r.pp r.ps
  s0 : 0 ≤ r.sum
  s1 : r.sum < 18446744073709551616
theorem RcAt.below {w w' : World} {x : Addr} {r : Rc} (h : RcAt w x r) (hb : Below w.heap.size w w') : RcAt w' x r :=
  ⟨Nat.lt_of_lt_of_le h.blk hb.size, (hb.cell (p := x) h.blk).trans h.c0, (hb.cell (p := ⟨x.block, x.off + 1, none⟩) h.blk).trans h.c1, (hb.cell (p := ⟨x.block, x.off + 2, none⟩) h.blk).trans h.c2, (hb.cell (p := ⟨x.block, x.off + 3, none⟩) h.blk).trans h.c3, (hb.cell (p := ⟨x.block, x.off + 4, none⟩) h.blk).trans h.c4, h.pos.below hb, h.s0, h.s1⟩
def RecR (w : World) (p : Option Addr) (R : List Rc) : Prop := ∀ i, i < R.length → ∃ x : Addr, p = some x ∧ RcAt w (x.add (i * 5)) (rc R i)
theorem RecR.below {w w' : World} {p : Option Addr} {R : List Rc} (h : RecR w p R) (hb : Below w.heap.size w w') : RecR w' p R := fun i hi => by
  obtain ⟨x, e, k⟩ := h i hi
  exact ⟨x, e, k.below hb⟩
/-- The sum of the entry before. -/
def prv (R : List Rc) : Nat → Int
  | 0 => 0
  | i + 1 => (rc R i).sum
def GoodAt (R : List Rc) (i : Nat) : Prop := (rc R i).no = i + 1 ∧ (rc R i).sum = ckS (prv R i) (rc R i).no (rc R i).day (rc R i).rev (rc R i).ps
def GoodTo (R : List Rc) (k : Nat) : Prop := ∀ i, i < k → GoodAt R i
/-- What Verify answers. -/
def VeQ (R : List Rc) (x : Int) : Prop := (∃ k, k < R.length ∧ GoodTo R k ∧ ¬ GoodAt R k ∧ x = k) ∨ (GoodTo R R.length ∧ x = R.length)
theorem VeQ.det {R : List Rc} {x y : Int} (h : VeQ R x) (g : VeQ R y) : x = y := by
  rcases h with ⟨k, k1, k2, k3, rfl⟩ | ⟨k2, rfl⟩ <;> rcases g with ⟨m, m1, m2, m3, rfl⟩ | ⟨m2, rfl⟩
  · have a : ¬ k < m := fun h => k3 (m2 k h)
    have b : ¬ m < k := fun h => m3 (k2 m h)
    omega
  · exact absurd (m2 k k1) k3
  · exact absurd (k2 m m1) m3
  · rfl
/-- No entry is too long. -/
def Short (R : List Rc) : Prop := ∀ i, i < R.length → (rc R i).ps.length ≤ 40 ∧ ∀ k, k < (rc R i).ps.length → (ps (rc R i).ps k).size ≤ 2000

set_option maxRecDepth 100000 in
set_option maxHeartbeats 8000000 in
theorem Verify_any (p : Option Addr) (c : Nat) (R : List Rc) (w : World) (r : RecR w p R) (ln : R.length ≤ 100) (sh : Short R) :
    Calls Try.prog 26 #[.slice p R.length c] w fun e w' => ∃ x, e = .returned (.int .i64 x) ∧ VeQ R x ∧ Below w.heap.size w w' := by
  have RR := Lib.hid r
  have SH := Lib.hid sh
  obtain ⟨z, hz⟩ : ∃ z, z = R.length := ⟨_, rfl⟩
  have VQ := Lib.hid (show ∀ x, ((∃ k, k < z ∧ GoodTo R k ∧ ¬ GoodAt R k ∧ x = (k : Int)) ∨ (GoodTo R z ∧ x = (z : Int))) → VeQ R x from fun x h => by rw [hz] at h; exact h)
  rw [← hz] at ln ⊢
  have HZ := Lib.hid hz
  clear hz r sh
  have HB : Hid (Below w.heap.size w w) := Below.refl _ _
  go_enter Try.func26, Try.ntmps26
  go_wp2_with fail
  go_loopw [3, 8] (fun bv iv wr => ∃ (i : Nat) (b : Int), i ≤ z ∧ iv = .int .i64 i ∧ bv = .int .u64 b ∧ 0 ≤ b ∧ b < 18446744073709551616 ∧ Hid (b = prv R i) ∧ Hid (GoodTo R i) ∧ Hid (Below w.heap.size w wr)) (fun _ iv _ => z - (intOf iv).toNat)
  case atStart => exact ⟨0, 0, Nat.zero_le _, rfl, rfl, by omega, by omega, Lib.hid rfl, Lib.hid (fun i h => absurd h (by omega)), HB⟩
  case round =>
    clear HB
    obtain ⟨i, b, hi, rfl, rfl, b0, b1, PV, GT, HB⟩ := hrel
    by_cases t : i < z
    · obtain ⟨x, rfl, ra⟩ := (RR.out.below HB.out) i (by have := HZ.out; omega)
      have i1 : (0 : Int) ≤ (i : Int) := by omega
      have i2 : (i : Int) < (z : Int) := by omega
      obtain ⟨sh1, sh2⟩ := SH.out i (by have := HZ.out; omega)
      have GA := Lib.hid (show GoodAt R i ↔ ((rc R i).no = i + 1 ∧ (rc R i).sum = ckS b (rc R i).no (rc R i).day (rc R i).rev (rc R i).ps) from by rw [PV.out]; exact Iff.rfl)
      have PN := Lib.hid (show (rc R i).sum = prv R (i + 1) from rfl)
      have GN := Lib.hid (show GoodAt R i → GoodTo R (i + 1) from fun h j hj => by
        by_cases e : j = i
        · subst e; exact h
        · exact GT.out j (by omega))
      have BAD := Lib.hid (show ¬ GoodAt R i → VeQ R (i : Int) from fun h => VQ.out _ (.inl ⟨i, t, GT.out, h, rfl⟩))
      generalize rc R i = q at *
      obtain ⟨no, day, rev, sum, pp, cap, L⟩ := q
      obtain ⟨blk, c0, c1, c2, c3, c4, pos, s0, s1⟩ := ra
      dsimp only at *
      have CK := Lib.hid (fun W (h : PosR W pp L) => checksum_any b no day rev sum b0 b1 pp cap L W h sh1 sh2)
      have PS := Lib.hid pos
      clear PV GT sh1 sh2 pos
      obtain ⟨m, hm⟩ : ∃ m, m = L.length := ⟨_, rfl⟩
      rw [← hm] at c2 CK
      have HM := Lib.hid hm
      clear hm
      obtain ⟨k, hk⟩ : ∃ k, k = ckS b no day rev L := ⟨_, rfl⟩
      rw [← hk] at CK GA
      have HK := Lib.hid hk
      clear hk
      have wi : IntKind.i64.wrap ((i : Int) + 1) = (i : Int) + 1 := IntWalk.i64_in _ (by omega)
      by_cases u1 : no = (i : Int) + 1
      · subst u1
        have al : Below wr.heap.size wr (wr.alloc (Obj.cells #[Value.int .i64 ((i : Int) + 1), Value.int .i64 day, Value.slice pp m cap, Value.int .i64 rev, Value.int .u64 sum] 46)) := (Below.refl _ _).alloc (Nat.le_refl _) _
        replace HB := Lib.hid (HB.out.trans (al.mono HB.out.size))
        replace PS := Lib.hid (PS.out.below al)
        have KK := Lib.hid (show (wr.alloc (Obj.cells #[Value.int .i64 ((i : Int) + 1), Value.int .i64 day, Value.slice pp m cap, Value.int .i64 rev, Value.int .u64 sum] 46)).cell? ⟨wr.heap.size, 0, none⟩ = some (.int .i64 ((i : Int) + 1)) ∧ (wr.alloc (Obj.cells #[Value.int .i64 ((i : Int) + 1), Value.int .i64 day, Value.slice pp m cap, Value.int .i64 rev, Value.int .u64 sum] 46)).cell? ⟨wr.heap.size, 1, none⟩ = some (.int .i64 day) ∧ (wr.alloc (Obj.cells #[Value.int .i64 ((i : Int) + 1), Value.int .i64 day, Value.slice pp m cap, Value.int .i64 rev, Value.int .u64 sum] 46)).cell? ⟨wr.heap.size, 2, none⟩ = some (.slice pp m cap) ∧ (wr.alloc (Obj.cells #[Value.int .i64 ((i : Int) + 1), Value.int .i64 day, Value.slice pp m cap, Value.int .i64 rev, Value.int .u64 sum] 46)).cell? ⟨wr.heap.size, 3, none⟩ = some (.int .i64 rev) ∧ (wr.alloc (Obj.cells #[Value.int .i64 ((i : Int) + 1), Value.int .i64 day, Value.slice pp m cap, Value.int .i64 rev, Value.int .u64 sum] 46)).cell? ⟨wr.heap.size, 4, none⟩ = some (.int .u64 sum) ∧ wr.heap.size < (wr.alloc (Obj.cells #[Value.int .i64 ((i : Int) + 1), Value.int .i64 day, Value.slice pp m cap, Value.int .i64 rev, Value.int .u64 sum] 46)).heap.size from by
          refine ⟨?_, ?_, ?_, ?_, ?_, ?_⟩ <;> simp [go_sem])
        have eq1 : ((i : Int) + 1 != (i : Int) + 1) = false := by simp
        clear al
        go_upto_region 5 with fail
        generalize (wr.alloc (Obj.cells #[Value.int .i64 ((i : Int) + 1), Value.int .i64 day, Value.slice pp m cap, Value.int .i64 rev, Value.int .u64 sum] 46)) = wa at *
        generalize wr.heap.size = g at *
        clear c0 c1 c2 c3 c4 blk
        obtain ⟨k0, k1, k2, k3, k4, gz⟩ := KK.out
        clear KK
        by_cases u4 : sum = k
        · have eq2 : (sum != k) = false := by simp [u4]
          have GO := Lib.hid (GN.out (GA.out.2 ⟨rfl, u4⟩))
          clear GA GN BAD HK u4
          go_region_held3 (fun w' => w'.cell? ⟨g, 0, none⟩ = some (.int .i64 ((i : Int) + 1)) ∧ w'.cell? ⟨g, 1, none⟩ = some (.int .i64 day) ∧ w'.cell? ⟨g, 2, none⟩ = some (.slice pp m cap) ∧ w'.cell? ⟨g, 3, none⟩ = some (.int .i64 rev) ∧ w'.cell? ⟨g, 4, none⟩ = some (.int .u64 sum))
            (first | exact ⟨k0, k1, k2, k3, k4⟩)
            (first
              | (go_at_call 57; (with_reducible refine (CK.out _ (by first | exact PS.out | exact PS.out.below ((Below.refl _ _).drew) | exact PS.out.below (below_drewN (Below.refl _ _) _))).mono ?_); rintro e v1 ⟨rfl, r3⟩; have st : Below wa.heap.size wa v1 := (by first | exact r3 | exact ((Below.refl _ _).drew).trans r3 | exact (below_drewN (Below.refl _ _) _).trans r3); replace HB := Lib.hid (HB.out.trans (st.mono HB.out.size)); replace k0 := (st.cell (p := ⟨g, 0, none⟩) gz).trans k0; replace k1 := (st.cell (p := ⟨g, 1, none⟩) gz).trans k1; replace k2 := (st.cell (p := ⟨g, 2, none⟩) gz).trans k2; replace k3 := (st.cell (p := ⟨g, 3, none⟩) gz).trans k3; replace k4 := (st.cell (p := ⟨g, 4, none⟩) gz).trans k4; clear r3 st))
          go_wp2_with fail
          go_roundw
          case rel => exact ⟨i + 1, sum, by omega, by go_num, rfl, s0, s1, PN, GO, (by first | exact HB | exact Lib.hid HB.out.drew | exact Lib.hid (below_drewN HB.out _))⟩
          case measure => simp [intOf]; omega
        · have eq2 : (sum != k) = true := by simp [u4]
          have BD := Lib.hid (BAD.out (fun h => u4 (GA.out.1 h).2))
          clear GA GN BAD HK u4 PN
          go_region_held3 (fun w' => w'.cell? ⟨g, 0, none⟩ = some (.int .i64 ((i : Int) + 1)) ∧ w'.cell? ⟨g, 1, none⟩ = some (.int .i64 day) ∧ w'.cell? ⟨g, 2, none⟩ = some (.slice pp m cap) ∧ w'.cell? ⟨g, 3, none⟩ = some (.int .i64 rev) ∧ w'.cell? ⟨g, 4, none⟩ = some (.int .u64 sum))
            (first | exact ⟨k0, k1, k2, k3, k4⟩)
            (first
              | (go_at_call 57; (with_reducible refine (CK.out _ (by first | exact PS.out | exact PS.out.below ((Below.refl _ _).drew) | exact PS.out.below (below_drewN (Below.refl _ _) _))).mono ?_); rintro e v1 ⟨rfl, r3⟩; have st : Below wa.heap.size wa v1 := (by first | exact r3 | exact ((Below.refl _ _).drew).trans r3 | exact (below_drewN (Below.refl _ _) _).trans r3); replace HB := Lib.hid (HB.out.trans (st.mono HB.out.size)); replace k0 := (st.cell (p := ⟨g, 0, none⟩) gz).trans k0; replace k1 := (st.cell (p := ⟨g, 1, none⟩) gz).trans k1; replace k2 := (st.cell (p := ⟨g, 2, none⟩) gz).trans k2; replace k3 := (st.cell (p := ⟨g, 3, none⟩) gz).trans k3; replace k4 := (st.cell (p := ⟨g, 4, none⟩) gz).trans k4; clear r3 st))
          go_wp2_with fail
          go_ret
          exact ⟨_, rfl, BD.out, (by first | exact HB.out | exact HB.out.drew | exact below_drewN HB.out _)⟩
      · have eq1 : (no != (i : Int) + 1) = true := by simp [u1]
        have BD := Lib.hid (BAD.out (fun h => u1 (GA.out.1 h).1))
        clear GA GN BAD CK
        go_upto_region 5 with fail
        go_quiet (fail)
        try (go_wp2_with fail)
        go_ret
        exact ⟨_, rfl, BD.out, (by first | exact HB.out | exact HB.out.drew | exact HB.out.alloc HB.out.size _ | exact (HB.out.alloc HB.out.size _).drew | exact below_drewN (HB.out.alloc HB.out.size _) _)⟩
    · obtain rfl : i = z := by omega
      go_wp2_with fail
      go_ret
      exact ⟨_, rfl, VQ.out _ (.inr ⟨GT.out, rfl⟩), HB.out⟩
end Go.Proofs.Ythfnaegfjacjbab
