/- The law ClassingTests: its walk. -/
import Derived.Test.YtkhdpmicejmabaaVA4
import Derived.Test.YtkhdpmicejmabaaCAA
namespace Go.Proofs.Ytkhdpmicejmabaa
open Go.RowKit Go.Proofs.Ytkhdpmicejmabaa.Ct Go.Proofs.Ytkhdpmicejmabaa.Stb
set_option linter.unusedVariables false
set_option linter.unusedSimpArgs false

theorem RT.fm {w w' : World} {M : Nat → Prop} {Q : Nat → Prop} {v : Value} {tol : Int} {t : Tst} (h : RT w Q v tol t) (f : Fm M w w') (q : ∀ k, Q k → ¬ M k) : RT w' Q v tol t := by
  obtain ⟨pL, cL, pU, cU, e, a, b, c, d, l1, l2⟩ := h.mem
  exact ⟨h.ok, h.tl, pL, cL, pU, cU, e, a.fm f (fun x hx => q _ (l1 x hx)), b.fm f (fun x hx => q _ (l2 x hx)), c, d, l1, l2⟩
theorem TA.fm {w w' : World} {M : Nat → Prop} {b lo : Nat} {tol : Int} {t : Tst} (h : TA w b lo tol t) (f : Fm M w w') (hb : ¬ M b) (q : ∀ k, lo ≤ k → ¬ M k) : TA w' b lo tol t := by
  obtain ⟨c, p, d, o, k, r, e⟩ := h.mem
  exact ⟨h.ok, h.tl, c, p, d, o.fm f hb, k, r.fm f (fun x hx => q _ (e.1 x hx).1.2), e⟩
/-- The reference's test in its box. -/
structure RX (w : World) (X : Nat) (tol : Int) (t : Tst) : Prop where
  mem : ∃ pL cL pU cU, OB w X 30 4 (tsC tol (.slice pL t.n cL) t.st (.slice pU t.U.length cU)) ∧ RT w (fun k => X < k) (.agg #[.int .i64 tol, .slice pL t.n cL, .int .i64 t.st, .slice pU t.U.length cU]) tol t
theorem RX.below {w w' : World} {X : Nat} {tol : Int} {t : Tst} (h : RX w X tol t) (st : Below w.heap.size w w') : RX w' X tol t := by
  obtain ⟨a, b, c, d, o, r⟩ := h.mem
  exact ⟨a, b, c, d, o.below st, r.below st⟩
theorem RX.fm {w w' : World} {M : Nat → Prop} {X : Nat} {tol : Int} {t : Tst} (h : RX w X tol t) (f : Fm M w w') (q : ∀ k, X ≤ k → ¬ M k) : RX w' X tol t := by
  obtain ⟨a, b, c, d, o, r⟩ := h.mem
  exact ⟨a, b, c, d, o.fm f (q X (Nat.le_refl _)), r.fm f (fun k hk => q k (Nat.le_of_lt hk))⟩
/-- The memory of the law between the subsamples. -/
structure MI (W0 : World) (b X : Nat) (tol : Int) (t : Tst) (w : World) : Prop where
  ta : TA w b (X + 1) tol t
  rx : RX w X tol t
  bl : Below W0.heap.size W0 w
  l1 : W0.heap.size ≤ b
  l2 : b < X
  l3 : X < w.heap.size
theorem MI.below {W0 w w' : World} {b X : Nat} {tol : Int} {t : Tst} (h : MI W0 b X tol t w) (st : Below w.heap.size w w') : MI W0 b X tol t w' := ⟨h.ta.below st, h.rx.below st, h.bl.trans (st.mono h.bl.size), h.l1, h.l2, Nat.lt_of_lt_of_le h.l3 st.size⟩

theorem bt0 {wa w2 : World} (q : Below wa.heap.size wa w2) : Below wa.heap.size wa w2 := q
theorem bt0d {wa w2 : World} (q : Below wa.drew.heap.size wa.drew w2) : Below wa.heap.size wa w2 := (Below.refl _ _).drew.trans q
theorem bt1d {wa w2 : World} (q : Below (wa.drew.alloc (Obj.cells #[.int .i64 0, .slice none 0 0, .int .i64 0, .slice none 0 0] 30)).heap.size (wa.drew.alloc (Obj.cells #[.int .i64 0, .slice none 0 0, .int .i64 0, .slice none 0 0] 30)) w2) : Below wa.heap.size wa w2 ∧ OB w2 wa.heap.size 30 4 (tsC 0 (.slice none 0 0) 0 (.slice none 0 0)) :=
  ⟨((Below.refl _ wa).drew.alloc (Nat.le_refl _) _).trans (q.mono (by simp)), (ob_t4 wa.drew 0 (.slice none 0 0) 0 (.slice none 0 0) _ : OB _ wa.drew.heap.size _ _ _).below q⟩
theorem bt1e {wa w2 : World} (q : Below (wa.alloc (Obj.cells #[.int .i64 0, .slice none 0 0, .int .i64 0, .slice none 0 0] 30)).drew.heap.size (wa.alloc (Obj.cells #[.int .i64 0, .slice none 0 0, .int .i64 0, .slice none 0 0] 30)).drew w2) : Below wa.heap.size wa w2 ∧ OB w2 wa.heap.size 30 4 (tsC 0 (.slice none 0 0) 0 (.slice none 0 0)) :=
  ⟨((Below.refl _ wa).alloc (Nat.le_refl _) _).trans (((Below.refl _ _).drew.trans q).mono (by simp)), (ob_t4 wa 0 (.slice none 0 0) 0 (.slice none 0 0) _).below ((Below.refl _ _).drew.trans q)⟩
/-- Four cells stored anew. -/
theorem ob_four {W : World} {g : Nat} {t : TypeId} {c : Nat → Value} (h : OB W g t 4 c) (x : Int) (vL : Value) (y : Int) (vU : Value) : OB ((((W.setCell ⟨g, 0, none⟩ (.int .i64 x)).setCell ⟨g, 1, none⟩ vL).setCell ⟨g, 2, none⟩ (.int .i64 y)).setCell ⟨g, 3, none⟩ vU) g t 4 (tsC x vL y vU) := by
  have h1 := h.set 0 (.int .i64 x)
  have h2 := h1.set 1 vL
  have h3 := h2.set 2 (.int .i64 y)
  have h4 := h3.set 3 vU
  exact h4.ext fun k hk => by rcases (show k = 0 ∨ k = 1 ∨ k = 2 ∨ k = 3 by omega) with rfl | rfl | rfl | rfl <;> simp [updV, tsC]
theorem four_fm (W : World) (g : Nat) (a b c d : Value) : Fm (fun k => k = g) W ((((W.setCell ⟨g, 0, none⟩ a).setCell ⟨g, 1, none⟩ b).setCell ⟨g, 2, none⟩ c).setCell ⟨g, 3, none⟩ d) := by
  have h1 := Fm.set (M := fun k => k = g) (w := W) ⟨g, 0, none⟩ a rfl
  have h2 := h1.trans (Fm.set (M := fun k => k = g) ⟨g, 1, none⟩ b rfl)
  have h3 := h2.trans (Fm.set (M := fun k => k = g) ⟨g, 2, none⟩ c rfl)
  exact h3.trans (Fm.set (M := fun k => k = g) ⟨g, 3, none⟩ d rfl)
/-- What the second Feed of a round leaves: the new test in a box of its own. -/
def NB (w0 : World) (X g : Nat) (tol : Int) (t : Tst) (W : World) : Prop := ∃ pL cL pU cU, OB W g 30 4 (tsC tol (.slice pL t.n cL) t.st (.slice pU t.U.length cU)) ∧ RT W (fun k => X < k) (.agg #[.int .i64 tol, .slice pL t.n cL, .int .i64 t.st, .slice pU t.U.length cU]) tol t ∧ Below w0.heap.size w0 W ∧ w0.heap.size ≤ g
theorem nb_al {w0 W : World} {X : Nat} {tol : Int} {t : Tst} {pL : Option Addr} {cL : Nat} {pU : Option Addr} {cU : Nat} (rt : RT W (fun k => X < k) (.agg #[.int .i64 tol, .slice pL t.n cL, .int .i64 t.st, .slice pU t.U.length cU]) tol t) (b : Below w0.heap.size w0 W) :
    NB w0 X W.heap.size tol t (W.alloc (Obj.cells #[.int .i64 tol, .slice pL t.n cL, .int .i64 t.st, .slice pU t.U.length cU] 30)) :=
  ⟨pL, cL, pU, cU, ob_t4 _ _ _ _ _ _, rt.below ((Below.refl _ _).alloc (Nat.le_refl _) _), b.alloc b.size _, b.size⟩
theorem nb_st {w0 W : World} {X g : Nat} {tol : Int} {t : Tst} {pL : Option Addr} {cL : Nat} {pU : Option Addr} {cU : Nat} {c : Nat → Value} (rt : RT W (fun k => X < k) (.agg #[.int .i64 tol, .slice pL t.n cL, .int .i64 t.st, .slice pU t.U.length cU]) tol t) (b : Below w0.heap.size w0 W) (o : OB W g 30 4 c) (hg : w0.heap.size ≤ g) (ng : ∀ x, (pL = some x ∨ pU = some x) → x.block ≠ g) :
    NB w0 X g tol t ((((W.setCell ⟨g, 0, none⟩ (.int .i64 tol)).setCell ⟨g, 1, none⟩ (.slice pL t.n cL)).setCell ⟨g, 2, none⟩ (.int .i64 t.st)).setCell ⟨g, 3, none⟩ (.slice pU t.U.length cU)) := by
  obtain ⟨a1, a2, a3, a4, e, s1, s2, s3, s4, s5, s6⟩ := rt.mem
  cases e
  exact ⟨pL, cL, pU, cU, ob_four o _ _ _ _, ⟨rt.ok, rt.tl, pL, cL, pU, cU, rfl, s1.fm (four_fm W g _ _ _ _) (fun x hx => ng x (.inl hx)), s2.fm (four_fm W g _ _ _ _) (fun x hx => ng x (.inr hx)), s3, s4, s5, s6⟩, four_bl b hg _ _ _ _, hg⟩

/-- What the second Feed reads. -/
def LwX (W : World) (X : Nat) (tol : Int) (pL pU : Option Addr) (n cL mU cU : Nat) (st : Int) (x : Addr) (i : Nat) (sv : Sb) : Prop := W.cell? ⟨X, 0, none⟩ = some (.int .i64 tol) ∧ W.cell? ⟨X, 1, none⟩ = some (.slice pL n cL) ∧ W.cell? ⟨X, 2, none⟩ = some (.int .i64 st) ∧ W.cell? ⟨X, 3, none⟩ = some (.slice pU mU cU) ∧ W.cell? (x.add (i * 5)) = some (.int .i64 sv.raw) ∧ W.cell? ⟨(x.add (i * 5)).block, (x.add (i * 5)).off + 1, none⟩ = some (.int .i64 sv.dry) ∧ W.cell? ⟨(x.add (i * 5)).block, (x.add (i * 5)).off + 2, none⟩ = some (.int .i64 sv.ash) ∧ W.cell? ⟨(x.add (i * 5)).block, (x.add (i * 5)).off + 3, none⟩ = some (.int .i64 sv.gre) ∧ W.cell? ⟨(x.add (i * 5)).block, (x.add (i * 5)).off + 4, none⟩ = some (.int .i64 sv.veg)
theorem LwX.below {W W' : World} {X : Nat} {tol : Int} {pL pU : Option Addr} {n cL mU cU : Nat} {st : Int} {x : Addr} {i : Nat} {sv : Sb} (b : Below W.heap.size W W') (h : LwX W X tol pL pU n cL mU cU st x i sv) : LwX W' X tol pL pU n cL mU cU st x i sv := by
  obtain ⟨k0, k1, k2, k3, a0, a1, a2, a3, a4⟩ := h
  exact ⟨cellGr b k0, cellGr b k1, cellGr b k2, cellGr b k3, cellGr b a0, cellGr b a1, cellGr b a2, cellGr b a3, cellGr b a4⟩
theorem LwX.al {W : World} {o : Obj} {X : Nat} {tol : Int} {pL pU : Option Addr} {n cL mU cU : Nat} {st : Int} {x : Addr} {i : Nat} {sv : Sb} (h : LwX W X tol pL pU n cL mU cU st x i sv) : LwX (W.alloc o) X tol pL pU n cL mU cU st x i sv := h.below ((Below.refl _ _).alloc (Nat.le_refl _) _)
theorem LwX.dr {W : World} {X : Nat} {tol : Int} {pL pU : Option Addr} {n cL mU cU : Nat} {st : Int} {x : Addr} {i : Nat} {sv : Sb} (h : LwX W X tol pL pU n cL mU cU st x i sv) : LwX W.drew X tol pL pU n cL mU cU st x i sv := h.below (Below.refl _ _).drew
theorem LwX.set {W : World} {X : Nat} {tol : Int} {pL pU : Option Addr} {n cL mU cU : Nat} {st : Int} {x : Addr} {i : Nat} {sv : Sb} {g k : Nat} {vv : Value} (h1 : X ≠ g) (h2 : x.block ≠ g) (h : LwX W X tol pL pU n cL mU cU st x i sv) : LwX (W.setCell ⟨g, k, none⟩ vv) X tol pL pU n cL mU cU st x i sv := by
  have c : ∀ a : Addr, a.block ≠ g → (W.setCell ⟨g, k, none⟩ vv).cell? a = W.cell? a := fun a ha => by unfold World.cell?; rw [Below.heap_setCell _ _ _ _ ha]
  obtain ⟨k0, k1, k2, k3, a0, a1, a2, a3, a4⟩ := h
  have h3 : (x.add (i * 5)).block ≠ g := by rw [addB]; exact h2
  exact ⟨(c _ h1).trans k0, (c _ h1).trans k1, (c _ h1).trans k2, (c _ h1).trans k3, (c _ h3).trans a0, (c ⟨(x.add (i * 5)).block, (x.add (i * 5)).off + 1, none⟩ h3).trans a1, (c ⟨(x.add (i * 5)).block, (x.add (i * 5)).off + 2, none⟩ h3).trans a2, (c ⟨(x.add (i * 5)).block, (x.add (i * 5)).off + 3, none⟩ h3).trans a3, (c ⟨(x.add (i * 5)).block, (x.add (i * 5)).off + 4, none⟩ h3).trans a4⟩

/-- What a Result tells, in one form. -/
def fz (f : Sb → Int) (t : Tst) : Int := if t.st = 1 then smU f t.S t.U t.U.length else 0
def fl (t : Tst) : Nat := if t.st = 1 then t.U.length else 0
def er (t : Tst) : Int := if t.st = 1 then 0 else 10
def RsU (t : Tst) (w : World) (e : Ending) (w' : World) : Prop := ∃ pa ca, e = .returned (.tuple #[.agg #[.int .i64 (fz Sb.wl t), .int .i64 (fz Sb.veg t), .int .i64 (fz Sb.raw t), .slice pa (fl t) ca], .int .i64 (er t)]) ∧ Below w.heap.size w w' ∧ NmR w' pa (fl t) (gi t.U) ∧ (0 < fl t → ∃ g, pa = some ⟨g, 0, none⟩ ∧ w.heap.size ≤ g ∧ SW g (fl t) ca w' w' (gi t.U))
def RrU (t : Tst) (w : World) (e : Ending) (w' : World) : Prop := ∃ pa ca, e = .returned (.tuple #[.agg #[.int .i64 (fz Sb.wl t), .int .i64 (fz Sb.veg t), .int .i64 (fz Sb.raw t), .slice pa (fl t) ca], .int .i64 (er t)]) ∧ Below w.heap.size w w' ∧ NmR w' pa (fl t) (gi t.U)
theorem RsQ.u {t : Tst} {w : World} {e : Ending} {w' : World} (h : RsQ t w e w') : RsU t w e w' := by
  obtain ⟨b, ⟨z, rfl⟩ | ⟨z, g, c, hg, rfl, r⟩⟩ := h
  · refine ⟨none, 0, ?_, b, fun i hi => ?_, fun hi => ?_⟩
    · unfold fz fl er; rw [if_neg z, if_neg z, if_neg z, if_neg z, if_neg z]
    · unfold fl at hi; rw [if_neg z] at hi; omega
    · unfold fl at hi; rw [if_neg z] at hi; omega
  · have e : fl t = t.U.length := by unfold fl; rw [if_pos z]
    refine ⟨some ⟨g, 0, none⟩, c, ?_, b, fun i hi => ⟨_, rfl, r.lt (by omega), by rw [add0]; exact r.cell (by omega)⟩, fun hi => ⟨g, rfl, hg, by rw [e]; exact r⟩⟩
    unfold fz fl er rsV; rw [if_pos z, if_pos z, if_pos z, if_pos z, if_pos z]
theorem RrQ.u {t : Tst} {w : World} {e : Ending} {w' : World} (h : RrQ t w e w') : RrU t w e w' := by
  obtain ⟨b, ⟨z, rfl⟩ | ⟨z, p, c, rfl, r⟩⟩ := h
  · refine ⟨none, 0, ?_, b, fun i hi => ?_⟩
    · unfold fz fl er; rw [if_neg z, if_neg z, if_neg z, if_neg z, if_neg z]
    · unfold fl at hi; rw [if_neg z] at hi; omega
  · have e : fl t = t.U.length := by unfold fl; rw [if_pos z]
    refine ⟨p, c, ?_, b, by rw [e]; exact r⟩
    unfold fz fl er rsV; rw [if_pos z, if_pos z, if_pos z, if_pos z, if_pos z]
theorem fl_le {t : Tst} (h : t.ok) : fl t ≤ 8 := by
  unfold fl
  split
  · exact h.ul
  · omega

set_option maxRecDepth 100000 in
set_option maxHeartbeats 16000000 in
theorem classingTests_walk (tol : Int) (bt : -9223372036854775808 ≤ tol ∧ tol ≤ 9223372036854775807) (p : Option Addr) (c m : Nat) (A : Nat → Sb) (w : World) (r : SbR w p m A) (z : m ≤ 9223372036854775807) :
    Calls Try.prog 3 #[.int .i64 tol, .slice p m c] w fun e w' => e = .returned (.bool true) ∧ Below w.heap.size w w' := by
  have AL := Lib.hid alive_any
  have R := Lib.hid r
  clear r
  by_cases m40 : 40 < m
  · have d1 : decide ((40 : Int) < (m : Int)) = true := decide_eq_true (by omega)
    clear m40 z
    go_enter Try.func3, Try.ntmps3
    go_wp2_with fail
    refine (AL.out _).mono ?_
    rintro e w1 ⟨rfl, st⟩
    go_wp2_with fail
    go_ret
    exact ⟨rfl, st⟩
  have d1 : decide ((40 : Int) < (m : Int)) = false := decide_eq_false (by omega)
  have CN := Lib.hid (NewTest_any tol w)
  have CR := Lib.hid (fun W => rNew_any tol W)
  go_enter Try.func3, Try.ntmps3
  go_wp2_with fail
  refine CN.out.mono ?_
  rintro e w1 ⟨b1, HN⟩
  rcases HN with ⟨bad, rfl⟩ | ⟨t0, t1, b, lb, rfl, ta⟩
  · go_wp2_with fail
    refine (CR.out _).mono ?_
    rintro e w2 ⟨b2, HN⟩
    rcases HN with ⟨-, rfl⟩ | ⟨t0, t1, -⟩
    · have B3 := Lib.hid ((b1.trans (b2.mono b1.size)).alloc (b1.trans (b2.mono b1.size)).size (Obj.cells #[.int .i64 0, .slice none 0 0, .int .i64 0, .slice none 0 0] 30))
      clear b1 b2 bad
      go_wp2_with fail
      generalize (w2.alloc (Obj.cells #[.int .i64 0, .slice none 0 0, .int .i64 0, .slice none 0 0] 30)) = w3 at *
      refine wp_loop_rounds 1 ?_
      rw [rounds_succ]
      go_wp2_with fail
      all_goals
        refine (AL.out _).mono ?_
        rintro e w4 ⟨rfl, st⟩
        have B4 := Lib.hid (B3.out.trans (st.mono B3.out.size))
        clear st
        go_wp2_with fail
        go_ret
        exact ⟨rfl, B4.out⟩
    · exact absurd ⟨t0, t1⟩ bad
  go_wp2_with fail
  refine (CR.out _).mono ?_
  rintro e w2 ⟨b2, HN⟩
  rcases HN with ⟨bad, -⟩ | ⟨-, -, v, rfl, rt⟩
  · exact absurd ⟨t0, t1⟩ bad
  obtain ⟨pL, cL, pU, cU, rfl, r1, r2, r3, r4, -, -⟩ := (rt (fun _ => True)).mem
  obtain ⟨rfl, rfl⟩ := r3 rfl
  obtain ⟨rfl, rfl⟩ := r4 rfl
  have ob := ob_t4 w2 tol (.slice none 0 0) 0 (.slice none 0 0) 30
  have st3 : Below w2.heap.size w2 (w2.alloc (Obj.cells #[.int .i64 tol, .slice none 0 0, .int .i64 0, .slice none 0 0] 30)) := (Below.refl _ _).alloc (Nat.le_refl _) _
  have bl1 := (ta 0).mem
  have bw1 : b < w1.heap.size := by obtain ⟨_, _, _, o, -⟩ := bl1; exact o.lt
  have HI := Lib.hid (show MI w b w2.heap.size tol tst0 (w2.alloc (Obj.cells #[.int .i64 tol, .slice none tst0.n 0, .int .i64 tst0.st, .slice none tst0.U.length 0] 30)) from
    ⟨((ta _).below b2).below st3, ⟨none, 0, none, 0, ob, (rt _).below st3⟩, (b1.trans (b2.mono b1.size)).trans (st3.mono (Nat.le_trans b1.size b2.size)), lb, Nat.lt_of_lt_of_le bw1 b2.size, by simp⟩)
  clear ob st3 bl1 bw1 r1 r2 r3 r4 rt ta b1 b2 CN CR
  go_upto_region 5 with fail
  generalize (w2.alloc (Obj.cells #[.int .i64 tol, .slice none tst0.n 0, .int .i64 tst0.st, .slice none tst0.U.length 0] 30)) = w3 at *
  generalize w2.heap.size = X at *
  have m40' : m ≤ 40 := by omega
  clear m40 lb
  go_wp2_with fail
  go_loopw [9] (fun kv wr => ∃ (i : Nat) (t : Tst), i ≤ m ∧ kv = .int .i64 i ∧ Hid (MI w b X tol t wr)) (fun kv _ => m - (intOf kv).toNat)
  case atStart => exact ⟨0, tst0, Nat.zero_le _, rfl, HI⟩
  case round =>
    obtain ⟨i, t, hi, rfl, HM⟩ := hrel
    clear HI
    by_cases t1' : i < m
    · have i1 : (0 : Int) ≤ (i : Int) := by omega
      have i2 : (i : Int) < (m : Int) := by omega
      obtain ⟨x, rfl, -, a0, a1, a2, a3, a4⟩ := (R.out.below HM.out.bl) i t1'
      have CF := Lib.hid (Feed_any b (X + 1) tol t (A i) wr HM.out.ta (by have := HM.out.l3; omega))
      unfold sbV at CF
      generalize hA : A i = sv at *
      have HA := Lib.hid hA
      clear hA
      go_wp2_with fail
      refine CF.out.mono ?_
      rintro e w4 ⟨rfl, ta, fm⟩
      have H4 := Lib.hid (show TA w4 b (X + 1) tol (fds tol t sv) ∧ RX w4 X tol t ∧ Below w.heap.size w w4 ∧ X < w4.heap.size from
        ⟨ta, HM.out.rx.fm fm (fun k hk => by have := HM.out.l2; show k ≠ b; omega), HM.out.bl.trans (fm.below (fun k hk => by have := HM.out.l1; show k ≠ b; omega) HM.out.bl.size), Nat.lt_of_lt_of_le HM.out.l3 fm.size⟩)
      have LL := Lib.hid (show w.heap.size ≤ b ∧ b < X from ⟨HM.out.l1, HM.out.l2⟩)
      clear HM ta fm CF a0 a1 a2 a3 a4
      obtain ⟨x', e, -, a0, a1, a2, a3, a4⟩ := (R.out.below H4.out.2.2.1) i t1'
      cases e
      rw [HA.out] at a0 a1 a2 a3 a4
      obtain ⟨pL, cL, pU, cU, o, rt⟩ := H4.out.2.1.mem
      have k0 : w4.cell? ⟨X, 0, none⟩ = some (.int .i64 tol) := o.cell (k := 0) (by decide)
      have k1 : w4.cell? ⟨X, 1, none⟩ = some (.slice pL t.n cL) := o.cell (k := 1) (by decide)
      have k2 : w4.cell? ⟨X, 2, none⟩ = some (.int .i64 t.st) := o.cell (k := 2) (by decide)
      have k3 : w4.cell? ⟨X, 3, none⟩ = some (.slice pU t.U.length cU) := o.cell (k := 3) (by decide)
      have CR := Lib.hid (fun W (st : Below w4.heap.size w4 W) => rFeed_any (fun k => X < k) _ tol t sv W (rt.below st) (fun k hk => by have := H4.out.2.2.2; have := st.size; show X < k; omega))
      have CR2 := Lib.hid (fun W (st : Below w4.heap.size w4 W) (s1 : w4.heap.size + 1 ≤ W.heap.size) => rFeed_any (fun k => X < k ∧ k ≠ w4.heap.size) _ tol t sv W ((rt.weak (R := fun k => X < k ∧ k ≠ w4.heap.size) (fun k hk h => ⟨h, by omega⟩)).below st) (fun k hk => by have := H4.out.2.2.2; show X < k ∧ k ≠ w4.heap.size; omega))
      unfold sbV at CR2
      unfold sbV at CR
      clear o rt
      go_upto_region 11 with fail
      obtain ⟨t2, ht2⟩ : ∃ t2, t2 = fds tol t sv := ⟨_, rfl⟩
      have HT := Lib.hid ht2
      clear ht2
      have PS := Lib.hid (show LwX w4 X tol pL pU t.n cL t.U.length cU t.st x i sv from ⟨k0, k1, k2, k3, a0, a1, a2, a3, a4⟩)
      have xb := Lib.hid (show x.block < w4.heap.size ∧ X < w4.heap.size from ⟨by have := World.block_lt_of_cell? w4 _ a0; rwa [addB] at this, World.block_lt_of_cell? w4 _ k0⟩)
      have xb1 := xb.out.1
      have xb2 := xb.out.2
      have AA : ∀ o, Below w4.heap.size w4 (w4.alloc o) := fun o => (Below.refl _ _).alloc (Nat.le_refl _) o
      go_cut [11, 12] from 59 to 67 (fun v11 v12 wx => ∃ g, v11 = .pointer (some ⟨g, 0, none⟩) ∧ v12 = .int .i64 (fde t sv) ∧ Hid (NB w4 X g tol (fds tol t sv) wx))
      case first =>
        go_region_held3 (fun w' => w'.cell? ⟨X, 0, none⟩ = some (.int .i64 tol) ∧ w'.cell? ⟨X, 1, none⟩ = some (.slice pL t.n cL) ∧ w'.cell? ⟨X, 2, none⟩ = some (.int .i64 t.st) ∧ w'.cell? ⟨X, 3, none⟩ = some (.slice pU t.U.length cU) ∧ w'.cell? (x.add (i * 5)) = some (.int .i64 sv.raw) ∧ w'.cell? ⟨(x.add (i * 5)).block, (x.add (i * 5)).off + 1, none⟩ = some (.int .i64 sv.dry) ∧ w'.cell? ⟨(x.add (i * 5)).block, (x.add (i * 5)).off + 2, none⟩ = some (.int .i64 sv.ash) ∧ w'.cell? ⟨(x.add (i * 5)).block, (x.add (i * 5)).off + 3, none⟩ = some (.int .i64 sv.gre) ∧ w'.cell? ⟨(x.add (i * 5)).block, (x.add (i * 5)).off + 4, none⟩ = some (.int .i64 sv.veg)) ((show LwX _ X tol pL pU t.n cL t.U.length cU t.st x i sv; repeat (first | exact PS.out | refine LwX.set (by omega) (by omega) ?_ | refine LwX.al ?_ | refine LwX.dr ?_))) (first
          | ((go_at_call 9; (first | (with_reducible refine (CR.out _ (Below.refl _ _)).mono ?_) | (with_reducible refine (CR.out _ (Below.refl _ _).drew).mono ?_) | (with_reducible refine (CR2.out _ (AA _).drew (by simp)).mono ?_) | (with_reducible refine (CR2.out _ ((Below.refl _ _).drew.alloc (Nat.le_refl _) _) (by simp)).mono ?_)); rintro e w5 ⟨v', rfl, rt, q⟩; (first | (with_reducible have st := bt0 (wa := w4) q) | (with_reducible have st := bt0d (wa := w4) q) | (with_reducible have qq := bt1d (wa := w4) q; obtain ⟨st, E1⟩ := qq) | (with_reducible have qq := bt1e (wa := w4) q; obtain ⟨st, E1⟩ := qq)); obtain ⟨pM, cM, pV, cV, rfl, -⟩ := rt.mem; have PS := Lib.hid (LwX.below st PS.out); have sz := st.size; have k0 := cellGr st k0; have k1 := cellGr st k1; have k2 := cellGr st k2; have k3 := cellGr st k3; have a0 := cellGr st a0; have a1 := cellGr st a1; have a2 := cellGr st a2; have a3 := cellGr st a3; have a4 := cellGr st a4; (try have e0 := E1.cell (k := 0) (by decide); have e1 := E1.cell (k := 1) (by decide); have e2 := E1.cell (k := 2) (by decide); have e3 := E1.cell (k := 3) (by decide); have h0 := E1.frozen 0; have h1 := E1.frozen 1; have h2 := E1.frozen 2; have h3 := E1.frozen 3))))
        all_goals
          go_wp2_with fail
          go_meet
          refine ⟨_, rfl, rfl, Lib.hid ?_⟩
          first
            | with_reducible exact nb_al rt st
            | exact nb_st (rt.weak (fun k _ h => h.1)) st E1 (Nat.le_refl _) (fun x hx => by obtain ⟨_, _, _, _, e, _, _, _, _, l1, l2⟩ := rt.mem; cases e; exact hx.elim (fun h => (l1 x h).2) (fun h => (l2 x h).2))
      case rest =>
        obtain ⟨g, rfl, rfl, NBh⟩ := hcut
        rename World => w6
        obtain ⟨pM, cM, pV, cV, og, rt6, bl6, gl⟩ := NBh.out
        clear CR CR2 PS AA k0 k1 k2 k3 a0 a1 a2 a3 a4 xb1 xb2
        rw [← HT.out] at og rt6
        have ox := by have q := H4.out.2.1.below bl6; exact q.mem
        obtain ⟨_, _, _, _, ox, -⟩ := ox
        have x0 := ox.cell (k := 0) (by decide)
        have x1 := ox.cell (k := 1) (by decide)
        have x2 := ox.cell (k := 2) (by decide)
        have x3 := ox.cell (k := 3) (by decide)
        have y0 := ox.frozen 0
        have y1 := ox.frozen 1
        have y2 := ox.frozen 2
        have y3 := ox.frozen 3
        have g0 : w6.cell? ⟨g, 0, none⟩ = some (.int .i64 tol) := og.cell (k := 0) (by decide)
        have g1 : w6.cell? ⟨g, 1, none⟩ = some (.slice pM t2.n cM) := og.cell (k := 1) (by decide)
        have g2 : w6.cell? ⟨g, 2, none⟩ = some (.int .i64 t2.st) := og.cell (k := 2) (by decide)
        have g3 : w6.cell? ⟨g, 3, none⟩ = some (.slice pV t2.U.length cV) := og.cell (k := 3) (by decide)
        have HI := Lib.hid (show MI w b X tol t2 ((((w6.setCell ⟨X, 0, none⟩ (.int .i64 tol)).setCell ⟨X, 1, none⟩ (.slice pM t2.n cM)).setCell ⟨X, 2, none⟩ (.int .i64 t2.st)).setCell ⟨X, 3, none⟩ (.slice pV t2.U.length cV)) from by
          have f4 := four_fm w6 X (.int .i64 tol) (.slice pM t2.n cM) (.int .i64 t2.st) (.slice pV t2.U.length cV)
          have l2 := LL.out
          have hs := H4.out.2.2.1.size
          refine ⟨?_, ⟨pM, cM, pV, cV, ob_four ox _ _ _ _, rt6.fm f4 (fun k hk => by have hk : X < k := hk; show k ≠ X; omega)⟩, four_bl (H4.out.2.2.1.trans (bl6.mono hs)) (by omega) _ _ _ _, l2.1, l2.2, Nat.lt_of_lt_of_le (Nat.lt_of_lt_of_le H4.out.2.2.2 bl6.size) f4.size⟩
          have q := H4.out.1.below bl6
          rw [← HT.out] at q
          exact TA.fm (M := fun k => k = X) q f4 (show ¬ b = X by omega) (fun k hk => show ¬ k = X by omega))
        clear og rt6 bl6 NBh ox H4
        go_upto_region 13 with fail
        generalize ((((w6.setCell ⟨X, 0, none⟩ (.int .i64 tol)).setCell ⟨X, 1, none⟩ (.slice pM t2.n cM)).setCell ⟨X, 2, none⟩ (.int .i64 t2.st)).setCell ⟨X, 3, none⟩ (.slice pV t2.U.length cV)) = w7 at *
        clear x0 x1 x2 x3 y0 y1 y2 y3 g0 g1 g2 g3
        have rx7 := HI.out.rx.mem
        have CST := Lib.hid (fun W (st : Below w7.heap.size w7 W) => State_any b (X + 1) tol t2 W (HI.out.ta.below st))
        have CND := Lib.hid (fun W (st : Below w7.heap.size w7 W) => Need_any b (X + 1) tol t2 W (HI.out.ta.below st))
        obtain ⟨pM, cM, pV, cV, ox, rt7⟩ := rx7
        have CRN := Lib.hid (fun W (st : Below w7.heap.size w7 W) => rNeed_any _ _ tol t2 W (rt7.below st))
        have x0 : w7.cell? ⟨X, 0, none⟩ = some (.int .i64 tol) := ox.cell (k := 0) (by decide)
        have x1 : w7.cell? ⟨X, 1, none⟩ = some (.slice pM t2.n cM) := ox.cell (k := 1) (by decide)
        have x2 : w7.cell? ⟨X, 2, none⟩ = some (.int .i64 t2.st) := ox.cell (k := 2) (by decide)
        have x3 : w7.cell? ⟨X, 3, none⟩ = some (.slice pV t2.U.length cV) := ox.cell (k := 3) (by decide)
        have q1 : (fde t sv == fde t sv) = true := by simp
        have q2 : (t2.st == t2.st) = true := by simp
        have q3 : (ned t2 == ned t2) = true := by simp
        clear ox rt7 HT
        generalize fde t sv = fd at *
        generalize ned t2 = nd at *
        go_region_held3 (fun w' => w'.cell? ⟨X, 0, none⟩ = some (.int .i64 tol) ∧ w'.cell? ⟨X, 1, none⟩ = some (.slice pM t2.n cM) ∧ w'.cell? ⟨X, 2, none⟩ = some (.int .i64 t2.st) ∧ w'.cell? ⟨X, 3, none⟩ = some (.slice pV t2.U.length cV)) (first | exact ⟨x0, x1, x2, x3⟩ | exact ⟨cellDr x0, cellDr x1, cellDr x2, cellDr x3⟩) (first
          | ((go_at_call 10; (first | (with_reducible refine (CST.out _ (Below.refl _ _)).mono ?_) | (with_reducible refine (CST.out _ (Below.refl _ _).drew).mono ?_)); rintro e w8 ⟨rfl, rfl⟩))
          | ((go_at_call 11; (first | (with_reducible refine (CND.out _ (Below.refl _ _)).mono ?_) | (with_reducible refine (CND.out _ (Below.refl _ _).drew).mono ?_)); rintro e w8 ⟨rfl, rfl⟩))
          | ((go_at_call 12; (first | (with_reducible refine (CRN.out _ (Below.refl _ _)).mono ?_) | (with_reducible refine (CRN.out _ (Below.refl _ _).drew).mono ?_)); rintro e w9 ⟨rfl, q⟩; have st : Below w7.heap.size w7 w9 := (by first | exact q | exact (Below.refl _ _).drew.trans q); have x0 := cellGr st x0; have x1 := cellGr st x1; have x2 := cellGr st x2; have x3 := cellGr st x3; have ST := Lib.hid st; clear q st)))
        have HI := Lib.hid (HI.out.below ST.out)
        clear x0 x1 x2 x3 ST CST CND CRN q1 q2 q3
        have T1 := Lib.hid t1'
        generalize w9 = w10 at *
        have FL8 := Lib.hid (fl_le HI.out.ta.ok)
        go_wp2_with fail
        go_loopw [13] (fun kv wr => ∃ j : Nat, j ≤ 2 ∧ kv = .int .i64 j ∧ Hid (MI w b X tol t2 wr)) (fun kv _ => 2 - (intOf kv).toNat)
        case atStart => exact ⟨0, by omega, rfl, HI⟩
        case round =>
          obtain ⟨j, hj, rfl, HJ⟩ := hrel
          clear HI
          by_cases t3 : j < 2
          · have d3 : decide ((j : Int) < 2) = true := decide_eq_true (by omega)
            have CA := Lib.hid ((Result_any b (X + 1) tol t2 wr HJ.out.ta).mono fun _ _ h => h.u)
            go_wp2_with fail
            refine CA.out.mono ?_
            rintro e wa ⟨pa, ca, rfl, sa, na, oa⟩
            have HR := Lib.hid (show NmR (wa.alloc (Obj.cells #[.int .i64 (fz Sb.wl t2), .int .i64 (fz Sb.veg t2), .int .i64 (fz Sb.raw t2), .slice pa (fl t2) ca] 39)) pa (fl t2) (gi t2.U) ∧ OB (wa.alloc (Obj.cells #[.int .i64 (fz Sb.wl t2), .int .i64 (fz Sb.veg t2), .int .i64 (fz Sb.raw t2), .slice pa (fl t2) ca] 39)) wa.heap.size 39 4 (resC (fz Sb.wl t2) (fz Sb.veg t2) (fz Sb.raw t2) (.slice pa (fl t2) ca)) ∧ Below wr.heap.size wr (wa.alloc (Obj.cells #[.int .i64 (fz Sb.wl t2), .int .i64 (fz Sb.veg t2), .int .i64 (fz Sb.raw t2), .slice pa (fl t2) ca] 39)) ∧
                (0 < fl t2 → ∃ g, pa = some ⟨g, 0, none⟩ ∧ wr.heap.size ≤ g ∧ g < wa.heap.size ∧ SW g (fl t2) ca (wa.alloc (Obj.cells #[.int .i64 (fz Sb.wl t2), .int .i64 (fz Sb.veg t2), .int .i64 (fz Sb.raw t2), .slice pa (fl t2) ca] 39)) (wa.alloc (Obj.cells #[.int .i64 (fz Sb.wl t2), .int .i64 (fz Sb.veg t2), .int .i64 (fz Sb.raw t2), .slice pa (fl t2) ca] 39)) (gi t2.U)) from
              ⟨na.below ((Below.refl _ _).alloc (Nat.le_refl _) _), ob_new4 _ _ _ _ _ _, sa.alloc sa.size _, fun h => by
                obtain ⟨g, e, l, q⟩ := oa h
                exact ⟨g, e, l, q.lt h, (q.call ((Below.refl _ _).alloc (Nat.le_refl _) _)).to rfl⟩⟩)
            have WS := Lib.hid (show wr.heap.size ≤ wa.heap.size from sa.size)
            clear sa na oa CA
            go_upto_region 19 with fail
            generalize (wa.alloc (Obj.cells #[.int .i64 (fz Sb.wl t2), .int .i64 (fz Sb.veg t2), .int .i64 (fz Sb.raw t2), .slice pa (fl t2) ca] 39)) = wb at *
            generalize wa.heap.size = h14 at *
            have HJ2 := Lib.hid (HJ.out.below HR.out.2.2.1)
            obtain ⟨pM, cM, pV, cV, ox, rt⟩ := HJ2.out.rx.mem
            have x0 : wb.cell? ⟨X, 0, none⟩ = some (.int .i64 tol) := ox.cell (k := 0) (by decide)
            have x1 : wb.cell? ⟨X, 1, none⟩ = some (.slice pM t2.n cM) := ox.cell (k := 1) (by decide)
            have x2 : wb.cell? ⟨X, 2, none⟩ = some (.int .i64 t2.st) := ox.cell (k := 2) (by decide)
            have x3 : wb.cell? ⟨X, 3, none⟩ = some (.slice pV t2.U.length cV) := ox.cell (k := 3) (by decide)
            have CB := Lib.hid ((rResult_any _ _ tol t2 wb rt).mono fun _ _ h => h.u)
            clear ox rt
            go_wp2_with fail
            refine CB.out.mono ?_
            rintro e wc ⟨pb, cb, rfl, sc, nb⟩
            have B4 : Below wc.heap.size wc (wc.alloc (Obj.cells #[.int .i64 (fz Sb.wl t2), .int .i64 (fz Sb.veg t2), .int .i64 (fz Sb.raw t2), .slice pb (fl t2) cb] 39)) := (Below.refl _ _).alloc (Nat.le_refl _) _
            have ob := ob_new4 wc (fz Sb.wl t2) (fz Sb.veg t2) (fz Sb.raw t2) (.slice pb (fl t2) cb) 39
            have BD := sc.trans (B4.mono sc.size)
            have oa := HR.out.2.1.below BD
            have CF := Lib.hid (found_true (fz Sb.wl t2) (fz Sb.veg t2) (fz Sb.raw t2) pa pb (fl t2) ca cb (gi t2.U) (wc.alloc (Obj.cells #[.int .i64 (fz Sb.wl t2), .int .i64 (fz Sb.veg t2), .int .i64 (fz Sb.raw t2), .slice pb (fl t2) cb] 39)) (HR.out.1.below BD) (nb.below B4) (by have := FL8.out; omega))
            have H14 := Lib.hid (show OB (wc.alloc (Obj.cells #[.int .i64 (fz Sb.wl t2), .int .i64 (fz Sb.veg t2), .int .i64 (fz Sb.raw t2), .slice pb (fl t2) cb] 39)) h14 39 4 (resC (fz Sb.wl t2) (fz Sb.veg t2) (fz Sb.raw t2) (.slice pa (fl t2) ca)) ∧ Below wr.heap.size wr (wc.alloc (Obj.cells #[.int .i64 (fz Sb.wl t2), .int .i64 (fz Sb.veg t2), .int .i64 (fz Sb.raw t2), .slice pb (fl t2) cb] 39)) ∧ (0 < fl t2 → ∃ g, pa = some ⟨g, 0, none⟩ ∧ wr.heap.size ≤ g ∧ g < h14 ∧ SW g (fl t2) ca (wc.alloc (Obj.cells #[.int .i64 (fz Sb.wl t2), .int .i64 (fz Sb.veg t2), .int .i64 (fz Sb.raw t2), .slice pb (fl t2) cb] 39)) (wc.alloc (Obj.cells #[.int .i64 (fz Sb.wl t2), .int .i64 (fz Sb.veg t2), .int .i64 (fz Sb.raw t2), .slice pb (fl t2) cb] 39)) (gi t2.U)) from
              ⟨oa, HR.out.2.2.1.trans (BD.mono HR.out.2.2.1.size), fun h => by
                obtain ⟨g, e, l1, l2, q⟩ := HR.out.2.2.2 h
                exact ⟨g, e, l1, l2, (q.call BD).to rfl⟩⟩)
            clear HR CB sc nb BD B4 x0 x1 x2 x3 HJ2
            go_upto_region 20 with fail
            generalize (wc.alloc (Obj.cells #[.int .i64 (fz Sb.wl t2), .int .i64 (fz Sb.veg t2), .int .i64 (fz Sb.raw t2), .slice pb (fl t2) cb] 39)) = wd at *
            generalize wc.heap.size = h16 at *
            have u0 : wd.cell? ⟨h14, 0, none⟩ = some (.int .i64 (fz Sb.wl t2)) := oa.cell (k := 0) (by decide)
            have u1 : wd.cell? ⟨h14, 1, none⟩ = some (.int .i64 (fz Sb.veg t2)) := oa.cell (k := 1) (by decide)
            have u2 : wd.cell? ⟨h14, 2, none⟩ = some (.int .i64 (fz Sb.raw t2)) := oa.cell (k := 2) (by decide)
            have u3 : wd.cell? ⟨h14, 3, none⟩ = some (.slice pa (fl t2) ca) := oa.cell (k := 3) (by decide)
            have v0 : wd.cell? ⟨h16, 0, none⟩ = some (.int .i64 (fz Sb.wl t2)) := ob.cell (k := 0) (by decide)
            have v1 : wd.cell? ⟨h16, 1, none⟩ = some (.int .i64 (fz Sb.veg t2)) := ob.cell (k := 1) (by decide)
            have v2 : wd.cell? ⟨h16, 2, none⟩ = some (.int .i64 (fz Sb.raw t2)) := ob.cell (k := 2) (by decide)
            have v3 : wd.cell? ⟨h16, 3, none⟩ = some (.slice pb (fl t2) cb) := ob.cell (k := 3) (by decide)
            have ee : (er t2 == er t2) = true := by simp
            clear oa ob
            generalize er t2 = er2 at *
            go_wp2_with fail
            refine CF.out.mono ?_
            rintro e we ⟨rfl, st⟩
            have H14 := Lib.hid (show OB we h14 39 4 (resC (fz Sb.wl t2) (fz Sb.veg t2) (fz Sb.raw t2) (.slice pa (fl t2) ca)) ∧ Below wr.heap.size wr we ∧ (0 < fl t2 → ∃ g, pa = some ⟨g, 0, none⟩ ∧ wr.heap.size ≤ g ∧ g < h14 ∧ ∃ F, SW g (fl t2) ca we we F) from
              ⟨H14.out.1.below st, H14.out.2.1.trans (st.mono H14.out.2.1.size), fun h => by
                obtain ⟨g, e, l1, l2, q⟩ := H14.out.2.2 h
                exact ⟨g, e, l1, l2, _, (q.call st).to rfl⟩⟩)
            clear u0 u1 u2 u3 v0 v1 v2 v3 CF st
            have L8 := FL8.out
            generalize fl t2 = nf at *
            generalize fz Sb.wl t2 = s1 at *
            generalize fz Sb.veg t2 = s2 at *
            generalize fz Sb.raw t2 = s3 at *
            go_wp2_with fail
            go_loopw [18] (fun kv wq => ∃ n : Nat, n ≤ nf ∧ kv = .int .i64 n ∧ Hid (OB wq h14 39 4 (resC s1 s2 s3 (.slice pa nf ca)) ∧ Below wr.heap.size wr wq ∧ (0 < nf → ∃ g, pa = some ⟨g, 0, none⟩ ∧ wr.heap.size ≤ g ∧ g < h14 ∧ ∃ F, SW g nf ca wq wq F))) (fun kv _ => nf - (intOf kv).toNat)
            case atStart => exact ⟨0, Nat.zero_le _, rfl, H14⟩
            case round =>
              obtain ⟨n, hn, rfl, HQ⟩ := hrel
              rename World => wq
              clear H14
              have u3 : wq.cell? ⟨h14, 3, none⟩ = some (.slice pa nf ca) := HQ.out.1.cell (k := 3) (by decide)
              by_cases t4 : n < nf
              · have n1 : (0 : Int) ≤ (n : Int) := by omega
                have n2 : (n : Int) < (nf : Int) := by omega
                obtain ⟨ga, rfl, l1, l2, F, sw⟩ := HQ.out.2.2 (by omega)
                have cn := sw.cell t4
                have fn := sw.frozen n
                have HQ2 := Lib.hid (show OB (wq.setCell ⟨ga, n, none⟩ (.int .i64 (-1))) h14 39 4 (resC s1 s2 s3 (.slice (some ⟨ga, 0, none⟩) nf ca)) ∧ Below wr.heap.size wr (wq.setCell ⟨ga, n, none⟩ (.int .i64 (-1))) ∧ (0 < nf → ∃ g, (some ⟨ga, 0, none⟩ : Option Addr) = some ⟨g, 0, none⟩ ∧ wr.heap.size ≤ g ∧ g < h14 ∧ ∃ F, SW g nf ca (wq.setCell ⟨ga, n, none⟩ (.int .i64 (-1))) (wq.setCell ⟨ga, n, none⟩ (.int .i64 (-1))) F) from
                  ⟨HQ.out.1.so (by omega), HQ.out.2.1.setCell l1 _, fun _ => ⟨ga, rfl, l1, l2, _, (sw.set n (-1)).to rfl⟩⟩)
                clear HQ sw
                go_wp2_with fail
                clear u3 cn fn
                generalize wq.setCell ⟨ga, n, none⟩ (.int .i64 (-1)) = wv at *
                go_roundw
                case rel => exact ⟨n + 1, by omega, by go_num, HQ2⟩
                case measure => simp [intOf]; omega
              · have d4 : decide ((n : Int) < (nf : Int)) = false := decide_eq_false (by omega)
                have HJ3 := Lib.hid (HJ.out.below HQ.out.2.1)
                clear HQ HJ
                go_wp2_with fail
                go_roundw
                case rel => exact ⟨j + 1, by omega, by go_num, HJ3⟩
                case measure => simp [intOf]; omega
          · have d3 : decide ((j : Int) < 2) = false := decide_eq_false (by omega)
            go_wp2_with fail
            go_roundw
            case rel => exact ⟨i + 1, t2, by have := T1.out; omega, by go_num, HJ⟩
            case measure => have := T1.out; simp [intOf]; omega
    · obtain rfl : i = m := by omega
      have d5 : decide ((i : Int) < (i : Int)) = false := decide_eq_false (by omega)
      have BB := Lib.hid HM.out.bl
      clear HM R
      go_wp2_with fail
      refine (AL.out _).mono ?_
      rintro e w4 ⟨rfl, st⟩
      have B4 := Lib.hid (BB.out.trans (st.mono BB.out.size))
      clear st
      go_wp2_with fail
      go_ret
      exact ⟨rfl, B4.out⟩
end Go.Proofs.Ytkhdpmicejmabaa
