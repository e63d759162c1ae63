/- The law AccountsCalendar: its walk. -/
import Derived.Test.YtlahdfmciaibdaaAC3
import Derived.Test.YtlahdfmciaibdaaABA
namespace Go.Proofs.Ytlahdfmciaibdaa
open Go.RowKit
set_option linter.unusedVariables false
set_option linter.unusedSimpArgs false

theorem IsDate.ok {day : Int} {k m : Nat} {d : Int} (h : IsDate day k m d) (h0 : 0 ≤ day) (h1 : day ≤ 1000000) : DateOk (2000 + (k : Int)) ((m : Int) + 1) d ∧ dayAt (2000 + (k : Int)) ((m : Int) + 1) d = day := by
  have a := h.lt
  have b := ycnt_lo k
  have e := h.e
  refine ⟨⟨by omega, by omega, by omega, by have := h.hm; omega, h.d1, h.d2⟩, ?_⟩
  unfold dayAt
  rw [show (2000 + (k : Int) - 2000).toNat = k by omega, show ((m : Int) + 1 - 1).toNat = m by omega]
  omega
theorem box3f (w : World) (a b c : Value) (t : TypeId) : (w.alloc (.cells #[a, b, c] t)).frozen? ⟨w.heap.size, 0, none⟩ = false ∧ (w.alloc (.cells #[a, b, c] t)).frozen? ⟨w.heap.size, 1, none⟩ = false ∧ (w.alloc (.cells #[a, b, c] t)).frozen? ⟨w.heap.size, 2, none⟩ = false := by
  refine ⟨?_, ?_, ?_⟩ <;> simp [go_sem]
theorem frB {w w' : World} {p i : Nat} {x : Bool} (st : Below w.heap.size w w') (hp : p < w.heap.size) (h : w.frozen? ⟨p, i, none⟩ = x) : w'.frozen? ⟨p, i, none⟩ = x := (st.frozen (p := ⟨p, i, none⟩) hp).trans h
theorem setc {W : World} {c i j : Nat} {x y : Value} (h : W.cell? ⟨c, j, none⟩ = some y) (ne : i ≠ j) : (W.setCell ⟨c, i, none⟩ x).cell? ⟨c, j, none⟩ = some y := (World.cell?_setCell_other _ _ _ _ (fun e => ne (by injection e))).trans h
theorem setf {W : World} {c b i j : Nat} {x y : Value} (h : W.cell? ⟨b, j, none⟩ = some y) (ne : c ≠ b) : (W.setCell ⟨c, i, none⟩ x).cell? ⟨b, j, none⟩ = some y := (World.cell?_setCell_far _ _ _ _ ne).trans h
theorem sets {W : World} {c i : Nat} {x y : Value} (h : W.cell? ⟨c, i, none⟩ = some y) : (W.setCell ⟨c, i, none⟩ x).cell? ⟨c, i, none⟩ = some x := World.cell?_setCell_same _ _ _ h
/-- What the law's date and the day behind it are. -/
structure CalR (day : Int) (k m : Nat) (d : Int) (Y M D : Int) : Prop where
  cur : IsDate day k m d
  nxt : (d + 1 ≤ mlen (2000 + (k : Int)) ((m : Int) + 1) ∧ Y = 2000 + (k : Int) ∧ M = (m : Int) + 1 ∧ D = d + 1) ∨
    (d = mlen (2000 + (k : Int)) ((m : Int) + 1) ∧ m ≤ 10 ∧ Y = 2000 + (k : Int) ∧ M = (m : Int) + 1 + 1 ∧ D = 1) ∨
    (d = mlen (2000 + (k : Int)) ((m : Int) + 1) ∧ m = 11 ∧ Y = 2000 + (k : Int) + 1 ∧ M = 1 ∧ D = 1)
theorem cal_next {day : Int} {k m : Nat} {d : Int} (h : IsDate day k m d) {k' m' : Nat} {d' : Int} (g : IsDate (day + 1) k' m' d') : CalR day k m d (2000 + (k' : Int)) ((m' : Int) + 1) d' := by
  refine ⟨h, ?_⟩
  have hm := h.hm
  have e := h.e
  have d1 := h.d1
  have d2 := h.d2
  by_cases c : d + 1 ≤ mlen (2000 + (k : Int)) ((m : Int) + 1)
  · left
    obtain ⟨h1, h2, h3⟩ := g.uniq (show IsDate (day + 1) k m (d + 1) from ⟨hm, by omega, c, by omega⟩)
    subst h1 h2
    exact ⟨c, rfl, rfl, h3⟩
  · right
    have dm : d = mlen (2000 + (k : Int)) ((m : Int) + 1) := by omega
    have e2 : mcnt (2000 + (k : Int)) (m + 1) = mcnt (2000 + (k : Int)) m + mlen (2000 + (k : Int)) ((m : Int) + 1) := rfl
    by_cases c2 : m ≤ 10
    · left
      have lo := mlen_lo (2000 + (k : Int)) (((m + 1 : Nat) : Int) + 1)
      obtain ⟨h1, h2, h3⟩ := g.uniq (show IsDate (day + 1) k (m + 1) 1 from ⟨by omega, by omega, by omega, by rw [e2]; omega⟩)
      subst h1 h2
      exact ⟨dm, c2, rfl, by push_cast; rfl, h3⟩
    · right
      obtain rfl : m = 11 := by omega
      have lo := mlen_lo (2000 + ((k + 1 : Nat) : Int)) (((0 : Nat) : Int) + 1)
      have e3 : ycnt (k + 1) = ycnt k + ylen (2000 + (k : Int)) := rfl
      have e4 := mcnt_12 (2000 + (k : Int))
      rw [e2] at e4
      obtain ⟨h1, h2, h3⟩ := g.uniq (show IsDate (day + 1) (k + 1) 0 1 from ⟨by omega, by omega, by omega, by rw [e3]; simp only [mcnt]; omega⟩)
      subst h1 h2
      exact ⟨dm, rfl, by push_cast; omega, by simp, h3⟩
end Go.Proofs.Ytlahdfmciaibdaa
namespace Go.Proofs.Ytlahdfmciaibdaa.accountsCalendar
open Go.RowKit
set_option linter.unusedVariables false
set_option linter.unusedSimpArgs false

set_option maxRecDepth 100000 in
set_option maxHeartbeats 8000000 in
theorem walk (day : Int) (g : -9223372036854775808 ≤ day ∧ day ≤ 9223372036854775807) (w : World) :
    Calls Try.prog 8 #[.int .i64 day] w fun e w' => e = .returned (.bool true) ∧ Below w.heap.size w w' := by
  have KB : Hid (Below w.heap.size w w) := Below.refl _ _
  have DO := Lib.hid (fun y m d W => DayOf_any y m d W)
  have T1 := Lib.hid (fun x W => DateOf_any x W)
  go_enter Try.func8, Try.ntmps8
  by_cases t1 : day < 0
  · have tb : decide (day < 0) = true := decide_eq_true t1
    clear DO T1
    go_wp2_with fail
    try (go_quiet (fail))
    try (go_wp2_with fail)
    refine (alive_any _).mono ?_
    rintro e wq ⟨rfl, hq⟩
    have B9 := Lib.hid (KB.out.trans ((show Below _ _ wq from by first | exact hq | exact ((Below.refl _ _).drew).trans hq | exact (below_drewN (Below.refl _ _) _).trans hq).mono KB.out.size))
    clear hq
    go_wp2_with fail
    go_ret
    exact ⟨rfl, (by first | exact B9.out | exact B9.out.drew | exact below_drewN B9.out _)⟩
  have tb : decide (day < 0) = false := decide_eq_false t1
  by_cases t2 : 1000000 ≤ day
  · have tc : decide (1000000 ≤ day) = true := decide_eq_true t2
    clear DO T1
    go_wp2_with fail
    try (go_quiet (fail))
    try (go_wp2_with fail)
    refine (alive_any _).mono ?_
    rintro e wq ⟨rfl, hq⟩
    have B9 := Lib.hid (KB.out.trans ((show Below _ _ wq from by first | exact hq | exact ((Below.refl _ _).drew).trans hq | exact (below_drewN (Below.refl _ _) _).trans hq).mono KB.out.size))
    clear hq
    go_wp2_with fail
    go_ret
    exact ⟨rfl, (by first | exact B9.out | exact B9.out.drew | exact below_drewN B9.out _)⟩
  have tc : decide (1000000 ≤ day) = false := decide_eq_false t2
  have ed : IntKind.i64.wrap (day + 1) = day + 1 := IntWalk.i64_in _ (by omega)
  go_wp2_with fail
  try (go_quiet (fail))
  try (go_wp2_with fail)
  refine (T1.out day _).mono ?_
  rintro e w1 ⟨Y1, M1, D1, E1, rfl, q1, b1⟩
  rcases q1 with ⟨c, _⟩ | ⟨_, _, rfl, k, m, i1, hY1, hM1⟩
  · exact absurd ⟨by omega, by omega⟩ c
  replace hY1 := Lib.hid hY1
  replace hM1 := Lib.hid hM1
  replace i1 := Lib.hid i1
  replace KB := Lib.hid (KB.out.trans ((show Below _ _ w1 from by first | exact b1 | exact ((Below.refl _ _).drew).trans b1 | exact (below_drewN (Below.refl _ _) _).trans b1).mono KB.out.size))
  clear b1
  go_wp2_with fail
  replace KB := Lib.hid (KB.out.alloc KB.out.size (Obj.cells #[Value.int IntKind.i64 Y1, Value.int IntKind.i64 M1, Value.int IntKind.i64 D1] 23))
  obtain ⟨a0, a1, a2⟩ := box3 w1 (.int .i64 Y1) (.int .i64 M1) (.int .i64 D1) 23
  have az : w1.heap.size < (w1.alloc (Obj.cells #[Value.int IntKind.i64 Y1, Value.int IntKind.i64 M1, Value.int IntKind.i64 D1] 23)).heap.size := by simp
  generalize w1.alloc (Obj.cells #[Value.int IntKind.i64 Y1, Value.int IntKind.i64 M1, Value.int IntKind.i64 D1] 23) = w2 at *
  obtain ⟨a, ha⟩ : ∃ a, w1.heap.size = a := ⟨_, rfl⟩
  rw [ha] at a0 a1 a2 az ⊢
  clear ha
  refine (T1.out (day + 1) _).mono ?_
  rintro e w3 ⟨Y2, M2, D2, E2, rfl, q2, b1⟩
  rcases q2 with ⟨c, _⟩ | ⟨_, _, rfl, k', m', i2, hY2, hM2⟩
  · exact absurd ⟨by omega, by omega⟩ c
  replace hY1 := hY1.out
  replace hM1 := hM1.out
  replace i1 := i1.out
  replace KB := Lib.hid (KB.out.trans (b1.mono KB.out.size))
  replace a0 := cellB b1 az a0
  replace a1 := cellB b1 az a1
  replace a2 := cellB b1 az a2
  replace az := Nat.lt_of_lt_of_le az b1.size
  have CR := cal_next i1 i2
  have O1 := Lib.hid (show ∀ n E, DofQ Y1 M1 D1 n E → n = day ∧ E = 0 from fun n E h => by
    obtain ⟨x, y⟩ := i1.ok (by omega) (by omega)
    rw [← hY1, ← hM1] at x y
    rcases h with ⟨z, _⟩ | ⟨_, z, _⟩ | ⟨_, _, z, z'⟩
    · exact absurd x z
    · omega
    · omega)
  have O2 := Lib.hid (show ∀ n E, DofQ Y2 M2 D2 n E → n = day + 1 ∧ E = 0 from fun n E h => by
    obtain ⟨x, y⟩ := i2.ok (by omega) (by omega)
    rw [← hY2, ← hM2] at x y
    rcases h with ⟨z, _⟩ | ⟨_, z, _⟩ | ⟨_, _, z, z'⟩
    · exact absurd x z
    · omega
    · omega)
  have RG : 2000 ≤ Y1 ∧ Y1 ≤ 5000 ∧ 1 ≤ M1 ∧ M1 ≤ 12 ∧ 1 ≤ D1 ∧ D1 ≤ 31 := by
    obtain ⟨x, _⟩ := i1.ok (by omega) (by omega)
    have := mlen_hi (2000 + (k : Int)) ((m : Int) + 1)
    obtain ⟨x1, x2, x3, x4, x5, x6⟩ := x
    omega
  have CS : (Y2 = Y1 ∧ M2 = M1 ∧ D2 = D1 + 1) ∨ (Hid (∀ n E, DofQ Y1 M1 (D1 + 1) n E → E = 2) ∧ ((M1 ≠ 12 ∧ Y2 = Y1 ∧ M2 = M1 + 1 ∧ D2 = 1) ∨ (M1 = 12 ∧ Y2 = Y1 + 1 ∧ M2 = 1 ∧ D2 = 1))) := by
    have NB : D1 = mlen (2000 + (k : Int)) ((m : Int) + 1) → ∀ n E, DofQ Y1 M1 (D1 + 1) n E → E = 2 := fun e n E h => by
      have : ¬ DateOk Y1 M1 (D1 + 1) := fun g => by
        have := g.2.2.2.2.2
        rw [hY1, hM1] at this
        omega
      rcases h with ⟨_, _, z⟩ | ⟨z, _⟩ | ⟨z, _⟩
      · exact z
      · exact absurd z this
      · exact absurd z this
    rcases CR.nxt with ⟨x, y, z, u⟩ | ⟨x, y, z, u, v⟩ | ⟨x, y, z, u, v⟩
    · left; omega
    · right; exact ⟨Lib.hid (NB x), .inl (by omega)⟩
    · right; exact ⟨Lib.hid (NB x), .inr (by omega)⟩
  obtain ⟨y0, y1, m0, m1, d0, d1⟩ := RG
  clear b1 T1 CR i1 i2 hY1 hM1 hY2 hM2
  go_upto_region 5 with fail
  have GA : (w3.alloc (Obj.cells #[Value.int IntKind.i64 Y2, Value.int IntKind.i64 M2, Value.int IntKind.i64 D2] 23)).cell? ⟨a, 0, none⟩ = some (.int .i64 Y1) ∧ (w3.alloc (Obj.cells #[Value.int IntKind.i64 Y2, Value.int IntKind.i64 M2, Value.int IntKind.i64 D2] 23)).cell? ⟨a, 1, none⟩ = some (.int .i64 M1) ∧ (w3.alloc (Obj.cells #[Value.int IntKind.i64 Y2, Value.int IntKind.i64 M2, Value.int IntKind.i64 D2] 23)).cell? ⟨a, 2, none⟩ = some (.int .i64 D1) := by
    have st := (Below.refl w3.heap.size w3).alloc (Nat.le_refl _) (Obj.cells #[Value.int IntKind.i64 Y2, Value.int IntKind.i64 M2, Value.int IntKind.i64 D2] 23)
    exact ⟨cellB st az a0, cellB st az a1, cellB st az a2⟩
  have az2 : a < (w3.alloc (Obj.cells #[Value.int IntKind.i64 Y2, Value.int IntKind.i64 M2, Value.int IntKind.i64 D2] 23)).heap.size := by simp; omega
  clear a0 a1 a2 az
  replace KB := Lib.hid (KB.out.alloc KB.out.size (Obj.cells #[Value.int IntKind.i64 Y2, Value.int IntKind.i64 M2, Value.int IntKind.i64 D2] 23))
  obtain ⟨b0, b1, b2⟩ := box3 w3 (.int .i64 Y2) (.int .i64 M2) (.int .i64 D2) 23
  have bz : w3.heap.size < (w3.alloc (Obj.cells #[Value.int IntKind.i64 Y2, Value.int IntKind.i64 M2, Value.int IntKind.i64 D2] 23)).heap.size := by simp
  generalize w3.alloc (Obj.cells #[Value.int IntKind.i64 Y2, Value.int IntKind.i64 M2, Value.int IntKind.i64 D2] 23) = w4 at *
  obtain ⟨b, hb⟩ : ∃ b, w3.heap.size = b := ⟨_, rfl⟩
  rw [hb] at b0 b1 b2 bz ⊢
  clear hb
  obtain ⟨a0, a1, a2⟩ := GA
  go_wp2_with fail
  refine (DO.out Y1 M1 D1 _).mono ?_
  rintro e w5 ⟨n, E, rfl, q, st⟩
  obtain ⟨rfl, rfl⟩ := O1.out _ _ q
  replace KB := Lib.hid (KB.out.trans (st.mono KB.out.size))
  replace a0 := cellB st az2 a0
  replace a1 := cellB st az2 a1
  replace a2 := cellB st az2 a2
  replace b0 := cellB st bz b0
  replace b1 := cellB st bz b1
  replace b2 := cellB st bz b2
  replace az2 := Nat.lt_of_lt_of_le az2 st.size
  replace bz := Nat.lt_of_lt_of_le bz st.size
  clear q st O1
  go_wp2_with fail
  refine (DO.out Y2 M2 D2 _).mono ?_
  rintro e w6 ⟨n2, E, rfl, q, st⟩
  obtain ⟨rfl, rfl⟩ := O2.out _ _ q
  replace KB := Lib.hid (KB.out.trans (st.mono KB.out.size))
  replace a0 := cellB st az2 a0
  replace a1 := cellB st az2 a1
  replace a2 := cellB st az2 a2
  replace b0 := cellB st bz b0
  replace b1 := cellB st bz b1
  replace b2 := cellB st bz b2
  replace az2 := Nat.lt_of_lt_of_le az2 st.size
  replace bz := Nat.lt_of_lt_of_le bz st.size
  clear q st O2
  have en : (n == n) = true := by simp
  have en2 : (n != n) = false := by simp
  have en3 : (n + 1 != n + 1) = false := by simp
  have ew : IntKind.i64.wrap (D1 + 1) = D1 + 1 := IntWalk.i64_in _ (by omega)
  rcases CS with ⟨rfl, rfl, rfl⟩ | ⟨NB, ⟨m12, rfl, rfl, rfl⟩ | ⟨rfl, rfl, rfl, rfl⟩⟩
  · go_wp2_with fail
    replace KB := Lib.hid (KB.out.alloc KB.out.size (Obj.cells #[Value.int IntKind.i64 Y2, Value.int IntKind.i64 M2, Value.int IntKind.i64 (D1 + 1)] 23))
    refine (alive_any _).mono ?_
    rintro e wq ⟨rfl, hq⟩
    have B9 := Lib.hid (KB.out.trans ((show Below _ _ wq from by first | exact hq | exact ((Below.refl _ _).drew).trans hq | exact (below_drewN (Below.refl _ _) _).trans hq).mono KB.out.size))
    clear hq
    go_wp2_with fail
    go_ret
    exact ⟨rfl, (by first | exact B9.out | exact B9.out.drew | exact below_drewN B9.out _)⟩
  · have e12 : (M1 == 12) = false := beq_eq_false_iff_ne.2 m12
    have ewm : IntKind.i64.wrap (M1 + 1) = M1 + 1 := IntWalk.i64_in _ (by omega)
    go_upto_region 11 with fail
    have GA : (w6.alloc (Obj.cells #[Value.int IntKind.i64 Y2, Value.int IntKind.i64 M1, Value.int IntKind.i64 (D1 + 1)] 23)).cell? ⟨a, 1, none⟩ = some (.int .i64 M1) := cellB ((Below.refl w6.heap.size w6).alloc (Nat.le_refl _) (Obj.cells #[Value.int IntKind.i64 Y2, Value.int IntKind.i64 M1, Value.int IntKind.i64 (D1 + 1)] 23)) az2 a1
    have GB : (w6.alloc (Obj.cells #[Value.int IntKind.i64 Y2, Value.int IntKind.i64 M1, Value.int IntKind.i64 (D1 + 1)] 23)).cell? ⟨b, 0, none⟩ = some (.int .i64 Y2) ∧ (w6.alloc (Obj.cells #[Value.int IntKind.i64 Y2, Value.int IntKind.i64 M1, Value.int IntKind.i64 (D1 + 1)] 23)).cell? ⟨b, 1, none⟩ = some (.int .i64 (M1 + 1)) ∧ (w6.alloc (Obj.cells #[Value.int IntKind.i64 Y2, Value.int IntKind.i64 M1, Value.int IntKind.i64 (D1 + 1)] 23)).cell? ⟨b, 2, none⟩ = some (.int .i64 1) := by
      have st := (Below.refl w6.heap.size w6).alloc (Nat.le_refl _) (Obj.cells #[Value.int IntKind.i64 Y2, Value.int IntKind.i64 M1, Value.int IntKind.i64 (D1 + 1)] 23)
      exact ⟨cellB st bz b0, cellB st bz b1, cellB st bz b2⟩
    have az3 : a < (w6.alloc (Obj.cells #[Value.int IntKind.i64 Y2, Value.int IntKind.i64 M1, Value.int IntKind.i64 (D1 + 1)] 23)).heap.size := by simp; omega
    have bz3 : b < (w6.alloc (Obj.cells #[Value.int IntKind.i64 Y2, Value.int IntKind.i64 M1, Value.int IntKind.i64 (D1 + 1)] 23)).heap.size := by simp; omega
    have bc : b < w6.heap.size := bz
    have ac : a < w6.heap.size := az2
    have wc : w.heap.size ≤ w6.heap.size := KB.out.size
    have FZ := box3f w6 (.int .i64 Y2) (.int .i64 M1) (.int .i64 (D1 + 1)) 23
    clear a0 a1 a2 b0 b1 b2 az2 bz
    replace KB := Lib.hid (KB.out.alloc KB.out.size (Obj.cells #[Value.int IntKind.i64 Y2, Value.int IntKind.i64 M1, Value.int IntKind.i64 (D1 + 1)] 23))
    obtain ⟨c0, c1, c2⟩ := box3 w6 (.int .i64 Y2) (.int .i64 M1) (.int .i64 (D1 + 1)) 23
    have cz : w6.heap.size < (w6.alloc (Obj.cells #[Value.int IntKind.i64 Y2, Value.int IntKind.i64 M1, Value.int IntKind.i64 (D1 + 1)] 23)).heap.size := by simp
    generalize w6.alloc (Obj.cells #[Value.int IntKind.i64 Y2, Value.int IntKind.i64 M1, Value.int IntKind.i64 (D1 + 1)] 23) = w7 at *
    obtain ⟨c, hc⟩ : ∃ c, w6.heap.size = c := ⟨_, rfl⟩
    rw [hc] at c0 c1 c2 cz FZ bc ac wc ⊢
    clear hc
    obtain ⟨b0, b1, b2⟩ := GB
    obtain ⟨f0, f1, f2⟩ := FZ
    go_wp2_with fail
    refine (DO.out Y2 M1 (D1 + 1) _).mono ?_
    rintro e w8 ⟨n2, E, rfl, q, st⟩
    obtain rfl := NB.out _ _ q
    replace KB := Lib.hid (KB.out.trans (st.mono KB.out.size))
    replace GA := cellB st az3 GA
    replace b0 := cellB st bz3 b0
    replace b1 := cellB st bz3 b1
    replace b2 := cellB st bz3 b2
    replace c0 := cellB st cz c0
    replace c1 := cellB st cz c1
    replace c2 := cellB st cz c2
    replace f0 := frB st cz f0
    replace f1 := frB st cz f1
    replace f2 := frB st cz f2
    clear q st NB az3 bz3 cz
    go_upto_region 19 with fail
    have ne : c ≠ b := by omega
    replace KB := Lib.hid ((KB.out.setCell (p := ⟨c, 2, none⟩) wc (.int .i64 1)).setCell (p := ⟨c, 1, none⟩) wc (.int .i64 (M1 + 1)))
    replace KB := Lib.hid (show Below w.heap.size w ((w8.setCell ⟨c, 2, none⟩ (.int .i64 1)).setCell ⟨c, 1, none⟩ (.int .i64 (M1 + 1))) from KB.out)
    replace c0 : ((w8.setCell ⟨c, 2, none⟩ (.int .i64 1)).setCell ⟨c, 1, none⟩ (.int .i64 (M1 + 1))).cell? ⟨c, 0, none⟩ = _ := (setc (setc c0 (by decide)) (by decide))
    replace c1 : ((w8.setCell ⟨c, 2, none⟩ (.int .i64 1)).setCell ⟨c, 1, none⟩ (.int .i64 (M1 + 1))).cell? ⟨c, 1, none⟩ = _ := (sets (setc c1 (by decide)))
    replace c2 : ((w8.setCell ⟨c, 2, none⟩ (.int .i64 1)).setCell ⟨c, 1, none⟩ (.int .i64 (M1 + 1))).cell? ⟨c, 2, none⟩ = _ := (setc (sets c2) (by decide))
    replace b0 : ((w8.setCell ⟨c, 2, none⟩ (.int .i64 1)).setCell ⟨c, 1, none⟩ (.int .i64 (M1 + 1))).cell? ⟨b, 0, none⟩ = _ := (setf (setf b0 ne) ne)
    replace b1 : ((w8.setCell ⟨c, 2, none⟩ (.int .i64 1)).setCell ⟨c, 1, none⟩ (.int .i64 (M1 + 1))).cell? ⟨b, 1, none⟩ = _ := (setf (setf b1 ne) ne)
    replace b2 : ((w8.setCell ⟨c, 2, none⟩ (.int .i64 1)).setCell ⟨c, 1, none⟩ (.int .i64 (M1 + 1))).cell? ⟨b, 2, none⟩ = _ := (setf (setf b2 ne) ne)
    clear f0 f1 f2
    generalize ((w8.setCell ⟨c, 2, none⟩ (.int .i64 1)).setCell ⟨c, 1, none⟩ (.int .i64 (M1 + 1))) = w9 at *
    go_wp2_with fail
    refine (alive_any _).mono ?_
    rintro e wq ⟨rfl, hq⟩
    have B9 := Lib.hid (KB.out.trans ((show Below _ _ wq from by first | exact hq | exact ((Below.refl _ _).drew).trans hq | exact (below_drewN (Below.refl _ _) _).trans hq).mono KB.out.size))
    clear hq
    go_wp2_with fail
    go_ret
    exact ⟨rfl, (by first | exact B9.out | exact B9.out.drew | exact below_drewN B9.out _)⟩
  · have ewm : IntKind.i64.wrap (Y1 + 1) = Y1 + 1 := IntWalk.i64_in _ (by omega)
    go_upto_region 11 with fail
    have GA : (w6.alloc (Obj.cells #[Value.int IntKind.i64 Y1, Value.int IntKind.i64 12, Value.int IntKind.i64 (D1 + 1)] 23)).cell? ⟨a, 1, none⟩ = some (.int .i64 12) := cellB ((Below.refl w6.heap.size w6).alloc (Nat.le_refl _) (Obj.cells #[Value.int IntKind.i64 Y1, Value.int IntKind.i64 12, Value.int IntKind.i64 (D1 + 1)] 23)) az2 a1
    have GB : (w6.alloc (Obj.cells #[Value.int IntKind.i64 Y1, Value.int IntKind.i64 12, Value.int IntKind.i64 (D1 + 1)] 23)).cell? ⟨b, 0, none⟩ = some (.int .i64 (Y1 + 1)) ∧ (w6.alloc (Obj.cells #[Value.int IntKind.i64 Y1, Value.int IntKind.i64 12, Value.int IntKind.i64 (D1 + 1)] 23)).cell? ⟨b, 1, none⟩ = some (.int .i64 1) ∧ (w6.alloc (Obj.cells #[Value.int IntKind.i64 Y1, Value.int IntKind.i64 12, Value.int IntKind.i64 (D1 + 1)] 23)).cell? ⟨b, 2, none⟩ = some (.int .i64 1) := by
      have st := (Below.refl w6.heap.size w6).alloc (Nat.le_refl _) (Obj.cells #[Value.int IntKind.i64 Y1, Value.int IntKind.i64 12, Value.int IntKind.i64 (D1 + 1)] 23)
      exact ⟨cellB st bz b0, cellB st bz b1, cellB st bz b2⟩
    have az3 : a < (w6.alloc (Obj.cells #[Value.int IntKind.i64 Y1, Value.int IntKind.i64 12, Value.int IntKind.i64 (D1 + 1)] 23)).heap.size := by simp; omega
    have bz3 : b < (w6.alloc (Obj.cells #[Value.int IntKind.i64 Y1, Value.int IntKind.i64 12, Value.int IntKind.i64 (D1 + 1)] 23)).heap.size := by simp; omega
    have bc : b < w6.heap.size := bz
    have ac : a < w6.heap.size := az2
    have wc : w.heap.size ≤ w6.heap.size := KB.out.size
    have FZ := box3f w6 (.int .i64 Y1) (.int .i64 12) (.int .i64 (D1 + 1)) 23
    clear a0 a1 a2 b0 b1 b2 az2 bz
    replace KB := Lib.hid (KB.out.alloc KB.out.size (Obj.cells #[Value.int IntKind.i64 Y1, Value.int IntKind.i64 12, Value.int IntKind.i64 (D1 + 1)] 23))
    obtain ⟨c0, c1, c2⟩ := box3 w6 (.int .i64 Y1) (.int .i64 12) (.int .i64 (D1 + 1)) 23
    have cz : w6.heap.size < (w6.alloc (Obj.cells #[Value.int IntKind.i64 Y1, Value.int IntKind.i64 12, Value.int IntKind.i64 (D1 + 1)] 23)).heap.size := by simp
    generalize w6.alloc (Obj.cells #[Value.int IntKind.i64 Y1, Value.int IntKind.i64 12, Value.int IntKind.i64 (D1 + 1)] 23) = w7 at *
    obtain ⟨c, hc⟩ : ∃ c, w6.heap.size = c := ⟨_, rfl⟩
    rw [hc] at c0 c1 c2 cz FZ bc ac wc ⊢
    clear hc
    obtain ⟨b0, b1, b2⟩ := GB
    obtain ⟨f0, f1, f2⟩ := FZ
    go_wp2_with fail
    refine (DO.out Y1 12 (D1 + 1) _).mono ?_
    rintro e w8 ⟨n2, E, rfl, q, st⟩
    obtain rfl := NB.out _ _ q
    replace KB := Lib.hid (KB.out.trans (st.mono KB.out.size))
    replace GA := cellB st az3 GA
    replace b0 := cellB st bz3 b0
    replace b1 := cellB st bz3 b1
    replace b2 := cellB st bz3 b2
    replace c0 := cellB st cz c0
    replace c1 := cellB st cz c1
    replace c2 := cellB st cz c2
    replace f0 := frB st cz f0
    replace f1 := frB st cz f1
    replace f2 := frB st cz f2
    clear q st NB az3 bz3 cz
    go_upto_region 19 with fail
    have ne : c ≠ b := by omega
    replace KB := Lib.hid ((((KB.out.setCell (p := ⟨c, 2, none⟩) wc (.int .i64 1)).setCell (p := ⟨c, 1, none⟩) wc (.int .i64 13)).setCell (p := ⟨c, 1, none⟩) wc (.int .i64 1)).setCell (p := ⟨c, 0, none⟩) wc (.int .i64 (Y1 + 1)))
    replace KB := Lib.hid (show Below w.heap.size w ((((w8.setCell ⟨c, 2, none⟩ (.int .i64 1)).setCell ⟨c, 1, none⟩ (.int .i64 13)).setCell ⟨c, 1, none⟩ (.int .i64 1)).setCell ⟨c, 0, none⟩ (.int .i64 (Y1 + 1))) from KB.out)
    replace c0 : ((((w8.setCell ⟨c, 2, none⟩ (.int .i64 1)).setCell ⟨c, 1, none⟩ (.int .i64 13)).setCell ⟨c, 1, none⟩ (.int .i64 1)).setCell ⟨c, 0, none⟩ (.int .i64 (Y1 + 1))).cell? ⟨c, 0, none⟩ = _ := (sets (setc (setc (setc c0 (by decide)) (by decide)) (by decide)))
    replace c1 : ((((w8.setCell ⟨c, 2, none⟩ (.int .i64 1)).setCell ⟨c, 1, none⟩ (.int .i64 13)).setCell ⟨c, 1, none⟩ (.int .i64 1)).setCell ⟨c, 0, none⟩ (.int .i64 (Y1 + 1))).cell? ⟨c, 1, none⟩ = _ := (setc (sets (sets (setc c1 (by decide)))) (by decide))
    replace c2 : ((((w8.setCell ⟨c, 2, none⟩ (.int .i64 1)).setCell ⟨c, 1, none⟩ (.int .i64 13)).setCell ⟨c, 1, none⟩ (.int .i64 1)).setCell ⟨c, 0, none⟩ (.int .i64 (Y1 + 1))).cell? ⟨c, 2, none⟩ = _ := (setc (setc (setc (sets c2) (by decide)) (by decide)) (by decide))
    replace b0 : ((((w8.setCell ⟨c, 2, none⟩ (.int .i64 1)).setCell ⟨c, 1, none⟩ (.int .i64 13)).setCell ⟨c, 1, none⟩ (.int .i64 1)).setCell ⟨c, 0, none⟩ (.int .i64 (Y1 + 1))).cell? ⟨b, 0, none⟩ = _ := (setf (setf (setf (setf b0 ne) ne) ne) ne)
    replace b1 : ((((w8.setCell ⟨c, 2, none⟩ (.int .i64 1)).setCell ⟨c, 1, none⟩ (.int .i64 13)).setCell ⟨c, 1, none⟩ (.int .i64 1)).setCell ⟨c, 0, none⟩ (.int .i64 (Y1 + 1))).cell? ⟨b, 1, none⟩ = _ := (setf (setf (setf (setf b1 ne) ne) ne) ne)
    replace b2 : ((((w8.setCell ⟨c, 2, none⟩ (.int .i64 1)).setCell ⟨c, 1, none⟩ (.int .i64 13)).setCell ⟨c, 1, none⟩ (.int .i64 1)).setCell ⟨c, 0, none⟩ (.int .i64 (Y1 + 1))).cell? ⟨b, 2, none⟩ = _ := (setf (setf (setf (setf b2 ne) ne) ne) ne)
    clear f0 f1 f2
    generalize ((((w8.setCell ⟨c, 2, none⟩ (.int .i64 1)).setCell ⟨c, 1, none⟩ (.int .i64 13)).setCell ⟨c, 1, none⟩ (.int .i64 1)).setCell ⟨c, 0, none⟩ (.int .i64 (Y1 + 1))) = w9 at *
    go_wp2_with fail
    refine (alive_any _).mono ?_
    rintro e wq ⟨rfl, hq⟩
    have B9 := Lib.hid (KB.out.trans ((show Below _ _ wq from by first | exact hq | exact ((Below.refl _ _).drew).trans hq | exact (below_drewN (Below.refl _ _) _).trans hq).mono KB.out.size))
    clear hq
    go_wp2_with fail
    go_ret
    exact ⟨rfl, (by first | exact B9.out | exact B9.out.drew | exact below_drewN B9.out _)⟩
end Go.Proofs.Ytlahdfmciaibdaa.accountsCalendar
