/- Several texts in one: AD8 AD9 ADA D1 C1 C2. -/
import Derived.Test.YtlahdfmciaibdaaDoorND8
import Derived.Test.YtlahdfmciaibdaaDoorND7
import Derived.Test.YtlahdfmciaibdaaDoorND6
import Derived.Test.YtlahdfmciaibdaaDoorND15
import Derived.Test.YtlahdfmciaibdaaDoorND4

/- An append to a row of one's own that tells which block it lies in; blocks but one kept. -/
namespace Go.Proofs.YtlahdfmciaibdaaDoor
open Go.RowKit
set_option linter.unusedVariables false
set_option linter.unusedSimpArgs false

theorem run_append_blk {P : Program} (w : World) (base : Nat) (t ty e : TypeId) (i : TypeInfo) (z : Value) (size bytes : Nat) (ht : P.underlying t = some (.slice e)) (hi : P.info? e = some i) (hz : i.zero = some z)
    (hsize : i.size = size) (hby : i.bytes = bytes) (hzs : z.cells.size = size) (hsz : 0 < size)
    (v : Value) (n : Nat) (xs : List Value) (hown : w.ownsRow base e size v n xs)
    (a : Addr) (m c : Nat) (news : List Value) (hl : news.length = m * size) (hnews : ∀ j u, news[j]? = some u → w.cell? (a.add j) = some u) (h1 : ∀ u ∈ news, u.oneCell' = true)
    (h63 : n + m ≤ maxLen) (hbytes : (n + m) * bytes ≤ 140737488355328) (hbase : base ≤ w.heap.size) (hm : 0 < m) :
    ∃ v' w', (Builtin.append_ #[t, t] ty #[v, .slice (some a) m c]).run P w = .ok v' w' ∧ w'.ownsRow base e size v' (n + m) (xs ++ news) ∧ w.grownBy w' v.ownBlock ∧
      (v'.ownBlock = v.ownBlock ∨ v'.ownBlock = some w.heap.size) := by
  obtain ⟨v', w', hr, h2, h3, -⟩ := run_append_own (P := P) w base t ty e i z size bytes ht hi hz hsize hby hzs hsz v n xs hown a m c news hl hnews h1 h63 hbytes hbase
  refine ⟨v', w', hr, h2, h3, ?_⟩
  subst hsize
  subst hby
  have h64 : n + m ≤ 9223372036854775807 := by simp only [maxLen] at h63; omega
  rcases hown.2 with ⟨rfl, rfl⟩ | ⟨g, cap, cur, rfl, hbg, hg, hnc, hcm, hcs, htake⟩
  · rw [Nat.zero_add] at hbytes h64
    have hr2 := run_append_nil (P := P) w t ty e i z ht hi hz a m c news hl hnews hm (by omega) (by omega)
    have e1 := hr.symm.trans hr2
    injection e1 with e2 _
    right
    rw [e2]; rfl
  · by_cases hroom : n + m ≤ cap
    · have hfit : n * i.size + news.length ≤ cur.size := by rw [hl, hcs, ← Nat.add_mul]; exact Nat.mul_le_mul_right _ hroom
      have hr2 := run_append_room (P := P) w t ty e i ht hi g n cap cur hg a m c news hl hnews h1 hroom hfit
      have e1 := hr.symm.trans hr2
      injection e1 with e2 _
      left
      rw [e2]; rfl
    · have hr2 := run_append_grow (P := P) w t ty e i z ht hi hz ⟨g, 0, none⟩ n cap xs hown.1 (hown.cells (g := g) rfl) a m c news hl hnews (by omega) (by omega) (growslice_fits (by omega) hbytes)
      have e1 := hr.symm.trans hr2
      injection e1 with e2 _
      right
      rw [e2]; rfl

theorem wpList_append_blk {P : Program} (w : World) {ops : Array Oper} {rest : List Oper} {o : Oper} {a : Act} {Q : Exit → Act → World → Prop} (hgd : o.guard = none) (s x : Operand) (t : TypeId)
    (ho : o.op = .call { callee := .builtin .append, args := #[s, x], argTypes := #[t, t] })
    (base : Nat) (e : TypeId) (i : TypeInfo) (z : Value) (size bytes : Nat) (ht : P.underlying t = some (.slice e)) (hi : P.info? e = some i) (hz : i.zero = some z)
    (hsize : i.size = size) (hby : i.bytes = bytes) (hzs : z.cells.size = size) (hsz : 0 < size)
    (v : Value) (n : Nat) (xs : List Value) (hs : a.eval s = v) (hown : w.ownsRow base e size v n xs)
    (ad : Addr) (m c : Nat) (news : List Value) (hx : a.eval x = .slice (some ad) m c) (hl : news.length = m * size) (hnews : ∀ j u, news[j]? = some u → w.cell? (ad.add j) = some u) (h1 : ∀ u ∈ news, u.oneCell' = true)
    (h63 : n + m ≤ maxLen) (hbytes : (n + m) * bytes ≤ 140737488355328) (hbase : base ≤ w.heap.size) (hm : 0 < m)
    (h : ∀ v' w', w'.ownsRow base e size v' (n + m) (xs ++ news) → w.grownBy w' v.ownBlock → (v'.ownBlock = v.ownBlock ∨ v'.ownBlock = some w.heap.size) → wpList P ops Q rest (a.put o.dst v') w') : wpList P ops Q (o :: rest) a w :=
  wpList_plain hgd fun K hK => by
    obtain ⟨v', w', hr, h2, h3, h4⟩ := run_append_blk (P := P) w base t o.type e i z size bytes ht hi hz hsize hby hzs hsz v n xs hown ad m c news hl hnews h1 h63 hbytes hbase hm
    unfold Oper.wp execOp
    simp only [ho, resolve, invoke, builtin, Sem.run_bind, Sem.run_pure, Result.andThen_ok, List.map_toArray, List.map_cons, List.map_nil, hs, hx, hr]
    exact hK _ _ (h v' w' h2 h3 h4)

/-- All blocks but one stay as they are. -/
def Frm (w w' : World) (o : Option Nat) : Prop := w.heap.size ≤ w'.heap.size ∧ ∀ k, k < w.heap.size → some k ≠ o → w'.heap[k]? = w.heap[k]?
theorem Frm.refl (w : World) (o : Option Nat) : Frm w w o := ⟨Nat.le_refl _, fun _ _ _ => rfl⟩
theorem Frm.drewN {w w' : World} {o : Option Nat} (h : Frm w w' o) (n : Nat) : Frm w (w'.drewN n) o := h
theorem Frm.set {w w' : World} {b : Nat} (h : Frm w w' (some b)) (k : Nat) (v : Value) : Frm w (w'.setCell ⟨b, k, none⟩ v) (some b) := by
  refine ⟨by simpa using h.1, fun j hj ne => ?_⟩
  rw [Below.heap_setCell _ _ _ _ (by intro e; exact ne (by first | rw [e] | rw [← e]))]
  exact h.2 j hj ne
theorem Frm.grown {w w1 w2 : World} {o r : Option Nat} {ob : Obj} (h : Frm w w1 o) (g : (w1.alloc ob).grownBy w2 r) (hr : ∀ k, r = some k → o = some k ∨ w.heap.size ≤ k) : Frm w w2 o := by
  have s := h.1
  have s2 := g.size
  have s1 : (w1.alloc ob).heap.size = w1.heap.size + 1 := by simp
  refine ⟨by omega, fun k hk ne => ?_⟩
  rw [g.block k (by omega) ?_]
  · rw [Below.heap_alloc _ _ _ (by omega)]
    exact h.2 k hk ne
  · intro e
    rcases hr k e.symm with h1 | h1
    · exact ne h1.symm
    · omega
end Go.Proofs.YtlahdfmciaibdaaDoor

/- The laws' spoilt: each number of a row of one's own is one less, and twenty fives stand behind. -/
namespace Go.Proofs.YtlahdfmciaibdaaDoor
open Go.RowKit
set_option linter.unusedVariables false
set_option linter.unusedSimpArgs false

theorem own_set {w : World} {N b c n : Nat} {e : TypeId} {P : List Int} (h : w.ownsRow N e 1 (.slice (some ⟨b, 0, none⟩) n c) n (P.map (Value.int .i64))) (k : Nat) (x : Int) : (w.setCell ⟨b, k, none⟩ (.int .i64 x)).ownsRow N e 1 (.slice (some ⟨b, 0, none⟩) n c) n ((P.set k x).map (Value.int .i64)) := by
  have := (h.stored k (.int .i64 x)).1
  rwa [← List.map_set] at this
theorem own_at {w : World} {N b c n : Nat} {e : TypeId} {P : List Int} (h : w.ownsRow N e 1 (.slice (some ⟨b, 0, none⟩) n c) n (P.map (Value.int .i64))) {k : Nat} (hk : k < P.length) : w.cell? ⟨b, k, none⟩ = some (.int .i64 (gd P k)) := by
  have hn : P.length = n := by have := h.1; simpa using this
  rw [h.cellAt k (by omega)]
  simp [gd_in hk, hk]
theorem own_some {w : World} {N n c : Nat} {e : TypeId} {q : Option Addr} {xs : List Value} (h : w.ownsRow N e 1 (.slice q n c) n xs) (hn : 0 < n) : ∃ b, q = some ⟨b, 0, none⟩ ∧ N ≤ b := by
  rcases h.2 with ⟨e1, h0⟩ | ⟨g, cap, cur, e1, h1, -⟩
  · omega
  · injection e1 with e2 _ _
    exact ⟨g, e2, h1⟩

set_option maxRecDepth 100000 in
set_option maxHeartbeats 4000000 in
theorem spoilt_any (N : Nat) (q : Option Addr) (P : List Int) (w : World) (h : w.ownsRow N 3 1 (.slice q P.length P.length) P.length (P.map (Value.int .i64))) (hN : N ≤ w.heap.size) (ln : P.length ≤ 1000000) (hp : ∀ i, 0 ≤ gd P i ∧ gd P i ≤ 1125899906842624) :
    Calls Tryd.prog 14 #[.slice q P.length P.length] w fun e w' => e = .returned (.int .i64 ((P.length + 20 : Nat) : Int)) ∧ Frm w w' (Value.slice q P.length P.length).ownBlock ∧ Below N w w' := by
  obtain ⟨i0, hi, hz0, hz1, hz2⟩ := info_parts intInfo
  have HP := Lib.hid hp
  obtain ⟨n, hn⟩ : ∃ n, n = P.length := ⟨_, rfl⟩
  have LN : Hid (P.length = n) := hn.symm
  rw [← hn] at ln h ⊢
  have H0 := Lib.hid h
  have LO : Hid (∀ k, (Value.slice q n n).ownBlock = some k → N ≤ k ∧ k < w.heap.size) := fun k hk => h.lt k hk
  clear hn h hp
  go_enter Tryd.func14, Tryd.ntmps14
  go_wp2_with fail
  go_loopw [3] (fun iv wr => ∃ (i : Nat) (O : List Int), i ≤ n ∧ iv = .int .i64 i ∧ Hid (O.length = n) ∧ Hid (∀ j, i ≤ j → gd O j = gd P j) ∧ Hid (wr.ownsRow N 3 1 (.slice q n n) n (O.map (Value.int .i64))) ∧ Hid (Frm w wr (Value.slice q n n).ownBlock) ∧ Hid (Below N w wr)) (fun iv _ => n - (intOf iv).toNat)
  case atStart => exact ⟨0, P, Nat.zero_le _, rfl, LN, Lib.hid fun j _ => rfl, H0, Lib.hid (Frm.refl _ _), Lib.hid (Below.refl _ _)⟩
  case round =>
    clear H0
    obtain ⟨i, O, hi1, rfl, LO1, OP, OW, FR, BL⟩ := hrel
    by_cases tx : i < n
    · obtain ⟨b, rfl, hb⟩ := own_some OW.out (by omega)
      have iO : i < O.length := by have := LO1.out; omega
      have cO := own_at OW.out iO
      have fO := OW.out.frozenAt i
      obtain ⟨p0, p1⟩ := HP.out i
      have eP := OP.out i (Nat.le_refl _)
      rw [eP] at cO
      have OW2 := Lib.hid (own_set OW.out i (gd P i - 1))
      have FR2 := Lib.hid (show Frm w _ (some b) from (show Frm w wr (some b) from FR.out).set i (.int .i64 (gd P i - 1)))
      have BL2 := Lib.hid (BL.out.setCell (p := ⟨b, i, none⟩) hb (.int .i64 (gd P i - 1)))
      have OP2 : Hid (∀ j, i + 1 ≤ j → gd (O.set i (gd P i - 1)) j = gd P j) := fun j hj => by
        rw [gd_set iO, if_neg (by omega)]
        exact OP.out j (by omega)
      have LO2 : Hid ((O.set i (gd P i - 1)).length = n) := by show _ = _; rw [List.length_set]; exact LO1.out
      have i3 : (i : Int) < (n : Int) := by omega
      have i4 : (0 : Int) ≤ (i : Int) := by omega
      clear OP OW FR BL eP LO1
      generalize gd P i = v at *
      have e1 : IntKind.i64.wrap (v - 1) = v - 1 := IntWalk.i64_in _ (by omega)
      go_wp2_with fail
      go_roundw
      case rel => exact ⟨i + 1, _, by omega, by go_num, LO2, OP2, OW2, FR2, BL2⟩
      case measure => simp [intOf]; omega
    · obtain rfl : i = n := by omega
      clear OP HP
      go_wp2_with fail
      go_loopw [0, 4] (fun lv iv wr2 => ∃ (j : Nat) (M : List Int), j ≤ 20 ∧ iv = .int .i64 j ∧ wr2.ownsRow N 3 1 lv (i + j) (M.map (Value.int .i64)) ∧ Hid (∀ k, lv.ownBlock = some k → (Value.slice q i i).ownBlock = some k ∨ w.heap.size ≤ k) ∧ Hid (Frm w wr2 (Value.slice q i i).ownBlock) ∧ Hid (Below N w wr2)) (fun _ iv _ => 20 - (intOf iv).toNat)
      case atStart => exact ⟨0, O, Nat.zero_le _, rfl, OW.out, Lib.hid fun k hk => .inl hk, FR, BL⟩
      case round =>
        clear OW FR BL
        obtain ⟨j, M, hj, rfl, hown, OB, FR, BL⟩ := hrel
        by_cases tj : j < 20
        · have s1 := FR.out.1
          have s2 := BL.out.size
          have hbs : ∀ o, N ≤ (wr.alloc o).heap.size := fun o => by simp; omega
          go_wp2_with (first
            | (at_builtin; refine wpList_append_blk _ rfl _ _ 22 rfl N 3 i0 (.int .i64 0) 1 8 Tryd.underlying22 hi hz0 hz1 hz2 rfl (by decide) _ _ _ rfl (hown.alloc _) ⟨wr.heap.size, 0, none⟩ 1 1 [.int .i64 5] rfl rfl (one_cell _) one_one (by unfold maxLen; omega) (by omega) (hbs _) (by decide) ?_))
          intro v' w1 hown' hgrow hq
          have FR2 := Lib.hid (FR.out.grown hgrow OB.out)
          have OB2 : Hid (∀ k, v'.ownBlock = some k → (Value.slice q i i).ownBlock = some k ∨ w.heap.size ≤ k) := fun k hk => by
            rcases hq with e | e
            · exact OB.out k (e ▸ hk)
            · right
              rw [e] at hk
              have : (wr.alloc (Obj.cells #[Value.int .i64 5] 3)).heap.size = wr.heap.size + 1 := by simp
              injection hk with hk
              omega
          have BL2 := Lib.hid (show Below N w w1 from (BL.out.alloc (by omega) _).grown hgrow (by simp; omega) (fun k hk => (hown.lt k hk).1))
          have OW2 : w1.ownsRow N 3 1 v' (i + (j + 1)) ((M ++ [5]).map (Value.int .i64)) := by
            rw [List.map_append]; exact hown'
          clear hown hown' hgrow hq hbs OB FR BL s1 s2
          go_wp2_with fail
          go_roundw
          case rel => exact ⟨j + 1, _, by omega, by go_num, OW2, OB2, FR2, BL2⟩
          case measure => simp [intOf]; omega
        · obtain rfl : j = 20 := by omega
          obtain ⟨pm, d, hmv, hl, -, -, -⟩ := own_row hown
          rw [hl] at hmv
          subst hmv
          clear hown OB
          go_wp2_with fail
          go_ret
          exact ⟨rfl, FR.out, BL.out⟩
end Go.Proofs.YtlahdfmciaibdaaDoor

/- The law NumDivides: what a division leaves, told alike for both sides. -/
namespace Go.Proofs.YtlahdfmciaibdaaDoor
open Go.RowKit Go.Proofs.YtlahdfmciaibdaaDoor.Prs Go.Proofs.YtlahdfmciaibdaaDoor.Stb
set_option linter.unusedVariables false
set_option linter.unusedSimpArgs false

theorem own_frm {w w' : World} {N s n : Nat} {e : TypeId} {v : Value} {xs : List Value} (h : w.ownsRow N e s v n xs) (hb : ∀ k, v.ownBlock = some k → w'.heap[k]? = w.heap[k]?) : w'.ownsRow N e s v n xs := by
  refine ⟨h.1, ?_⟩
  rcases h.2 with h0 | ⟨g, cap, cur, rfl, h1, h2, r⟩
  · exact .inl h0
  · exact .inr ⟨g, cap, cur, rfl, h1, (hb g rfl).trans h2, r⟩
/-- A row in memory of its own, its block between N and M. -/
structure Prt (N M : Nat) (w : World) (q : Option Addr) (P : List Int) : Prop where
  own : w.ownsRow N 3 1 (.slice q P.length P.length) P.length (P.map (Value.int .i64))
  blk : ∀ k, (Value.slice q P.length P.length).ownBlock = some k → N ≤ k ∧ k < M
  rng : ∀ i, 0 ≤ gd P i ∧ gd P i ≤ 1125899906842624
  hi : M ≤ w.heap.size
theorem Prt.row {N M : Nat} {w : World} {q : Option Addr} {P : List Int} (h : Prt N M w q P) : RowA w q P := fun i hi => by
  rcases h.own.2 with ⟨e, h0⟩ | ⟨g, cap, cur, e, h1, h2, r⟩
  · omega
  · injection e with e1 e2 e3
    subst e1
    refine ⟨_, rfl, (Array.getElem?_eq_some_iff.1 h2).1, ?_⟩
    have c := h.own.cellAt (g := g) i (by simpa using hi)
    rw [add_zero_addr, c]
    simp [gd_in hi, hi]
theorem Prt.keep {N M : Nat} {w w' : World} {q : Option Addr} {P : List Int} {o : Option Nat} (h : Prt N M w q P) (f : Frm w w' o) (ho : ∀ k, o = some k → k < N ∨ M ≤ k) : Prt N M w' q P := by
  refine ⟨own_frm h.own fun k hk => ?_, h.blk, h.rng, Nat.le_trans h.hi f.1⟩
  have b := h.blk k hk
  exact f.2 k (Nat.lt_of_lt_of_le b.2 h.hi) (fun e => by rcases ho k e.symm with t | t <;> omega)
theorem Below.frm {w w' : World} (h : Below w.heap.size w w') : Frm w w' none := ⟨h.size, fun k hk _ => h.block k hk⟩
theorem RowA.frm {w w' : World} {q : Option Addr} {l : List Int} {o : Option Nat} {n : Nat} (h : RowA w q l) (hn : ∀ x, q = some x → 0 < l.length → x.block < n) (f : Frm w w' o) (ho : ∀ k, o = some k → n ≤ k) : RowA w' q l := fun i hi => by
  obtain ⟨x, e, k, c⟩ := h i hi
  have bn := hn x e (by omega)
  refine ⟨x, e, Nat.lt_of_lt_of_le k f.1, ?_⟩
  have hb := f.2 x.block k (fun e => by have := ho _ e.symm; omega)
  have : w'.cell? (x.add i) = w.cell? (x.add i) := World.cell?_of_block (by rw [add_block]; exact hb)
  rw [this]; exact c
theorem Cop.frm {w w' : World} {b : Nat} {l : List Int} {o : Option Nat} (h : Cop w b l) (f : Frm w w' o) (ho : ∀ k, o = some k → b < k) : Cop w' b l := by
  have hb := f.2 b h.lt (fun e => by have := ho _ e.symm; omega)
  have c : ∀ k, w'.cell? ⟨b, k, none⟩ = w.cell? ⟨b, k, none⟩ := fun k => World.cell?_of_block hb
  exact ⟨Nat.lt_of_lt_of_le h.lt f.1, fun i hi => (c i).trans (h.row i hi), (c _).trans h.m0, (c _).trans h.m1⟩

/-- What a division answers. -/
structure DvS (G : List Int → Prop) (T : Int) (l : List Int) (w : World) (q : Option Addr) (P : List Int) (E : Int) (w' : World) : Prop where
  err : ∃ S, SumR T l S E
  bel : Below w.heap.size w w'
  prt : Prt w.heap.size w'.heap.size w' q P
  bad : E ≠ 0 → P = []
  good : E = 0 → Takes T l ∧ G P
  len : P.length ≤ l.length
def DvE (G : List Int → Prop) (T : Int) (l : List Int) (w : World) (e : Ending) (w' : World) : Prop := ∃ q P E, e = .returned (.tuple #[.slice q P.length P.length, .int .i64 E]) ∧ DvS G T l w q P E w'
theorem prt_bad (w w' : World) (h : w.heap.size ≤ w'.heap.size) : Prt w.heap.size w'.heap.size w' none [] :=
  ⟨World.ownsRow_nil _ _ _ _, (fun k hk => by cases hk), (fun i => by simp [gd]), Nat.le_refl _⟩
theorem prt_good {w w' : World} {b N : Nat} {P : List Int} (h : MadeI w w' b N P) (r : ∀ i, 0 ≤ gd P i ∧ gd P i ≤ 1125899906842624) : Prt w.heap.size w'.heap.size w' (some ⟨b, 0, none⟩) P := by
  have e := h.1
  subst e
  exact ⟨h.2.2.1, (fun k hk => by cases hk; exact ⟨h.2.1, h.lt⟩), r, Nat.le_refl _⟩
theorem sum_nonneg {l : List Int} (hl : ∀ i, i < l.length → 0 ≤ gd l i) : 0 ≤ l.sum := by
  have := sum_le_of (a := List.replicate l.length 0) (b := l) (by simp) (fun i hi => by rw [gd_zeros]; exact hl i (by simpa using hi))
  rw [sum_zeros] at this; omega
theorem GA.rng {T : Int} {l P : List Int} (tk : Takes T l) (h : GA T l P) (hp : P.length = l.length) : ∀ i, 0 ≤ gd P i ∧ gd P i ≤ 1125899906842624 := by
  obtain ⟨_, ⟨T0, T1⟩, hl⟩ := tk
  have s0 := sum_nonneg fun i hi => (hl i hi).1
  rcases (by omega : l.sum = 0 ∨ 0 < l.sum) with z | z
  · intro i
    rw [h.1 z, gd_zeros]; omega
  · obtain ⟨o, left, a⟩ := h.2 z
    have p0 : ∀ i, 0 ≤ gd P i := fun i => by
      by_cases t : i < l.length
      · have := (a.bounds t).1
        have : 0 ≤ T * gd l i / l.sum := Int.ediv_nonneg (Int.mul_nonneg T0 (hl i t).1) (by omega)
        omega
      · rw [gd_out (by omega)]; exact Int.le_refl _
    intro i
    have := gd_nonneg_le_sum p0 i
    have := a.sum
    exact ⟨p0 i, by omega⟩
theorem GD.rng {T : Int} {l P : List Int} (tk : Takes T l) (h : GD T l P) : ∀ i, 0 ≤ gd P i ∧ gd P i ≤ 1125899906842624 := fun i => by
  obtain ⟨_, ⟨T0, T1⟩, hl⟩ := tk
  have := gd_nonneg_le_sum h.1.pos i
  have := h.2
  exact ⟨h.1.pos i, by omega⟩
theorem apR_dv {T : Int} {l : List Int} {w w' : World} {e : Ending} (h : ApR T l w e w') : DvE (GA T l) T l w e w' := by
  rcases h with ⟨E, hE, rfl, S, hb⟩ | ⟨b, P, rfl, MP, TK, TZ, z, g⟩
  · exact ⟨none, [], E, rfl, ⟨⟨_, S⟩, hb, prt_bad _ _ hb.size, fun _ => rfl, fun e => absurd e hE, Nat.zero_le _⟩⟩
  · refine ⟨some ⟨b, 0, none⟩, P, 0, ?_, ⟨⟨_, .inr (.inr (.inr ⟨TK, TZ, rfl, rfl⟩))⟩, MP.2.2.2, prt_good MP (GA.rng TK ⟨z, g⟩ MP.1), fun h => absurd rfl h, fun _ => ⟨TK, z, g⟩, Nat.le_of_eq MP.1⟩⟩
    rw [MP.1]
theorem divR_dv {T : Int} {l : List Int} {w w' : World} {e : Ending} (h : DivR T l w e w') : DvE (GD T l) T l w e w' := by
  rcases h with ⟨E, hE, rfl, S, hb⟩ | ⟨b, P, rfl, MP, TK, TZ, z, g⟩
  · exact ⟨none, [], E, rfl, ⟨⟨_, S⟩, hb, prt_bad _ _ hb.size, fun _ => rfl, fun e => absurd e hE, Nat.zero_le _⟩⟩
  · refine ⟨some ⟨b, 0, none⟩, P, 0, ?_, ⟨⟨_, .inr (.inr (.inr ⟨TK, TZ, rfl, rfl⟩))⟩, MP.2.2.2, prt_good MP (GD.rng TK ⟨z, g⟩), fun h => absurd rfl h, fun _ => ⟨TK, z, g⟩, Nat.le_of_eq MP.1⟩⟩
    rw [MP.1]
theorem GA.uniq {T : Int} {l P P' : List Int} (tk : Takes T l) (h : GA T l P) (h' : GA T l P') : P = P' := by
  refine GA.scaled (k := 1) (by decide) (fun i hi => (tk.2.2 i hi).1) h ?_
  have e : l.map (· * 1) = l := by simp
  rw [e]; exact h'
theorem GD.uniq {T : Int} {l P P' : List Int} (h : GD T l P) (h' : GD T l P') : P = P' := h.1.uniq h'.1 (by rw [h.2, h'.2])
/-- Two divisions of one kind are one. -/
theorem dv_det {G : List Int → Prop} {T : Int} {l : List Int} (U : ∀ P P', Takes T l → G P → G P' → P = P') {w1 w2 w3 w4 : World} {q1 q2 : Option Addr} {P1 P2 : List Int} {E1 E2 : Int} (h1 : DvS G T l w1 q1 P1 E1 w2) (h2 : DvS G T l w3 q2 P2 E2 w4) : P1 = P2 ∧ E1 = E2 := by
  obtain ⟨S1, s1⟩ := h1.err
  obtain ⟨S2, s2⟩ := h2.err
  have e := s1.det s2
  subst e
  refine ⟨?_, rfl⟩
  by_cases hE : E1 = 0
  · obtain ⟨tk, g1⟩ := h1.good hE
    exact U _ _ tk g1 (h2.good hE).2
  · rw [h1.bad hE, h2.bad hE]
theorem ea_det {T : Int} {l : List Int} : ∀ P P', Takes T l → GA T l P → GA T l P' → P = P' := fun _ _ tk a b => a.uniq tk b
theorem ed_det {T : Int} {l : List Int} : ∀ P P', Takes T l → GD T l P → GD T l P' → P = P' := fun _ _ _ a b => a.uniq b
/-- The reference's Apportion, beside what the program's said. -/
theorem rApportion_dv (T : Int) (q : Option Addr) (c : Nat) (l : List Int) (w : World) (r : RowA w q l) (ln : l.length ≤ 1000000) {w1 w2 : World} {q1 : Option Addr} {P1 : List Int} {E1 : Int} (h1 : DvS (GA T l) T l w1 q1 P1 E1 w2) :
    Calls Tryd.prog 9 #[.int .i64 T, .slice q l.length c] w (DvE (GA T l) T l w) := by
  obtain ⟨S1, s1⟩ := h1.err
  have key : Takes T l → 0 < l.sum → E1 = 0 := fun tk h0 => s1.det (.inr (.inr (.inr ⟨tk, fun e => by omega, rfl, rfl⟩)) : SumR T l l.sum 0)
  by_cases z : Takes T l ∧ 0 < l.sum
  · obtain ⟨tk, g⟩ := h1.good (key z.1 z.2)
    obtain ⟨o, left, a⟩ := g.2 z.2
    exact (rApportion_any T q c l w r ln o (fun _ S hS h0 => by subst hS; exact ⟨a.ord, a.sor⟩)).mono fun e w' h => apR_dv h
  · exact (rApportion_any T q c l w r ln id (fun tk S hS h0 => absurd ⟨tk, by omega⟩ z)).mono fun e w' h => apR_dv h
end Go.Proofs.YtlahdfmciaibdaaDoor

/- Decimal and the list comparison at the law's own example. -/
namespace Go.Proofs.YtlahdfmciaibdaaDoor
open Go.RowKit
set_option linter.unusedVariables false
set_option linter.unusedSimpArgs false

theorem isPlaces_any (n : Int) (w : World) :
    Calls Tryd.prog 50 #[.int .i64 n] w fun e w' => e = .returned (.bool (decide (0 ≤ n) && decide (n ≤ 9))) ∧ w = w' := by
  go_enter Tryd.func50, Tryd.ntmps50
  go_wp2
  all_goals go_ret
  all_goals exact ⟨ret_b (by rw [Bool.eq_iff_iff]; simp; try omega), rfl⟩

theorem small5 (w : World) : Calls Tryd.prog 99 #[.int .i64 5] w fun e w' => e = .returned (.string ⟨#[53]⟩) ∧ w = w' :=
  (Tryd.internal_strconv_small 5 (by decide) w).mono fun _ _ ⟨a, b⟩ => ⟨a.trans (by rw [show (Lib.decDigits 5).toArray = #[53] from by kernel_rfl]), b.symm⟩

theorem fmt5 (w : World) : Calls Tryd.prog 51 #[.int .u64 5, .int .i64 10] w fun e w' => e = .returned (.string ⟨#[53]⟩) ∧ w = w' := by
  go_enter Tryd.func51, Tryd.ntmps51
  go_wp2_with (first | (go_at_call 79; go_in))
  refine (small5 _).mono ?_
  rintro e w' ⟨rfl, rfl⟩
  go_wp2_with fail
  go_ret
  exact ⟨rfl, rfl⟩

theorem rep2 (w : World) : Calls Tryd.prog 52 #[.string ⟨#[48]⟩, .int .i64 2] w fun e w' => e = .returned (.string ⟨#[48, 48]⟩) ∧ Below w.heap.size w w' :=
  (Tryd.strings_Repeat ⟨#[48]⟩ 2 w (by decide) (by decide)).mono fun _ _ ⟨a, b⟩ => ⟨a.trans (by rw [show (Lib.repeatL (⟨#[48]⟩ : ByteArray).data.toList 2).toArray = #[48, 48] from by decide]), b⟩

theorem decimal3 (w : World) :
    Calls Tryd.prog 20 #[.int .i64 (-5), .int .i64 2] w fun e w' => e = .returned (.tuple #[.string ⟨#[45, 48, 46, 48, 53]⟩, .int .i64 0]) ∧ Below w.heap.size w w' := by
  go_enter Tryd.func20, Tryd.ntmps20
  go_wp2_with fail
  refine (isPlaces_any _ _).mono ?_
  rintro e w' ⟨rfl, rfl⟩
  go_wp2_with fail
  refine (size_any _ (by decide) (by decide) _).mono ?_
  rintro e w' ⟨rfl, rfl⟩
  go_wp2_with fail
  refine (fmt5 _).mono ?_
  rintro e w' ⟨rfl, rfl⟩
  go_wp2_with fail
  refine (rep2 _).mono ?_
  rintro e w1 ⟨rfl, hb⟩
  go_wp2_with fail
  rw [show ((⟨#[48, 48]⟩ : ByteArray) ++ ⟨#[53]⟩) = ⟨#[48, 48, 53]⟩ from by kernel_rfl]
  go_quiet (fail)
  go_wp2_with fail
  rw [show ((⟨#[45]⟩ : ByteArray) ++ ((⟨#[48, 48, 53]⟩ : ByteArray).extract 0 1 ++ ⟨#[46]⟩ ++ (⟨#[48, 48, 53]⟩ : ByteArray).extract 1 3)) = ⟨#[45, 48, 46, 48, 53]⟩ from by kernel_rfl]
  go_ret2
  exact ⟨rfl, below_drewN hb _⟩

theorem same3 (a b ca cb : Nat) (x y z : Int) (w : World) (a0 : w.cell? ⟨a, 0, none⟩ = some (.int .i64 x)) (a1 : w.cell? ⟨a, 1, none⟩ = some (.int .i64 y)) (a2 : w.cell? ⟨a, 2, none⟩ = some (.int .i64 z))
    (b0 : w.cell? ⟨b, 0, none⟩ = some (.int .i64 x)) (b1 : w.cell? ⟨b, 1, none⟩ = some (.int .i64 y)) (b2 : w.cell? ⟨b, 2, none⟩ = some (.int .i64 z)) :
    Calls Tryd.prog 12 #[.slice (some ⟨a, 0, none⟩) 3 ca, .slice (some ⟨b, 0, none⟩) 3 cb] w fun e w' => e = .returned (.bool true) ∧ ∃ n, w' = w.drewN n := by
  go_enter Tryd.func12, Tryd.ntmps12
  go_wp2_with fail
  refine wp_loop_rounds 4 ?_
  rw [rounds_succ]
  go_wp2_with fail
  go_quiet (fail)
  go_wp2_with fail
  rw [rounds_succ]
  go_wp2_with fail
  go_quiet (fail)
  go_wp2_with fail
  rw [rounds_succ]
  go_wp2_with fail
  go_quiet (fail)
  go_wp2_with fail
  rw [rounds_succ]
  go_wp2_with fail
  go_ret
  exact ⟨rfl, _, rfl⟩
end Go.Proofs.YtlahdfmciaibdaaDoor

/- The small functions of near.go: floor, along, apart, nearer. -/
namespace Go.Proofs.YtlahdfmciaibdaaDoor
open Go.RowKit
set_option linter.unusedVariables false
set_option linter.unusedSimpArgs false

theorem floor_any (n d : Int) (h1 : -4611686018427387904 ≤ n) (h2 : n ≤ 4611686018427387904) (hd : 1 ≤ d) (hd' : d ≤ 4611686018427387904) (w : World) :
    Calls Tryd.prog 40 #[.int .i64 n, .int .i64 d] w fun e w' => e = .returned (.int .i64 (n / d)) ∧ w = w' := by
  by_cases h : 0 ≤ n
  · have q0 : 0 ≤ n % d := Int.emod_nonneg _ (by omega)
    go_enter Tryd.func40, Tryd.ntmps40
    go_wp2
    go_ret
    exact ⟨rfl, rfl⟩
  · have hz : (d == 0) = false := by simp; omega
    have e2 : n / d < 0 := Int.ediv_neg_of_neg_of_pos (a := n) (b := d) (by omega) (by omega)
    have e3 : n ≤ n / d := by
      rw [Int.le_ediv_iff_mul_le (by omega)]
      have : n * d ≤ n * 1 := Int.mul_le_mul_of_nonpos_left (by omega) hd
      omega
    have m0 : 0 ≤ n % d := Int.emod_nonneg _ (by omega)
    have m1 : n % d < d := Int.emod_lt_of_pos _ (by omega)
    by_cases hdv : d ∣ n
    · have t0 : n.tdiv d = n / d := by rw [Int.tdiv_eq_ediv, if_pos (Or.inr hdv)]; simp
      have t1 : n.tmod d = 0 := Int.tmod_eq_zero_of_dvd hdv
      have T0 := Lib.hid t0
      have b1 : -9223372036854775808 ≤ n.tdiv d := by omega
      have b2 : n.tdiv d ≤ 9223372036854775807 := by omega
      have b3 : 0 ≤ n.tmod d := by omega
      clear t0 t1
      go_enter Tryd.func40, Tryd.ntmps40
      go_wp2
      go_ret
      exact ⟨ret_i T0.out, rfl⟩
    · have t0 : n.tdiv d = n / d + 1 := by rw [Int.tdiv_eq_ediv, if_neg (by rintro (a | a); omega; exact hdv a), Int.sign_eq_one_of_pos (by omega)]
      have t1 : n.tmod d = n % d - d := by rw [Int.tmod_eq_emod, if_neg (by rintro (a | a); omega; exact hdv a)]; omega
      have T0 := Lib.hid t0
      have b1 : -9223372036854775807 ≤ n.tdiv d := by omega
      have b2 : n.tdiv d ≤ 9223372036854775807 := by omega
      have b3 : n.tmod d < 0 := by omega
      clear t0 t1 hdv
      go_enter Tryd.func40, Tryd.ntmps40
      go_wp2
      go_ret
      exact ⟨ret_i (by have := T0.out; omega), rfl⟩

theorem along_any (bn bd ln ld s : Int) (h1 : -4611686018427387904 ≤ s * ln) (h2 : s * ln ≤ 4611686018427387903) (h3 : -4611686018427387904 ≤ bn) (h4 : bn ≤ 4611686018427387904)
    (k1 : -4611686018427387904 ≤ s * ld) (k2 : s * ld ≤ 4611686018427387903) (k3 : -4611686018427387904 ≤ bd) (k4 : bd ≤ 4611686018427387904) (w : World) :
    Calls Tryd.prog 45 #[.agg #[.int .i64 bn, .int .i64 bd], .agg #[.int .i64 ln, .int .i64 ld], .int .i64 s] w fun e w' => e = .returned (.agg #[.int .i64 (s * ln + bn), .int .i64 (s * ld + bd)]) ∧ Below w.heap.size w w' := by
  go_enter Tryd.func45, Tryd.ntmps45
  go_wp2
  refine bodyPost_ret (v := .agg #[.int .i64 (s * ln + bn), .int .i64 (s * ld + bd)]) (by simp [results, Tryd.results45, go_sem]) rfl ⟨rfl, ?_⟩
  repeat' (first | exact Below.refl _ _ | refine below_drewN ?_ _ | refine Below.setCell ?_ ?_ _ | refine Below.alloc ?_ ?_ _ | (simp; done) | (simp; omega) | omega)

theorem apart_any (n d fn fd : Int) (h1 : -4611686018427387904 ≤ n * fd) (h2 : n * fd ≤ 4611686018427387903) (k1 : -4611686018427387904 ≤ fn * d) (k2 : fn * d ≤ 4611686018427387903) (w : World) :
    Calls Tryd.prog 87 #[.int .i64 n, .int .i64 d, .agg #[.int .i64 fn, .int .i64 fd]] w fun e w' => e = .returned (.int .i64 ((n * fd - fn * d).natAbs : Int)) ∧ Below w.heap.size w w' := by
  by_cases h : n * fd - fn * d < 0
  · go_enter Tryd.func87, Tryd.ntmps87
    go_wp2
    go_ret
    exact ⟨ret_i (by omega), (Below.refl _ _).alloc (Nat.le_refl _) _⟩
  · go_enter Tryd.func87, Tryd.ntmps87
    go_wp2
    go_ret
    exact ⟨ret_i (by omega), (Below.refl _ _).alloc (Nat.le_refl _) _⟩
theorem nearer_any (n d ln ld on od : Int) (h1 : -4611686018427387904 ≤ n * ld) (h2 : n * ld ≤ 4611686018427387903) (k1 : -4611686018427387904 ≤ ln * d) (k2 : ln * d ≤ 4611686018427387903)
    (h3 : -4611686018427387904 ≤ n * od) (h4 : n * od ≤ 4611686018427387903) (k3 : -4611686018427387904 ≤ on * d) (k4 : on * d ≤ 4611686018427387903)
    (m1 : -9223372036854775808 ≤ ((n * od - on * d).natAbs : Int) * ld) (m2 : ((n * od - on * d).natAbs : Int) * ld ≤ 9223372036854775807)
    (m3 : -9223372036854775808 ≤ ((n * ld - ln * d).natAbs : Int) * od) (m4 : ((n * ld - ln * d).natAbs : Int) * od ≤ 9223372036854775807) (w : World) :
    Calls Tryd.prog 57 #[.int .i64 n, .int .i64 d, .agg #[.int .i64 ln, .int .i64 ld], .agg #[.int .i64 on, .int .i64 od]] w fun e w' =>
      e = .returned (if ((n * od - on * d).natAbs : Int) * ld < ((n * ld - ln * d).natAbs : Int) * od then .agg #[.int .i64 on, .int .i64 od] else .agg #[.int .i64 ln, .int .i64 ld]) ∧ Below w.heap.size w w' := by
  have e1 : IntKind.i64.wrap (((n * od - on * d).natAbs : Int) * ld) = ((n * od - on * d).natAbs : Int) * ld := IntWalk.i64_in _ ⟨m1, m2⟩
  have e2 : IntKind.i64.wrap (((n * ld - ln * d).natAbs : Int) * od) = ((n * ld - ln * d).natAbs : Int) * od := IntWalk.i64_in _ ⟨m3, m4⟩
  clear m1 m2 m3 m4
  have fin : ∀ (c : Bool), c = decide (((n * od - on * d).natAbs : Int) * ld < ((n * ld - ln * d).natAbs : Int) * od) → (if ((n * od - on * d).natAbs : Int) * ld < ((n * ld - ln * d).natAbs : Int) * od then (Value.agg #[.int .i64 on, .int .i64 od]) else .agg #[.int .i64 ln, .int .i64 ld]) = bif c then .agg #[.int .i64 on, .int .i64 od] else .agg #[.int .i64 ln, .int .i64 ld] := by
    rintro c rfl
    by_cases h : ((n * od - on * d).natAbs : Int) * ld < ((n * ld - ln * d).natAbs : Int) * od <;> simp [h]
  by_cases hlt : ((n * od - on * d).natAbs : Int) * ld < ((n * ld - ln * d).natAbs : Int) * od
  all_goals
    first | rw [if_pos hlt] | rw [if_neg hlt]
    clear fin
    go_enter Tryd.func57, Tryd.ntmps57
    go_wp2_with fail
    have hb : Below w.heap.size w (((w.alloc (Obj.cells #[Value.int IntKind.i64 ln, Value.int IntKind.i64 ld] 33)).alloc (Obj.cells #[Value.int IntKind.i64 on, Value.int IntKind.i64 od] 33)).alloc (Obj.cells #[Value.int IntKind.i64 0, Value.int IntKind.i64 0] 33)) := by repeat' (first | exact Below.refl _ _ | (with_reducible assumption) | refine below_drewN ?_ _ | refine Below.drew ?_ | refine Below.setCell ?_ ?_ _ | refine Below.alloc ?_ ?_ _ | (simp; done) | (simp; omega) | omega)
    have t1 : (((w.alloc (Obj.cells #[Value.int IntKind.i64 ln, Value.int IntKind.i64 ld] 33)).alloc (Obj.cells #[Value.int IntKind.i64 on, Value.int IntKind.i64 od] 33)).alloc (Obj.cells #[Value.int IntKind.i64 0, Value.int IntKind.i64 0] 33)).cell? ⟨w.heap.size, 0, none⟩ = some (.int .i64 ln) := by simp [go_sem]
    have t2 : (((w.alloc (Obj.cells #[Value.int IntKind.i64 ln, Value.int IntKind.i64 ld] 33)).alloc (Obj.cells #[Value.int IntKind.i64 on, Value.int IntKind.i64 od] 33)).alloc (Obj.cells #[Value.int IntKind.i64 0, Value.int IntKind.i64 0] 33)).cell? ⟨w.heap.size, 1, none⟩ = some (.int .i64 ld) := by simp [go_sem]
    have t3 : (((w.alloc (Obj.cells #[Value.int IntKind.i64 ln, Value.int IntKind.i64 ld] 33)).alloc (Obj.cells #[Value.int IntKind.i64 on, Value.int IntKind.i64 od] 33)).alloc (Obj.cells #[Value.int IntKind.i64 0, Value.int IntKind.i64 0] 33)).cell? ⟨w.heap.size + 1, 0, none⟩ = some (.int .i64 on) := by simp [go_sem]
    have t4 : (((w.alloc (Obj.cells #[Value.int IntKind.i64 ln, Value.int IntKind.i64 ld] 33)).alloc (Obj.cells #[Value.int IntKind.i64 on, Value.int IntKind.i64 od] 33)).alloc (Obj.cells #[Value.int IntKind.i64 0, Value.int IntKind.i64 0] 33)).cell? ⟨w.heap.size + 1, 1, none⟩ = some (.int .i64 od) := by simp [go_sem]
    have t5 : (((w.alloc (Obj.cells #[Value.int IntKind.i64 ln, Value.int IntKind.i64 ld] 33)).alloc (Obj.cells #[Value.int IntKind.i64 on, Value.int IntKind.i64 od] 33)).alloc (Obj.cells #[Value.int IntKind.i64 0, Value.int IntKind.i64 0] 33)).cell? ⟨w.heap.size + 1 + 1, 0, none⟩ = some (.int .i64 0) := by simp [go_sem]
    have t6 : (((w.alloc (Obj.cells #[Value.int IntKind.i64 ln, Value.int IntKind.i64 ld] 33)).alloc (Obj.cells #[Value.int IntKind.i64 on, Value.int IntKind.i64 od] 33)).alloc (Obj.cells #[Value.int IntKind.i64 0, Value.int IntKind.i64 0] 33)).cell? ⟨w.heap.size + 1 + 1, 1, none⟩ = some (.int .i64 0) := by simp [go_sem]
    have u5 : (((w.alloc (Obj.cells #[Value.int IntKind.i64 ln, Value.int IntKind.i64 ld] 33)).alloc (Obj.cells #[Value.int IntKind.i64 on, Value.int IntKind.i64 od] 33)).alloc (Obj.cells #[Value.int IntKind.i64 0, Value.int IntKind.i64 0] 33)).frozen? ⟨w.heap.size + 1 + 1, 0, none⟩ = false := by simp [go_sem]
    have u6 : (((w.alloc (Obj.cells #[Value.int IntKind.i64 ln, Value.int IntKind.i64 ld] 33)).alloc (Obj.cells #[Value.int IntKind.i64 on, Value.int IntKind.i64 od] 33)).alloc (Obj.cells #[Value.int IntKind.i64 0, Value.int IntKind.i64 0] 33)).frozen? ⟨w.heap.size + 1 + 1, 1, none⟩ = false := by simp [go_sem]
    have hz : w.heap.size + 1 + 1 < (((w.alloc (Obj.cells #[Value.int IntKind.i64 ln, Value.int IntKind.i64 ld] 33)).alloc (Obj.cells #[Value.int IntKind.i64 on, Value.int IntKind.i64 od] 33)).alloc (Obj.cells #[Value.int IntKind.i64 0, Value.int IntKind.i64 0] 33)).heap.size := by simp
    generalize (((w.alloc (Obj.cells #[Value.int IntKind.i64 ln, Value.int IntKind.i64 ld] 33)).alloc (Obj.cells #[Value.int IntKind.i64 on, Value.int IntKind.i64 od] 33)).alloc (Obj.cells #[Value.int IntKind.i64 0, Value.int IntKind.i64 0] 33)) = v at *
    go_region_held3 (fun w' => w'.cell? ⟨w.heap.size, 0, none⟩ = some (.int .i64 ln) ∧ w'.cell? ⟨w.heap.size, 1, none⟩ = some (.int .i64 ld) ∧ w'.cell? ⟨w.heap.size + 1, 0, none⟩ = some (.int .i64 on) ∧ w'.cell? ⟨w.heap.size + 1, 1, none⟩ = some (.int .i64 od))
      (first | exact ⟨t1, t2, t3, t4⟩)
      (first | (go_at_call 87; refine (apart_any _ _ _ _ (by omega) (by omega) (by omega) (by omega) _).mono ?_; rintro e w' ⟨rfl, hq⟩; replace t1 := (hq.cell (p := ⟨w.heap.size, 0, none⟩) (show w.heap.size < _ from Nat.lt_of_succ_lt (Nat.lt_of_succ_lt hz))).trans t1; replace t2 := (hq.cell (p := ⟨w.heap.size, 1, none⟩) (show w.heap.size < _ from Nat.lt_of_succ_lt (Nat.lt_of_succ_lt hz))).trans t2; replace t3 := (hq.cell (p := ⟨w.heap.size + 1, 0, none⟩) (show w.heap.size + 1 < _ from Nat.lt_of_succ_lt hz)).trans t3; replace t4 := (hq.cell (p := ⟨w.heap.size + 1, 1, none⟩) (show w.heap.size + 1 < _ from Nat.lt_of_succ_lt hz)).trans t4; replace t5 := (hq.cell (p := ⟨w.heap.size + 1 + 1, 0, none⟩) hz).trans t5; replace t6 := (hq.cell (p := ⟨w.heap.size + 1 + 1, 1, none⟩) hz).trans t6; replace u5 := (hq.frozen (p := ⟨w.heap.size + 1 + 1, 0, none⟩) hz).trans u5; replace u6 := (hq.frozen (p := ⟨w.heap.size + 1 + 1, 1, none⟩) hz).trans u6; (first | replace hb := hb.trans (hq.mono hb.size) | replace hb := hb.drew.trans (hq.mono hb.drew.size)); replace hz := Nat.lt_of_lt_of_le hz hq.size))
    go_wp2_with fail
    first
      | exact bodyPost_ret (v := .agg #[.int .i64 on, .int .i64 od]) (by simp [results, Tryd.results57, go_sem, t5, t6, hz]) rfl ⟨rfl, by repeat' (first | exact Below.refl _ _ | (with_reducible assumption) | refine below_drewN ?_ _ | refine Below.drew ?_ | refine Below.setCell ?_ ?_ _ | refine Below.alloc ?_ ?_ _ | (simp; done) | (simp; omega) | omega)⟩
      | exact bodyPost_ret (v := .agg #[.int .i64 ln, .int .i64 ld]) (by simp [results, Tryd.results57, go_sem, t5, t6, hz]) rfl ⟨rfl, by repeat' (first | exact Below.refl _ _ | (with_reducible assumption) | refine below_drewN ?_ _ | refine Below.drew ?_ | refine Below.setCell ?_ ?_ _ | refine Below.alloc ?_ ?_ _ | (simp; done) | (simp; omega) | omega)⟩
end Go.Proofs.YtlahdfmciaibdaaDoor

/- Best at the law's own example. -/
namespace Go.Proofs.YtlahdfmciaibdaaDoor
open Go.RowKit
set_option linter.unusedVariables false
set_option linter.unusedSimpArgs false

/-- Best's three variables: the result, 'before', 'last'. -/
structure BS (w0 w : World) (xn xd bn bd ln ld : Int) : Prop where
  x0 : w.cell? ⟨w0.heap.size, 0, none⟩ = some (.int .i64 xn)
  x1 : w.cell? ⟨w0.heap.size, 1, none⟩ = some (.int .i64 xd)
  b0 : w.cell? ⟨w0.heap.size + 1, 0, none⟩ = some (.int .i64 bn)
  b1 : w.cell? ⟨w0.heap.size + 1, 1, none⟩ = some (.int .i64 bd)
  l0 : w.cell? ⟨w0.heap.size + 1 + 1, 0, none⟩ = some (.int .i64 ln)
  l1 : w.cell? ⟨w0.heap.size + 1 + 1, 1, none⟩ = some (.int .i64 ld)
  fx0 : w.frozen? ⟨w0.heap.size, 0, none⟩ = false
  fx1 : w.frozen? ⟨w0.heap.size, 1, none⟩ = false
  fb0 : w.frozen? ⟨w0.heap.size + 1, 0, none⟩ = false
  fb1 : w.frozen? ⟨w0.heap.size + 1, 1, none⟩ = false
  fl0 : w.frozen? ⟨w0.heap.size + 1 + 1, 0, none⟩ = false
  fl1 : w.frozen? ⟨w0.heap.size + 1 + 1, 1, none⟩ = false
  sz : w0.heap.size + 1 + 1 < w.heap.size
  bl : Below w0.heap.size w0 w
theorem BS.drew {w0 w : World} {xn xd bn bd ln ld : Int} (s : BS w0 w xn xd bn bd ln ld) : BS w0 w.drew xn xd bn bd ln ld :=
  ⟨s.x0, s.x1, s.b0, s.b1, s.l0, s.l1, s.fx0, s.fx1, s.fb0, s.fb1, s.fl0, s.fl1, s.sz, s.bl.drew⟩
theorem BS.drewN {w0 w : World} {xn xd bn bd ln ld : Int} (s : BS w0 w xn xd bn bd ln ld) (n : Nat) : BS w0 (w.drewN n) xn xd bn bd ln ld :=
  ⟨s.x0, s.x1, s.b0, s.b1, s.l0, s.l1, s.fx0, s.fx1, s.fb0, s.fb1, s.fl0, s.fl1, s.sz, below_drewN s.bl n⟩
theorem BS.below {w0 w w' : World} {xn xd bn bd ln ld : Int} (s : BS w0 w xn xd bn bd ln ld) (h : Below w.heap.size w w') : BS w0 w' xn xd bn bd ln ld := by
  have z := s.sz
  have z1 : w0.heap.size + 1 < w.heap.size := by omega
  have z0 : w0.heap.size < w.heap.size := by omega
  exact ⟨(h.cell z0).trans s.x0, (h.cell z0).trans s.x1, (h.cell z1).trans s.b0, (h.cell z1).trans s.b1, (h.cell z).trans s.l0, (h.cell z).trans s.l1,
    (h.frozen z0).trans s.fx0, (h.frozen z0).trans s.fx1, (h.frozen z1).trans s.fb0, (h.frozen z1).trans s.fb1, (h.frozen z).trans s.fl0, (h.frozen z).trans s.fl1, Nat.lt_of_lt_of_le z h.size, s.bl.trans (h.mono s.bl.size)⟩
theorem BS.setx0 {w0 w : World} {xn xd bn bd ln ld : Int} (s : BS w0 w xn xd bn bd ln ld) (v : Int) : BS w0 (w.setCell ⟨w0.heap.size, 0, none⟩ (.int .i64 v)) v xd bn bd ln ld := by
  obtain ⟨x0, x1, b0, b1, l0, l1, fx0, fx1, fb0, fb1, fl0, fl1, sz, bl⟩ := s
  refine ⟨?_, ?_, ?_, ?_, ?_, ?_, ?_, ?_, ?_, ?_, ?_, ?_, ?_, bl.setCell (by simp; try omega) _⟩
  all_goals (simp [go_sem, x0, x1, b0, b1, l0, l1, fx0, fx1, fb0, fb1, fl0, fl1, sz]; done)
theorem BS.setx1 {w0 w : World} {xn xd bn bd ln ld : Int} (s : BS w0 w xn xd bn bd ln ld) (v : Int) : BS w0 (w.setCell ⟨w0.heap.size, 1, none⟩ (.int .i64 v)) xn v bn bd ln ld := by
  obtain ⟨x0, x1, b0, b1, l0, l1, fx0, fx1, fb0, fb1, fl0, fl1, sz, bl⟩ := s
  refine ⟨?_, ?_, ?_, ?_, ?_, ?_, ?_, ?_, ?_, ?_, ?_, ?_, ?_, bl.setCell (by simp; try omega) _⟩
  all_goals (simp [go_sem, x0, x1, b0, b1, l0, l1, fx0, fx1, fb0, fb1, fl0, fl1, sz]; done)
theorem BS.setb0 {w0 w : World} {xn xd bn bd ln ld : Int} (s : BS w0 w xn xd bn bd ln ld) (v : Int) : BS w0 (w.setCell ⟨w0.heap.size + 1, 0, none⟩ (.int .i64 v)) xn xd v bd ln ld := by
  obtain ⟨x0, x1, b0, b1, l0, l1, fx0, fx1, fb0, fb1, fl0, fl1, sz, bl⟩ := s
  refine ⟨?_, ?_, ?_, ?_, ?_, ?_, ?_, ?_, ?_, ?_, ?_, ?_, ?_, bl.setCell (by simp; try omega) _⟩
  all_goals (simp [go_sem, x0, x1, b0, b1, l0, l1, fx0, fx1, fb0, fb1, fl0, fl1, sz]; done)
theorem BS.setb1 {w0 w : World} {xn xd bn bd ln ld : Int} (s : BS w0 w xn xd bn bd ln ld) (v : Int) : BS w0 (w.setCell ⟨w0.heap.size + 1, 1, none⟩ (.int .i64 v)) xn xd bn v ln ld := by
  obtain ⟨x0, x1, b0, b1, l0, l1, fx0, fx1, fb0, fb1, fl0, fl1, sz, bl⟩ := s
  refine ⟨?_, ?_, ?_, ?_, ?_, ?_, ?_, ?_, ?_, ?_, ?_, ?_, ?_, bl.setCell (by simp; try omega) _⟩
  all_goals (simp [go_sem, x0, x1, b0, b1, l0, l1, fx0, fx1, fb0, fb1, fl0, fl1, sz]; done)
theorem BS.setl0 {w0 w : World} {xn xd bn bd ln ld : Int} (s : BS w0 w xn xd bn bd ln ld) (v : Int) : BS w0 (w.setCell ⟨w0.heap.size + 1 + 1, 0, none⟩ (.int .i64 v)) xn xd bn bd v ld := by
  obtain ⟨x0, x1, b0, b1, l0, l1, fx0, fx1, fb0, fb1, fl0, fl1, sz, bl⟩ := s
  refine ⟨?_, ?_, ?_, ?_, ?_, ?_, ?_, ?_, ?_, ?_, ?_, ?_, ?_, bl.setCell (by simp; try omega) _⟩
  all_goals (simp [go_sem, x0, x1, b0, b1, l0, l1, fx0, fx1, fb0, fb1, fl0, fl1, sz]; done)
theorem BS.setl1 {w0 w : World} {xn xd bn bd ln ld : Int} (s : BS w0 w xn xd bn bd ln ld) (v : Int) : BS w0 (w.setCell ⟨w0.heap.size + 1 + 1, 1, none⟩ (.int .i64 v)) xn xd bn bd ln v := by
  obtain ⟨x0, x1, b0, b1, l0, l1, fx0, fx1, fb0, fb1, fl0, fl1, sz, bl⟩ := s
  refine ⟨?_, ?_, ?_, ?_, ?_, ?_, ?_, ?_, ?_, ?_, ?_, ?_, ?_, bl.setCell (by simp; try omega) _⟩
  all_goals (simp [go_sem, x0, x1, b0, b1, l0, l1, fx0, fx1, fb0, fb1, fl0, fl1, sz]; done)
end Go.Proofs.YtlahdfmciaibdaaDoor
