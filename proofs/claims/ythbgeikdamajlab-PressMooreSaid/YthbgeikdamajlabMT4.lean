/- Press: are all done in time; the members of a set by their due times. -/
import Derived.Test.YthbgeikdamajlabMT2
import Derived.Test.YthbgeikdamajlabMTP
/- Press: marks; are all done in time; the members of a set by their due times. -/
namespace Go.Proofs.Ythbgeikdamajlab
open Go.RowKit Go.Proofs.Ythbgeikdamajlab.Prs Go.Proofs.Ythbgeikdamajlab.Stb
set_option linter.unusedVariables false
set_option linter.unusedSimpArgs false

theorem boolInfoR : (Try.prog.info? 4).map (fun i => (i.zero, i.size, i.bytes)) = some (some (.bool false), 1, 1) := by kernel_rfl
theorem made_boolsR (n : Nat) : (madeCells (Value.bool false).cells (n * 1)).toList = (List.range n).map fun k => Value.bool ((fun _ => false) k) := by
  rw [Nat.mul_one, show (Value.bool false).cells = #[.bool false] from rfl, toList_madeCells_one]
  apply List.ext_getElem <;> simp
def updb (f : Nat → Bool) (k : Nat) (x : Bool) : Nat → Bool := fun i => if i = k then x else f i
/-- A row of marks as a whole block. -/
def BR (W : World) (g : Nat) (n : Nat) (f : Nat → Bool) : Prop := W.heap[g]? = some (.cells ((List.range n).map fun k => Value.bool (f k)).toArray 4 (0, 0))
section
variable {W W' : World} {g b n : Nat} {f : Nat → Bool}
theorem BR.cell (h : BR W g n f) {k : Nat} (hk : k < n) : W.cell? ⟨g, k, none⟩ = some (.bool (f k)) := by
  unfold BR at h
  simp [World.cell?, h, hk]
theorem BR.frozen (h : BR W g n f) (k : Nat) : W.frozen? ⟨g, k, none⟩ = false := by
  unfold BR at h
  simp [World.frozen?, h]
theorem BR.lt (h : BR W g n f) : g < W.heap.size := (Array.getElem?_eq_some_iff.1 h).1
theorem BR.ext {f' : Nat → Bool} (h : BR W g n f) (e : ∀ k, k < n → f k = f' k) : BR W g n f' := by
  have e : ((List.range n).map fun k => Value.bool (f k)) = (List.range n).map fun k => Value.bool (f' k) := List.map_congr_left fun k hk => by rw [e k (List.mem_range.1 hk)]
  unfold BR at *
  rw [← e]; exact h
theorem BR.set (h : BR W g n f) (k : Nat) (x : Bool) : BR (W.setCell ⟨g, k, none⟩ (.bool x)) g n (updb f k x) := by
  have := heap_setCell_same W g k _ _ (.bool x) h
  unfold BR
  rw [this]
  congr 2
  apply Array.ext'
  simp only [Array.toList_setIfInBounds]
  apply List.ext_getElem
  · simp
  · intro i h1 h2
    simp only [List.getElem_set, List.getElem_map, List.getElem_range, updb]
    by_cases c : k = i
    · subst c; simp
    · rw [if_neg c, if_neg (fun e => c e.symm)]
theorem BR.keep (h : BR W g n f) (e : W'.heap[g]? = W.heap[g]?) : BR W' g n f := e.trans h
theorem BR.of (h : W.ownsRow b 4 1 (.slice (some ⟨g, 0, none⟩) n n) n ((List.range n).map fun k => .bool (f k))) : BR W g n f := by
  rcases h.2 with ⟨e, _⟩ | ⟨g', cap, cur, e, _, hg, hn, _, hs, ht⟩
  · cases e
  · simp at e
    obtain ⟨rfl, rfl⟩ := e
    unfold BR
    rw [hg]
    congr 2
    apply Array.ext'
    rw [← ht]
    simp only [Nat.mul_one] at hs ⊢
    rw [List.take_of_length_le (by simp [hs])]
end

/-- What ends answers. -/
def EndQ (D : List (Int × Int)) (A : List Int) (w : World) (e : Ending) (w' : World) : Prop := ∃ x, e = .returned (.bool x) ∧ (x = true ↔ Feas D 0 A) ∧ Below w.heap.size w w'
theorem tot_snoc (D : List (Int × Int)) (A : List Int) {k : Nat} (h : k < A.length) : tot D (A.take (k + 1)) = tot D (A.take k) + pd D (gi A k).toNat := by
  rw [List.take_succ_eq_append_getElem h, tot_app, tot_cons]
  simp [gi, h, tot, Sea.sums]
theorem feas_snoc (D : List (Int × Int)) (A : List Int) {k : Nat} (h : k < A.length) : Feas D 0 (A.take (k + 1)) ↔ Feas D 0 (A.take k) ∧ tot D (A.take (k + 1)) ≤ sd D (gi A k).toNat := by
  rw [tot_snoc D A h, List.take_succ_eq_append_getElem h, feas_app, feas_one, Int.zero_add]
  simp [gi, h]
theorem feas_take {D : List (Int × Int)} {A : List Int} (h : Feas D 0 A) (k : Nat) : Feas D 0 (A.take k) := by
  have e := List.take_append_drop k A
  rw [← e, feas_app] at h
  exact h.1

set_option maxRecDepth 100000 in
set_option maxHeartbeats 8000000 in
theorem ends_any (p : Option Addr) (c : Nat) (D : List (Int × Int)) (q : Option Addr) (d : Nat) (A : List Int) (w : World) (r : DmpR w p D) (ra : NumR w q A) (tok : TkOk D D.length) (la : A.length ≤ 64) (ok : ∀ z ∈ A, 0 ≤ z ∧ z < D.length) (ln : D.length ≤ 64) :
    Calls Try.prog 12 #[.slice p D.length c, .slice q A.length d] w (EndQ D A w) := by
  have R := Lib.hid r
  have RA := Lib.hid ra
  have OK := Lib.hid ok
  have TOK := Lib.hid tok
  have HE := Lib.hid (show ∀ x w', (x = true ↔ Feas D 0 A) → Below w.heap.size w w' → EndQ D A w (.returned (.bool x)) w' from fun x w' a b => ⟨x, rfl, a, b⟩)
  obtain ⟨n, hn⟩ : ∃ n, n = D.length := ⟨_, rfl⟩
  obtain ⟨l, hl⟩ : ∃ l, l = A.length := ⟨_, rfl⟩
  rw [← hn] at ln ⊢
  rw [← hl] at la ⊢
  have HN := Lib.hid (show n = D.length ∧ l = A.length from ⟨hn, hl⟩)
  clear hn hl r ra ok tok
  go_enter Try.func12, Try.ntmps12
  go_wp2_with fail
  go_loopw [5, 6] (fun sv kv wr => ∃ k : Nat, k ≤ l ∧ kv = .int .i64 k ∧ sv = .int .i64 (tot D (A.take k)) ∧ Hid (Feas D 0 (A.take k)) ∧ Hid (Below w.heap.size w wr)) (fun _ kv _ => l - (intOf kv).toNat)
  case atStart => exact ⟨0, Nat.zero_le _, rfl, rfl, Lib.hid trivial, Lib.hid (Below.refl _ _)⟩
  case round =>
    obtain ⟨k, hk, rfl, rfl, FE, HB⟩ := hrel
    by_cases t1 : k < l
    · have k1 : (0 : Int) ≤ (k : Int) := by omega
      have k2 : (k : Int) < (l : Int) := by omega
      have kl : k < A.length := by have := HN.out; omega
      have m : gi A k ∈ A := by rw [show gi A k = A[k] from by simp [gi, kl]]; exact List.getElem_mem _
      have xv := OK.out _ m
      obtain ⟨x, hx⟩ := Int.eq_ofNat_of_zero_le xv.1
      have TS := Lib.hid (tot_snoc D A kl)
      have FS := Lib.hid (feas_snoc D A kl)
      have FT := Lib.hid (show ¬ tot D (A.take (k + 1)) ≤ sd D (gi A k).toNat → (false = true ↔ Feas D 0 A) from fun h => ⟨fun g => (by cases g), fun g => absurd (FS.out.1 (feas_take g (k + 1))).2 h⟩)
      obtain ⟨y, rfl, ky, cy⟩ := (RA.out.below HB.out) k kl
      rw [hx] at cy xv TS FS FT
      rw [Int.toNat_natCast] at TS FS FT
      have xn : x < n := by have := HN.out; omega
      obtain ⟨z, rfl, kz, cu, cd⟩ := (R.out.below HB.out) x (by have := HN.out; omega)
      have pb := (TOK.out x (by have := HN.out; omega)).1
      have tb := tot_bd (D := D) TOK.out (A.take k) (fun z hz => OK.out z (List.mem_of_mem_take hz))
      have tl : (A.take k).length ≤ 64 := by rw [List.length_take]; omega
      have x1 : (0 : Int) ≤ (x : Int) := by omega
      have x2 : (x : Int) < (n : Int) := by omega
      have wS : IntKind.i64.wrap (tot D (A.take k) + pd D x) = tot D (A.take (k + 1)) := by rw [TS.out]; exact wI rfl (by omega) (by omega)
      clear ky kz hx m TS tb tl kl
      obtain ⟨S1, hS1⟩ : ∃ S1, S1 = tot D (A.take (k + 1)) := ⟨_, rfl⟩
      have HS1 := Lib.hid hS1
      rw [← hS1] at wS FS FT
      clear hS1
      generalize tot D (A.take k) = S0 at *
      generalize pd D x = a at *
      generalize sd D x = due at *
      by_cases g : due < S1
      · have d1 : decide (due < S1) = true := decide_eq_true g
        have FF := Lib.hid (HE.out false _ (FT.out (by omega)) HB.out)
        clear g FS FT HE
        go_wp2_with fail
        go_ret
        exact FF.out
      · have d1 : decide (due < S1) = false := decide_eq_false g
        have FE2 := Lib.hid (FS.out.2 ⟨FE.out, by omega⟩)
        clear g FS FT FE
        go_wp2_with fail
        go_roundw
        case rel => exact ⟨k + 1, by omega, by go_num, by rw [← HS1.out], FE2, HB⟩
        case measure => simp [intOf]; omega
    obtain rfl : k = l := by omega
    have FF := Lib.hid (HE.out true _ ⟨fun _ => by have := FE.out; rwa [List.take_of_length_le (by have := HN.out; omega)] at this, fun _ => rfl⟩ HB.out)
    clear FE HE
    generalize tot D (A.take k) = S0 at *
    go_wp2_with fail
    go_ret
    exact FF.out

end Go.Proofs.Ythbgeikdamajlab

/- Press: the members of a set by their due times. -/
namespace Go.Proofs.Ythbgeikdamajlab
open Go.RowKit Go.Proofs.Ythbgeikdamajlab.Prs Go.Proofs.Ythbgeikdamajlab.Stb
set_option linter.unusedVariables false
set_option linter.unusedSimpArgs false

set_option maxRecDepth 100000 in
set_option maxHeartbeats 8000000 in
theorem byDue_any (p : Option Addr) (c : Nat) (D : List (Int × Int)) (g : Nat) (F : Nat → Bool) (w : World) (r : DmpR w p D) (rb : BR w g D.length F) (ln : D.length ≤ 64) :
    Calls Try.prog 13 #[.slice p D.length c, .slice (some ⟨g, 0, none⟩) D.length D.length] w fun e w' => ∃ q d, e = .returned (.slice q (byO D F D.length).length d) ∧ NumR w' q (byO D F D.length) ∧ Below w.heap.size w w' := by
  obtain ⟨i0, hi, hz0, hz1, hz2⟩ := info_parts intInfo
  have R := Lib.hid r
  obtain ⟨n, hn⟩ : ∃ n, n = D.length := ⟨_, rfl⟩
  rw [← hn] at ln rb ⊢
  have RB := Lib.hid rb
  have HN := Lib.hid hn
  clear hn r rb
  have n64 : n ≤ 64 := ln
  go_enter Try.func13, Try.ntmps13
  go_wp2_with fail
  go_loopw [5, 6] (fun ov nv wr => ∃ (i m c : Nat) (q : Option Addr), i ≤ n ∧ nv = .int .i64 i ∧ ov = .slice q m c ∧ Hid (m = (byO D F i).length) ∧ Hid (NumR wr q (byO D F i)) ∧ Hid (Below w.heap.size w wr)) (fun _ nv _ => n - (intOf nv).toNat)
  case atStart => exact ⟨0, 0, 0, none, Nat.zero_le _, rfl, rfl, Lib.hid rfl, Lib.hid (fun i h => by simp [byO] at h), Lib.hid (Below.refl _ _)⟩
  case round =>
    obtain ⟨i, m, cc, q, hi', rfl, rfl, LO, NO, HB⟩ := hrel
    by_cases t1 : i < n
    · have i1 : (0 : Int) ≤ (i : Int) := by omega
      have i2 : (i : Int) < (n : Int) := by omega
      have T1 := Lib.hid t1
      have ml : m ≤ i := by have := cntT_le F i; have := byO_len D F i; have := LO.out; omega
      have VO := Lib.hid (show ∀ k, k < m → 0 ≤ gi (byO D F i) k ∧ gi (byO D F i) k < i from fun k hk => by
        have hk2 : k < (byO D F i).length := by have := LO.out; omega
        rw [gi_getD2 hk2]
        exact ((byO_mem D F _ i).1 (List.getElem_mem hk2)).1)
      have cf := (RB.out.keep (HB.out.block _ RB.out.lt)).cell t1
      by_cases ff : F i = false
      · rw [ff] at cf
        have SO := Lib.hid (show byO D F i = byO D F (i + 1) from by unfold byO; rw [if_neg (by simp [ff])]; cases i <;> rfl)
        have LO2 := Lib.hid (show m = (byO D F (i + 1)).length from by rw [← SO.out]; exact LO.out)
        have NO2 := Lib.hid (show NumR wr q (byO D F (i + 1)) from by rw [← SO.out]; exact NO.out)
        clear LO NO SO VO ff
        go_wp2_with fail
        go_roundw
        case rel => exact ⟨i + 1, m, cc, q, by omega, by go_num, rfl, LO2, NO2, HB⟩
        case measure => simp [intOf]; omega
      have ft : F i = true := by cases h : F i with | true => rfl | false => exact absurd h ff
      rw [ft] at cf
      have SO := Lib.hid (show insD D (i : Int) (byO D F i) = byO D F (i + 1) from by
        show _ = if F i then insD D i (byO D F i) else byO D F i
        rw [if_pos ft])
      have LO := Lib.hid (LO.out.symm)
      generalize byO D F i = O at *
      clear hi' ff ft
      rename World => wo
      go_wp2_with fail
      go_loopw [7, 8, 9] (fun xv bv kv wq => ∃ (k : Nat) (b : Bool) (N : List Int), k ≤ m ∧ kv = .int .i64 k ∧ bv = .bool b ∧ N.length ≤ k + b.toNat ∧ Hid (N ++ (if b then O.drop k else insD D i (O.drop k)) = insD D i O) ∧ wq.ownsRow wo.heap.size 3 1 xv N.length (N.map (Value.int .i64)) ∧ Below wo.heap.size wo wq) (fun _ _ kv _ => m - (intOf kv).toNat)
      case atStart => exact ⟨0, false, [], Nat.zero_le _, rfl, rfl, by simp, Lib.hid rfl, World.ownsRow_nil _ _ _ _, Below.refl _ _⟩
      case round =>
        obtain ⟨k, b, N, hk, rfl, rfl, hak, E, hown, hbel⟩ := hrel
        have hbs : ∀ (W : World) o, Below wo.heap.size wo W → wo.heap.size ≤ (W.alloc o).heap.size := fun W o B => by have := B.size; simp; omega
        by_cases t2 : k < m
        · have k1 : (0 : Int) ≤ (k : Int) := by omega
          have k2 : (k : Int) < (m : Int) := by omega
          have DA := Lib.hid (drop_atD (l := O) (i := k) (by have := LO.out; omega))
          obtain ⟨y, rfl, ky, cy⟩ := (NO.out.below hbel) k (by have := LO.out; omega)
          cases b with
          | true =>
            replace hak : N.length ≤ k + 1 := hak
            have E2 := Lib.hid (show (N ++ [gi O k]) ++ (if true = true then O.drop (k + 1) else insD D i (O.drop (k + 1))) = insD D i O from by
              rw [← E.out, if_pos rfl, if_pos rfl, DA.out]; simp)
            clear E DA
            generalize gi O k = z at *
            go_upto_region 12 with fail
            go_quiet (fail)
            have HO := Lib.hid (show (wr.drewN nq).ownsRow wo.heap.size 3 1 u7 N.length (N.map (Value.int .i64)) from hown)
            have HL := Lib.hid (below_drewN hbel nq)
            replace cy : (wr.drewN nq).cell? (y.add k) = some (.int .i64 z) := cy
            clear hown hbel
            generalize wr.drewN nq = wn at *
            go_wp2_with (first
              | (at_builtin; refine wpList_append_own _ rfl _ _ 25 rfl wo.heap.size 3 i0 (.int .i64 0) 1 8 Try.underlying25 hi hz0 hz1 hz2 rfl (by decide) _ _ _ rfl (HO.out.alloc _) ⟨wn.heap.size, 0, none⟩ 1 1 [.int .i64 z] rfl rfl (one_cell _) one_one (by unfold maxLen; omega) (by omega) (hbs _ _ HL.out) ?_))
            intro v' w1 hown' hgrow _
            obtain ⟨O1, B1⟩ := own_snocD _ HL.out HO.out hown' hgrow
            clear hown' hgrow HO HL hbs
            go_wp2_with fail
            go_roundw
            case rel => exact ⟨k + 1, true, N ++ [z], by omega, by go_num, rfl, by simp [Bool.toNat]; omega, E2, by simpa using O1, B1⟩
            case measure => simp [intOf]; omega
          | false =>
            replace hak : N.length ≤ k := hak
            obtain ⟨u, hu⟩ := Int.eq_ofNat_of_zero_le (VO.out k t2).1
            have ui : u < i := by have := (VO.out k t2).2; omega
            have un : u < n := by have := T1.out; omega
            obtain ⟨x, rfl, kx, c0, c1⟩ := (R.out.below (HB.out.trans (hbel.mono HB.out.size))) i (by have := HN.out; have := T1.out; omega)
            obtain ⟨x', ex, kx', d0, d1⟩ := (R.out.below (HB.out.trans (hbel.mono HB.out.size))) u (by have := HN.out; omega)
            cases ex
            have u1 : (0 : Int) ≤ (u : Int) := by omega
            have u2 : (u : Int) < (n : Int) := by omega
            have nn := HB.out.size
            have DE := Lib.hid (show dcD D (i : Int) (gi O k) = sd D i - sd D u from by rw [hu]; unfold dcD; rw [Int.toNat_natCast, Int.toNat_natCast])
            by_cases fr : dcD D (i : Int) (gi O k) < 0
            · have E2 := Lib.hid (show ((N ++ [(i : Int)]) ++ [gi O k]) ++ (if true = true then O.drop (k + 1) else insD D i (O.drop (k + 1))) = insD D i O from by
                rw [← E.out, DA.out, insD_cons, if_pos fr]; simp)
              rw [DE.out] at fr
              have f1 : decide (sd D i < sd D u) = true := decide_eq_true (by omega)
              clear E DA fr DE c0 d0 kx kx'
              have HU := Lib.hid hu
              rw [hu] at cy E2
              clear hu
              generalize sd D i = sa at *
              generalize sd D u = sb at *
              go_upto_region 12 with fail
              go_quiet (fail)
              have HO := Lib.hid (show (wr.drewN nq).ownsRow wo.heap.size 3 1 u7 N.length (N.map (Value.int .i64)) from hown)
              have HL := Lib.hid (below_drewN hbel nq)
              clear hown hbel cy c1 d1 f1
              generalize wr.drewN nq = wn at *
              have lN1 : (N ++ [(i : Int)]).length = N.length + 1 := by simp
              go_wp2_with (first
                | (at_builtin; refine wpList_append_own _ rfl _ _ 25 rfl wo.heap.size 3 i0 (.int .i64 0) 1 8 Try.underlying25 hi hz0 hz1 hz2 rfl (by decide) _ _ _ rfl (HO.out.alloc _) ⟨wn.heap.size, 0, none⟩ 1 1 [.int .i64 (i : Int)] rfl rfl (one_cell _) one_one (by unfold maxLen; omega) (by omega) (hbs _ _ HL.out) ?_))
              intro v' w1 hown' hgrow _
              obtain ⟨O1, B1⟩ := own_snocD _ HL.out HO.out hown' hgrow
              obtain ⟨y', ey, ky, cy⟩ := (NO.out.below B1) k (by have := LO.out; omega)
              cases ey
              rw [show gi O k = (u : Int) from HU.out] at cy
              clear hown' hgrow HO HL
              generalize hN1 : N ++ [(i : Int)] = N1 at *
              have HN1 := Lib.hid hN1
              clear hN1
              go_wp2_with (first
                | (at_builtin; refine wpList_append_own _ rfl _ _ 25 rfl wo.heap.size 3 i0 (.int .i64 0) 1 8 Try.underlying25 hi hz0 hz1 hz2 rfl (by decide) _ _ _ rfl (O1.alloc _) ⟨w1.heap.size, 0, none⟩ 1 1 [.int .i64 (u : Int)] rfl rfl (one_cell _) one_one (by unfold maxLen; omega) (by omega) (hbs _ _ B1) ?_))
              intro v'' w2 hown' hgrow _
              obtain ⟨O2, B2⟩ := own_snocD _ B1 O1 hown' hgrow
              clear hown' hgrow O1 B1 hbs
              go_wp2_with fail
              go_roundw
              case rel => exact ⟨k + 1, true, N1 ++ [(u : Int)], by omega, by go_num, rfl, by simp [Bool.toNat]; omega, E2, by rw [List.length_append, lN1]; exact O2, B2⟩
              case measure => simp [intOf]; omega
            · have E2 := Lib.hid (show (N ++ [gi O k]) ++ (if false = true then O.drop (k + 1) else insD D i (O.drop (k + 1))) = insD D i O from by
                rw [← E.out, DA.out, insD_cons, if_neg fr]; simp)
              rw [DE.out] at fr
              have f1 : decide (sd D i < sd D u) = false := decide_eq_false (by omega)
              clear E DA fr DE c0 d0 kx kx'
              have HU := Lib.hid hu
              rw [hu] at cy E2
              clear hu
              generalize sd D i = sa at *
              generalize sd D u = sb at *
              go_upto_region 12 with fail
              go_quiet (fail)
              have HO := Lib.hid (show (wr.drewN nq).ownsRow wo.heap.size 3 1 u7 N.length (N.map (Value.int .i64)) from hown)
              have HL := Lib.hid (below_drewN hbel nq)
              replace cy : (wr.drewN nq).cell? (y.add k) = some (.int .i64 (u : Int)) := cy
              clear hown hbel c1 d1 f1
              generalize wr.drewN nq = wn at *
              go_wp2_with (first
                | (at_builtin; refine wpList_append_own _ rfl _ _ 25 rfl wo.heap.size 3 i0 (.int .i64 0) 1 8 Try.underlying25 hi hz0 hz1 hz2 rfl (by decide) _ _ _ rfl (HO.out.alloc _) ⟨wn.heap.size, 0, none⟩ 1 1 [.int .i64 (u : Int)] rfl rfl (one_cell _) one_one (by unfold maxLen; omega) (by omega) (hbs _ _ HL.out) ?_))
              intro v' w1 hown' hgrow _
              obtain ⟨O1, B1⟩ := own_snocD _ HL.out HO.out hown' hgrow
              clear hown' hgrow HO HL hbs
              go_wp2_with fail
              go_roundw
              case rel => exact ⟨k + 1, false, N ++ [(u : Int)], by omega, by go_num, rfl, by simp [Bool.toNat]; omega, E2, by simpa using O1, B1⟩
              case measure => simp [intOf]; omega
        · obtain rfl : k = m := by omega
          rw [show O.drop k = [] from List.drop_of_length_le (by have := LO.out; omega)] at E
          cases b with
          | true =>
            replace hak : N.length ≤ k + 1 := hak
            have EN : N = insD D (i : Int) O := by have := E.out; simpa using this
            have LN := Lib.hid (show N.length = k + 1 from by rw [EN, insD_len]; have := LO.out; omega)
            rw [SO.out] at EN
            have HE := Lib.hid EN
            clear EN E hbs
            obtain ⟨q', d', rfl, nr⟩ := ownNums (M := N) hown
            have NR2 := Lib.hid (show NumR wr q' (byO D F (i + 1)) from by rw [← HE.out]; exact nr)
            have HL := Lib.hid (show N.length = (byO D F (i + 1)).length from by rw [← HE.out])
            have HB2 := Lib.hid (HB.out.trans (hbel.mono HB.out.size))
            clear nr hown hbel
            go_wp2_with fail
            go_roundw
            case rel => exact ⟨i + 1, _, d', q', by have := T1.out; omega, by go_num, by first | rfl | trivial, HL, NR2, HB2⟩
            case measure => have := T1.out; simp [intOf]; omega
          | false =>
            replace hak : N.length ≤ k := hak
            have EN : N ++ [(i : Int)] = insD D (i : Int) O := by have := E.out; simpa [insD] using this
            have LN := Lib.hid (show (N ++ [(i : Int)]).length = k + 1 from by rw [EN, insD_len]; have := LO.out; omega)
            rw [SO.out] at EN
            have HE := Lib.hid EN
            clear EN E
            go_wp2_with (first
              | (at_builtin; refine wpList_append_own _ rfl _ _ 25 rfl wo.heap.size 3 i0 (.int .i64 0) 1 8 Try.underlying25 hi hz0 hz1 hz2 rfl (by decide) _ _ _ rfl (hown.alloc _) ⟨wr.heap.size, 0, none⟩ 1 1 [.int .i64 (i : Int)] rfl rfl (one_cell _) one_one (by unfold maxLen; omega) (by omega) (hbs _ _ hbel) ?_))
            intro v' w1 hown' hgrow _
            obtain ⟨O1, B1⟩ := own_snocD _ hbel hown hown' hgrow
            clear hown' hgrow hown hbel hbs
            obtain ⟨q', d', rfl, nr⟩ := ownNums (M := N ++ [(i : Int)]) (by simpa using O1)
            have NR2 := Lib.hid (show NumR w1 q' (byO D F (i + 1)) from by rw [← HE.out]; exact nr)
            have HL := Lib.hid (show (N ++ [(i : Int)]).length = (byO D F (i + 1)).length from by rw [← HE.out])
            have HB2 := Lib.hid (HB.out.trans (B1.mono HB.out.size))
            clear nr O1 B1
            go_wp2_with fail
            go_roundw
            case rel => exact ⟨i + 1, _, d', q', by have := T1.out; omega, by go_num, by first | rfl | trivial, HL, NR2, HB2⟩
            case measure => have := T1.out; simp [intOf]; omega
    · obtain rfl : i = n := by omega
      have NR := Lib.hid (show NumR wr q (byO D F i) from NO.out)
      obtain rfl : m = (byO D F i).length := LO.out
      clear NO
      obtain ⟨O, hO⟩ : ∃ O, O = byO D F i := ⟨_, rfl⟩
      rw [← hO] at NR ⊢
      have HO := Lib.hid hO
      clear hO
      go_wp2_with fail
      go_ret
      have h := HO.out
      subst h
      exact ⟨q, ⟨cc, rfl⟩, NR.out, HB.out⟩
end Go.Proofs.Ythbgeikdamajlab
