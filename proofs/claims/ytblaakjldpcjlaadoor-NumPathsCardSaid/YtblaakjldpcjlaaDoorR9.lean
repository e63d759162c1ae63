/- The reference's rows: divD. -/
import Derived.Test.YtblaakjldpcjlaaDoorR8
namespace Go.Proofs.YtblaakjldpcjlaaDoor
open Go.RowKit
set_option linter.unusedVariables false
set_option linter.unusedSimpArgs false

theorem trim1 (g : Nat) (x : Int) (c : Nat) (w : World) (h0 : 0 ≤ x) (h1 : x < 10000) (hg : g < w.heap.size) (hc : w.cell? ⟨g, 0, none⟩ = some (.int .i64 x)) :
    Calls Tryd.prog 81 #[.slice (some ⟨g, 0, none⟩) 1 c] w (RowRes x 1 w) := by
  have T := trim_any (some ⟨g, 0, none⟩) c [x] w (by intro y m; simp at m; omega) (fun i hi => ⟨g, rfl, hg, by
    simp at hi; subst hi; simpa using hc⟩) (by simp)
  have e : dval [x] = x := by simp [dval]
  rw [e] at T
  exact T
theorem Made.below {w wr w1 : World} {N : Nat} {O : List Int} (h : Made w wr N O) (hb : Below wr.heap.size wr w1) : Made w w1 N O :=
  ⟨h.1, h.2.1, own_below h.2.2.1 hb, h.2.2.2.trans (hb.mono h.2.2.2.size)⟩
theorem can_len {a b : List Int} {x y : Int} (ha : Can a x) (hb : Can b y) (h : x ≤ y) : a.length ≤ b.length := by
  rcases Nat.lt_or_ge b.length a.length with t | t
  · have := dval_shorter hb.digs ha.digs ha.norm t
    rw [ha.val, hb.val] at this; omega
  · exact t

/-- The two results of a division. -/
def DivRes (A B : Int) (n m : Nat) (w : World) (e : Ending) (w' : World) : Prop :=
  ∃ q pq cq r pr cr, e = .returned (.tuple #[.slice pq q.length cq, .slice pr r.length cr]) ∧ Can q (A / B) ∧ q.length ≤ n ∧ RowR w' pq q ∧ Can r (A % B) ∧ r.length ≤ m ∧ RowR w' pr r ∧ Below w.heap.size w w'

/-- What a round of the division knows. -/
structure DivK (w wr : World) (a : List Int) (B : Int) (x : Nat) (k : Nat) (Q R : List Int) (r : Int) (pr : Option Addr) (cr : Nat) : Prop where
  can : Can R r
  lt : r < B
  eq : dval (a.drop k) = B * dval (Q.drop k) + r
  made : Made w wr x Q
  row : RowR wr pr R
  nil : pr = none → cr = 0
  fresh : ∀ ad, pr = some ad → w.heap.size < ad.block

theorem bin_mid {lo hi : Int} (h : lo < hi) : lo < (lo + hi + 1) / 2 ∧ (lo + hi + 1) / 2 ≤ hi := by omega

theorem RowR.news {w : World} {ad : Addr} {l : List Int} (r : RowR w (some ad) l) : ∀ j u, (l.map (Value.int .i64))[j]? = some u → w.cell? (ad.add j) = some u := by
  intro j u h
  have hj : j < l.length := by
    rcases Nat.lt_or_ge j l.length with t | t
    · exact t
    · rw [List.getElem?_eq_none (by simpa using t)] at h; cases h
  obtain ⟨g, e, _, c⟩ := r j hj
  injection e with e
  subst e
  rw [List.getElem?_map, List.getElem?_eq_getElem hj] at h
  simp at h
  subst h
  by_cases j0 : j = 0
  · subst j0; simpa [Addr.add] using c
  · simpa [Addr.add, j0] using c

/-- What is left, with the next digit ahead of it. -/
def RemR (V : Int) (n : Nat) (wo wx : World) (v : Value) : Prop :=
  ∃ t p c, v = .slice p t.length c ∧ Can t V ∧ t.length ≤ n ∧ RowR wx p t ∧ (p = none → c = 0) ∧ (∀ a, p = some a → wo.heap.size ≤ a.block) ∧ Below wo.heap.size wo wx

theorem mulB (pb p1 : Option Addr) (cb c1 : Nat) (b t : List Int) (y : Nat) (hy : b.length = y) (B x : Int) (w : World) (hb : Can b B) (ht : Can t x) (rb : RowR w pb b) (rt : RowR w p1 t) (lb : y ≤ 100000) (lt : t.length ≤ 100000) :
    Calls Tryd.prog 46 #[.slice pb y cb, .slice p1 t.length c1] w (RowRes (B * x) (y + t.length) w) := by
  subst hy
  have := mulD_any pb p1 cb c1 b t w hb.digs ht.digs rb rt lb lt
  rwa [hb.val, ht.val] at this

set_option maxRecDepth 100000 in
set_option maxHeartbeats 1600000 in
theorem divD_any (pa pb : Option Addr) (ca cb : Nat) (a b : List Int) (B : Int) (w : World) (ha : Digs a) (hb : Can b B) (hB : 0 < B) (ra : RowR w pa a) (rb : RowR w pb b) (la : a.length ≤ 90000) (lb : b.length ≤ 90000) :
    Calls Tryd.prog 73 #[.slice pa a.length ca, .slice pb b.length cb] w (DivRes (dval a) B a.length b.length w) := by
  obtain ⟨i0, hi, hz0, hz1, hz2⟩ := info_parts intInfo
  have y0 : 0 < b.length := by
    rcases Nat.eq_zero_or_pos b.length with t | t
    · have := hb.length_zero.1 t; omega
    · exact t
  have Ra := Lib.hid ra; clear ra
  have Rb := Lib.hid rb; clear rb
  have Da := Lib.hid ha; clear ha
  have Db := Lib.hid hb; clear hb
  have HB := Lib.hid hB; clear hB
  generalize hx : a.length = x at *
  generalize hy : b.length = y at *
  have Hx := Lib.hid hx; clear hx
  have Hy := Lib.hid hy; clear hy
  go_enter Tryd.func73, Tryd.ntmps73
  go_wp2_with (first
    | (at_make; refine wpList_make_full _ rfl _ _ 28 rfl w.heap.size 3 i0 (.int .i64 0) 1 Tryd.underlying28 hi hz0 hz1 .i64 .i64 _ _ x rfl rfl rfl rfl (by rw [hz2]; omega) (by unfold maxLen; omega) (Nat.le_refl _) ?_; intro w0 hown0 hgrow0))
  rw [made_zeros] at hown0
  have M0 := Lib.hid (show Made w w0 x (List.replicate x 0) from ⟨by simp, fun z m => by rw [List.eq_of_mem_replicate m]; omega, hown0, (Below.refl _ _).grown hgrow0 (Nat.le_refl _) (fun k e => by cases e)⟩)
  clear hown0 hgrow0
  go_wp2
  go_loopw [7, 8] (fun rv iv wr => ∃ (k : Nat) (Q R : List Int) (r : Int) (pr : Option Addr) (cr : Nat), k ≤ x ∧ rv = .slice pr R.length cr ∧ iv = .int .i64 ((k : Int) - 1) ∧ Hid (DivK w wr a B x k Q R r pr cr)) (fun _ iv _ => (intOf iv + 1).toNat)
  case atStart =>
    refine ⟨x, List.replicate x 0, [], 0, none, 0, Nat.le_refl _, rfl, rfl, ?_⟩
    refine ⟨Can.nil, HB.out, ?_, M0.out, fun i h => by simp at h, fun _ => rfl, fun ad h => by cases h⟩
    rw [List.drop_of_length_le (by have := Hx.out; omega), List.drop_of_length_le (by simp)]; simp [dval]
  case round =>
    obtain ⟨k, Q, R, r, pr, cr, hk, rfl, rfl, K⟩ := hrel
    rcases k with _ | j
    · have M := K.out.made
      have T := trim_any (some ⟨w.heap.size, 0, none⟩) x Q wr M.2.1 (fun j h => ⟨w.heap.size, rfl, M.lt, M.cell j h⟩) (by have := M.1; omega)
      obtain ⟨q1, q2⟩ := div_end K.out.eq K.out.can.nonneg K.out.lt
      rw [List.drop_zero] at q1 q2
      rw [List.drop_zero] at q1
      rw [M.1, q1] at T
      have TT := Lib.hid T
      have Q2 := Lib.hid q2
      have HM := Lib.hid M
      clear M T q1 q2
      go_wp2_with fail
      refine (TT.out).mono ?_
      rintro e w1 ⟨t1, p1, c1, rfl, A1, A2, A3, A4, A5, A6⟩
      have RR := Lib.hid (K.out.row.below A6)
      have lR := can_len K.out.can Db.out (by have := K.out.lt; omega)
      have LR := Lib.hid lR
      have FIN := Lib.hid (show DivRes (dval a) B x y w (.returned (.tuple #[.slice p1 t1.length c1, .slice pr R.length cr])) w1 from
        ⟨t1, p1, c1, R, pr, cr, rfl, A1, A2, A3, by rw [← Q2.out]; exact K.out.can, by have := Hy.out; have := LR.out; omega, RR.out, HM.out.2.2.2.trans (A6.mono HM.out.2.2.2.size)⟩)
      clear A1 A2 A3 A4 A5 A6 TT RR lR LR
      go_wp2_with fail
      go_ret2
      exact FIN.out
    · have l1 : j < a.length := by have := Hx.out; omega
      obtain ⟨ga, rfl, ka, cA⟩ := Ra.out j l1
      have G1 := gd_le Da.out j
      have cA2 : wr.cell? ⟨ga, j, none⟩ = some (.int .i64 (gd a j)) := by rw [K.out.made.2.2.2.cell (by exact ka), cA, gd_in l1]
      have lR : R.length ≤ y := by have := can_len K.out.can Db.out (by have := K.out.lt; omega); have := Hy.out; omega
      clear cA ka
      obtain ⟨wo, hwo⟩ : ∃ wo : World, wo = wr := ⟨_, rfl⟩
      subst hwo
      have gO := K.out.made.lt
      have e1 : (((j + 1 : Nat) : Int) - 1) = (j : Int) := by omega
      rw [e1]
      clear e1
      have CA := Lib.hid cA2
      go_upto_region 9 with fail
      go_cut [7] from 32 to 35 (fun v wx => RemR (gd a j + 10000 * r) (y + 1) wo wx v)
      case first =>
        have D1 : Digs (gd a j :: R) := Digs.cons.2 ⟨G1, K.out.can.digs⟩
        have E1 : dval (gd a j :: R) = gd a j + 10000 * r := by simp only [dval]; rw [K.out.can.val]
        have hown := World.ownsRow_lit (base := wo.heap.size) (e := 3) (size := 1) wo #[.int .i64 (gd a j)] 1 (Nat.le_refl _) (by unfold maxLen; omega) rfl
        have bel : ∀ v' w1, w1.ownsRow wo.heap.size 3 1 v' (R.length + 1) ((gd a j :: R).map (Value.int .i64)) → Below wo.heap.size wo w1 → ∃ p c, v' = .slice p (R.length + 1) c ∧ Calls Tryd.prog 81 #[.slice p (R.length + 1) c] w1 (fun e w2 => ∃ v, e = .returned v ∧ RemR (gd a j + 10000 * r) (y + 1) wo w2 v) := by
          intro v' w1 h1 h2
          obtain ⟨q, cc, hv, hlen, hr, hn, hf⟩ := own_row h1
          have T := trim_any q cc (gd a j :: R) w1 D1 hr (by simp; omega)
          rw [E1] at T
          rw [hlen] at hv T
          refine ⟨q, cc, hv, T.mono ?_⟩
          rintro e w2 ⟨t, p', c', rfl, k1, k2, k3, k4, k5, k6⟩
          exact ⟨_, rfl, t, p', c', rfl, k1, by omega, k3, k4, fun ad h => Nat.le_trans h2.size (k5 ad h), h2.trans (k6.mono h2.size)⟩
        have KR := Lib.hid K.out.row
        have KN := Lib.hid K.out.nil
        generalize gd a j = u at *
        have BEL := Lib.hid bel
        have LR := Lib.hid lR
        clear bel D1 E1 K
        cases pr with
        | none =>
          have R0 : R = [] := by
            rcases R with _ | ⟨x1, R1⟩
            · rfl
            · obtain ⟨g, h, _⟩ := KR.out 0 (by simp); cases h
          have c0 := KN.out rfl
          subst R0 c0
          obtain ⟨p2, c2, hv, TT⟩ := BEL.out _ _ (by simpa using hown) ((Below.refl _ _).alloc (Nat.le_refl _) _)
          have HT := Lib.hid TT
          have HV := Lib.hid hv
          clear hv TT BEL KR KN LR
          go_wp2_with (first
            | (at_builtin; refine wpList_append_own_none rfl _ _ 28 rfl wo.heap.size 3 i0 1 Tryd.underlying28 hi _ 1 _ rfl hown rfl ?_))
          obtain ⟨rfl, rfl⟩ : p2 = some ⟨wo.heap.size, 0, none⟩ ∧ c2 = 1 := by have := HV.out; simp at this; exact ⟨this.1.symm, this.2.symm⟩
          clear HV hown
          go_wp2_with fail
          refine (HT.out).mono ?_
          rintro e w2 ⟨v, rfl, hrem⟩
          have HR := Lib.hid hrem
          clear hrem HT
          go_wp2_with fail
          go_meet
          exact HR.out
        | some ad =>
          have hnews := (KR.out.below ((Below.refl _ _).alloc (Nat.le_refl _) (Obj.cells #[Value.int .i64 u] 3))).news
          have NW := Lib.hid hnews
          clear hnews KR KN
          go_wp2_with (first
            | (at_builtin; refine wpList_append_own _ rfl _ _ 28 rfl wo.heap.size 3 i0 (.int .i64 0) 1 8 Tryd.underlying28 hi hz0 hz1 hz2 rfl (by decide) _ 1 _ rfl hown ad R.length cr (R.map (Value.int .i64)) rfl (by simp) NW.out (by intro u hu; simp at hu; obtain ⟨z, _, rfl⟩ := hu; rfl) (by unfold maxLen; omega) (by omega) (by simp) ?_))
          intro v' w1 hown' hgrow _
          obtain ⟨p2, c2, hv, TT⟩ := BEL.out v' w1 (by rw [Nat.add_comm]; simpa using hown') (((Below.refl _ _).alloc (Nat.le_refl _) _).grown hgrow (by simp) (fun k h => by simp [Value.ownBlock] at h; omega))
          subst hv
          have HT := Lib.hid TT
          clear TT BEL LR hown' hgrow hown NW
          go_wp2_with fail
          refine (HT.out).mono ?_
          rintro e w2 ⟨v, rfl, hrem⟩
          have HR := Lib.hid hrem
          clear hrem HT
          go_wp2_with fail
          go_meet
          exact HR.out
      case rest =>
        obtain ⟨t, p0, c0, rfl, T1, T2, T3, T4, T5, T6⟩ := hcut
        obtain ⟨V, hV⟩ : ∃ V, V = gd a j + 10000 * r := ⟨_, rfl⟩
        rw [← hV] at T1
        have VB : V < B * 10000 := by have := div_bound ⟨K.out.can.nonneg, K.out.lt⟩ G1; omega
        have V0 : 0 ≤ V := T1.nonneg
        have HVV := Lib.hid hV
        have T1' := Lib.hid T1
        have T3' := Lib.hid T3
        have T4' := Lib.hid T4
        have T5' := Lib.hid T5
        have T6' := Lib.hid T6
        have VB' := Lib.hid VB
        clear hV T1 T3 T4 T5 T6 VB CA cA2
        go_wp2_with fail
        go_loopw [10, 11] (fun lov hiv wr => ∃ lo hi : Int, 0 ≤ lo ∧ lo ≤ hi ∧ hi ≤ 9999 ∧ lov = .int .i64 lo ∧ hiv = .int .i64 hi ∧ Hid (B * lo ≤ V) ∧ Hid (V < B * (hi + 1)) ∧ Below wc.heap.size wc wr) (fun lov hiv _ => (intOf hiv - intOf lov).toNat)
        case atStart => exact ⟨0, 9999, by omega, by omega, by omega, rfl, rfl, by show _ ≤ _; omega, VB', Below.refl _ _⟩
        case round =>
          obtain ⟨lo, hi', b1, b2, b3, rfl, rfl, g1, g2, hbl⟩ := hrel
          have T6a := T6'.out.trans (hbl.mono T6'.out.size)
          by_cases tt : lo < hi'
          · obtain ⟨m1, m2⟩ := bin_mid tt
            obtain ⟨mid, hm⟩ : ∃ m, m = (lo + hi' + 1) / 2 := ⟨_, rfl⟩
            rw [← hm] at m1 m2
            have HM := Lib.hid hm
            clear hm
            have hm' : (lo + hi' + 1) / 2 = mid := HM.out.symm
            go_wp2_with fail
            refine (trim1 wr.heap.size mid 1 _ (by omega) (by omega) (by simp) (by simp [go_sem])).mono ?_
            rintro e w1 ⟨t1, p1, c1, rfl, A1, A2, A3, A4, A5, A6⟩
            have MU := mulB pb p1 cb c1 b t1 y Hy.out B mid w1 Db.out A1 (Rb.out.below ((K.out.made.2.2.2.trans (T6a.mono (by have := K.out.made.2.2.2.size; omega))).trans ((((Below.refl _ _).alloc (Nat.le_refl _) _).trans (A6.mono (by simp))).mono (by have := K.out.made.2.2.2.size; have := T6a.size; omega)))) A3 (by omega) (by omega)
            have MU' := Lib.hid MU
            have A6' := Lib.hid A6
            have A2' := Lib.hid A2
            clear MU A1 A2 A3 A4 A5 A6 hm'
            go_wp2_with fail
            refine (MU'.out).mono ?_
            rintro e w2 ⟨t2, p2, c2, rfl, C1, C2, C3, C4, C5, C6⟩
            have hb1 : Below wr.heap.size wr w1 := ((Below.refl _ _).alloc (Nat.le_refl _) _).trans (A6'.out.mono (by simp))
            have hb2 : Below wr.heap.size wr w2 := hb1.trans (C6.mono hb1.size)
            have CM := cmpD_any p2 p0 c2 c0 t2 t w2 C1.digs T1'.out.digs C1.norm T1'.out.norm C3 ((T3'.out.below hbl).below hb2) (by have := A2'.out; omega) (by omega)
            rw [C1.val, T1'.out.val] at CM
            have CM' := Lib.hid CM
            have HB2 := Lib.hid hb2
            clear CM C1 C2 C3 C4 C5 C6 hb1 hb2 A6' MU'
            go_wp2_with fail
            refine (CM'.out).mono ?_
            rintro e w3 ⟨rfl, n3, rfl⟩
            by_cases hle : B * mid ≤ V
            · have z1 : cmpZ (B * mid) V ≤ 0 := by unfold cmpZ; split; omega; split <;> omega
              have z2 : -1 ≤ cmpZ (B * mid) V := by unfold cmpZ; split; omega; split <;> omega
              generalize cmpZ (B * mid) V = z at *
              have HLE := Lib.hid hle
              clear hle CM'
              go_wp2
              go_roundw
              case rel => exact ⟨mid, hi', by omega, by omega, by omega, by rw [HM.out], rfl, HLE.out, g2, below_drewN (hbl.trans (HB2.out.mono hbl.size)) _⟩
              case measure => have := HM.out; simp [intOf]; omega
            · have z1 : 0 < cmpZ (B * mid) V := by unfold cmpZ; split; omega; split <;> omega
              have z2 : cmpZ (B * mid) V ≤ 1 := by unfold cmpZ; split; omega; split <;> omega
              generalize cmpZ (B * mid) V = z at *
              have HLE := Lib.hid (show V < B * (mid - 1 + 1) by rw [Int.sub_add_cancel]; omega)
              clear hle CM'
              go_wp2
              go_roundw
              case rel => exact ⟨lo, mid - 1, by omega, by omega, by omega, rfl, by rw [HM.out], g1, HLE.out, below_drewN (hbl.trans (HB2.out.mono hbl.size)) _⟩
              case measure => have := HM.out; simp [intOf]; omega
          · have e : hi' = lo := by omega
            rw [e] at g2
            have E := Lib.hid e
            clear e
            have hM1 := K.out.made.below T6a
            have lQ : j < Q.length := by have := hM1.1; omega
            have cQ := hM1.cell j lQ
            have fQ := hM1.frozen j
            have hM2 := Lib.hid (hM1.set j (x := lo) (by omega) (by omega))
            have gQ := hM1.lt
            have RT := Lib.hid ((T3'.out.below hbl).setCell (q := ⟨w.heap.size, j, none⟩) (fun ad h => by have := T5'.out ad h; show ad.block ≠ w.heap.size; omega) (.int .i64 lo))
            have EQ := Lib.hid (div_step (q := lo) (r := V - B * lo) lQ K.out.eq (by rw [Int.add_comm, ← Int.add_comm, ← HVV.out]; omega))
            have LT := Lib.hid (show V - B * lo < B by have := g2.out; rw [Int.mul_add, Int.mul_one] at this; omega)
            generalize Q[j] = qj at *
            have HM1 := Lib.hid hM1
            have HT6 := Lib.hid T6a
            clear hM1 T6a hbl
            go_wp2_with fail
            have hWs : (wr.setCell ⟨w.heap.size, j, none⟩ (.int .i64 lo)).heap.size = wr.heap.size := by simp [World.setCell]
            have HWS := Lib.hid hWs
            clear hWs cQ fQ
            obtain ⟨W1, hW1⟩ : ∃ W, W = wr.setCell ⟨w.heap.size, j, none⟩ (.int .i64 lo) := ⟨_, rfl⟩
            rw [← hW1] at hM2 RT HWS ⊢
            have HW1 := Lib.hid hW1
            clear hW1
            have bW : Below w.heap.size w W1 := hM2.out.2.2.2
            have BW := Lib.hid bW
            clear bW
            have sz := HWS.out
            rw [← sz]
            clear sz
            refine (trim1 W1.heap.size lo 1 _ (by omega) (by omega) (by simp) (by simp [go_sem])).mono ?_
            rintro e w1 ⟨t1, p1, c1, rfl, A1, A2, A3, A4, A5, A6⟩
            have hb1 : Below W1.heap.size W1 w1 := ((Below.refl _ _).alloc (Nat.le_refl _) _).trans (A6.mono (by simp))
            have MU := mulB pb p1 cb c1 b t1 y Hy.out B lo w1 Db.out A1 (Rb.out.below (BW.out.trans (hb1.mono BW.out.size))) A3 (by omega) (by omega)
            have MU' := Lib.hid MU
            have A2' := Lib.hid A2
            have HB1 := Lib.hid hb1
            clear MU A1 A2 A3 A4 A5 A6 hb1
            go_wp2_with fail
            refine (MU'.out).mono ?_
            rintro e w2 ⟨t2, p2, c2, rfl, C1, C2, C3, C4, C5, C6⟩
            have hb2 : Below W1.heap.size W1 w2 := HB1.out.trans (C6.mono HB1.out.size)
            have SU := subD_any p0 p2 c0 c2 t t2 w2 T1'.out.digs C1.digs (RT.out.below hb2) C3 (by omega) (can_len C1 T1'.out g1.out) (by rw [C1.val, T1'.out.val]; exact g1.out)
            rw [C1.val, T1'.out.val] at SU
            have SU' := Lib.hid SU
            have HB2 := Lib.hid hb2
            clear SU C1 C2 C3 C4 C5 C6 hb2 MU' HB1
            go_wp2_with fail
            refine (SU'.out).mono ?_
            rintro e w3 ⟨t3, p3, c3, rfl, D1, D2, D3, D4, D5, D6⟩
            have FIN := Lib.hid (show DivK w w3 a B x j (Q.set j lo) t3 (V - B * lo) p3 c3 from ⟨D1, LT.out, EQ.out, (hM2.out.below HB2.out).below D6, D3, D4, fun ad h => by have := D5 ad h; have := HB2.out.size; have := HWS.out; omega⟩)
            clear D1 D2 D3 D4 D5 D6 SU'
            go_wp2
            go_roundw
            case rel => exact ⟨j, _, t3, _, p3, c3, by omega, rfl, rfl, FIN⟩
            case measure => simp [intOf]
end Go.Proofs.YtblaakjldpcjlaaDoor
