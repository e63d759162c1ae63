/- Several texts in one: R9 R10 R11 R12. -/
import Derived.Test.YtbcfafihkdddeaaHW3

/- The reference's rows: divD. -/
namespace Go.Proofs.Ytbcfafihkdddeaa
open Go.RowKit
set_option linter.unusedVariables false
set_option linter.unusedSimpArgs false

theorem trim1 (g : Nat) (x : Int) (c : Nat) (w : World) (h0 : 0 ≤ x) (h1 : x < 10000) (hg : g < w.heap.size) (hc : w.cell? ⟨g, 0, none⟩ = some (.int .i64 x)) :
    Calls Try.prog 155 #[.slice (some ⟨g, 0, none⟩) 1 c] w (RowRes x 1 w) := by
  have T := trim_any (some ⟨g, 0, none⟩) c [x] w (by intro y m; simp at m; omega) (fun i hi => ⟨g, rfl, hg, by
    simp at hi; subst hi; simpa using hc⟩) (by simp)
  have e : dval [x] = x := by simp [dval]
  rw [e] at T
  exact T
theorem Made.below {w wr w1 : World} {N : Nat} {O : List Int} (h : Made w wr N O) (hb : Below wr.heap.size wr w1) : Made w w1 N O :=
  ⟨h.1, h.2.1, own_below h.2.2.1 hb, h.2.2.2.trans (hb.mono h.2.2.2.size)⟩
theorem can_len {a b : List Int} {x y : Int} (ha : Can a x) (hb : Can b y) (h : x ≤ y) : a.length ≤ b.length := by
  rcases Nat.lt_or_ge b.length a.length with t | t
  · have := dval_shorter hb.digs ha.digs ha.norm t
    rw [ha.val, hb.val] at this; omega
  · exact t

/-- The two results of a division. -/
def DivRes (A B : Int) (n m : Nat) (w : World) (e : Ending) (w' : World) : Prop :=
  ∃ q pq cq r pr cr, e = .returned (.tuple #[.slice pq q.length cq, .slice pr r.length cr]) ∧ Can q (A / B) ∧ q.length ≤ n ∧ RowR w' pq q ∧ Can r (A % B) ∧ r.length ≤ m ∧ RowR w' pr r ∧ Below w.heap.size w w'

/-- What a round of the division knows. -/
structure DivK (w wr : World) (a : List Int) (B : Int) (x : Nat) (k : Nat) (Q R : List Int) (r : Int) (pr : Option Addr) (cr : Nat) : Prop where
  can : Can R r
  lt : r < B
  eq : dval (a.drop k) = B * dval (Q.drop k) + r
  made : Made w wr x Q
  row : RowR wr pr R
  nil : pr = none → cr = 0
  fresh : ∀ ad, pr = some ad → w.heap.size < ad.block

theorem bin_mid {lo hi : Int} (h : lo < hi) : lo < (lo + hi + 1) / 2 ∧ (lo + hi + 1) / 2 ≤ hi := by omega

theorem RowR.news {w : World} {ad : Addr} {l : List Int} (r : RowR w (some ad) l) : ∀ j u, (l.map (Value.int .i64))[j]? = some u → w.cell? (ad.add j) = some u := by
  intro j u h
  have hj : j < l.length := by
    rcases Nat.lt_or_ge j l.length with t | t
    · exact t
    · rw [List.getElem?_eq_none (by simpa using t)] at h; cases h
  obtain ⟨g, e, _, c⟩ := r j hj
  injection e with e
  subst e
  rw [List.getElem?_map, List.getElem?_eq_getElem hj] at h
  simp at h
  subst h
  by_cases j0 : j = 0
  · subst j0; simpa [Addr.add] using c
  · simpa [Addr.add, j0] using c

/-- What is left, with the next digit ahead of it. -/
def RemR (V : Int) (n : Nat) (wo wx : World) (v : Value) : Prop :=
  ∃ t p c, v = .slice p t.length c ∧ Can t V ∧ t.length ≤ n ∧ RowR wx p t ∧ (p = none → c = 0) ∧ (∀ a, p = some a → wo.heap.size ≤ a.block) ∧ Below wo.heap.size wo wx

theorem mulB (pb p1 : Option Addr) (cb c1 : Nat) (b t : List Int) (y : Nat) (hy : b.length = y) (B x : Int) (w : World) (hb : Can b B) (ht : Can t x) (rb : RowR w pb b) (rt : RowR w p1 t) (lb : y ≤ 100000) (lt : t.length ≤ 100000) :
    Calls Try.prog 118 #[.slice pb y cb, .slice p1 t.length c1] w (RowRes (B * x) (y + t.length) w) := by
  subst hy
  have := mulD_any pb p1 cb c1 b t w hb.digs ht.digs rb rt lb lt
  rwa [hb.val, ht.val] at this

set_option maxRecDepth 100000 in
set_option maxHeartbeats 1600000 in
theorem divD_any (pa pb : Option Addr) (ca cb : Nat) (a b : List Int) (B : Int) (w : World) (ha : Digs a) (hb : Can b B) (hB : 0 < B) (ra : RowR w pa a) (rb : RowR w pb b) (la : a.length ≤ 90000) (lb : b.length ≤ 90000) :
    Calls Try.prog 122 #[.slice pa a.length ca, .slice pb b.length cb] w (DivRes (dval a) B a.length b.length w) := by
  obtain ⟨i0, hi, hz0, hz1, hz2⟩ := info_parts intInfo
  have y0 : 0 < b.length := by
    rcases Nat.eq_zero_or_pos b.length with t | t
    · have := hb.length_zero.1 t; omega
    · exact t
  have Ra := Lib.hid ra; clear ra
  have Rb := Lib.hid rb; clear rb
  have Da := Lib.hid ha; clear ha
  have Db := Lib.hid hb; clear hb
  have HB := Lib.hid hB; clear hB
  generalize hx : a.length = x at *
  generalize hy : b.length = y at *
  have Hx := Lib.hid hx; clear hx
  have Hy := Lib.hid hy; clear hy
  go_enter Try.func122, Try.ntmps122
  go_wp2_with (first
    | (at_make; refine wpList_make_full _ rfl _ _ 40 rfl w.heap.size 3 i0 (.int .i64 0) 1 Try.underlying40 hi hz0 hz1 .i64 .i64 _ _ x rfl rfl rfl rfl (by rw [hz2]; omega) (by unfold maxLen; omega) (Nat.le_refl _) ?_; intro w0 hown0 hgrow0))
  rw [made_zeros] at hown0
  have M0 := Lib.hid (show Made w w0 x (List.replicate x 0) from ⟨by simp, fun z m => by rw [List.eq_of_mem_replicate m]; omega, hown0, (Below.refl _ _).grown hgrow0 (Nat.le_refl _) (fun k e => by cases e)⟩)
  clear hown0 hgrow0
  go_wp2
  go_loopw [7, 8] (fun rv iv wr => ∃ (k : Nat) (Q R : List Int) (r : Int) (pr : Option Addr) (cr : Nat), k ≤ x ∧ rv = .slice pr R.length cr ∧ iv = .int .i64 ((k : Int) - 1) ∧ Hid (DivK w wr a B x k Q R r pr cr)) (fun _ iv _ => (intOf iv + 1).toNat)
  case atStart =>
    refine ⟨x, List.replicate x 0, [], 0, none, 0, Nat.le_refl _, rfl, rfl, ?_⟩
    refine ⟨Can.nil, HB.out, ?_, M0.out, fun i h => by simp at h, fun _ => rfl, fun ad h => by cases h⟩
    rw [List.drop_of_length_le (by have := Hx.out; omega), List.drop_of_length_le (by simp)]; simp [dval]
  case round =>
    obtain ⟨k, Q, R, r, pr, cr, hk, rfl, rfl, K⟩ := hrel
    rcases k with _ | j
    · have M := K.out.made
      have T := trim_any (some ⟨w.heap.size, 0, none⟩) x Q wr M.2.1 (fun j h => ⟨w.heap.size, rfl, M.lt, M.cell j h⟩) (by have := M.1; omega)
      obtain ⟨q1, q2⟩ := div_end K.out.eq K.out.can.nonneg K.out.lt
      rw [List.drop_zero] at q1 q2
      rw [List.drop_zero] at q1
      rw [M.1, q1] at T
      have TT := Lib.hid T
      have Q2 := Lib.hid q2
      have HM := Lib.hid M
      clear M T q1 q2
      go_wp2_with fail
      refine (TT.out).mono ?_
      rintro e w1 ⟨t1, p1, c1, rfl, A1, A2, A3, A4, A5, A6⟩
      have RR := Lib.hid (K.out.row.below A6)
      have lR := can_len K.out.can Db.out (by have := K.out.lt; omega)
      have LR := Lib.hid lR
      have FIN := Lib.hid (show DivRes (dval a) B x y w (.returned (.tuple #[.slice p1 t1.length c1, .slice pr R.length cr])) w1 from
        ⟨t1, p1, c1, R, pr, cr, rfl, A1, A2, A3, by rw [← Q2.out]; exact K.out.can, by have := Hy.out; have := LR.out; omega, RR.out, HM.out.2.2.2.trans (A6.mono HM.out.2.2.2.size)⟩)
      clear A1 A2 A3 A4 A5 A6 TT RR lR LR
      go_wp2_with fail
      go_ret2
      exact FIN.out
    · have l1 : j < a.length := by have := Hx.out; omega
      obtain ⟨ga, rfl, ka, cA⟩ := Ra.out j l1
      have G1 := gd_le Da.out j
      have cA2 : wr.cell? ⟨ga, j, none⟩ = some (.int .i64 (gd a j)) := by rw [K.out.made.2.2.2.cell (by exact ka), cA, gd_in l1]
      have lR : R.length ≤ y := by have := can_len K.out.can Db.out (by have := K.out.lt; omega); have := Hy.out; omega
      clear cA ka
      obtain ⟨wo, hwo⟩ : ∃ wo : World, wo = wr := ⟨_, rfl⟩
      subst hwo
      have gO := K.out.made.lt
      have e1 : (((j + 1 : Nat) : Int) - 1) = (j : Int) := by omega
      rw [e1]
      clear e1
      have CA := Lib.hid cA2
      go_upto_region 9 with fail
      go_cut [7] from 32 to 35 (fun v wx => RemR (gd a j + 10000 * r) (y + 1) wo wx v)
      case first =>
        have D1 : Digs (gd a j :: R) := Digs.cons.2 ⟨G1, K.out.can.digs⟩
        have E1 : dval (gd a j :: R) = gd a j + 10000 * r := by simp only [dval]; rw [K.out.can.val]
        have hown := World.ownsRow_lit (base := wo.heap.size) (e := 3) (size := 1) wo #[.int .i64 (gd a j)] 1 (Nat.le_refl _) (by unfold maxLen; omega) rfl
        have bel : ∀ v' w1, w1.ownsRow wo.heap.size 3 1 v' (R.length + 1) ((gd a j :: R).map (Value.int .i64)) → Below wo.heap.size wo w1 → ∃ p c, v' = .slice p (R.length + 1) c ∧ Calls Try.prog 155 #[.slice p (R.length + 1) c] w1 (fun e w2 => ∃ v, e = .returned v ∧ RemR (gd a j + 10000 * r) (y + 1) wo w2 v) := by
          intro v' w1 h1 h2
          obtain ⟨q, cc, hv, hlen, hr, hn, hf⟩ := own_row h1
          have T := trim_any q cc (gd a j :: R) w1 D1 hr (by simp; omega)
          rw [E1] at T
          rw [hlen] at hv T
          refine ⟨q, cc, hv, T.mono ?_⟩
          rintro e w2 ⟨t, p', c', rfl, k1, k2, k3, k4, k5, k6⟩
          exact ⟨_, rfl, t, p', c', rfl, k1, by omega, k3, k4, fun ad h => Nat.le_trans h2.size (k5 ad h), h2.trans (k6.mono h2.size)⟩
        have KR := Lib.hid K.out.row
        have KN := Lib.hid K.out.nil
        generalize gd a j = u at *
        have BEL := Lib.hid bel
        have LR := Lib.hid lR
        clear bel D1 E1 K
        cases pr with
        | none =>
          have R0 : R = [] := by
            rcases R with _ | ⟨x1, R1⟩
            · rfl
            · obtain ⟨g, h, _⟩ := KR.out 0 (by simp); cases h
          have c0 := KN.out rfl
          subst R0 c0
          obtain ⟨p2, c2, hv, TT⟩ := BEL.out _ _ (by simpa using hown) ((Below.refl _ _).alloc (Nat.le_refl _) _)
          have HT := Lib.hid TT
          have HV := Lib.hid hv
          clear hv TT BEL KR KN LR
          go_wp2_with (first
            | (at_builtin; refine wpList_append_own_none rfl _ _ 40 rfl wo.heap.size 3 i0 1 Try.underlying40 hi _ 1 _ rfl hown rfl ?_))
          obtain ⟨rfl, rfl⟩ : p2 = some ⟨wo.heap.size, 0, none⟩ ∧ c2 = 1 := by have := HV.out; simp at this; exact ⟨this.1.symm, this.2.symm⟩
          clear HV hown
          go_wp2_with fail
          refine (HT.out).mono ?_
          rintro e w2 ⟨v, rfl, hrem⟩
          have HR := Lib.hid hrem
          clear hrem HT
          go_wp2_with fail
          go_meet
          exact HR.out
        | some ad =>
          have hnews := (KR.out.below ((Below.refl _ _).alloc (Nat.le_refl _) (Obj.cells #[Value.int .i64 u] 3))).news
          have NW := Lib.hid hnews
          clear hnews KR KN
          go_wp2_with (first
            | (at_builtin; refine wpList_append_own _ rfl _ _ 40 rfl wo.heap.size 3 i0 (.int .i64 0) 1 8 Try.underlying40 hi hz0 hz1 hz2 rfl (by decide) _ 1 _ rfl hown ad R.length cr (R.map (Value.int .i64)) rfl (by simp) NW.out (by intro u hu; simp at hu; obtain ⟨z, _, rfl⟩ := hu; rfl) (by unfold maxLen; omega) (by omega) (by simp) ?_))
          intro v' w1 hown' hgrow _
          obtain ⟨p2, c2, hv, TT⟩ := BEL.out v' w1 (by rw [Nat.add_comm]; simpa using hown') (((Below.refl _ _).alloc (Nat.le_refl _) _).grown hgrow (by simp) (fun k h => by simp [Value.ownBlock] at h; omega))
          subst hv
          have HT := Lib.hid TT
          clear TT BEL LR hown' hgrow hown NW
          go_wp2_with fail
          refine (HT.out).mono ?_
          rintro e w2 ⟨v, rfl, hrem⟩
          have HR := Lib.hid hrem
          clear hrem HT
          go_wp2_with fail
          go_meet
          exact HR.out
      case rest =>
        obtain ⟨t, p0, c0, rfl, T1, T2, T3, T4, T5, T6⟩ := hcut
        obtain ⟨V, hV⟩ : ∃ V, V = gd a j + 10000 * r := ⟨_, rfl⟩
        rw [← hV] at T1
        have VB : V < B * 10000 := by have := div_bound ⟨K.out.can.nonneg, K.out.lt⟩ G1; omega
        have V0 : 0 ≤ V := T1.nonneg
        have HVV := Lib.hid hV
        have T1' := Lib.hid T1
        have T3' := Lib.hid T3
        have T4' := Lib.hid T4
        have T5' := Lib.hid T5
        have T6' := Lib.hid T6
        have VB' := Lib.hid VB
        clear hV T1 T3 T4 T5 T6 VB CA cA2
        go_wp2_with fail
        go_loopw [10, 11] (fun lov hiv wr => ∃ lo hi : Int, 0 ≤ lo ∧ lo ≤ hi ∧ hi ≤ 9999 ∧ lov = .int .i64 lo ∧ hiv = .int .i64 hi ∧ Hid (B * lo ≤ V) ∧ Hid (V < B * (hi + 1)) ∧ Below wc.heap.size wc wr) (fun lov hiv _ => (intOf hiv - intOf lov).toNat)
        case atStart => exact ⟨0, 9999, by omega, by omega, by omega, rfl, rfl, by show _ ≤ _; omega, VB', Below.refl _ _⟩
        case round =>
          obtain ⟨lo, hi', b1, b2, b3, rfl, rfl, g1, g2, hbl⟩ := hrel
          have T6a := T6'.out.trans (hbl.mono T6'.out.size)
          by_cases tt : lo < hi'
          · obtain ⟨m1, m2⟩ := bin_mid tt
            obtain ⟨mid, hm⟩ : ∃ m, m = (lo + hi' + 1) / 2 := ⟨_, rfl⟩
            rw [← hm] at m1 m2
            have HM := Lib.hid hm
            clear hm
            have hm' : (lo + hi' + 1) / 2 = mid := HM.out.symm
            go_wp2_with fail
            refine (trim1 wr.heap.size mid 1 _ (by omega) (by omega) (by simp) (by simp [go_sem])).mono ?_
            rintro e w1 ⟨t1, p1, c1, rfl, A1, A2, A3, A4, A5, A6⟩
            have MU := mulB pb p1 cb c1 b t1 y Hy.out B mid w1 Db.out A1 (Rb.out.below ((K.out.made.2.2.2.trans (T6a.mono (by have := K.out.made.2.2.2.size; omega))).trans ((((Below.refl _ _).alloc (Nat.le_refl _) _).trans (A6.mono (by simp))).mono (by have := K.out.made.2.2.2.size; have := T6a.size; omega)))) A3 (by omega) (by omega)
            have MU' := Lib.hid MU
            have A6' := Lib.hid A6
            have A2' := Lib.hid A2
            clear MU A1 A2 A3 A4 A5 A6 hm'
            go_wp2_with fail
            refine (MU'.out).mono ?_
            rintro e w2 ⟨t2, p2, c2, rfl, C1, C2, C3, C4, C5, C6⟩
            have hb1 : Below wr.heap.size wr w1 := ((Below.refl _ _).alloc (Nat.le_refl _) _).trans (A6'.out.mono (by simp))
            have hb2 : Below wr.heap.size wr w2 := hb1.trans (C6.mono hb1.size)
            have CM := cmpD_any p2 p0 c2 c0 t2 t w2 C1.digs T1'.out.digs C1.norm T1'.out.norm C3 ((T3'.out.below hbl).below hb2) (by have := A2'.out; omega) (by omega)
            rw [C1.val, T1'.out.val] at CM
            have CM' := Lib.hid CM
            have HB2 := Lib.hid hb2
            clear CM C1 C2 C3 C4 C5 C6 hb1 hb2 A6' MU'
            go_wp2_with fail
            refine (CM'.out).mono ?_
            rintro e w3 ⟨rfl, n3, rfl⟩
            by_cases hle : B * mid ≤ V
            · have z1 : cmpZ (B * mid) V ≤ 0 := by unfold cmpZ; split; omega; split <;> omega
              have z2 : -1 ≤ cmpZ (B * mid) V := by unfold cmpZ; split; omega; split <;> omega
              generalize cmpZ (B * mid) V = z at *
              have HLE := Lib.hid hle
              clear hle CM'
              go_wp2
              go_roundw
              case rel => exact ⟨mid, hi', by omega, by omega, by omega, by rw [HM.out], rfl, HLE.out, g2, below_drewN (hbl.trans (HB2.out.mono hbl.size)) _⟩
              case measure => have := HM.out; simp [intOf]; omega
            · have z1 : 0 < cmpZ (B * mid) V := by unfold cmpZ; split; omega; split <;> omega
              have z2 : cmpZ (B * mid) V ≤ 1 := by unfold cmpZ; split; omega; split <;> omega
              generalize cmpZ (B * mid) V = z at *
              have HLE := Lib.hid (show V < B * (mid - 1 + 1) by rw [Int.sub_add_cancel]; omega)
              clear hle CM'
              go_wp2
              go_roundw
              case rel => exact ⟨lo, mid - 1, by omega, by omega, by omega, rfl, by rw [HM.out], g1, HLE.out, below_drewN (hbl.trans (HB2.out.mono hbl.size)) _⟩
              case measure => have := HM.out; simp [intOf]; omega
          · have e : hi' = lo := by omega
            rw [e] at g2
            have E := Lib.hid e
            clear e
            have hM1 := K.out.made.below T6a
            have lQ : j < Q.length := by have := hM1.1; omega
            have cQ := hM1.cell j lQ
            have fQ := hM1.frozen j
            have hM2 := Lib.hid (hM1.set j (x := lo) (by omega) (by omega))
            have gQ := hM1.lt
            have RT := Lib.hid ((T3'.out.below hbl).setCell (q := ⟨w.heap.size, j, none⟩) (fun ad h => by have := T5'.out ad h; show ad.block ≠ w.heap.size; omega) (.int .i64 lo))
            have EQ := Lib.hid (div_step (q := lo) (r := V - B * lo) lQ K.out.eq (by rw [Int.add_comm, ← Int.add_comm, ← HVV.out]; omega))
            have LT := Lib.hid (show V - B * lo < B by have := g2.out; rw [Int.mul_add, Int.mul_one] at this; omega)
            generalize Q[j] = qj at *
            have HM1 := Lib.hid hM1
            have HT6 := Lib.hid T6a
            clear hM1 T6a hbl
            go_wp2_with fail
            have hWs : (wr.setCell ⟨w.heap.size, j, none⟩ (.int .i64 lo)).heap.size = wr.heap.size := by simp [World.setCell]
            have HWS := Lib.hid hWs
            clear hWs cQ fQ
            obtain ⟨W1, hW1⟩ : ∃ W, W = wr.setCell ⟨w.heap.size, j, none⟩ (.int .i64 lo) := ⟨_, rfl⟩
            rw [← hW1] at hM2 RT HWS ⊢
            have HW1 := Lib.hid hW1
            clear hW1
            have bW : Below w.heap.size w W1 := hM2.out.2.2.2
            have BW := Lib.hid bW
            clear bW
            have sz := HWS.out
            rw [← sz]
            clear sz
            refine (trim1 W1.heap.size lo 1 _ (by omega) (by omega) (by simp) (by simp [go_sem])).mono ?_
            rintro e w1 ⟨t1, p1, c1, rfl, A1, A2, A3, A4, A5, A6⟩
            have hb1 : Below W1.heap.size W1 w1 := ((Below.refl _ _).alloc (Nat.le_refl _) _).trans (A6.mono (by simp))
            have MU := mulB pb p1 cb c1 b t1 y Hy.out B lo w1 Db.out A1 (Rb.out.below (BW.out.trans (hb1.mono BW.out.size))) A3 (by omega) (by omega)
            have MU' := Lib.hid MU
            have A2' := Lib.hid A2
            have HB1 := Lib.hid hb1
            clear MU A1 A2 A3 A4 A5 A6 hb1
            go_wp2_with fail
            refine (MU'.out).mono ?_
            rintro e w2 ⟨t2, p2, c2, rfl, C1, C2, C3, C4, C5, C6⟩
            have hb2 : Below W1.heap.size W1 w2 := HB1.out.trans (C6.mono HB1.out.size)
            have SU := subD_any p0 p2 c0 c2 t t2 w2 T1'.out.digs C1.digs (RT.out.below hb2) C3 (by omega) (can_len C1 T1'.out g1.out) (by rw [C1.val, T1'.out.val]; exact g1.out)
            rw [C1.val, T1'.out.val] at SU
            have SU' := Lib.hid SU
            have HB2 := Lib.hid hb2
            clear SU C1 C2 C3 C4 C5 C6 hb2 MU' HB1
            go_wp2_with fail
            refine (SU'.out).mono ?_
            rintro e w3 ⟨t3, p3, c3, rfl, D1, D2, D3, D4, D5, D6⟩
            have FIN := Lib.hid (show DivK w w3 a B x j (Q.set j lo) t3 (V - B * lo) p3 c3 from ⟨D1, LT.out, EQ.out, (hM2.out.below HB2.out).below D6, D3, D4, fun ad h => by have := D5 ad h; have := HB2.out.size; have := HWS.out; omega⟩)
            clear D1 D2 D3 D4 D5 D6 SU'
            go_wp2
            go_roundw
            case rel => exact ⟨j, _, t3, _, p3, c3, by omega, rfl, rfl, FIN⟩
            case measure => simp [intOf]
end Go.Proofs.Ytbcfafihkdddeaa

/- The reference's Big: Zero, Compare, Neg. -/
namespace Go.Proofs.Ytbcfafihkdddeaa
open Go.RowKit
set_option linter.unusedVariables false
set_option linter.unusedSimpArgs false

theorem BigR.val {n : Nat} {w : World} {p : Option Addr} {l : List Int} {x : Int} (r : BigR n w p l x) : (bif decide (x < 0) then -dval l else dval l) = x := by
  rw [r.can.val]
  by_cases h : x < 0 <;> simp [h] <;> omega
theorem BigRes.stored {n : Nat} {x : Int} {w v w2 : World} {r : Nat} {p : Option Addr} {l : List Int} {c : Nat} (hv : Below w.heap.size w v) (hr : w.heap.size ≤ r) (hr2 : r < v.heap.size)
    (R : BigR n w2 p l x) (hf : ∀ a, p = some a → v.heap.size ≤ a.block) (hb : Below v.heap.size v w2) :
    BigRes n x w (.returned (.agg #[.bool (decide (x < 0)), .slice p l.length c])) ((w2.setCell ⟨r, 0, none⟩ (.bool (decide (x < 0)))).setCell ⟨r, 1, none⟩ (.slice p l.length c)) := by
  have hq : ∀ a, p = some a → a.block ≠ r := fun a ha => by have := hf a ha; omega
  refine ⟨p, l, c, rfl, ⟨R.can, R.size, (R.row.setCell (q := ⟨r, 0, none⟩) hq _).setCell (q := ⟨r, 1, none⟩) hq _⟩, fun a ha => by have := hf a ha; have := hv.size; omega, ?_⟩
  exact (((hv.trans (hb.mono hv.size)).setCell hr _).setCell hr _)

theorem Zero_any (s : Bool) (p : Option Addr) (n c : Nat) (w : World) :
    Calls Try.prog 114 #[.agg #[.bool s, .slice p n c]] w fun e w' => e = .returned (.bool (decide (n = 0))) ∧ Below w.heap.size w w' := by
  go_enter Try.func114, Try.ntmps114
  go_wp2
  go_ret
  refine ⟨ret_b ?_, by go_grown⟩
  first | (rw [Bool.eq_iff_iff]; simp; omega) | (rw [Bool.eq_iff_iff]; simp)

theorem cmpZ_neg (a b : Int) : -cmpZ a b = cmpZ (-a) (-b) := by
  unfold cmpZ
  rcases Int.lt_trichotomy a b with q | q | q
  · rw [if_pos q, if_neg (by omega), if_pos (by omega)]; rfl
  · rw [if_neg (by omega), if_neg (by omega), if_neg (by omega), if_neg (by omega)]; rfl
  · rw [if_neg (by omega), if_pos q, if_pos (by omega)]
theorem cmpZ_le (a b : Int) : -1 ≤ cmpZ a b ∧ cmpZ a b ≤ 1 := by unfold cmpZ; split; omega; split <;> omega
theorem Compare_any {n m : Nat} (pa pb : Option Addr) (ca cb : Nat) (a b : List Int) (x y : Int) (w : World) (A : BigR n w pa a x) (B : BigR m w pb b y) (hn : n ≤ 1000000) (hm : m ≤ 1000000) :
    Calls Try.prog 115 #[.agg #[.bool (decide (x < 0)), .slice pa a.length ca], .agg #[.bool (decide (y < 0)), .slice pb b.length cb]] w fun e w' => e = .returned (.int .i64 (cmpZ x y)) ∧ Below w.heap.size w w' := by
  have CM := fun W (h : Below w.heap.size w W) => cmpD_any pa pb ca cb a b W A.can.digs B.can.digs A.can.norm B.can.norm (A.row.below h) (B.row.below h) (by have := A.size; omega) (by have := B.size; omega)
  have CM' := Lib.hid CM
  have K1 : x < 0 → y < 0 → Hid (-cmpZ (dval a) (dval b) = cmpZ x y) := fun h1 h2 => by
    show _ = _
    rw [A.can.val, B.can.val, cmpZ_neg]; congr 1 <;> omega
  have K2 : ¬ x < 0 → ¬ y < 0 → Hid (cmpZ (dval a) (dval b) = cmpZ x y) := fun h1 h2 => by
    show _ = _
    rw [A.can.val, B.can.val]; congr 1 <;> omega
  have Q := Lib.hid (cmpZ_le (dval a) (dval b))
  clear A B CM
  generalize a.length = la at *
  generalize b.length = lb at *
  generalize cmpZ (dval a) (dval b) = V at *
  by_cases h1 : x < 0 <;> by_cases h2 : y < 0
  · have K := K1 h1 h2
    have e1 : decide (x < 0) = true := by simpa using h1
    have e2 : decide (y < 0) = true := by simpa using h2
    rw [e1, e2]
    obtain ⟨q1, q2⟩ := Q.out
    clear K1 K2 e1 e2
    go_enter Try.func115, Try.ntmps115
    go_wp2_with fail
    refine (CM'.out _ (by go_grown)).mono ?_
    rintro e w' ⟨rfl, k, rfl⟩
    clear CM'
    go_wp2_with fail
    go_ret
    exact ⟨ret_i K.out, by refine below_drewN ?_ _; go_grown⟩
  · have K : Hid (-1 = cmpZ x y) := by show _ = _; unfold cmpZ; rw [if_pos (by omega)]
    have e1 : decide (x < 0) = true := by simpa using h1
    have e2 : decide (y < 0) = false := by simpa using h2
    rw [e1, e2]
    clear K1 K2 e1 e2 CM' Q
    go_enter Try.func115, Try.ntmps115
    go_wp2_with fail
    go_ret
    exact ⟨ret_i K.out, by go_grown⟩
  · have K : Hid (1 = cmpZ x y) := by show _ = _; unfold cmpZ; rw [if_neg (by omega), if_pos (by omega)]
    have e1 : decide (x < 0) = false := by simpa using h1
    have e2 : decide (y < 0) = true := by simpa using h2
    rw [e1, e2]
    clear K1 K2 e1 e2 CM' Q
    go_enter Try.func115, Try.ntmps115
    go_wp2_with fail
    go_ret
    exact ⟨ret_i K.out, by go_grown⟩
  · have K := K2 h1 h2
    have e1 : decide (x < 0) = false := by simpa using h1
    have e2 : decide (y < 0) = false := by simpa using h2
    rw [e1, e2]
    obtain ⟨q1, q2⟩ := Q.out
    clear K1 K2 e1 e2
    go_enter Try.func115, Try.ntmps115
    go_wp2_with fail
    refine (CM'.out _ (by go_grown)).mono ?_
    rintro e w' ⟨rfl, k, rfl⟩
    clear CM'
    go_wp2_with fail
    go_ret
    exact ⟨ret_i K.out, by refine below_drewN ?_ _; go_grown⟩

theorem Neg_any {n : Nat} (p : Option Addr) (c : Nat) (l : List Int) (x : Int) (w : World) (A : BigR n w p l x) (hn : n ≤ 1000000) :
    Calls Try.prog 112 #[.agg #[.bool (decide (x < 0)), .slice p l.length c]] w (BigRes n (-x) w) := by
  have WH := fun s W (h : Below w.heap.size w W) => whole_any s p c l W A.can.digs (A.row.below h) (by have := A.size; omega)
  have E : (bif !decide (x < 0) then -dval l else dval l) = -x := by
    rw [A.can.val]; by_cases h : x < 0 <;> simp [h] <;> omega
  have SZ := A.size
  have HE := Lib.hid E
  have WH' := Lib.hid WH
  clear WH E A
  go_enter Try.func112, Try.ntmps112
  go_wp2_with fail
  refine (WH'.out _ _ (by go_grown)).mono ?_
  rw [HE.out]
  rintro e w1 ⟨q, t, cc, rfl, R, hf, hb1⟩
  have FIN := Lib.hid (BigRes.stored (c := cc) (r := w.heap.size + 1) (((Below.refl w.heap.size w).alloc (Nat.le_refl _) (Obj.cells #[Value.bool (decide (x < 0)), Value.slice p l.length c] 89)).alloc (by simp) (Obj.cells #[Value.bool false, Value.slice none 0 0] 89)) (by omega) (by simp) (R.more SZ) hf hb1)
  obtain ⟨hc, hfz⟩ := bcell hb1
  have hz : w.heap.size + 1 < w1.heap.size := by have := hb1.size; simp at this; omega
  clear R hf hb1 WH' HE
  generalize decide (-x < 0) = sg at *
  go_wp2_with fail
  exact bodyPost_ret (v := .agg #[.bool sg, .slice q t.length cc]) (by simp [results, Try.results112, go_sem, hc, hz]) rfl FIN.out
end Go.Proofs.Ytbcfafihkdddeaa

/- The reference's Big: Times, Plus, Minus. -/
namespace Go.Proofs.Ytbcfafihkdddeaa
open Go.RowKit
set_option linter.unusedVariables false
set_option linter.unusedSimpArgs false

/-- Two boxed numbers and a result's box. -/
structure Box3 (w v : World) (s t : Bool) (P Q : Value) : Prop where
  a0 : v.cell? ⟨w.heap.size, 0, none⟩ = some (.bool s)
  a1 : v.cell? ⟨w.heap.size, 1, none⟩ = some P
  b0 : v.cell? ⟨w.heap.size + 1, 0, none⟩ = some (.bool t)
  b1 : v.cell? ⟨w.heap.size + 1, 1, none⟩ = some Q
  c0 : v.cell? ⟨w.heap.size + 1 + 1, 0, none⟩ = some (.bool false)
  c1 : v.cell? ⟨w.heap.size + 1 + 1, 1, none⟩ = some (.slice none 0 0)
  f0 : v.frozen? ⟨w.heap.size + 1 + 1, 0, none⟩ = false
  f1 : v.frozen? ⟨w.heap.size + 1 + 1, 1, none⟩ = false
  sz : w.heap.size + 1 + 1 < v.heap.size
  bel : Below w.heap.size w v
theorem Box3.below {w v v' : World} {s t : Bool} {P Q : Value} (h : Box3 w v s t P Q) (hb : Below v.heap.size v v') : Box3 w v' s t P Q := by
  obtain ⟨h1, h2, h3, h4, h5, h6, h7, h8, h9, h10⟩ := h
  have z0 : w.heap.size < v.heap.size := by omega
  have z1 : w.heap.size + 1 < v.heap.size := by omega
  exact ⟨(hb.cell (p := ⟨w.heap.size, 0, none⟩) z0).trans h1, (hb.cell (p := ⟨w.heap.size, 1, none⟩) z0).trans h2, (hb.cell (p := ⟨w.heap.size + 1, 0, none⟩) z1).trans h3, (hb.cell (p := ⟨w.heap.size + 1, 1, none⟩) z1).trans h4,
    (hb.cell (p := ⟨w.heap.size + 1 + 1, 0, none⟩) h9).trans h5, (hb.cell (p := ⟨w.heap.size + 1 + 1, 1, none⟩) h9).trans h6, (hb.frozen (p := ⟨w.heap.size + 1 + 1, 0, none⟩) h9).trans h7, (hb.frozen (p := ⟨w.heap.size + 1 + 1, 1, none⟩) h9).trans h8, Nat.lt_of_lt_of_le h9 hb.size, h10.trans (hb.mono h10.size)⟩
theorem Box3.new (w : World) (s t : Bool) (P Q : Value) : Box3 w (((w.alloc (Obj.cells #[Value.bool s, P] 89)).alloc (Obj.cells #[Value.bool t, Q] 89)).alloc (Obj.cells #[Value.bool false, Value.slice none 0 0] 89)) s t P Q := by
  refine ⟨?_, ?_, ?_, ?_, ?_, ?_, ?_, ?_, ?_, by go_grown⟩ <;> simp [go_sem]
theorem Box3.drew {w v : World} {s t : Bool} {P Q : Value} (h : Box3 w v s t P Q) : Box3 w v.drew s t P Q := ⟨h.a0, h.a1, h.b0, h.b1, h.c0, h.c1, h.f0, h.f1, h.sz, h.bel.drew⟩

theorem sgn_mul (x y : Int) : (bif (decide (x < 0) != decide (y < 0)) then -((x.natAbs : Int) * y.natAbs) else (x.natAbs : Int) * y.natAbs) = x * y := by
  rcases (by omega : x = x.natAbs ∨ x = -(x.natAbs : Int)) with h | h <;> rcases (by omega : y = y.natAbs ∨ y = -(y.natAbs : Int)) with k | k
  all_goals generalize x.natAbs = p at *
  all_goals generalize y.natAbs = q at *
  all_goals subst h k
  · have a : ¬ ((p : Int) < 0) := by omega
    have b : ¬ ((q : Int) < 0) := by omega
    simp [a, b]
  · have a : ¬ ((p : Int) < 0) := by omega
    by_cases z : q = 0
    · subst z; simp
    · have b : (-(q : Int) < 0) := by omega
      simp only [a, b, decide_false, decide_true, Bool.false_bne, cond_true]; rw [Int.mul_neg]
  · have b : ¬ ((q : Int) < 0) := by omega
    by_cases z : p = 0
    · subst z; simp
    · have a : (-(p : Int) < 0) := by omega
      simp only [a, b, decide_false, decide_true, Bool.bne_false, cond_true]; rw [Int.neg_mul]
  · by_cases z : p = 0
    · subst z; simp
    · by_cases z' : q = 0
      · subst z'; simp
      · have a : (-(p : Int) < 0) := by omega
        have b : (-(q : Int) < 0) := by omega
        simp only [a, b, decide_true, bne_self_eq_false, cond_false]; rw [Int.neg_mul_neg]

set_option maxHeartbeats 1000000 in
theorem Times_any {n m : Nat} (pa pb : Option Addr) (ca cb : Nat) (a b : List Int) (x y : Int) (w : World) (A : BigR n w pa a x) (B : BigR m w pb b y) (hn : n ≤ 90000) (hm : m ≤ 90000) :
    Calls Try.prog 66 #[.agg #[.bool (decide (x < 0)), .slice pa a.length ca], .agg #[.bool (decide (y < 0)), .slice pb b.length cb]] w (BigRes (n + m) (x * y) w) := by
  have SA := A.size
  have SB := B.size
  have G := Lib.hid (fun W (h : Below w.heap.size w W) => mulD_any pa pb ca cb a b W A.can.digs B.can.digs (A.row.below h) (B.row.below h) (by omega) (by omega))
  have E : (bif (!(decide (x < 0) == decide (y < 0))) then -(dval a * dval b) else dval a * dval b) = x * y := by
    rw [A.can.val, B.can.val]; exact sgn_mul x y
  have WH := Lib.hid (fun (p : Option Addr) (c : Nat) (l : List Int) W (h1 : Can l (dval a * dval b)) (h2 : RowR W p l) (h3 : l.length ≤ 1000000) => by
    have := whole_any (!(decide (x < 0) == decide (y < 0))) p c l W h1.digs h2 h3
    rw [h1.val, E] at this
    exact this)
  have K := Box3.new w (decide (x < 0)) (decide (y < 0)) (.slice pa a.length ca) (.slice pb b.length cb)
  clear E A B
  generalize decide (x < 0) = s at *
  generalize decide (y < 0) = t at *
  generalize x * y = X at *
  go_enter Try.func66, Try.ntmps66
  go_wp2_with fail
  generalize (((w.alloc (Obj.cells #[Value.bool s, Value.slice pa a.length ca] 89)).alloc (Obj.cells #[Value.bool t, Value.slice pb b.length cb] 89)).alloc (Obj.cells #[Value.bool false, Value.slice none 0 0] 89)) = v at *
  have HK := Lib.hid K
  obtain ⟨k1, k2, k3, k4, k5, k6, k7, k8, k9, kb⟩ := K
  go_region_held3 (fun w' => w'.cell? ⟨w.heap.size, 0, none⟩ = some (.bool s) ∧ w'.cell? ⟨w.heap.size, 1, none⟩ = some (.slice pa a.length ca) ∧ w'.cell? ⟨w.heap.size + 1, 0, none⟩ = some (.bool t) ∧ w'.cell? ⟨w.heap.size + 1, 1, none⟩ = some (.slice pb b.length cb))
    (first | exact ⟨k1, k2, k3, k4⟩ | (refine ⟨?_, ?_, ?_, ?_⟩ <;> simp [go_sem, k1, k2, k3, k4]; done))
    (first
      | (go_at_call 118; refine (G.out _ (by first | exact kb | exact kb.drew)).mono ?_; rintro e w1 ⟨l1, p1, c1, rfl, d1, d2, d3, d4, d5, d6⟩; have K1 := Lib.hid (show Box3 w w1 s t _ _ from (by first | exact HK.out.below d6 | exact HK.out.drew.below d6)); clear k1 k2 k3 k4 k5 k6 k7 k8 k9 kb; obtain ⟨k1, k2, k3, k4, k5, k6, k7, k8, k9, kb⟩ := K1.out; have D1 := Lib.hid d1; have D2 := Lib.hid d2; have D3 := Lib.hid d3; clear d1 d2 d3 d4 d5 d6)
      | (go_at_call 117; refine (WH.out p1 c1 l1 _ D1.out (by exact D3.out) (by have := D2.out; omega)).mono ?_; rintro e w2 ⟨p2, l2, c2, rfl, r1, r2, r3⟩; have K2 := Lib.hid (show Box3 w w2 s t _ _ from (by first | exact K1.out.below r3 | exact K1.out.drew.below r3)); clear k1 k2 k3 k4 k5 k6 k7 k8 k9 kb; obtain ⟨k1, k2, k3, k4, k5, k6, k7, k8, k9, kb⟩ := K2.out; have R1 := Lib.hid r1; have R2 := Lib.hid r2; have R3 := Lib.hid r3; clear r1 r2 r3))
  have FIN := Lib.hid (BigRes.stored (c := c2) (r := w.heap.size + 1 + 1) K1.out.bel (by omega) K1.out.sz (R1.out.more (m := n + m) (by have := D2.out; omega)) R2.out R3.out)
  clear WH G HK K1 K2 D1 D2 D3 R1 R2 R3
  generalize decide (X < 0) = sg at *
  go_wp2_with fail
  exact bodyPost_ret (v := .agg #[.bool sg, .slice p2 l2.length c2]) (by simp [results, Try.results66, go_sem, k5, k6, k9]) rfl FIN.out
end Go.Proofs.Ytbcfafihkdddeaa

/- The reference's Big: Plus, Minus. -/
namespace Go.Proofs.Ytbcfafihkdddeaa
open Go.RowKit
set_option linter.unusedVariables false
set_option linter.unusedSimpArgs false

theorem whole_to {s : Bool} {V X : Int} (E : (bif s then -V else V) = X) (p : Option Addr) (c : Nat) (l : List Int) (W : World) (h1 : Digs l) (h1' : dval l = V) (h2 : RowR W p l) (h3 : l.length ≤ 1000000) :
    Calls Try.prog 117 #[.bool s, .slice p l.length c] W (BigRes l.length X W) := by
  have := whole_any s p c l W h1 h2 h3
  rw [h1', E] at this
  exact this

set_option maxHeartbeats 1000000 in
theorem Plus_any {k : Nat} (pa pb : Option Addr) (ca cb : Nat) (a b : List Int) (x y : Int) (w : World) (A : BigR k w pa a x) (B : BigR k w pb b y) (hk : k ≤ 90000) :
    Calls Try.prog 116 #[.agg #[.bool (decide (x < 0)), .slice pa a.length ca], .agg #[.bool (decide (y < 0)), .slice pb b.length cb]] w (BigRes (k + 1) (x + y) w) := by
  have SA := A.size
  have SB := B.size
  have K := Box3.new w (decide (x < 0)) (decide (y < 0)) (.slice pa a.length ca) (.slice pb b.length cb)
  by_cases st : decide (x < 0) = decide (y < 0)
  · have E : (bif decide (x < 0) then -(dval a + dval b) else dval a + dval b) = x + y := by
      rw [A.can.val, B.can.val]
      by_cases h : x < 0 <;> simp [h] at st ⊢ <;> omega
    have G := Lib.hid (fun W (h : Below w.heap.size w W) => addD_any pa pb ca cb a b W k A.can.digs B.can.digs (A.row.below h) (B.row.below h) (by omega) (by omega) (by omega))
    have WH := Lib.hid (whole_to E)
    rw [← st] at K ⊢
    clear E A B st
    generalize decide (x < 0) = s at *
    generalize x + y = X at *
    have ss : (s == s) = true := by simp
    go_enter Try.func116, Try.ntmps116
    go_wp2_with fail
    generalize (((w.alloc (Obj.cells #[Value.bool s, Value.slice pa a.length ca] 89)).alloc (Obj.cells #[Value.bool s, Value.slice pb b.length cb] 89)).alloc (Obj.cells #[Value.bool false, Value.slice none 0 0] 89)) = v at *
    have HK := Lib.hid K
    obtain ⟨k1, k2, k3, k4, k5, k6, k7, k8, k9, kb⟩ := K
    go_region_held3 (fun w' => w'.cell? ⟨w.heap.size, 0, none⟩ = some (.bool s) ∧ w'.cell? ⟨w.heap.size, 1, none⟩ = some (.slice pa a.length ca) ∧ w'.cell? ⟨w.heap.size + 1, 0, none⟩ = some (.bool s) ∧ w'.cell? ⟨w.heap.size + 1, 1, none⟩ = some (.slice pb b.length cb))
      (first | exact ⟨k1, k2, k3, k4⟩ | (refine ⟨?_, ?_, ?_, ?_⟩ <;> simp [go_sem, k1, k2, k3, k4]; done))
      (first
        | (go_at_call 153; refine (G.out _ (by first | exact kb | exact kb.drew)).mono ?_; rintro e w1 ⟨l1, p1, c1, rfl, d1, dv, d2, d3, d6⟩; have K1 := Lib.hid (show Box3 w w1 s s _ _ from (by first | exact HK.out.below d6 | exact HK.out.drew.below d6)); clear k1 k2 k3 k4 k5 k6 k7 k8 k9 kb; obtain ⟨k1, k2, k3, k4, k5, k6, k7, k8, k9, kb⟩ := K1.out; have D1 := Lib.hid d1; have DV := Lib.hid dv; have D2 := Lib.hid d2; have D3 := Lib.hid d3; clear d1 dv d2 d3 d6)
        | (go_at_call 117; refine (WH.out p1 c1 l1 _ D1.out DV.out (by exact D3.out) (by have := D2.out; omega)).mono ?_; rintro e w2 ⟨p2, l2, c2, rfl, r1, r2, r3⟩; have K2 := Lib.hid (show Box3 w w2 s s _ _ from (by first | exact K1.out.below r3 | exact K1.out.drew.below r3)); clear k1 k2 k3 k4 k5 k6 k7 k8 k9 kb; obtain ⟨k1, k2, k3, k4, k5, k6, k7, k8, k9, kb⟩ := K2.out; have R1 := Lib.hid r1; have R2 := Lib.hid r2; have R3 := Lib.hid r3; clear r1 r2 r3))
    have FIN := Lib.hid (BigRes.stored (c := c2) (r := w.heap.size + 1 + 1) K1.out.bel (by omega) K1.out.sz (R1.out.more (m := k + 1) (by have := D2.out; omega)) R2.out R3.out)
    clear WH G HK K1 K2 D1 D2 D3 DV R1 R2 R3
    generalize decide (X < 0) = sg at *
    go_wp2_with fail
    exact bodyPost_ret (v := .agg #[.bool sg, .slice p2 l2.length c2]) (by simp [results, Try.results116, go_sem, k5, k6, k9]) rfl FIN.out
  · have CM := Lib.hid (fun W (h : Below w.heap.size w W) => cmpD_any pa pb ca cb a b W A.can.digs B.can.digs A.can.norm B.can.norm (A.row.below h) (B.row.below h) (by omega) (by omega))
    by_cases hle : dval b ≤ dval a
    · have E : (bif decide (x < 0) then -(dval a - dval b) else dval a - dval b) = x + y := by
        rw [A.can.val, B.can.val]
        rw [A.can.val, B.can.val] at hle
        by_cases h : x < 0 <;> by_cases h' : y < 0 <;> simp [h, h'] at st ⊢ <;> omega
      have LL := can_len B.can A.can (by rw [← A.can.val, ← B.can.val]; exact hle)
      have G := Lib.hid (fun W (h : Below w.heap.size w W) => subD_any pa pb ca cb a b W A.can.digs B.can.digs (A.row.below h) (B.row.below h) (by omega) LL hle)
      have WH := Lib.hid (whole_to E)
      have Z1 : 0 ≤ cmpZ (dval a) (dval b) := by unfold cmpZ; split; omega; split <;> omega
      have Z2 := (cmpZ_le (dval a) (dval b)).2
      have st' : (decide (x < 0) == decide (y < 0)) = false := by simpa using st
      clear E A B st hle LL
      generalize decide (x < 0) = s at *
      generalize decide (y < 0) = t at *
      generalize x + y = X at *
      generalize cmpZ (dval a) (dval b) = z at *
      go_enter Try.func116, Try.ntmps116
      go_wp2_with fail
      refine (CM.out _ (by go_grown)).mono ?_
      rintro e w3 ⟨rfl, n3, rfl⟩
      replace K := K.below (below_drewN (Below.refl _ _) n3)
      clear CM
      generalize (((w.alloc (Obj.cells #[Value.bool s, Value.slice pa a.length ca] 89)).alloc (Obj.cells #[Value.bool t, Value.slice pb b.length cb] 89)).alloc (Obj.cells #[Value.bool false, Value.slice none 0 0] 89)).drewN n3 = v at *
      go_wp2_with fail
      have HK := Lib.hid K
      obtain ⟨k1, k2, k3, k4, k5, k6, k7, k8, k9, kb⟩ := K
      go_region_held3 (fun w' => w'.cell? ⟨w.heap.size, 0, none⟩ = some (.bool s) ∧ w'.cell? ⟨w.heap.size, 1, none⟩ = some (.slice pa a.length ca) ∧ w'.cell? ⟨w.heap.size + 1, 0, none⟩ = some (.bool t) ∧ w'.cell? ⟨w.heap.size + 1, 1, none⟩ = some (.slice pb b.length cb))
        (first | exact ⟨k1, k2, k3, k4⟩ | (refine ⟨?_, ?_, ?_, ?_⟩ <;> simp [go_sem, k1, k2, k3, k4]; done))
        (first
          | (go_at_call 154; refine (G.out _ (by first | exact kb | exact kb.drew)).mono ?_; rintro e w1 ⟨l1, p1, c1, rfl, dc, d2, d3, d4, d5, d6⟩; have K1 := Lib.hid (show Box3 w w1 s t _ _ from (by first | exact HK.out.below d6 | exact HK.out.drew.below d6)); clear k1 k2 k3 k4 k5 k6 k7 k8 k9 kb; obtain ⟨k1, k2, k3, k4, k5, k6, k7, k8, k9, kb⟩ := K1.out; have D1 := Lib.hid dc.digs; have DV := Lib.hid dc.val; have D2 := Lib.hid d2; have D3 := Lib.hid d3; clear dc d2 d3 d4 d5 d6)
          | (go_at_call 117; refine (WH.out p1 c1 l1 _ D1.out DV.out (by exact D3.out) (by have := D2.out; omega)).mono ?_; rintro e w2 ⟨p2, l2, c2, rfl, r1, r2, r3⟩; have K2 := Lib.hid (show Box3 w w2 s t _ _ from (by first | exact K1.out.below r3 | exact K1.out.drew.below r3)); clear k1 k2 k3 k4 k5 k6 k7 k8 k9 kb; obtain ⟨k1, k2, k3, k4, k5, k6, k7, k8, k9, kb⟩ := K2.out; have R1 := Lib.hid r1; have R2 := Lib.hid r2; have R3 := Lib.hid r3; clear r1 r2 r3))
      have FIN := Lib.hid (BigRes.stored (c := c2) (r := w.heap.size + 1 + 1) K1.out.bel (by omega) K1.out.sz (R1.out.more (m := k + 1) (by have := D2.out; omega)) R2.out R3.out)
      clear WH G HK K1 K2 D1 D2 D3 DV R1 R2 R3
      generalize decide (X < 0) = sg at *
      go_wp2_with fail
      exact bodyPost_ret (v := .agg #[.bool sg, .slice p2 l2.length c2]) (by simp [results, Try.results116, go_sem, k5, k6, k9]) rfl FIN.out
    · have E : (bif decide (y < 0) then -(dval b - dval a) else dval b - dval a) = x + y := by
        rw [A.can.val, B.can.val]
        rw [A.can.val, B.can.val] at hle
        by_cases h : x < 0 <;> by_cases h' : y < 0 <;> simp [h, h'] at st ⊢ <;> omega
      have LL := can_len A.can B.can (by rw [← A.can.val, ← B.can.val]; omega)
      have G := Lib.hid (fun W (h : Below w.heap.size w W) => subD_any pb pa cb ca b a W B.can.digs A.can.digs (B.row.below h) (A.row.below h) (by omega) LL (by omega))
      have WH := Lib.hid (whole_to E)
      have Z1 : cmpZ (dval a) (dval b) < 0 := by unfold cmpZ; rw [if_pos (by omega)]; omega
      have Z2 := (cmpZ_le (dval a) (dval b)).1
      have st' : (decide (x < 0) == decide (y < 0)) = false := by simpa using st
      clear E A B st hle LL
      generalize decide (x < 0) = s at *
      generalize decide (y < 0) = t at *
      generalize x + y = X at *
      generalize cmpZ (dval a) (dval b) = z at *
      go_enter Try.func116, Try.ntmps116
      go_wp2_with fail
      refine (CM.out _ (by go_grown)).mono ?_
      rintro e w3 ⟨rfl, n3, rfl⟩
      replace K := K.below (below_drewN (Below.refl _ _) n3)
      clear CM
      generalize (((w.alloc (Obj.cells #[Value.bool s, Value.slice pa a.length ca] 89)).alloc (Obj.cells #[Value.bool t, Value.slice pb b.length cb] 89)).alloc (Obj.cells #[Value.bool false, Value.slice none 0 0] 89)).drewN n3 = v at *
      go_wp2_with fail
      have HK := Lib.hid K
      obtain ⟨k1, k2, k3, k4, k5, k6, k7, k8, k9, kb⟩ := K
      go_region_held3 (fun w' => w'.cell? ⟨w.heap.size, 0, none⟩ = some (.bool s) ∧ w'.cell? ⟨w.heap.size, 1, none⟩ = some (.slice pa a.length ca) ∧ w'.cell? ⟨w.heap.size + 1, 0, none⟩ = some (.bool t) ∧ w'.cell? ⟨w.heap.size + 1, 1, none⟩ = some (.slice pb b.length cb))
        (first | exact ⟨k1, k2, k3, k4⟩ | (refine ⟨?_, ?_, ?_, ?_⟩ <;> simp [go_sem, k1, k2, k3, k4]; done))
        (first
          | (go_at_call 154; refine (G.out _ (by first | exact kb | exact kb.drew)).mono ?_; rintro e w1 ⟨l1, p1, c1, rfl, dc, d2, d3, d4, d5, d6⟩; have K1 := Lib.hid (show Box3 w w1 s t _ _ from (by first | exact HK.out.below d6 | exact HK.out.drew.below d6)); clear k1 k2 k3 k4 k5 k6 k7 k8 k9 kb; obtain ⟨k1, k2, k3, k4, k5, k6, k7, k8, k9, kb⟩ := K1.out; have D1 := Lib.hid dc.digs; have DV := Lib.hid dc.val; have D2 := Lib.hid d2; have D3 := Lib.hid d3; clear dc d2 d3 d4 d5 d6)
          | (go_at_call 117; refine (WH.out p1 c1 l1 _ D1.out DV.out (by exact D3.out) (by have := D2.out; omega)).mono ?_; rintro e w2 ⟨p2, l2, c2, rfl, r1, r2, r3⟩; have K2 := Lib.hid (show Box3 w w2 s t _ _ from (by first | exact K1.out.below r3 | exact K1.out.drew.below r3)); clear k1 k2 k3 k4 k5 k6 k7 k8 k9 kb; obtain ⟨k1, k2, k3, k4, k5, k6, k7, k8, k9, kb⟩ := K2.out; have R1 := Lib.hid r1; have R2 := Lib.hid r2; have R3 := Lib.hid r3; clear r1 r2 r3))
      have FIN := Lib.hid (BigRes.stored (c := c2) (r := w.heap.size + 1 + 1) K1.out.bel (by omega) K1.out.sz (R1.out.more (m := k + 1) (by have := D2.out; omega)) R2.out R3.out)
      clear WH G HK K1 K2 D1 D2 D3 DV R1 R2 R3
      generalize decide (X < 0) = sg at *
      go_wp2_with fail
      exact bodyPost_ret (v := .agg #[.bool sg, .slice p2 l2.length c2]) (by simp [results, Try.results116, go_sem, k5, k6, k9]) rfl FIN.out
end Go.Proofs.Ytbcfafihkdddeaa
