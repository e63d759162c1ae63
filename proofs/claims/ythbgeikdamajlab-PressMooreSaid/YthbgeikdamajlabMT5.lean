/- The law PressMoore: its walk. -/
import Derived.Test.YthbgeikdamajlabMT4
import Derived.Test.YthbgeikdamajlabMT3
import Derived.Test.YthbgeikdamajlabPBA
import Derived.Test.YthbgeikdamajlabPC4
import Derived.Laws.MakeOwn
import Derived.Laws.AppendOwnNone
import Derived.Deep.CutBlock
namespace Go.Proofs.Ythbgeikdamajlab
open Go.RowKit Go.Proofs.Ythbgeikdamajlab.Prs Go.Proofs.Ythbgeikdamajlab.Stb
set_option linter.unusedVariables false
set_option linter.unusedSimpArgs false

/-- A row of marks that came in. -/
def BlR (W : World) (q : Option Addr) (P : List Bool) : Prop := ∀ i, i < P.length → ∃ x, q = some x ∧ x.block < W.heap.size ∧ W.cell? (x.add i) = some (.bool (P.getD i false))
theorem BlR.below {W W' : World} {q : Option Addr} {P : List Bool} (h : BlR W q P) (b : Below W.heap.size W W') : BlR W' q P := fun i hi => by
  obtain ⟨x, e, k, c⟩ := h i hi
  exact ⟨x, e, Nat.lt_of_lt_of_le k b.size, (World.cell?_of_block (w := W) (a := x.add i) (by rw [addB]; exact b.block _ k)).trans c⟩

theorem wpList_append_nums {W : World} {ops : Array Oper} {rest : List Oper} {o : Oper} {a : Act} {Q : Exit → Act → World → Prop} (hgd : o.guard = none) (s x : Operand)
    (ho : o.op = .call { callee := .builtin .append, args := #[s, x], argTypes := #[25, 25] })
    (base : Nat) (v : Value) (L : List Int) (hs : a.eval s = v) (hown : OI W base v L) (u : Value) (M : List Int) (b2 : Nat) (hx : a.eval x = u) (hM : OI W b2 u M) (hL : L.length + M.length ≤ 1000000) (hbase : base ≤ W.heap.size)
    (h : ∀ v' W', OI W' base v' (L ++ M) → W.grownBy W' v.ownBlock → (v'.ownBlock = v.ownBlock ∨ v'.ownBlock = some W.heap.size) → wpList Try.prog ops Q rest (a.put o.dst v') W') : wpList Try.prog ops Q (o :: rest) a W := by
  obtain ⟨i0, hi, hz0, hz1, hz2⟩ := info_parts intInfo
  rcases hM.2 with ⟨rfl, h0⟩ | ⟨g, cap, cur, rfl, hbg, hg, hnc, hcm, hcs, htake⟩
  · have : M = [] := List.eq_nil_of_length_eq_zero h0
    subst this
    exact wpList_append_own_none hgd s x 25 ho base 3 i0 1 Try.underlying25 hi v _ _ hs hown hx (h v W (by simpa using hown) ⟨rfl, rfl, rfl, Nat.le_refl _, fun _ _ _ => rfl⟩ (.inl rfl))
  · have holds : ∀ j u, (M.map (Value.int .i64))[j]? = some u → W.cell? ((⟨g, 0, none⟩ : Addr).add j) = some u := World.ownsRow.cells hM (g := g) rfl
    refine wpList_append_own_at W hgd s x 25 ho base 3 i0 (.int .i64 0) 1 8 Try.underlying25 hi hz0 hz1 hz2 rfl (by decide) v _ _ hs hown ⟨g, 0, none⟩ M.length cap (M.map (Value.int .i64)) hx (by simp) holds (by intro u hu; simp at hu; obtain ⟨z, _, rfl⟩ := hu; rfl) (by unfold maxLen; omega) (by omega) hbase ?_
    intro v' W' h1 h2 _ h4
    exact h v' W' (by unfold OI; simpa using h1) h2 h4

theorem two_pow (n : Nat) (h : n ≤ 10) : ∃ N : Nat, wrap64 ((2 : Int) ^ n) = (N : Int) ∧ N ≤ 1024 := by
  have b : 2 ^ n ≤ 1024 := Nat.pow_le_pow_right (n := 2) (by decide) h
  have c : ((2 ^ n : Nat) : Int) = (2 : Int) ^ n := by simp
  refine ⟨2 ^ n, ?_, b⟩
  rw [← c]
  generalize 2 ^ n = N at *
  unfold wrap64
  omega
/-- The members of the set with this number. -/
def setF (s j : Nat) : Bool := ((s : Int) / 2 ^ j).tmod 2 == 1
theorem cntT_stop {F : Nat → Bool} {i : Nat} : ∀ {n : Nat}, (∀ j, i ≤ j → j < n → F j = false) → i ≤ n → cntT F n = cntT F i
  | 0, _, h => by rw [show i = 0 by omega]
  | n + 1, hz, h => by
    by_cases e : i = n + 1
    · rw [e]
    · show cntT F n + (F n).toNat = _
      rw [hz n (by omega) (by omega), cntT_stop (fun j h1 h2 => hz j h1 (by omega)) (by omega)]
      rfl

set_option maxRecDepth 100000 in
set_option maxHeartbeats 16000000 in
theorem pressMoore_walk0 (p : Option Addr) (c : Nat) (D : List (Int × Int)) (q : Option Addr) (d : Nat) (P : List Bool) (w : World) (r : DmpR w p D) (rq : BlR w q P) (ln : D.length ≤ 9223372036854775807) (lp : P.length ≤ 9223372036854775807) :
    Calls Try.prog 3 #[.slice p D.length c, .slice q P.length d] w fun e w' => e = .returned (.bool true) ∧ Below w.heap.size w w' := by
  obtain ⟨i0, hi, hz0, hz1, hz2⟩ := info_parts boolInfo
  have AL := Lib.hid alive_any
  have R := Lib.hid r
  have RQ := Lib.hid rq
  have C1 := Lib.hid (fun (l : D.length ≤ 1000000) => OnTime_own p c D w r l)
  have C2 := Lib.hid (fun W (st : Below w.heap.size w W) (q : Option Addr) (d : Nat) (A : List Int) (ra : NumR W q A) (tok : TkOk D D.length) (la : A.length ≤ 64) (ok : ∀ z ∈ A, 0 ≤ z ∧ z < D.length) (n64 : D.length ≤ 64) => ends_any p c D q d A W (r.below st) ra tok la ok n64)
  have C3 := Lib.hid (fun W (st : Below w.heap.size w W) (g : Nat) (F : Nat → Bool) (rb : BR W g D.length F) (n64 : D.length ≤ 64) => byDue_any p c D g F W (r.below st) rb n64)
  obtain ⟨n, hn⟩ : ∃ n, n = D.length := ⟨_, rfl⟩
  obtain ⟨m, hm⟩ : ∃ m, m = P.length := ⟨_, rfl⟩
  have HN := Lib.hid (And.intro hn hm)
  rw [← hn] at C1 C2 C3 ln
  rw [← hm] at lp
  rw [← hn, ← hm]
  clear hn hm r rq
  go_enter Try.func3, Try.ntmps3
  by_cases n64 : (64 : Int) < n
  · have d1 : decide ((64 : Int) < n) = true := decide_eq_true n64
    clear C1 C2 C3
    go_wp2_with fail
    refine (AL.out _).mono ?_
    rintro e w6 ⟨rfl, st⟩
    go_wp2_with fail
    go_ret
    exact ⟨rfl, st⟩
  have d1 : decide ((64 : Int) < n) = false := decide_eq_false n64
  have n64' : n ≤ 64 := by omega
  clear n64
  go_wp2_with fail
  refine (C1.out (by omega)).mono ?_
  rintro e w1 ⟨x, v1, v2, rfl, pe, st, k1, k2⟩
  have KB := Lib.hid st
  clear C1 d1
  by_cases x0 : x = 0
  case neg =>
    have x1 : (x == 0) = false := by simpa using x0
    have x2 : (x != 0) = true := by simpa using x0
    obtain ⟨rfl, rfl⟩ := k1 x0
    clear C2 C3 k1 k2 pe x0 st
    go_wp2_with fail
    refine (AL.out _).mono ?_
    rintro e w6 ⟨rfl, st⟩
    go_wp2_with fail
    go_ret
    exact ⟨rfl, KB.out.trans (st.mono KB.out.size)⟩
  subst x0
  obtain ⟨-, tok⟩ := pe.good
  obtain ⟨o1, o2⟩ := k2 rfl
  have TOK := Lib.hid tok
  have MO := Lib.hid (fun F (f : Feas D 0 (byO D F D.length)) => moore tok F f)
  have ME := Lib.hid (moore_feas tok)
  have MI := Lib.hid (moore_once D)
  have MV := Lib.hid (show ∀ z ∈ kept D (dueO D D.length) D.length, 0 ≤ z ∧ z < D.length from fun z hz => (dueO_mem D z D.length).1 (List.mem_of_mem_take (kept_mem D.length (by rw [dueO_len]; exact Nat.le_refl _) z hz)))
  have ML := Lib.hid (show (kept D (dueO D D.length) D.length).length ≤ 64 ∧ (left (kept D (dueO D D.length) D.length) D.length).length ≤ 64 from by
    have h1 := kept_len (D := D) (O := dueO D D.length) D.length (by rw [dueO_len]; exact Nat.le_refl _)
    have h2 := left_len (kept D (dueO D D.length) D.length) D.length
    have := HN.out; omega)
  obtain ⟨K, hK⟩ : ∃ K, K = kept D (dueO D D.length) D.length := ⟨_, rfl⟩
  rw [← hK] at o1 o2 MO ME MI MV ML
  obtain ⟨L, hL⟩ : ∃ L, L = left K D.length := ⟨_, rfl⟩
  rw [← hL] at o2 MI ML
  have H1 := Lib.hid o1
  have H2 := Lib.hid o2
  have BL := Lib.hid (fun F => byO_len D F D.length)
  have CL := Lib.hid (fun F => cntT_le F D.length)
  have BV := Lib.hid (fun F => show ∀ z ∈ byO D F D.length, 0 ≤ z ∧ z < D.length from fun z hz => ((byO_mem D F z D.length).1 hz).1)
  rw [← HN.out.1] at MO MI MV BL CL BV TOK
  clear k1 k2 pe tok o1 o2 hK hL st
  obtain ⟨q1, c1, rfl, nk⟩ := ownNums (M := K) H1.out
  have NK := Lib.hid nk
  have KL : K.length ≤ 64 := ML.out.1
  have LL : L.length ≤ 64 := ML.out.2
  clear nk
  go_upto_region 8 with (first
    | (at_builtin; refine wpList_append_nums rfl _ _ rfl w1.heap.size _ [] rfl (World.ownsRow_nil _ _ _ _) _ K w.heap.size rfl H1.out (by simp; omega) (Nat.le_refl _) ?_; intro v3 w2 own1 gr1 _))
  rw [List.nil_append] at own1
  have B2 := Lib.hid (show Below w1.heap.size w1 w2 from (Below.refl _ _).grown gr1 (Nat.le_refl _) (fun k e => by cases e))
  have O1 := Lib.hid own1
  have H22 := Lib.hid (OI.below H2.out B2.out)
  clear own1 gr1
  go_upto_region 9 with (first
    | (at_builtin; refine wpList_append_nums rfl _ _ rfl w1.heap.size _ K rfl O1.out _ L w.heap.size rfl H22.out (by omega) B2.out.size ?_; intro v4 w3 own1 gr1 _))
  have B3 := Lib.hid (show Below w1.heap.size w1 w3 from B2.out.grown gr1 B2.out.size (fun k e => (O1.out.lt k e).1))
  have ML2 : (K ++ L).length ≤ 1000000 := by simp; omega
  obtain ⟨M, hM⟩ : ∃ M, M = K ++ L := ⟨_, rfl⟩
  rw [← hM] at own1 ML2 MI
  obtain ⟨q4, c4, rfl, n4⟩ := ownNums (M := M) own1
  have N4 := Lib.hid n4
  have ON := Lib.hid (once_any q4 c4 M n w3 n4 ML2 (by omega))
  have NK3 := Lib.hid (NK.out.below B3.out)
  have KB3 := Lib.hid (KB.out.trans (B3.out.mono KB.out.size))
  clear own1 gr1 n4 B2 O1 H22 H1 H2 hM ML2
  have IO := MI.out
  have d2 : ((0 : Int) != 0) = false := by decide
  go_wp2_with fail
  refine ON.out.mono ?_
  rintro e w4 ⟨x, rfl, xi, st⟩
  obtain rfl : x = true := xi.2 IO
  have KB4 := Lib.hid (KB3.out.trans (st.mono KB3.out.size))
  have E1 := Lib.hid (C2.out w4 KB4.out q1 c1 K (NK3.out.below st) TOK.out KL MV.out n64')
  clear ON IO xi st NK3 KB3 N4 d2
  go_wp2_with fail
  refine E1.out.mono ?_
  rintro e w5 ⟨x, rfl, xi, st⟩
  obtain rfl : x = true := xi.2 ME.out
  have KB5 := Lib.hid (KB4.out.trans (st.mono KB4.out.size))
  clear E1 xi st KB4 NK MI ME MV ML KB
  go_upto_region 12 with (first
    | (at_make; refine wpList_make_full _ rfl _ _ 23 rfl w5.heap.size 4 i0 (.bool false) 1 Try.underlying23 hi hz0 hz1 .i64 .i64 _ _ n rfl rfl (by omega) (by omega) (by rw [hz2]; omega) (by unfold maxLen; omega) (Nat.le_refl _) ?_; intro w6 hown0 hgrow0))
  rw [made_boolsR] at hown0
  have G0 := Lib.hid (BR.of hown0)
  have B6 := Lib.hid (show Below w5.heap.size w5 w6 from (Below.refl _ _).grown hgrow0 (Nat.le_refl _) (fun k e => by cases e))
  obtain ⟨g, hg⟩ : ∃ g, g = w5.heap.size := ⟨_, rfl⟩
  rw [← hg] at G0 ⊢
  have HG := Lib.hid hg
  obtain ⟨F, hF⟩ : ∃ F : Nat → Bool, F = fun j => P.getD j false := ⟨_, rfl⟩
  have HF := Lib.hid (show ∀ j, P.getD j false = F j from fun j => by rw [hF])
  have FZ := Lib.hid (show ∀ j, m ≤ j → F j = false from fun j hj => by rw [hF]; show P.getD j false = false; rw [List.getD_eq_getElem?_getD, List.getElem?_eq_none (by have := HN.out; omega)]; rfl)
  clear hown0 hgrow0 hg hF
  go_upto_block 0 with fail
  go_cut [10, 11] from 56 to 80 (fun cv iv wx => cv = .int .i64 (cntT F n : Nat) ∧ (∃ z : Int, iv = .int .i64 z) ∧ Hid (BR wx g n F) ∧ Hid (Below w5.heap.size w5 wx))
  case first =>
    clear C2 C3 MO BL CL BV AL TOK
    go_wp2_with fail
    go_loopw [10, 11] (fun cv iv wr => ∃ i : Nat, i ≤ n ∧ i ≤ m ∧ iv = .int .i64 i ∧ cv = .int .i64 (cntT F i : Nat) ∧ Hid (BR wr g n (fun j => decide (j < i) && F j)) ∧ Hid (Below w5.heap.size w5 wr)) (fun _ iv _ => n - (intOf iv).toNat)
    case atStart => exact ⟨0, Nat.zero_le _, Nat.zero_le _, rfl, rfl, Lib.hid (G0.out.ext fun j _ => by simp), B6⟩
    case round =>
      clear G0 B6
      obtain ⟨i, hi', hm', rfl, rfl, GB, HB⟩ := hrel
      by_cases t1 : i < n
      · by_cases t2 : i < m
        · have i1 : (0 : Int) ≤ (i : Int) := by omega
          have i2 : (i : Int) < (n : Int) := by omega
          have i3 : (i : Int) < (m : Int) := by omega
          obtain ⟨y, ey, ky, cy⟩ := (RQ.out.below (KB5.out.trans (HB.out.mono KB5.out.size))) i (by have := HN.out; omega)
          subst ey
          rw [HF.out] at cy
          have cg := GB.out.cell t1
          have fg := GB.out.frozen i
          have cb := cntT_le F i
          have CS := Lib.hid (show ((cntT F (i + 1) : Nat) : Int) = (cntT F i : Nat) + ((F i).toNat : Nat) from by unfold cntT; cases i <;> simp [cntT])
          have GS := Lib.hid (show BR (wr.setCell ⟨g, i, none⟩ (.bool (F i))) g n (fun j => decide (j < i + 1) && F j) from (GB.out.set i (F i)).ext fun j hj => by
            unfold updb
            by_cases e : j = i
            · subst e; rw [if_pos rfl]; simp
            · rw [if_neg e]
              show (decide (j < i) && F j) = (decide (j < i + 1) && F j)
              rw [show decide (j < i) = decide (j < i + 1) from by simp; omega])
          have BS := Lib.hid (show Below w5.heap.size w5 (wr.setCell ⟨g, i, none⟩ (.bool (F i))) from HB.out.setCell (by show w5.heap.size ≤ g; rw [HG.out]; exact Nat.le_refl _) _)
          rw [show (decide (i < i) && F i) = false from by simp] at cg
          clear GB HB ky
          go_upto_region 17 with fail
          clear cg fg cy
          generalize wr.setCell ⟨g, i, none⟩ (.bool (F i)) = w7 at *
          have cg := GS.out.cell t1
          rw [show (decide (i < i + 1) && F i) = F i from by simp] at cg
          generalize cntT F i = C at *
          have wC : IntKind.i64.wrap ((C : Int) + 1) = (C : Int) + 1 := wI rfl (by omega) (by omega)
          cases hb : F i with
          | true =>
            rw [hb] at cg
            have CS2 := Lib.hid (show ((cntT F (i + 1) : Nat) : Int) = (C : Int) + 1 from by rw [CS.out, hb]; rfl)
            clear hb CS
            go_wp2_with fail
            go_roundw
            case rel => exact ⟨i + 1, by omega, by omega, by go_num, by rw [CS2.out], GS, BS⟩
            case measure => simp [intOf]; omega
          | false =>
            rw [hb] at cg
            have CS2 := Lib.hid (show ((cntT F (i + 1) : Nat) : Int) = (C : Int) from by rw [CS.out, hb]; simp)
            clear hb CS
            go_wp2_with fail
            go_roundw
            case rel => exact ⟨i + 1, by omega, by omega, by go_num, by rw [CS2.out], GS, BS⟩
            case measure => simp [intOf]; omega
        · have i1 : decide ((i : Int) < (n : Int)) = true := decide_eq_true (by omega)
          have i3 : decide ((i : Int) < (m : Int)) = false := decide_eq_false (by omega)
          have CE := Lib.hid (show cntT F n = cntT F i from cntT_stop (fun j h1 h2 => FZ.out j (by omega)) (by omega))
          have GE := Lib.hid (show BR wr g n F from GB.out.ext fun j hj => by
            by_cases e : j < i
            · simp [e]
            · rw [FZ.out j (by omega)]; simp)
          clear GB
          generalize cntT F i = C at *
          go_wp2_with fail
          go_meet
          exact ⟨by rw [CE.out], ⟨_, rfl⟩, GE, HB⟩
      · obtain rfl : i = n := by omega
        have GE := Lib.hid (show BR wr g i F from GB.out.ext fun j hj => by simp [hj])
        clear GB
        generalize cntT F i = C at *
        go_wp2_with fail
        go_meet
        exact ⟨rfl, ⟨_, rfl⟩, GE, HB⟩
  case rest =>
    obtain ⟨rfl, ⟨z, rfl⟩, GB, HB⟩ := hcut
    clear G0 B6 HF FZ RQ
    have CHK := Lib.hid (show ∀ (W : World) (g : Nat) (F : Nat → Bool), BR W g n F → Below w5.heap.size w5 W → K.length < cntT F n → Calls Try.prog 13 #[.slice p n c, .slice (some ⟨g, 0, none⟩) n n] W (fun e w' => ∃ q d, e = .returned (.slice q (byO D F n).length d) ∧ Below W.heap.size W w' ∧ Calls Try.prog 12 #[.slice p n c, .slice q (byO D F n).length d] w' (fun e w'' => e = .returned (.bool false) ∧ Below w'.heap.size w' w'')) from fun W g F rb st lt => by
      have h3 := C3.out W (KB5.out.trans (st.mono KB5.out.size)) g F rb n64'
      refine h3.mono ?_
      rintro e w8 ⟨q8, d8, rfl, n8, st8⟩
      refine ⟨q8, d8, rfl, st8, ?_⟩
      refine (C2.out w8 ((KB5.out.trans (st.mono KB5.out.size)).trans (st8.mono (KB5.out.trans (st.mono KB5.out.size)).size)) q8 d8 (byO D F n) n8 TOK.out (by have := BL.out F; have := CL.out F; omega) (BV.out F) n64').mono ?_
      rintro e w9 ⟨x, rfl, xi, st9⟩
      refine ⟨?_, st9⟩
      cases x with
      | false => rfl
      | true => have := MO.out F (xi.1 rfl); omega)
    clear C2 C3 MO BL CL BV TOK
    go_upto_region 19 with fail
    go_cut [91] from 81 to 91 (fun bv wx => bv = .bool false ∧ Hid (Below w5.heap.size w5 wx))
    case first =>
      by_cases lt : K.length < cntT F n
      · have d2 : decide (K.length < cntT F n) = true := decide_eq_true lt
        have CH := Lib.hid (CHK.out wc g F GB.out HB.out lt)
        generalize cntT F n = C at *
        clear CHK GB lt
        go_wp2_with fail
        refine CH.out.mono ?_
        rintro e w8 ⟨q8, d8, rfl, st8, E2⟩
        have E2 := Lib.hid E2
        have HB2 := Lib.hid (HB.out.trans (st8.mono HB.out.size))
        clear CH st8 HB
        generalize byO D F n = U at *
        go_wp2_with fail
        refine E2.out.mono ?_
        rintro e w9 ⟨rfl, st9⟩
        have HB3 := Lib.hid (HB2.out.trans (st9.mono HB2.out.size))
        clear E2 st9 HB2
        go_wp2_with fail
        go_meet
        exact ⟨rfl, HB3⟩
      · have d2 : decide (K.length < cntT F n) = false := decide_eq_false lt
        generalize cntT F n = C at *
        clear CHK GB
        go_wp2_with fail
        go_meet
        exact ⟨rfl, HB⟩
    case rest =>
    obtain ⟨rfl, HB⟩ := hcut
    clear GB
    generalize cntT F n = C at *
    go_wp2_with fail
    go_loopw [12] (fun sv wr => ∃ s : Nat, s ≤ 1024 ∧ sv = .int .i64 s ∧ Hid (Below w5.heap.size w5 wr)) (fun sv _ => 1024 - (intOf sv).toNat)
    case atStart => exact ⟨0, by omega, rfl, HB⟩
    case round =>
      clear HB
      obtain ⟨s, hs, rfl, HB⟩ := hrel
      by_cases n10 : n ≤ 10
      case neg =>
        have d3 : decide ((n : Int) ≤ 10) = false := decide_eq_false (by omega)
        go_wp2_with fail
        refine (AL.out _).mono ?_
        rintro e w6 ⟨rfl, st⟩
        go_wp2_with fail
        go_ret
        exact ⟨rfl, (KB5.out.trans (HB.out.mono KB5.out.size)).trans (st.mono (KB5.out.trans (HB.out.mono KB5.out.size)).size)⟩
      have d3 : decide ((n : Int) ≤ 10) = true := decide_eq_true (by omega)
      obtain ⟨N, wN, N10⟩ := two_pow n n10
      by_cases sN : s < N
      case neg =>
        have d4 : decide ((s : Int) < (N : Int)) = false := decide_eq_false (by omega)
        have d5 : decide (s < N) = false := decide_eq_false sN
        go_wp2_with fail
        refine (AL.out _).mono ?_
        rintro e w6 ⟨rfl, st⟩
        go_wp2_with fail
        go_ret
        exact ⟨rfl, (KB5.out.trans (HB.out.mono KB5.out.size)).trans (st.mono (KB5.out.trans (HB.out.mono KB5.out.size)).size)⟩
      have d4 : decide ((s : Int) < (N : Int)) = true := decide_eq_true (by omega)
      have d5 : decide (s < N) = true := decide_eq_true sN
      have s9 : s < 1024 := by omega
      rename World => wo
      go_upto_region 25 with (first
        | (at_make; refine wpList_make_full _ rfl _ _ 23 rfl wo.heap.size 4 i0 (.bool false) 1 Try.underlying23 hi hz0 hz1 .i64 .i64 _ _ n rfl rfl (by omega) (by omega) (by rw [hz2]; omega) (by unfold maxLen; omega) (Nat.le_refl _) ?_; intro w7 hown0 hgrow0))
      rw [made_boolsR] at hown0
      have G0 := Lib.hid (BR.of hown0)
      have B6 := Lib.hid (show Below wo.heap.size wo w7 from (Below.refl _ _).grown hgrow0 (Nat.le_refl _) (fun k e => by cases e))
      obtain ⟨g2, hg⟩ : ∃ g, g = wo.heap.size := ⟨_, rfl⟩
      rw [← hg] at G0 ⊢
      have HG2 := Lib.hid hg
      obtain ⟨F, hF⟩ : ∃ F : Nat → Bool, F = setF s := ⟨_, rfl⟩
      have HF := Lib.hid (show ∀ j, setF s j = F j from fun j => by rw [hF])
      clear hown0 hgrow0 hg hF d3 d4 d5 wN sN N10
      go_wp2_with fail
      go_loopw [10, 14] (fun cv iv wr => ∃ i : Nat, i ≤ n ∧ iv = .int .i64 i ∧ cv = .int .i64 (cntT F i : Nat) ∧ Hid (BR wr g2 n (fun j => decide (j < i) && F j)) ∧ Hid (Below wo.heap.size wo wr)) (fun _ iv _ => n - (intOf iv).toNat)
      case atStart => exact ⟨0, Nat.zero_le _, rfl, rfl, Lib.hid (G0.out.ext fun j _ => by simp), B6⟩
      case round =>
        clear G0 B6
        obtain ⟨i, hi', rfl, rfl, GB, HB2⟩ := hrel
        by_cases t1 : i < n
        · have i1 : (0 : Int) ≤ (i : Int) := by omega
          have i2 : (i : Int) < (n : Int) := by omega
          have cg := GB.out.cell t1
          have fg := GB.out.frozen i
          have cb := cntT_le F i
          rw [show (decide (i < i) && F i) = false from by simp] at cg
          have tf : (((s : Int) / 2 ^ i).tmod 2 == 1) = F i := HF.out i
          have CS := Lib.hid (show ((cntT F (i + 1) : Nat) : Int) = (cntT F i : Nat) + ((F i).toNat : Nat) from by unfold cntT; cases i <;> simp [cntT])
          have GS := Lib.hid (show BR (wr.setCell ⟨g2, i, none⟩ (.bool (F i))) g2 n (fun j => decide (j < i + 1) && F j) from (GB.out.set i (F i)).ext fun j hj => by
            unfold updb
            by_cases e : j = i
            · subst e; rw [if_pos rfl]; simp
            · rw [if_neg e]
              show (decide (j < i) && F j) = (decide (j < i + 1) && F j)
              rw [show decide (j < i) = decide (j < i + 1) from by simp; omega])
          have BS := Lib.hid (show Below wo.heap.size wo (wr.setCell ⟨g2, i, none⟩ (.bool (F i))) from HB2.out.setCell (by show wo.heap.size ≤ g2; rw [HG2.out]; exact Nat.le_refl _) _)
          clear GB HB2
          go_upto_region 30 with fail
          clear cg fg tf
          generalize wr.setCell ⟨g2, i, none⟩ (.bool (F i)) = w8 at *
          have cg := GS.out.cell t1
          rw [show (decide (i < i + 1) && F i) = F i from by simp] at cg
          generalize cntT F i = C2 at *
          have wC : IntKind.i64.wrap ((C2 : Int) + 1) = (C2 : Int) + 1 := wI rfl (by omega) (by omega)
          cases hb : F i with
          | true =>
            rw [hb] at cg
            have CS2 := Lib.hid (show ((cntT F (i + 1) : Nat) : Int) = (C2 : Int) + 1 from by rw [CS.out, hb]; rfl)
            clear hb CS
            go_wp2_with fail
            go_roundw
            case rel => exact ⟨i + 1, by omega, by go_num, by rw [CS2.out], GS, BS⟩
            case measure => simp [intOf]; omega
          | false =>
            rw [hb] at cg
            have CS2 := Lib.hid (show ((cntT F (i + 1) : Nat) : Int) = (C2 : Int) from by rw [CS.out, hb]; simp)
            clear hb CS
            go_wp2_with fail
            go_roundw
            case rel => exact ⟨i + 1, by omega, by go_num, by rw [CS2.out], GS, BS⟩
            case measure => simp [intOf]; omega
        obtain rfl : i = n := by omega
        have GE := Lib.hid (show BR wr g2 i F from GB.out.ext fun j hj => by simp [hj])
        have HB3 := Lib.hid (HB.out.trans (HB2.out.mono HB.out.size))
        clear GB HB2 HB
        by_cases lt : K.length < cntT F i
        · have d2 : decide (K.length < cntT F i) = true := decide_eq_true lt
          have CH := Lib.hid (CHK.out _ g2 F GE.out HB3.out lt)
          generalize cntT F i = C2 at *
          clear CHK GE lt
          go_wp2_with fail
          refine CH.out.mono ?_
          rintro e w8 ⟨q8, d8, rfl, st8, E2⟩
          have E2 := Lib.hid E2
          have HB2 := Lib.hid (HB3.out.trans (st8.mono HB3.out.size))
          clear CH st8 HB3
          generalize byO D F i = U at *
          go_wp2_with fail
          refine E2.out.mono ?_
          rintro e w9 ⟨rfl, st9⟩
          have HB3 := Lib.hid (HB2.out.trans (st9.mono HB2.out.size))
          clear E2 st9 HB2
          go_wp2_with fail
          go_roundw
          case rel => exact ⟨s + 1, by omega, by go_num, HB3⟩
          case measure => simp [intOf]; omega
        · have d2 : decide (K.length < cntT F i) = false := decide_eq_false lt
          generalize cntT F i = C2 at *
          clear CHK GE
          go_wp2_with fail
          go_roundw
          case rel => exact ⟨s + 1, by omega, by go_num, HB3⟩
          case measure => simp [intOf]; omega
theorem pressMoore_walk (p : Option Addr) (c : Nat) (D : List (Int × Int)) (w : World) (r : DmpR w p D) (ln : D.length ≤ 9223372036854775807) (q : Option Addr) (d : Nat) (P : List Bool) (rq : BlR w q P) (lp : P.length ≤ 9223372036854775807) :
    Calls Try.prog 3 #[.slice p D.length c, .slice q P.length d] w fun e w' => e = .returned (.bool true) ∧ Below w.heap.size w w' := pressMoore_walk0 p c D q d P w r rq ln lp
end Go.Proofs.Ythbgeikdamajlab
