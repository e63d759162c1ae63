/- Classing tests: decide, NewTest, Feed (merged). -/
import Derived.Test.YtkhdpmicejmabaaVA1
import Derived.Test.YtkhdpmicejmabaaShelf
/- Classing's tests: decide. -/
namespace Go.Proofs.Ytkhdpmicejmabaa
open Go.RowKit Go.Proofs.Ytkhdpmicejmabaa.Ct Go.Proofs.Ytkhdpmicejmabaa.Stb
set_option linter.unusedVariables false
set_option linter.unusedSimpArgs false

/-- The sorted window is the list of what is used. -/
theorem win_usd {n a z : Nat} {O : List Int} (hO : IsO n O) (haz : a + z ≤ n) {f h : Nat → Int} (hf : ∀ k, k < n → f k = gi O k) (P : Pm a (a + z) f h) (R : Srt (fun x y : Int => x < y) a (a + z) h) :
    (List.range z).map (fun k => h (a + k)) = usd O a z n := by
  apply sorted_ext
  · rw [List.pairwise_map]
    refine List.Pairwise.imp_of_mem (R := (· < ·)) ?_ List.pairwise_lt_range
    intro i j hi hj ij
    rw [List.mem_range] at hi hj
    exact R (a + i) (a + j) (by omega) (by omega) (by omega)
  · exact usd_srt O a z n
  · intro x
    rw [usd_mem, List.mem_map]
    constructor
    · rintro ⟨k, hk, rfl⟩
      rw [List.mem_range] at hk
      obtain ⟨j, j1, j2, e⟩ := P.src (k := a + k) (by omega) (by omega)
      have o := hO.2.1 j (by omega)
      rw [e, hf j (by omega)]
      exact ⟨o.1, o.2, j - a, by omega, by rw [show a + (j - a) = j by omega]⟩
    · rintro ⟨h1, h2, i, hi, e⟩
      obtain ⟨s, t, ts, st, o1, o2, e2⟩ := P
      -- where a + i went
      have k0 : a ≤ t (a + i) ∧ t (a + i) < a + z := by
        apply Classical.byContradiction
        intro c
        have c : t (a + i) < a ∨ a + z ≤ t (a + i) := by omega
        have := o1 (t (a + i)) c
        rw [st] at this
        omega
      refine ⟨t (a + i) - a, by rw [List.mem_range]; omega, ?_⟩
      rw [show a + (t (a + i) - a) = t (a + i) by omega, e2, st, hf _ (by omega), e]
/-- A spread in the order's row. -/
theorem spr_any (b n g : Nat) (S : Nat → Sb) (G : Ct.Good S) (n8 : n ≤ 8) (z c i : Nat) (w w1 : World) (hs : SubsAt w b n S) (r : SW g n n w1 w (gi (ordB S n))) (hz : 1 ≤ z) (hi : i + z ≤ n) :
    Calls Try.prog 38 #[.pointer (some ⟨b, 0, none⟩), .slice (some ⟨g, i, none⟩) z c] w fun e w' => e = .returned (.agg #[.int .i64 (ov S (ordB S n) z i), .int .i64 (un S (ordB S n) z i)]) ∧ Below w.heap.size w w' := by
  have o := ordB_ord G n
  have := spread_any b n S G n8 (some ⟨g, i, none⟩) z c (fun k => gi (ordB S n) (i + k)) w hs (fun k hk => ⟨_, rfl, r.lt (by omega), by rw [addK]; exact r.cell (by omega)⟩) hz (by omega) (fun k hk => o.2.1 _ (by omega))
  have e : i + (z - 1) = i + z - 1 := by omega
  rw [e, Nat.add_zero] at this
  exact this
/-- What decide leaves. -/
def DcQ (b lo : Nat) (tol : Int) (n : Nat) (S : Nat → Sb) (w : World) (e : Ending) (w' : World) : Prop := e = .returned (.tuple #[]) ∧ TA w' b lo tol (dec tol n S) ∧ Fm (fun k => k = b) w w'
/-- A test whose numbers have changed. -/
theorem TC.change {c : Nat → Value} {tol : Int} {t : Tst} {q : Option Addr} {m d : Nat} (k : TC c tol t q m d) (n8 : t.n ≤ 8) (t' : Tst) (hn : t'.n = t.n) (hS : t'.S = t.S) (q' : Option Addr) (m' d' : Nat) :
    TC (updV (updV c 43 (.int .i64 t'.st)) 44 (.slice q' m' d')) tol t' q' m' d' := by
  have u : ∀ i, i ≠ 43 → i ≠ 44 → updV (updV c 43 (.int .i64 t'.st)) 44 (.slice q' m' d') i = c i := fun i h1 h2 => by unfold updV; rw [if_neg h2, if_neg h1]
  refine ⟨by rw [u 0 (by omega) (by omega)]; exact k.made, by rw [u 1 (by omega) (by omega)]; exact k.tol, by rw [u 2 (by omega) (by omega), hn]; exact k.n, fun i hi => ?_, ?_, ?_⟩
  · rw [hn] at hi
    rw [hS, u _ (by omega) (by omega), u _ (by omega) (by omega), u _ (by omega) (by omega), u _ (by omega) (by omega), u _ (by omega) (by omega)]
    exact k.subs i hi
  · unfold updV; rw [if_neg (by decide), if_pos rfl]
  · unfold updV; rw [if_pos rfl]

set_option maxRecDepth 100000 in
set_option maxHeartbeats 8000000 in
theorem decide_any (b lo : Nat) (tol : Int) (n : Nat) (S : Nat → Sb) (w : World) (n8 : n ≤ 8) (G : Ct.Good S) (tl : 0 ≤ tol ∧ tol ≤ 10000)
    (h : ∃ c q d, OB w b 61 45 c ∧ TC c tol ⟨n, S, 0, []⟩ q 0 d ∧ (∀ x, q = some x → (x.block ≠ b ∧ lo ≤ x.block) ∧ x = ⟨x.block, x.off, none⟩) ∧ q = none) (hlo : lo ≤ w.heap.size) (ev : n % 2 = 0) (n2 : 2 ≤ n) :
    Calls Try.prog 21 #[.pointer (some ⟨b, 0, none⟩)] w (DcQ b lo tol n S w) := by
  obtain ⟨c, q, d, o, k, qb, qn⟩ := h
  have hs : SubsAt w b n S := fun i hi => k.sb o n8 i hi
  have c1 := (o.cell (k := 1) (by omega)).trans (by rw [k.tol])
  have c2 : w.cell? ⟨b, 2, none⟩ = some (.int .i64 (n : Int)) := (o.cell (k := 2) (by omega)).trans (by rw [k.n])
  have OK := Lib.hid (show OB w b 61 45 c ∧ TC c tol ⟨n, S, 0, []⟩ q 0 d from ⟨o, k⟩)
  have CB := Lib.hid (byBase_any b n S G n8 w hs o.lt c2)
  have HS := Lib.hid hs
  have c2h := Lib.hid c2
  obtain ⟨z, hz⟩ : ∃ z, z = n / 2 + 1 := ⟨_, rfl⟩
  have ez : IntKind.i64.wrap ((n : Int) / 2 + 1) = (z : Int) := by rw [hwI (by omega) (by omega)]; omega
  have HZ := Lib.hid hz
  have zn : z ≤ n := by omega
  have z1 : 1 ≤ z := by omega
  have CSP := Lib.hid (fun (g c i : Nat) (W w1 : World) (st : Below w.heap.size w W) (r : SW g n n w1 W (gi (ordB S n))) (hi : i + z ≤ n) => spr_any b n g S G n8 z c i W w1 (hs.below st) r z1 hi)
  clear o k hs hz
  go_enter Try.func21, Try.ntmps21
  go_wp2_with fail
  refine CB.out.mono ?_
  rintro e w1 ⟨g, rfl, hg, R1, st1⟩
  have c2 := cellGr st1 c2
  go_wp2_with fail
  have OL := Lib.hid (ordB_len S n)
  have OO := Lib.hid (ordB_ord G n)
  generalize hO : ordB S n = O at *
  have HO := Lib.hid hO
  have ST1 := Lib.hid st1
  clear hO st1
  have zc : z ≤ 5 := by have := HZ.out; omega
  go_loopw [4, 5] (fun bv iv wr => ∃ i a : Nat, 1 ≤ i ∧ i + z ≤ n + 1 ∧ a + z ≤ n ∧ iv = .int .i64 i ∧ bv = .slice (some ⟨g, a, none⟩) z (n - a) ∧ Hid (a = bw S O z (i - 1)) ∧ Hid (Below w.heap.size w wr) ∧ Hid (SW g n n wr wr (gi O))) (fun _ iv _ => n - (intOf iv).toNat)
  case atStart => exact ⟨1, 0, Nat.le_refl _, by omega, by omega, rfl, rfl, Lib.hid rfl, ST1, Lib.hid R1⟩
  case round =>
    obtain ⟨i, a, i1, iz, az, rfl, rfl, HA, HB, HR⟩ := hrel
    clear R1 ST1 c2
    have c2 := cellGr HB.out c2h.out
    by_cases t1 : i + z ≤ n
    · have t2 : decide ((i : Int) + (z : Int) ≤ (n : Int)) = true := decide_eq_true (by omega)
      have w1' : IntKind.i64.wrap ((i : Int) + (z : Int)) = (i : Int) + (z : Int) := hwI (by omega) (by omega)
      have t3 : i ≤ i + z := by omega
      have CI := Lib.hid (fun W (st : Below wr.heap.size wr W) => CSP.out g (n - i) i W W (HB.out.trans (st.mono HB.out.size)) ⟨(HR.out.call st).row, Nat.le_refl _, fun _ _ _ => rfl, rfl, rfl, rfl⟩ t1)
      have CA := Lib.hid (fun W (st : Below wr.heap.size wr W) => CSP.out g (n - a) a W W (HB.out.trans (st.mono HB.out.size)) ⟨(HR.out.call st).row, Nat.le_refl _, fun _ _ _ => rfl, rfl, rfl, rfl⟩ az)
      have e1 : i + z - i = z := by omega
      have DD := Lib.hid (fun W => compare_any (ov S O z i) (un S O z i) (ov S O z a) (un S O z a) (by
        have x := bl_bd G (gi O (i + z - 1)) (gi O i)
        have y := un_bd G O z a
        have := pr_bd (x := ov S O z i) (y := un S O z a) x.1 x.2 (by omega) (by omega)
        omega) (by
        have x := bl_bd G (gi O (a + z - 1)) (gi O a)
        have y := un_bd G O z i
        have := pr_bd (x := ov S O z a) (y := un S O z i) x.1 x.2 (by omega) (by omega)
        omega) W)
      have LT := Lib.hid (cmpV_lt (ov S O z i * un S O z a) (ov S O z a * un S O z i))
      have NX := Lib.hid (show bw S O z i = if ov S O z i * un S O z a < ov S O z a * un S O z i then i else a from by
        obtain ⟨j, rfl⟩ : ∃ j, i = j + 1 := ⟨i - 1, by omega⟩
        rw [HA.out]
        rfl)
      generalize ov S O z i * un S O z a = X at *
      generalize ov S O z a * un S O z i = Y at *
      generalize ov S O z i = o1 at *
      generalize ov S O z a = o2 at *
      generalize un S O z i = d1 at *
      generalize un S O z a = d2 at *
      generalize cmpV X Y = cv at *
      go_wp2_with fail
      rw [e1]
      refine (CI.out _ (Below.refl _ _)).mono ?_
      rintro e w2 ⟨rfl, sa⟩
      go_wp2_with fail
      refine (CA.out _ sa).mono ?_
      rintro e w3 ⟨rfl, sb⟩
      have sb := sa.trans (sb.mono sa.size)
      go_wp2_with fail
      refine (DD.out _).mono ?_
      rintro e w4 ⟨rfl, sc⟩
      have sc := sb.trans (sc.mono sb.size)
      have HB2 := Lib.hid (HB.out.trans (sc.mono HB.out.size))
      have HR2 := Lib.hid (show SW g n n w4 w4 (gi O) from ⟨(HR.out.call sc).row, Nat.le_refl _, fun _ _ _ => rfl, rfl, rfl, rfl⟩)
      by_cases lt : cv < 0
      · have lt2 : decide (cv < 0) = true := decide_eq_true lt
        have NX := Lib.hid (show i = bw S O z (i + 1 - 1) from by rw [show i + 1 - 1 = i by omega, NX.out, if_pos (LT.out.1 lt)])
        clear HB HR CI CA DD LT sa sb sc c2 HA lt
        go_wp2_with fail
        go_roundw
        case rel => exact ⟨i + 1, i, by omega, by omega, t1, by go_num, rfl, NX, HB2, HR2⟩
        case measure => simp [intOf]; omega
      · have lt2 : decide (cv < 0) = false := decide_eq_false lt
        have NX := Lib.hid (show a = bw S O z (i + 1 - 1) from by rw [show i + 1 - 1 = i by omega, NX.out, if_neg (fun h => lt (LT.out.2 h))])
        clear HB HR CI CA DD LT sa sb sc c2 HA lt
        go_wp2_with fail
        go_roundw
        case rel => exact ⟨i + 1, a, by omega, by omega, az, by go_num, rfl, NX, HB2, HR2⟩
        case measure => simp [intOf]; omega
    · have t2 : decide ((i : Int) + (z : Int) ≤ (n : Int)) = false := decide_eq_false (by omega)
      have w1' : IntKind.i64.wrap ((i : Int) + (z : Int)) = (i : Int) + (z : Int) := hwI (by omega) (by omega)
      have AT := Lib.hid (show a = at' n S from by
        rw [HA.out]
        unfold at'
        rw [HO.out]
        have hz := HZ.out
        rw [show zs n = z from hz.symm, show i - 1 = n - z by omega])
      clear HA t1
      have CA := Lib.hid (fun W (st : Below wr.heap.size wr W) => CSP.out g (n - a) a W W (HB.out.trans (st.mono HB.out.size)) ⟨(HR.out.call st).row, Nat.le_refl _, fun _ _ _ => rfl, rfl, rfl, rfl⟩ az)
      have DD := Lib.hid (fun W => compare_any (ov S O z a) (un S O z a) tol 10000 (by
        have x := bl_bd G (gi O (a + z - 1)) (gi O a)
        have := pr_bd (x := ov S O z a) (y := 10000) x.1 x.2 (by omega) (by omega)
        omega) (by
        have y := un_bd G O z a
        have := pr_bd (x := tol) (y := un S O z a) (by omega) (by omega) (by omega) (by omega)
        omega) W)
      have LE := Lib.hid (show cmpV (ov S O z a * 10000) (tol * un S O z a) ≤ 0 ↔ fits tol n S from by
        rw [cmpV_le]
        unfold fits
        rw [HO.out, ← AT.out, show zs n = z from HZ.out.symm])
      have ct := cellGr HB.out c1
      generalize cmpV (ov S O z a * 10000) (tol * un S O z a) = cv at *
      generalize ov S O z a = o2 at *
      generalize un S O z a = d2 at *
      by_cases ft : fits tol n S
      · have lt2 : decide (cv ≤ 0) = true := decide_eq_true (LE.out.2 ft)
        go_wp2_with fail
        go_region_held3 (fun w' => w'.cell? ⟨b, 1, none⟩ = some (.int .i64 tol)) (first | exact ct | exact cellDr ct) (first
          | ((go_at_call 38; (first | (with_reducible refine (CA.out _ (Below.refl _ _)).mono ?_) | (with_reducible refine (CA.out _ (Below.refl _ _).drew).mono ?_)); rintro e w2 ⟨rfl, q⟩; have st : Below wr.heap.size wr w2 := (by first | exact q | exact (Below.refl _ _).drew.trans q); have ct := cellGr st ct; have ST := Lib.hid st; clear q st))
          | ((go_at_call 39; (with_reducible refine (DD.out _).mono ?_); rintro e w4 ⟨rfl, q⟩; have st : Below w2.heap.size w2 w4 := (by first | exact q | exact (Below.refl _ _).drew.trans q); have ct := cellGr st ct; have ST := Lib.hid (ST.out.trans (st.mono ST.out.size)); clear q st)))
        have HB := Lib.hid (HB.out.trans (ST.out.mono HB.out.size))
        have HR := Lib.hid (show SW g n n w4 w4 (gi O) from ⟨(HR.out.call ST.out).row, Nat.le_refl _, fun _ _ _ => rfl, rfl, rfl, rfl⟩)
        have OB4 := Lib.hid (OK.out.1.below HB.out)
        have FB := Lib.hid (Fm.call (M := fun k => k = b) HB.out)
        have gb := Lib.hid (show g ≠ b from by have := OK.out.1.lt; omega)
        clear CA DD CSP ct c1 c2 ST
        generalize w4 = w5 at *
        have DE := Lib.hid (show dec tol n S = ⟨n, S, 1, usd O a z n⟩ from by unfold dec; rw [if_pos ft, HO.out, ← AT.out, show zs n = z from HZ.out.symm])
        have c43 := OB4.out.cell (k := 43) (by omega)
        have c44 := OB4.out.cell (k := 44) (by omega)
        have f43 := OB4.out.frozen 43
        have f44 := OB4.out.frozen 44
        have OB5 := Lib.hid ((OB4.out.set 43 (.int .i64 1)).set 44 (.slice (some ⟨g, a, none⟩) z (n - a)))
        have c44' := OB5.out.cell (k := 44) (by omega)
        rw [show updV (updV c 43 (.int .i64 1)) 44 (.slice (some ⟨g, a, none⟩) z (n - a)) 44 = .slice (some ⟨g, a, none⟩) z (n - a) from by unfold updV; rw [if_pos rfl]] at c44'
        have FM := Lib.hid (FB.out.trans ((Fm.set (M := fun k => k = b) (w := w5) ⟨b, 43, none⟩ (.int .i64 1) rfl).trans (Fm.set (M := fun k => k = b) ⟨b, 44, none⟩ (.slice (some ⟨g, a, none⟩) z (n - a)) rfl)))
        have KK := Lib.hid (show (((w5.setCell ⟨b, 43, none⟩ (.int .i64 1)).setCell ⟨b, 44, none⟩ (.slice (some ⟨g, a, none⟩) z (n - a))).heap[g]? = w5.heap[g]?) from by rw [Below.heap_setCell _ _ _ _ gb.out, Below.heap_setCell _ _ _ _ gb.out])
        have SW5 := Lib.hid (show SW g n n ((w5.setCell ⟨b, 43, none⟩ (.int .i64 1)).setCell ⟨b, 44, none⟩ (.slice (some ⟨g, a, none⟩) z (n - a))) ((w5.setCell ⟨b, 43, none⟩ (.int .i64 1)).setCell ⟨b, 44, none⟩ (.slice (some ⟨g, a, none⟩) z (n - a))) (fun k => if k < n then gi O k else k) from by
          refine SW.ext (f := gi O) ⟨?_, Nat.le_refl _, fun _ _ _ => rfl, rfl, rfl, rfl⟩ (fun k hk => by rw [if_pos hk])
          have r := HR.out.row
          refine ⟨r.1, ?_⟩
          rcases r.2 with h0 | ⟨g', cap, cur, e1, hb, hg', r'⟩
          · exact .inl h0
          · cases e1
            exact .inr ⟨g, _, cur, rfl, hb, by rw [KK.out]; exact hg', r'⟩)
        have CS := Lib.hid (sort_any g n n a z (n - a) (fun k => if k < n then gi O k else k) _ _ SW5.out az (by omega) (fun i j e => by
          have e : (if i < n then gi O i else (i : Int)) = (if j < n then gi O j else (j : Int)) := e
          have oo := OO.out
          by_cases ci : i < n <;> by_cases cj : j < n
          · rw [if_pos ci, if_pos cj] at e; exact oo.inj ci cj e
          · rw [if_pos ci, if_neg cj] at e; have := oo.2.1 i ci; omega
          · rw [if_neg ci, if_pos cj] at e; have := oo.2.1 j cj; omega
          · rw [if_neg ci, if_neg cj] at e; omega) (by have := HZ.out; omega))
        clear LE ft OB4 FB KK SW5 HR HB
        go_wp2_with fail
        generalize ((w5.setCell ⟨b, 43, none⟩ (.int .i64 1)).setCell ⟨b, 44, none⟩ (.slice (some ⟨g, a, none⟩) z (n - a))) = w6 at *
        refine CS.out.mono ?_
        rintro e w7 ⟨rfl, h, S1, P1, R1⟩
        have WU := win_usd (h := h) OO.out az (f := fun k => if k < n then gi O k else k) (fun k hk => if_pos hk) P1 R1
        have Q := Lib.hid (show DcQ b lo tol n S w (.returned (.tuple #[])) w7 from by
          refine ⟨rfl, ?_, ?_⟩
          · rw [DE.out]
            have lz : (usd O a z n).length = z := usd_len OO.out az
            refine ⟨by rw [← DE.out]; exact dec_ok G ev (by omega) n8, tl, _, some ⟨g, a, none⟩, n - a, OB5.out.keep (S1.bl b (fun e => gb.out e.symm) OB5.out.lt), by
              dsimp only
              rw [lz]
              exact OK.out.2.change n8 ⟨n, S, 1, usd O a z n⟩ rfl rfl _ _ _, ?_, fun x e => by cases e; exact ⟨⟨gb.out, Nat.le_trans hlo hg⟩, rfl⟩, fun h => by
              have h : usd O a z n = [] := h
              rw [h] at lz; simp at lz; omega⟩
            intro k hk
            dsimp only at hk ⊢
            rw [lz] at hk
            refine ⟨_, rfl, S1.lt (by omega), ?_⟩
            rw [addK, S1.cell (by omega), ← WU]
            rw [gi_map hk]
          · refine ⟨S1.os.trans FM.out.os, S1.tp.trans FM.out.tape, S1.ou.trans FM.out.output, Nat.le_trans FM.out.size S1.sz, fun k hk hm => ?_⟩
            exact (S1.bl k (by omega) (Nat.lt_of_lt_of_le hk FM.out.size)).trans (FM.out.block k hk hm))
        clear CS S1 P1 R1 WU OB5 FM
        go_wp2_with fail
        go_end0
        exact Q.out
      · have lt2 : decide (cv ≤ 0) = false := decide_eq_false (fun h => ft (LE.out.1 h))
        go_wp2_with fail
        go_region_held3 (fun w' => w'.cell? ⟨b, 1, none⟩ = some (.int .i64 tol)) (first | exact ct | exact cellDr ct) (first
          | ((go_at_call 38; (first | (with_reducible refine (CA.out _ (Below.refl _ _)).mono ?_) | (with_reducible refine (CA.out _ (Below.refl _ _).drew).mono ?_)); rintro e w2 ⟨rfl, q⟩; have st : Below wr.heap.size wr w2 := (by first | exact q | exact (Below.refl _ _).drew.trans q); have ct := cellGr st ct; have ST := Lib.hid st; clear q st))
          | ((go_at_call 39; (with_reducible refine (DD.out _).mono ?_); rintro e w4 ⟨rfl, q⟩; have st : Below w2.heap.size w2 w4 := (by first | exact q | exact (Below.refl _ _).drew.trans q); have ct := cellGr st ct; have ST := Lib.hid (ST.out.trans (st.mono ST.out.size)); clear q st)))
        have HB := Lib.hid (HB.out.trans (ST.out.mono HB.out.size))
        have HR := Lib.hid (show SW g n n w4 w4 (gi O) from ⟨(HR.out.call ST.out).row, Nat.le_refl _, fun _ _ _ => rfl, rfl, rfl, rfl⟩)
        have OB4 := Lib.hid (OK.out.1.below HB.out)
        have FB := Lib.hid (Fm.call (M := fun k => k = b) HB.out)
        have gb := Lib.hid (show g ≠ b from by have := OK.out.1.lt; omega)
        clear CA DD CSP ct c1 c2 ST
        generalize w4 = w5 at *
        have c2 := OB4.out.cell (k := 2) (by omega)
        rw [OK.out.2.n] at c2
        by_cases e8 : n = 8
        · have e8' : ((n : Int) == 8) = true := by simp; omega
          have DE := Lib.hid (show dec tol n S = ⟨n, S, 2, []⟩ from by unfold dec; rw [if_neg ft, if_pos (by omega)])
          have c43 := OB4.out.cell (k := 43) (by omega)
          have f43 := OB4.out.frozen 43
          have Q := Lib.hid (show DcQ b lo tol n S w (.returned (.tuple #[])) (w5.setCell ⟨b, 43, none⟩ (.int .i64 2)) from by
            have k := OK.out.2
            refine ⟨rfl, ?_, FB.out.trans (Fm.set ⟨b, 43, none⟩ (.int .i64 2) rfl)⟩
            rw [DE.out]
            refine ⟨by rw [← DE.out]; exact dec_ok G ev (by omega) n8, tl, _, q, d, (OB4.out.set 43 (.int .i64 2)).ext (c' := updV (updV c 43 (.int .i64 2)) 44 (.slice q 0 d)) (fun k' hk' => by
              have u := k.used
              unfold updV
              by_cases e : k' = 44
              · subst e; simp; exact u
              · rw [if_neg e]), k.change n8 ⟨n, S, 2, []⟩ rfl rfl _ _ _, fun k hk => by simp at hk, qb, fun _ => qn⟩)
          clear LE ft OB4 FB HR HB e8
          go_wp2_with fail
          go_end0
          exact Q.out
        · have e8' : ((n : Int) == 8) = false := by simp; omega
          have DE := Lib.hid (show dec tol n S = ⟨n, S, 0, []⟩ from by unfold dec; rw [if_neg ft, if_neg (by omega)])
          have Q := Lib.hid (show DcQ b lo tol n S w (.returned (.tuple #[])) w5 from ⟨rfl, by rw [DE.out]; exact ⟨by rw [← DE.out]; exact dec_ok G ev (by omega) n8, tl, c, q, d, OB4.out, OK.out.2, fun k hk => by simp at hk, qb, fun _ => qn⟩, FB.out⟩)
          clear LE ft OB4 FB HR HB
          go_wp2_with fail
          go_end0
          exact Q.out
end Go.Proofs.Ytkhdpmicejmabaa

/- Classing's tests: NewTest, Feed. -/
namespace Go.Proofs.Ytkhdpmicejmabaa
open Go.RowKit Go.Proofs.Ytkhdpmicejmabaa.Ct Go.Proofs.Ytkhdpmicejmabaa.Stb
set_option linter.unusedVariables false
set_option linter.unusedSimpArgs false

def tst0 : Tst := ⟨0, fun _ => default, 0, []⟩
/-- What NewTest answers. -/
def NwQ (tol : Int) (w : World) (e : Ending) (w' : World) : Prop := Below w.heap.size w w' ∧ ((¬ (0 ≤ tol ∧ tol ≤ 10000) ∧ e = .returned (.tuple #[.pointer none, .int .i64 2])) ∨ (0 ≤ tol ∧ tol ≤ 10000 ∧ ∃ b, w.heap.size ≤ b ∧ e = .returned (.tuple #[.pointer (some ⟨b, 0, none⟩), .int .i64 0]) ∧ ∀ lo, TA w' b lo tol tst0))
def newC (tol : Int) (k : Nat) : Value := if k = 0 then .bool true else if k = 1 then .int .i64 tol else if k = 44 then .slice none 0 0 else .int .i64 0
theorem newC_ok (tol : Int) : TC (newC tol) tol tst0 none 0 0 := ⟨rfl, rfl, rfl, fun k hk => absurd hk (Nat.not_lt_zero k), rfl, rfl⟩

set_option maxRecDepth 100000 in
set_option maxHeartbeats 4000000 in
theorem NewTest_any (tol : Int) (w : World) : Calls Try.prog 6 #[.int .i64 tol] w (NwQ tol w) := by
  by_cases h1 : tol < 0
  · have d1 : decide (tol < 0) = true := decide_eq_true h1
    have Q := Lib.hid (show NwQ tol w (.returned (.tuple #[.pointer none, .int .i64 2])) w from ⟨Below.refl _ _, .inl ⟨by omega, rfl⟩⟩)
    clear h1
    go_enter Try.func6, Try.ntmps6
    go_wp2_with fail
    go_returns
    exact Q.out
  · have d1 : decide (tol < 0) = false := decide_eq_false h1
    by_cases h2 : 10000 < tol
    · have d2 : decide (10000 < tol) = true := decide_eq_true h2
      have Q := Lib.hid (show NwQ tol w (.returned (.tuple #[.pointer none, .int .i64 2])) w from ⟨Below.refl _ _, .inl ⟨by omega, rfl⟩⟩)
      clear h1 h2
      go_enter Try.func6, Try.ntmps6
      go_wp2_with fail
      go_returns
      exact Q.out
    · have d2 : decide (10000 < tol) = false := decide_eq_false h2
      have Q := Lib.hid (show NwQ tol w (.returned (.tuple #[.pointer (some ⟨w.heap.size, 0, none⟩), .int .i64 0])) (w.alloc (Obj.cells ((List.range 45).map (newC tol)).toArray 61)) from
        ⟨(Below.refl _ _).alloc (Nat.le_refl _) _, .inr ⟨by omega, by omega, _, Nat.le_refl _, rfl, fun lo => ⟨Tst.ok.zero, ⟨by omega, by omega⟩, newC tol, none, 0, heap_alloc_new _ _, newC_ok tol, fun i hi => absurd hi (Nat.not_lt_zero i), fun x e => (by cases e), fun _ => rfl⟩⟩⟩)
      clear h1 h2
      go_enter Try.func6, Try.ntmps6
      go_wp2_with fail
      go_returns
      exact Q.out
end Go.Proofs.Ytkhdpmicejmabaa

/- Classing's tests: Feed. -/
namespace Go.Proofs.Ytkhdpmicejmabaa
open Go.RowKit Go.Proofs.Ytkhdpmicejmabaa.Ct Go.Proofs.Ytkhdpmicejmabaa.Stb
set_option linter.unusedVariables false
set_option linter.unusedSimpArgs false

/-- What Feed leaves. -/
def FdQ (b lo : Nat) (tol : Int) (t : Tst) (s : Sb) (w : World) (e : Ending) (w' : World) : Prop := e = .returned (.int .i64 (fde t s)) ∧ TA w' b lo tol (fds tol t s) ∧ Fm (fun k => k = b) w w'
def put5 (c : Nat → Value) (o : Nat) (s : Sb) : Nat → Value := updV (updV (updV (updV (updV c o (.int .i64 s.raw)) (o + 1) (.int .i64 s.dry)) (o + 2) (.int .i64 s.ash)) (o + 3) (.int .i64 s.gre)) (o + 4) (.int .i64 s.veg)
theorem put5_ne {c : Nat → Value} {o k : Nat} {s : Sb} (h : k < o ∨ o + 5 ≤ k) : put5 c o s k = c k := by
  unfold put5 updV
  rw [if_neg (by omega), if_neg (by omega), if_neg (by omega), if_neg (by omega), if_neg (by omega)]
theorem put5_at (c : Nat → Value) (o : Nat) (s : Sb) : put5 c o s o = .int .i64 s.raw ∧ put5 c o s (o + 1) = .int .i64 s.dry ∧ put5 c o s (o + 2) = .int .i64 s.ash ∧ put5 c o s (o + 3) = .int .i64 s.gre ∧ put5 c o s (o + 4) = .int .i64 s.veg := by
  unfold put5 updV
  refine ⟨?_, ?_, ?_, ?_, ?_⟩
  · rw [if_neg (by omega), if_neg (by omega), if_neg (by omega), if_neg (by omega), if_pos rfl]
  · rw [if_neg (by omega), if_neg (by omega), if_neg (by omega), if_pos rfl]
  · rw [if_neg (by omega), if_neg (by omega), if_pos rfl]
  · rw [if_neg (by omega), if_pos rfl]
  · rw [if_pos rfl]
theorem TC.feed {c : Nat → Value} {tol : Int} {n : Nat} {S : Nat → Sb} {q : Option Addr} {d : Nat} (k : TC c tol ⟨n, S, 0, []⟩ q 0 d) (n8 : n < 8) (s : Sb) :
    TC (updV (put5 c (3 + n * 5) s) 2 (.int .i64 ((n + 1 : Nat) : Int))) tol ⟨n + 1, pts S n s, 0, []⟩ q 0 d := by
  have u : ∀ i, i ≠ 2 → updV (put5 c (3 + n * 5) s) 2 (.int .i64 ((n + 1 : Nat) : Int)) i = put5 c (3 + n * 5) s i := fun i h => by unfold updV; rw [if_neg h]
  refine ⟨by rw [u 0 (by decide), put5_ne (by omega)]; exact k.made, by rw [u 1 (by decide), put5_ne (by omega)]; exact k.tol, by unfold updV; rw [if_pos rfl], fun i hi => ?_, by rw [u 43 (by decide), put5_ne (by omega)]; exact k.st, by rw [u 44 (by decide), put5_ne (by omega)]; exact k.used⟩
  have hi : i < n + 1 := hi
  rw [u _ (by omega), u _ (by omega), u _ (by omega), u _ (by omega), u _ (by omega)]
  by_cases e : i = n
  · subst e
    have : (pts S i s) i = s := by unfold pts; rw [if_pos rfl]
    show _ = Value.int .i64 (pts S i s i).raw ∧ _ = Value.int .i64 (pts S i s i).dry ∧ _ = Value.int .i64 (pts S i s i).ash ∧ _ = Value.int .i64 (pts S i s i).gre ∧ _ = Value.int .i64 (pts S i s i).veg
    rw [this]
    exact put5_at c _ s
  · have : (pts S n s) i = S i := by unfold pts; rw [if_neg e]
    show _ = Value.int .i64 (pts S n s i).raw ∧ _ = Value.int .i64 (pts S n s i).dry ∧ _ = Value.int .i64 (pts S n s i).ash ∧ _ = Value.int .i64 (pts S n s i).gre ∧ _ = Value.int .i64 (pts S n s i).veg
    rw [this, put5_ne (by omega), put5_ne (by omega), put5_ne (by omega), put5_ne (by omega), put5_ne (by omega)]
    exact k.subs i (by show i < n; omega)

theorem five_ob {W : World} {b : Nat} {t : TypeId} {m : Nat} {c : Nat → Value} (o : Nat) (s : Sb) (h : OB W b t m c) : OB ((((((W.setCell ⟨b, o, none⟩ (.int .i64 s.raw)).setCell ⟨b, o + 1, none⟩ (.int .i64 s.dry)).setCell ⟨b, o + 2, none⟩ (.int .i64 s.ash)).setCell ⟨b, o + 3, none⟩ (.int .i64 s.gre)).setCell ⟨b, o + 4, none⟩ (.int .i64 s.veg)).drew) b t m (put5 c o s) := by
  have h1 := h.set o (.int .i64 s.raw)
  have h2 := h1.set (o + 1) (.int .i64 s.dry)
  have h3 := h2.set (o + 2) (.int .i64 s.ash)
  have h4 := h3.set (o + 3) (.int .i64 s.gre)
  have h5 := h4.set (o + 4) (.int .i64 s.veg)
  exact h5.below (Below.refl _ _).drew
theorem five_fm (W : World) (b o : Nat) (s : Sb) : Fm (fun k => k = b) W ((((((W.setCell ⟨b, o, none⟩ (.int .i64 s.raw)).setCell ⟨b, o + 1, none⟩ (.int .i64 s.dry)).setCell ⟨b, o + 2, none⟩ (.int .i64 s.ash)).setCell ⟨b, o + 3, none⟩ (.int .i64 s.gre)).setCell ⟨b, o + 4, none⟩ (.int .i64 s.veg)).drew) := by
  have h1 := Fm.set (M := fun k => k = b) (w := W) ⟨b, o, none⟩ (.int .i64 s.raw) rfl
  have h2 := h1.trans (Fm.set (M := fun k => k = b) ⟨b, o + 1, none⟩ (.int .i64 s.dry) rfl)
  have h3 := h2.trans (Fm.set (M := fun k => k = b) ⟨b, o + 2, none⟩ (.int .i64 s.ash) rfl)
  have h4 := h3.trans (Fm.set (M := fun k => k = b) ⟨b, o + 3, none⟩ (.int .i64 s.gre) rfl)
  have h5 := h4.trans (Fm.set (M := fun k => k = b) ⟨b, o + 4, none⟩ (.int .i64 s.veg) rfl)
  exact h5.trans (Fm.call (Below.refl _ _).drew)

set_option maxRecDepth 100000 in
set_option maxHeartbeats 8000000 in
theorem Feed_any (b lo : Nat) (tol : Int) (t : Tst) (s : Sb) (w : World) (h : TA w b lo tol t) (hlo : lo ≤ w.heap.size) :
    Calls Try.prog 8 #[.pointer (some ⟨b, 0, none⟩), sbV s] w (FdQ b lo tol t s w) := by
  have OKT := Lib.hid h.ok
  have TL := Lib.hid h.tl
  have TAW := Lib.hid (fun W (st : Below w.heap.size w W) => h.below st)
  obtain ⟨c, q, d, o, k, nr, qb⟩ := h.mem
  obtain ⟨s0, s1, s2, s3, s4, st⟩ := sbBox w s.raw s.dry s.ash s.gre s.veg
  have c0 := cellGr st ((o.cell (k := 0) (by omega)).trans (by rw [k.made]))
  have c43 := cellGr st ((o.cell (k := 43) (by omega)).trans (by rw [k.st]))
  have wb : w.heap.size ≠ b := by have := o.lt; omega
  have OK := Lib.hid (show OB (w.alloc (Obj.cells #[Value.int .i64 s.raw, Value.int .i64 s.dry, Value.int .i64 s.ash, Value.int .i64 s.gre, Value.int .i64 s.veg] 35)) b 61 45 c ∧ TC c tol t q t.U.length d ∧ NmR (w.alloc (Obj.cells #[Value.int .i64 s.raw, Value.int .i64 s.dry, Value.int .i64 s.ash, Value.int .i64 s.gre, Value.int .i64 s.veg] 35)) q t.U.length (gi t.U) ∧ (∀ x, q = some x → (x.block ≠ b ∧ lo ≤ x.block) ∧ x = ⟨x.block, x.off, none⟩) from ⟨o.below st, k, nr.below st, qb.1⟩)
  have QN := Lib.hid qb.2
  have ST := Lib.hid st
  have FE := Lib.hid (show fde t s = if t.st ≠ 0 then 10 else if s.ok = true then 0 else 2 from rfl)
  have FS := Lib.hid (show fds tol t s = if t.st ≠ 0 then t else if s.ok = true then (if (t.n + 1) % 2 = 1 then ⟨t.n + 1, pts t.S t.n s, 0, []⟩ else dec tol (t.n + 1) (pts t.S t.n s)) else t from rfl)
  have CI := Lib.hid (fun W => isSub_any s.raw s.dry s.ash s.gre s.veg W)
  have CT0 := Lib.hid (fun W (h : W.cell? ⟨b, 0, none⟩ = some (.bool true)) => isTest_any b W h)
  unfold sbV
  clear h o k nr qb st
  go_enter Try.func8, Try.ntmps8
  go_upto_region 1 with fail
  generalize (w.alloc (Obj.cells #[Value.int .i64 s.raw, Value.int .i64 s.dry, Value.int .i64 s.ash, Value.int .i64 s.gre, Value.int .i64 s.veg] 35)) = w1 at *
  by_cases z : t.st = 0
  case neg =>
    have z2 : (t.st == 0) = false := by simpa using z
    rw [if_pos z] at FE FS
    have FF := Lib.hid (show FdQ b lo tol t s w (.returned (.int .i64 10)) w1 from ⟨by rw [FE.out], by rw [FS.out]; exact TAW.out w1 ST.out, Fm.call ST.out⟩)
    clear z FE FS
    go_wp2_with fail
    refine (CT0.out _ c0).mono ?_
    rintro e w2 ⟨rfl, rfl⟩
    go_wp2_with fail
    go_ret
    exact FF.out
  rw [if_neg (by simp [z])] at FE FS
  rw [z] at c43
  by_cases ok : s.ok = true
  case neg =>
    have okf : subB s.raw s.dry s.ash s.gre s.veg = false := by
      cases hh : subB s.raw s.dry s.ash s.gre s.veg
      · rfl
      · exact absurd hh ok
    rw [if_neg ok] at FE FS
    rw [okf] at CI
    have FF := Lib.hid (show ∀ w', Below w.heap.size w w' → FdQ b lo tol t s w (.returned (.int .i64 2)) w' from fun w' B => ⟨by rw [FE.out], by rw [FS.out]; exact TAW.out w' B, Fm.call B⟩)
    clear ok z FE FS okf
    go_wp2_with fail
    refine (CT0.out _ c0).mono ?_
    rintro e w2 ⟨rfl, rfl⟩
    go_wp2_with fail
    refine (CI.out _).mono ?_
    rintro e w2 ⟨rfl, st⟩
    have FF := Lib.hid (FF.out w2 (ST.out.trans (st.mono ST.out.size)))
    go_wp2_with fail
    go_ret
    exact FF.out
  have okt : subB s.raw s.dry s.ash s.gre s.veg = true := ok
  rw [if_pos ok] at FE FS
  rw [okt] at CI
  obtain ⟨n8, tu⟩ := OKT.out.wait z
  obtain ⟨n, S, st, U⟩ := t
  dsimp only at z n8 tu c43 FE FS
  subst z tu
  clear okt
  go_wp2_with fail
  refine (CT0.out _ c0).mono ?_
  rintro e w2 ⟨rfl, rfl⟩
  go_wp2_with fail
  refine (CI.out _).mono ?_
  rintro e w2 ⟨rfl, st⟩
  have ST2 := Lib.hid (ST.out.trans (st.mono ST.out.size))
  have s0 := cellGr st s0
  have s1 := cellGr st s1
  have s2 := cellGr st s2
  have s3 := cellGr st s3
  have s4 := cellGr st s4
  have OB2 := Lib.hid (OK.out.1.below st)
  have c2 := OB2.out.cell (k := 2) (by omega)
  rw [OK.out.2.1.n] at c2
  dsimp only at c2
  have n1 : (0 : Int) ≤ (n : Int) := by omega
  have n2 : (n : Int) < 8 := by omega
  have d0 := OB2.out.cell (k := 3 + n * 5) (by omega)
  have d1 := OB2.out.cell (k := 3 + n * 5 + 1) (by omega)
  have d2 := OB2.out.cell (k := 3 + n * 5 + 2) (by omega)
  have d3 := OB2.out.cell (k := 3 + n * 5 + 3) (by omega)
  have d4 := OB2.out.cell (k := 3 + n * 5 + 4) (by omega)
  have f0 := OB2.out.frozen (3 + n * 5)
  have f1 := OB2.out.frozen (3 + n * 5 + 1)
  have f2 := OB2.out.frozen (3 + n * 5 + 2)
  have f3 := OB2.out.frozen (3 + n * 5 + 3)
  have f4 := OB2.out.frozen (3 + n * 5 + 4)
  have n1 : (0 : Int) ≤ (n : Int) := by omega
  have n2 : (n : Int) < 8 := by omega
  have d0 := OB2.out.cell (k := 3 + n * 5) (by omega)
  have d1 := OB2.out.cell (k := 3 + n * 5 + 1) (by omega)
  have d2 := OB2.out.cell (k := 3 + n * 5 + 2) (by omega)
  have d3 := OB2.out.cell (k := 3 + n * 5 + 3) (by omega)
  have d4 := OB2.out.cell (k := 3 + n * 5 + 4) (by omega)
  have f0 := OB2.out.frozen (3 + n * 5)
  have f1 := OB2.out.frozen (3 + n * 5 + 1)
  have f2 := OB2.out.frozen (3 + n * 5 + 2)
  have f3 := OB2.out.frozen (3 + n * 5 + 3)
  have f4 := OB2.out.frozen (3 + n * 5 + 4)
  clear st CT0 CI c0 c43
  go_wp2_with fail
  go_region
  have OB3 := Lib.hid (five_ob (3 + n * 5) s OB2.out)
  have FM := Lib.hid ((Fm.call (M := fun k => k = b) ST2.out).trans (five_fm w2 b (3 + n * 5) s))
  clear c2 d0 d1 d2 d3 d4 f0 f1 f2 f3 f4 s0 s1 s2 s3 s4
  generalize ((((((w2.setCell ⟨b, 3 + n * 5, none⟩ (.int .i64 s.raw)).setCell ⟨b, 3 + n * 5 + 1, none⟩ (.int .i64 s.dry)).setCell ⟨b, 3 + n * 5 + 2, none⟩ (.int .i64 s.ash)).setCell ⟨b, 3 + n * 5 + 3, none⟩ (.int .i64 s.gre)).setCell ⟨b, 3 + n * 5 + 4, none⟩ (.int .i64 s.veg)).drew) = w3 at *
  have c2 := OB3.out.cell (k := 2) (by omega)
  rw [put5_ne (by omega), OK.out.2.1.n] at c2
  dsimp only at c2
  have f2 := OB3.out.frozen 2
  obtain ⟨m, hm⟩ : ∃ m, m = n + 1 := ⟨_, rfl⟩
  have em : IntKind.i64.wrap ((n : Int) + 1) = (m : Int) := by rw [hwI (by omega) (by omega)]; omega
  have OB4 := Lib.hid (OB3.out.set 2 (.int .i64 (m : Int)))
  have FM4 := Lib.hid (FM.out.trans (Fm.set (M := fun k => k = b) (w := w3) ⟨b, 2, none⟩ (.int .i64 (m : Int)) rfl))
  have c2' := OB4.out.cell (k := 2) (by omega)
  rw [show updV (put5 c (3 + n * 5) s) 2 (.int .i64 (m : Int)) 2 = .int .i64 (m : Int) from by unfold updV; rw [if_pos rfl]] at c2'
  have TA4 := Lib.hid (show ∀ P : (⟨n + 1, pts S n s, 0, []⟩ : Tst).ok, TA (w3.setCell ⟨b, 2, none⟩ (.int .i64 (m : Int))) b lo tol ⟨n + 1, pts S n s, 0, []⟩ from fun P => ⟨P, TL.out, _, q, d, OB4.out, by rw [hm]; exact OK.out.2.1.feed n8 s, fun i hi => by simp at hi, OK.out.2.2.2, fun _ => QN.out (by first | rfl | trivial)⟩)
  have GP := Lib.hid (pts_good (n := n) OKT.out.good ok)
  have HM := Lib.hid hm
  by_cases od : m % 2 = 1
  · have e2 : ((m : Int) % 2 == 0) = false := by simp; omega
    rw [if_pos (by omega)] at FS
    have FF := Lib.hid (show FdQ b lo tol ⟨n, S, 0, []⟩ s w (.returned (.int .i64 0)) (w3.setCell ⟨b, 2, none⟩ (.int .i64 (m : Int))) from ⟨by rw [FE.out], by
      rw [FS.out]
      exact TA4.out ⟨GP.out, fun _ => ⟨by dsimp only; omega, rfl⟩, .inl rfl, by dsimp only; omega, fun i h => by simp at h, by simp, fun _ => rfl, fun h => by simp at h⟩, FM4.out⟩)
    clear hm od OB3 OB4 FM FM4 FE FS
    go_wp2_with fail
    go_ret
    exact FF.out
  · have e2 : ((m : Int) % 2 == 0) = true := by simp; omega
    rw [if_neg (by omega)] at FS
    have CD := Lib.hid (decide_any b lo tol (n + 1) (pts S n s) (w3.setCell ⟨b, 2, none⟩ (.int .i64 (m : Int))) (by omega) GP.out TL.out ⟨_, q, d, OB4.out, by rw [hm]; exact OK.out.2.1.feed n8 s, OK.out.2.2.2, QN.out (by first | rfl | trivial)⟩ (Nat.le_trans hlo FM4.out.size) (by omega) (by omega))
    have FF := Lib.hid (show ∀ w', DcQ b lo tol (n + 1) (pts S n s) (w3.setCell ⟨b, 2, none⟩ (.int .i64 (m : Int))) (.returned (.tuple #[])) w' → FdQ b lo tol ⟨n, S, 0, []⟩ s w (.returned (.int .i64 0)) w' from fun w' Q => ⟨by rw [FE.out], by rw [FS.out]; exact Q.2.1, FM4.out.trans Q.2.2⟩)
    clear hm od OB3 OB4 FM FM4 FE FS
    go_wp2_with fail
    refine CD.out.mono ?_
    rintro e w5 Q
    obtain rfl := Q.1
    have FF := Lib.hid (FF.out w5 Q)
    clear Q
    go_wp2_with fail
    go_ret
    exact FF.out
end Go.Proofs.Ytkhdpmicejmabaa

/- Classing's tests: Result. -/
namespace Go.Proofs.Ytkhdpmicejmabaa
open Go.RowKit Go.Proofs.Ytkhdpmicejmabaa.Ct Go.Proofs.Ytkhdpmicejmabaa.Stb
set_option linter.unusedVariables false
set_option linter.unusedSimpArgs false

theorem SW.to {B N C : Nat} {w0 w w' : World} {f : Nat → Int} (s : SW B N C w0 w f) (e : w'.heap[B]? = w.heap[B]?) : SW B N C w' w' f := by
  refine ⟨?_, Nat.le_refl _, fun _ _ _ => rfl, rfl, rfl, rfl⟩
  have r := s.row
  refine ⟨r.1, ?_⟩
  rcases r.2 with h0 | ⟨g', cap, cur, e1, hb, hg', r'⟩
  · exact .inl h0
  · cases e1
    exact .inr ⟨_, _, cur, rfl, hb, by rw [e]; exact hg', r'⟩
/-- The sum over the first i that are used. -/
def smU (f : Sb → Int) (S : Nat → Sb) (U : List Int) : Nat → Int
  | 0 => 0
  | i + 1 => smU f S U i + f (S (gi U i).toNat)
theorem smU_bd {f : Sb → Int} {S : Nat → Sb} {U : List Int} (h : ∀ k, 0 ≤ f (S k) ∧ f (S k) ≤ 10000) : ∀ i : Nat, 0 ≤ smU f S U i ∧ smU f S U i ≤ 10000 * i
  | 0 => by simp [smU]
  | i + 1 => by
    have := smU_bd (f := f) (S := S) (U := U) h i
    have := h (gi U i).toNat
    unfold smU
    omega
/-- What was found, in a list. -/
def rsV (t : Tst) (v : Value) : Value := .agg #[.int .i64 (smU Sb.wl t.S t.U t.U.length), .int .i64 (smU Sb.veg t.S t.U t.U.length), .int .i64 (smU Sb.raw t.S t.U t.U.length), v]
/-- What Result answers. -/
def RsQ (t : Tst) (w : World) (e : Ending) (w' : World) : Prop := Below w.heap.size w w' ∧ ((t.st ≠ 1 ∧ e = .returned (.tuple #[.agg #[.int .i64 0, .int .i64 0, .int .i64 0, .slice none 0 0], .int .i64 10])) ∨
  (t.st = 1 ∧ ∃ g c, w.heap.size ≤ g ∧ e = .returned (.tuple #[rsV t (.slice (some ⟨g, 0, none⟩) t.U.length c), .int .i64 0]) ∧ SW g t.U.length c w' w' (gi t.U)))
def resC (x y z : Int) (v : Value) (k : Nat) : Value := if k = 0 then .int .i64 x else if k = 1 then .int .i64 y else if k = 2 then .int .i64 z else v
theorem resC_0 (x y z a : Int) (v : Value) : ∀ k, k < 4 → updV (resC x y z v) 0 (.int .i64 a) k = resC a y z v k := fun k hk => by
  rcases (show k = 0 ∨ k = 1 ∨ k = 2 ∨ k = 3 by omega) with rfl | rfl | rfl | rfl <;> simp [updV, resC]
theorem resC_1 (x y z a : Int) (v : Value) : ∀ k, k < 4 → updV (resC x y z v) 1 (.int .i64 a) k = resC x a z v k := fun k hk => by
  rcases (show k = 0 ∨ k = 1 ∨ k = 2 ∨ k = 3 by omega) with rfl | rfl | rfl | rfl <;> simp [updV, resC]
theorem resC_2 (x y z a : Int) (v : Value) : ∀ k, k < 4 → updV (resC x y z v) 2 (.int .i64 a) k = resC x y a v k := fun k hk => by
  rcases (show k = 0 ∨ k = 1 ∨ k = 2 ∨ k = 3 by omega) with rfl | rfl | rfl | rfl <;> simp [updV, resC]
theorem ob_new4 (W : World) (x y z : Int) (v : Value) (t : TypeId) : OB (W.alloc (Obj.cells #[.int .i64 x, .int .i64 y, .int .i64 z, v] t)) W.heap.size t 4 (resC x y z v) := by
  unfold OB
  rw [heap_alloc_new]
  rfl
theorem clone_any (g off m c : Nat) (U : List Int) (w : World) (hm : m = U.length) (h0 : 0 < m) (h8 : m ≤ 8) (r : NmR w (some ⟨g, off, none⟩) m (gi U)) :
    Calls Try.prog 25 #[.slice (some ⟨g, off, none⟩) m c] w fun e w' => ∃ a d, e = .returned (.slice (some ⟨a, 0, none⟩) m d) ∧ w.heap.size ≤ a ∧ SW a m d w' w' (gi U) ∧ Below w.heap.size w w' := by
  subst hm
  refine (Try.slices_Clone_int g off U.length c U w (Nat.le_refl _) (by omega) (fun j hj => ?_)).mono ?_
  · obtain ⟨x, e, -, cc⟩ := r j hj
    cases e
    rw [addK] at cc
    rw [cc]
    simp [gi, List.getD_eq_getElem?_getD]
  · rintro e w' ⟨v, rfl, own, _, st⟩
    have o2 := own
    rcases own.2 with ⟨_, e⟩ | ⟨a, cap, cur, rfl, ha, hg, hn, _, hs, ht⟩
    · omega
    · refine ⟨a, cap, rfl, ha, ⟨?_, Nat.le_refl _, fun _ _ _ => rfl, rfl, rfl, rfl⟩, st⟩
      have e : (U.take U.length).map (Value.int .i64) = (List.range U.length).map fun k => Value.int .i64 (gi U k) := by
        rw [List.take_length]
        apply List.ext_getElem
        · simp
        · intro i h1 h2
          simp at h1
          simp [gi, h1]
      rw [e] at o2
      exact ownBase (Nat.zero_le _) o2
end Go.Proofs.Ytkhdpmicejmabaa
