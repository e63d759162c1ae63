/- The reference of press: Sequence. -/
import Derived.Test.YthfnaegfjacjbaaRP2
import Derived.Test.YthfnaegfjacjbaaPCF
namespace Go.Proofs.Ythfnaegfjacjbaa
open Go.RowKit Go.Proofs.Ythfnaegfjacjbaa.Prs Go.Proofs.Ythfnaegfjacjbaa.Stb
set_option linter.unusedVariables false
set_option linter.unusedSimpArgs false

/-- What the reference's Sequence answers. -/
def RSeqQ (D : List (Int × Int)) (w : World) (e : Ending) (w' : World) : Prop := ∃ x v m, e = .returned (.tuple #[v, .int .i64 m, .int .i64 x]) ∧ DErr D x ∧ Below w.heap.size w w' ∧ (x ≠ 0 → v = .slice none 0 0 ∧ m = 0) ∧
  (x = 0 → ∃ q c, v = .slice q D.length c ∧ NumR w' q (seqO D D.length) ∧ m = mks (pd D) (sd D) (od (seqO D D.length)) D.length)
theorem OErr.of0 {D : List (Int × Int)} {O : List Int} {x : Int} (h : OErr D O x) (a : D.length ≤ 64) (b : DOk D D.length) (c : IsOrd D.length O) : x = 0 := by
  rcases h with ⟨h, _⟩ | ⟨_, h, _⟩ | ⟨_, _, _, h⟩ | ⟨_, _, h, _⟩
  · omega
  · exact absurd b h
  · exact h
  · exact absurd c h

theorem own_ltP {w : World} {base : Nat} {e : TypeId} {s : Nat} {v : Value} {n : Nat} {xs : List Value} (h : w.ownsRow base e s v n xs) : ∀ k, v.ownBlock = some k → base ≤ k := fun k ek => (World.ownsRow.lt h k ek).1
theorem own_snocP {W w w2 : World} {v v' : Value} {k : Nat} {l : List Int} {x : Int} (o : Obj) (hb : Below W.heap.size W w) (hown : w.ownsRow W.heap.size 3 1 v k (l.map (Value.int .i64)))
    (h1 : w2.ownsRow W.heap.size 3 1 v' (k + 1) (l.map (Value.int .i64) ++ [.int .i64 x])) (h2 : (w.alloc o).grownBy w2 v.ownBlock) :
    w2.ownsRow W.heap.size 3 1 v' (k + 1) ((l ++ [x]).map (Value.int .i64)) ∧ Below W.heap.size W w2 :=
  ⟨by simpa using h1, (hb.alloc hb.size o).grown h2 (by have := hb.size; simp; omega) (own_ltP hown)⟩
theorem own_belowP {w w' : World} {base : Nat} {e : TypeId} {s : Nat} {v : Value} {n : Nat} {xs : List Value} (h : w.ownsRow base e s v n xs) (hb : Below w.heap.size w w') : w'.ownsRow base e s v n xs := by
  refine ⟨h.1, ?_⟩
  rcases h.2 with h0 | ⟨g, cap, cur, rfl, hbg, hg, r⟩
  · exact .inl h0
  · exact .inr ⟨g, cap, cur, rfl, hbg, by rw [hb.block g (by have := (Array.getElem?_eq_some_iff.1 hg).1; exact this)]; exact hg, r⟩

set_option maxRecDepth 100000 in
set_option maxHeartbeats 8000000 in
theorem rSequence_any (p : Option Addr) (c : Nat) (D : List (Int × Int)) (w : World) (r : DmpR w p D) (ln : D.length ≤ 1000000) :
    Calls Try.prog 18 #[.slice p D.length c] w (RSeqQ D w) := by
  obtain ⟨i0, hi, hz0, hz1, hz2⟩ := info_parts intInfo
  have R := Lib.hid r
  have CD := Lib.hid (rDumps_any p c D w r ln)
  have MK := Lib.hid (fun W q d (B : Below w.heap.size w W) (n : NumR W q (seqO D D.length)) => rMakespan_any p c D q d (seqO D D.length) W (r.below B) n ln (by rw [seqO_len]; exact ln))
  have QE := Lib.hid (show ∀ x w', DErr D x → x ≠ 0 → Below w.heap.size w w' → RSeqQ D w (.returned (.tuple #[.slice none 0 0, .int .i64 0, .int .i64 x])) w' from fun x w' h g B => ⟨x, _, 0, rfl, h, B, fun _ => ⟨rfl, rfl⟩, fun e => absurd e g⟩)
  have QG := Lib.hid (show ∀ q c m w', DErr D 0 → Below w.heap.size w w' → NumR w' q (seqO D D.length) → m = mks (pd D) (sd D) (od (seqO D D.length)) D.length → RSeqQ D w (.returned (.tuple #[.slice q D.length c, .int .i64 m, .int .i64 0])) w' from fun q c m w' h B n e => ⟨0, _, m, rfl, h, B, fun g => absurd rfl g, fun _ => ⟨q, c, rfl, n, e⟩⟩)
  rw [seqO_len] at MK
  obtain ⟨n, hn⟩ : ∃ n, n = D.length := ⟨_, rfl⟩
  rw [← hn] at ln CD MK QG ⊢
  have HN := Lib.hid hn
  clear hn r
  go_enter Try.func18, Try.ntmps18
  go_wp2_with fail
  refine CD.out.mono ?_
  rintro e w1 ⟨⟨x, rfl, DE⟩, rfl⟩
  have DE := Lib.hid DE
  clear CD
  by_cases x0 : x = 0
  case neg =>
    have x1 : (x == 0) = false := by simpa using x0
    have x2 : decide (x = 0) = false := decide_eq_false x0
    have FF := Lib.hid (QE.out x w DE.out x0 (Below.refl _ _))
    clear x0 MK QG QE
    go_wp2_with fail
    go_returns
    exact FF.out
  subst x0
  have GD := Lib.hid (DE.out.good rfl)
  have n64 : n ≤ 64 := by rw [HN.out]; exact GD.out.1
  clear QE
  go_wp2_with fail
  go_loopw [6, 7] (fun ov nv wr => ∃ (i c : Nat) (q : Option Addr), i ≤ n ∧ nv = .int .i64 i ∧ ov = .slice q i c ∧ Hid (NumR wr q (seqO D i)) ∧ Hid (Below w.heap.size w wr)) (fun _ nv _ => n - (intOf nv).toNat)
  case atStart => exact ⟨0, 0, none, Nat.zero_le _, rfl, rfl, Lib.hid (fun i h => by simp [seqO] at h), Lib.hid (Below.refl _ _)⟩
  case round =>
    obtain ⟨i, cc, q, hi', rfl, rfl, NO, HB⟩ := hrel
    by_cases t1 : i < n
    · have i1 : (0 : Int) ≤ (i : Int) := by omega
      have i2 : (i : Int) < (n : Int) := by omega
      have T1 := Lib.hid t1
      have LO := Lib.hid (seqO_len D i)
      have VO := Lib.hid (show ∀ k, k < i → 0 ≤ gi (seqO D i) k ∧ gi (seqO D i) k < i from fun k hk => (seqO_ord D i).2.1 k hk)
      have SO := Lib.hid (show insJ D (i : Int) (seqO D i) = seqO D (i + 1) from rfl)
      generalize seqO D i = O at *
      clear hi'
      rename World => wo
      go_wp2_with fail
      go_loopw [8, 9, 10] (fun xv bv kv wq => ∃ (k : Nat) (b : Bool) (N : List Int), k ≤ i ∧ kv = .int .i64 k ∧ bv = .bool b ∧ N.length ≤ k + b.toNat ∧ Hid (N ++ (if b then O.drop k else insJ D i (O.drop k)) = insJ D i O) ∧ wq.ownsRow wo.heap.size 3 1 xv N.length (N.map (Value.int .i64)) ∧ Below wo.heap.size wo wq) (fun _ _ kv _ => i - (intOf kv).toNat)
      case atStart => exact ⟨0, false, [], Nat.zero_le _, rfl, rfl, by simp, Lib.hid rfl, World.ownsRow_nil _ _ _ _, Below.refl _ _⟩
      case round =>
        obtain ⟨k, b, N, hk, rfl, rfl, hak, E, hown, hbel⟩ := hrel
        have hbs : ∀ (W : World) o, Below wo.heap.size wo W → wo.heap.size ≤ (W.alloc o).heap.size := fun W o B => by have := B.size; simp; omega
        by_cases t2 : k < i
        · have k1 : (0 : Int) ≤ (k : Int) := by omega
          have k2 : (k : Int) < (i : Int) := by omega
          have DA := Lib.hid (drop_at (l := O) (i := k) (by have := LO.out; omega))
          obtain ⟨y, rfl, ky, cy⟩ := (NO.out.below hbel) k (by have := LO.out; omega)
          cases b with
          | true =>
            replace hak : N.length ≤ k + 1 := hak
            have E2 := Lib.hid (show (N ++ [gi O k]) ++ (if true = true then O.drop (k + 1) else insJ D i (O.drop (k + 1))) = insJ D i O from by
              rw [← E.out, if_pos rfl, if_pos rfl, DA.out]; simp)
            clear E DA
            generalize gi O k = z at *
            go_upto_region 13 with fail
            go_quiet (fail)
            go_wp2_with (first
              | (at_builtin; refine wpList_append_own _ rfl _ _ 23 rfl wo.heap.size 3 i0 (.int .i64 0) 1 8 Try.underlying23 hi hz0 hz1 hz2 rfl (by decide) _ _ _ rfl ((show (wr.drewN nq).ownsRow wo.heap.size 3 1 u8 N.length (N.map (Value.int .i64)) from hown).alloc _) ⟨(wr.drewN nq).heap.size, 0, none⟩ 1 1 [.int .i64 z] rfl rfl (one_cell _) one_one (by unfold maxLen; omega) (by omega) (hbs _ _ (below_drewN hbel _)) ?_))
            intro v' w1 hown' hgrow _
            obtain ⟨O1, B1⟩ := own_snocP _ (below_drewN hbel nq) (show (wr.drewN nq).ownsRow wo.heap.size 3 1 u8 N.length (N.map (Value.int .i64)) from hown) hown' hgrow
            clear hown' hgrow hown hbel hbs
            go_wp2_with fail
            go_roundw
            case rel => exact ⟨k + 1, true, N ++ [z], by omega, by go_num, rfl, by simp [Bool.toNat]; omega, E2, by simpa using O1, B1⟩
            case measure => simp [intOf]; omega
          | false =>
            replace hak : N.length ≤ k := hak
            obtain ⟨u, hu⟩ := Int.eq_ofNat_of_zero_le (VO.out k t2).1
            have ui : u < i := by have := (VO.out k t2).2; omega
            have un : u < n := by have := T1.out; omega
            obtain ⟨x, rfl, kx, c0, c1⟩ := (R.out.below (HB.out.trans (hbel.mono HB.out.size))) i (by have := HN.out; have := T1.out; omega)
            obtain ⟨x', ex, -, d0, d1⟩ := (R.out.below (HB.out.trans (hbel.mono HB.out.size))) u (by have := HN.out; omega)
            cases ex
            have FC := Lib.hid (fun W => first_any (pd D i) (sd D i) (pd D u) (sd D u) W)
            have FB := Lib.hid (show firstB (pd D i) (sd D i) (pd D u) (sd D u) = decide (jcD D (i : Int) (gi O k) < 0) from by rw [hu]; unfold firstB jcD; rw [Int.toNat_natCast, Int.toNat_natCast])
            have u1 : (0 : Int) ≤ (u : Int) := by omega
            have u2 : (u : Int) < (n : Int) := by omega
            have nn := HB.out.size
            by_cases fr : jcD D (i : Int) (gi O k) < 0
            · have E2 := Lib.hid (show ((N ++ [(i : Int)]) ++ [gi O k]) ++ (if true = true then O.drop (k + 1) else insJ D i (O.drop (k + 1))) = insJ D i O from by
                rw [← E.out, DA.out, insJ_cons, if_pos fr]; simp)
              rw [show firstB (pd D i) (sd D i) (pd D u) (sd D u) = true from by rw [FB.out]; exact decide_eq_true fr] at FC
              clear E DA FB fr
              have HU := Lib.hid hu
              rw [hu] at cy E2
              clear hu
              generalize pd D i = pa at *
              generalize sd D i = sa at *
              generalize pd D u = pb at *
              generalize sd D u = sb at *
              have HO := Lib.hid hown
              have HL := Lib.hid hbel
              clear hown hbel
              go_upto_region 13 with fail
              go_region_held3 (fun w' => w'.cell? (y.add k) = some (.int .i64 (u : Int)) ∧ (w'.cell? (x.add (i * 2)) = some (.int .i64 pa) ∧ w'.cell? ⟨(x.add (i * 2)).block, (x.add (i * 2)).off + 1, none⟩ = some (.int .i64 sa)) ∧ w'.cell? (x.add (u * 2)) = some (.int .i64 pb) ∧ w'.cell? ⟨(x.add (u * 2)).block, (x.add (u * 2)).off + 1, none⟩ = some (.int .i64 sb))
                (first | exact ⟨cy, ⟨c0, c1⟩, d0, d1⟩ | exact ⟨cellDr cy, ⟨cellDr c0, cellDr c1⟩, cellDr d0, cellDr d1⟩)
                (first | (go_at_call 46; (with_reducible refine (FC.out _).mono ?_); rintro e v1 ⟨rfl, st⟩; have st : Below wr.heap.size wr v1 := (by first | exact st | exact ((Below.refl _ _).drew).trans st | exact (below_drewN (Below.refl _ _) _).trans st); replace HO := Lib.hid (own_belowP HO.out st); replace HL := Lib.hid (HL.out.trans (st.mono HL.out.size)); replace cy := cellGr st cy; replace c0 := cellGr st c0; replace c1 := cellGr st c1; replace d0 := cellGr st d0; replace d1 := cellGr st d1; clear st))
              clear cy c0 c1 d0 d1
              have lN1 : (N ++ [(i : Int)]).length = N.length + 1 := by simp
              go_wp2_with (first
                | (at_builtin; refine wpList_append_own _ rfl _ _ 23 rfl wo.heap.size 3 i0 (.int .i64 0) 1 8 Try.underlying23 hi hz0 hz1 hz2 rfl (by decide) _ _ _ rfl (HO.out.alloc _) ⟨v1.heap.size, 0, none⟩ 1 1 [.int .i64 (i : Int)] rfl rfl (one_cell _) one_one (by unfold maxLen; omega) (by omega) (hbs _ _ HL.out) ?_))
              intro v' w1 hown' hgrow _
              obtain ⟨O1, B1⟩ := own_snocP _ HL.out HO.out hown' hgrow
              obtain ⟨y', ey, ky, cy⟩ := (NO.out.below B1) k (by have := LO.out; omega)
              cases ey
              rw [show gi O k = (u : Int) from HU.out] at cy
              clear hown' hgrow HO HL
              generalize hN1 : N ++ [(i : Int)] = N1 at *
              have HN1 := Lib.hid hN1
              clear hN1
              go_wp2_with (first
                | (at_builtin; refine wpList_append_own _ rfl _ _ 23 rfl wo.heap.size 3 i0 (.int .i64 0) 1 8 Try.underlying23 hi hz0 hz1 hz2 rfl (by decide) _ _ _ rfl (O1.alloc _) ⟨w1.heap.size, 0, none⟩ 1 1 [.int .i64 (u : Int)] rfl rfl (one_cell _) one_one (by unfold maxLen; omega) (by omega) (hbs _ _ B1) ?_))
              intro v'' w2 hown' hgrow _
              obtain ⟨O2, B2⟩ := own_snocP _ B1 O1 hown' hgrow
              clear hown' hgrow O1 B1 hbs
              go_wp2_with fail
              go_roundw
              case rel => exact ⟨k + 1, true, N1 ++ [(u : Int)], by omega, by go_num, rfl, by simp [Bool.toNat]; omega, E2, by rw [List.length_append, lN1]; exact O2, B2⟩
              case measure => simp [intOf]; omega
            · have E2 := Lib.hid (show (N ++ [gi O k]) ++ (if false = true then O.drop (k + 1) else insJ D i (O.drop (k + 1))) = insJ D i O from by
                rw [← E.out, DA.out, insJ_cons, if_neg fr]; simp)
              rw [show firstB (pd D i) (sd D i) (pd D u) (sd D u) = false from by rw [FB.out]; exact decide_eq_false fr] at FC
              clear E DA FB fr
              have HU := Lib.hid hu
              rw [hu] at cy E2
              clear hu
              generalize pd D i = pa at *
              generalize sd D i = sa at *
              generalize pd D u = pb at *
              generalize sd D u = sb at *
              have HO := Lib.hid hown
              have HL := Lib.hid hbel
              clear hown hbel
              go_upto_region 13 with fail
              go_region_held3 (fun w' => w'.cell? (y.add k) = some (.int .i64 (u : Int)) ∧ (w'.cell? (x.add (i * 2)) = some (.int .i64 pa) ∧ w'.cell? ⟨(x.add (i * 2)).block, (x.add (i * 2)).off + 1, none⟩ = some (.int .i64 sa)) ∧ w'.cell? (x.add (u * 2)) = some (.int .i64 pb) ∧ w'.cell? ⟨(x.add (u * 2)).block, (x.add (u * 2)).off + 1, none⟩ = some (.int .i64 sb))
                (first | exact ⟨cy, ⟨c0, c1⟩, d0, d1⟩ | exact ⟨cellDr cy, ⟨cellDr c0, cellDr c1⟩, cellDr d0, cellDr d1⟩)
                (first | (go_at_call 46; (with_reducible refine (FC.out _).mono ?_); rintro e v1 ⟨rfl, st⟩; have st : Below wr.heap.size wr v1 := (by first | exact st | exact ((Below.refl _ _).drew).trans st | exact (below_drewN (Below.refl _ _) _).trans st); replace HO := Lib.hid (own_belowP HO.out st); replace HL := Lib.hid (HL.out.trans (st.mono HL.out.size)); replace cy := cellGr st cy; replace c0 := cellGr st c0; replace c1 := cellGr st c1; replace d0 := cellGr st d0; replace d1 := cellGr st d1; clear st))
              clear c0 c1 d0 d1
              go_wp2_with (first
                | (at_builtin; refine wpList_append_own _ rfl _ _ 23 rfl wo.heap.size 3 i0 (.int .i64 0) 1 8 Try.underlying23 hi hz0 hz1 hz2 rfl (by decide) _ _ _ rfl (HO.out.alloc _) ⟨v1.heap.size, 0, none⟩ 1 1 [.int .i64 (u : Int)] rfl rfl (one_cell _) one_one (by unfold maxLen; omega) (by omega) (hbs _ _ HL.out) ?_))
              intro v' w1 hown' hgrow _
              obtain ⟨O1, B1⟩ := own_snocP _ HL.out HO.out hown' hgrow
              clear hown' hgrow HO HL hbs
              go_wp2_with fail
              go_roundw
              case rel => exact ⟨k + 1, false, N ++ [(u : Int)], by omega, by go_num, rfl, by simp [Bool.toNat]; omega, E2, by simpa using O1, B1⟩
              case measure => simp [intOf]; omega
        · obtain rfl : k = i := by omega
          rw [show O.drop k = [] from List.drop_of_length_le (by have := LO.out; omega)] at E
          cases b with
          | true =>
            replace hak : N.length ≤ k + 1 := hak
            have EN : N = insJ D (k : Int) O := by have := E.out; simpa using this
            have LN := Lib.hid (show N.length = k + 1 from by rw [EN, insJ_len]; have := LO.out; omega)
            rw [SO.out] at EN
            have HE := Lib.hid EN
            clear EN E hbs
            go_wp2_with fail
            obtain ⟨q', d', rfl, nr⟩ := ownNums (M := N) hown
            rw [LN.out]
            have NR := Lib.hid nr
            have HB2 := Lib.hid (HB.out.trans (hbel.mono HB.out.size))
            clear nr hown hbel
            go_wp2_with fail
            go_roundw
            case rel => exact ⟨k + 1, d', q', by have := T1.out; omega, by go_num, rfl, by rw [← HE.out]; exact NR, HB2⟩
            case measure => have := T1.out; simp [intOf]; omega
          | false =>
            replace hak : N.length ≤ k := hak
            have EN : N ++ [(k : Int)] = insJ D (k : Int) O := by have := E.out; simpa [insJ] using this
            have LN := Lib.hid (show (N ++ [(k : Int)]).length = k + 1 from by rw [EN, insJ_len]; have := LO.out; omega)
            rw [SO.out] at EN
            have HE := Lib.hid EN
            clear EN E
            go_wp2_with (first
              | (at_builtin; refine wpList_append_own _ rfl _ _ 23 rfl wo.heap.size 3 i0 (.int .i64 0) 1 8 Try.underlying23 hi hz0 hz1 hz2 rfl (by decide) _ _ _ rfl (hown.alloc _) ⟨wr.heap.size, 0, none⟩ 1 1 [.int .i64 (k : Int)] rfl rfl (one_cell _) one_one (by unfold maxLen; omega) (by omega) (hbs _ _ hbel) ?_))
            intro v' w1 hown' hgrow _
            obtain ⟨O1, B1⟩ := own_snocP _ hbel hown hown' hgrow
            clear hown' hgrow hown hbel hbs
            obtain ⟨q', d', rfl, nr⟩ := ownNums (M := N ++ [(k : Int)]) (by simpa using O1)
            rw [LN.out]
            have NR := Lib.hid nr
            have HB2 := Lib.hid (HB.out.trans (B1.mono HB.out.size))
            clear nr O1 B1
            go_wp2_with fail
            go_roundw
            case rel => exact ⟨k + 1, d', q', by have := T1.out; omega, by go_num, rfl, by rw [← HE.out]; exact NR, HB2⟩
            case measure => have := T1.out; simp [intOf]; omega
    · obtain rfl : i = n := by omega
      have MC := Lib.hid (MK.out wr q cc HB.out NO.out)
      clear MK
      go_wp2_with fail
      refine MC.out.mono ?_
      rintro e w2 ⟨x, m, rfl, MQ, st⟩
      have X0 := Lib.hid (MQ.1.of0 GD.out.1 GD.out.2 (by rw [← HN.out]; exact seqO_ord D i))
      have ME := Lib.hid (MQ.2.2 X0.out)
      rw [← HN.out] at ME
      have FF := Lib.hid (QG.out q cc m w2 DE.out (HB.out.trans (st.mono HB.out.size)) (NO.out.below st) ME.out)
      clear MQ st MC ME
      go_wp2_with fail
      go_returns
      exact FF.out
end Go.Proofs.Ythfnaegfjacjbaa
