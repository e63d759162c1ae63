/- Press: the rule of Moore and Hodgson; rows of the own memory. -/
import Derived.Test.YthbgeikdamajlaaOT1
import Derived.Test.YthbgeikdamajlaaPCF
import Derived.Test.YthbgeikdamajlaaShelf
import Derived.Sort.OwnSortedInts
import Derived.Maps.AppendAt
/- Press: the reference's order by due times. -/
namespace Go.Proofs.Ythbgeikdamajlaa
open Go.RowKit Go.Proofs.Ythbgeikdamajlaa.Prs Go.Proofs.Ythbgeikdamajlaa.Stb
set_option linter.unusedVariables false
set_option linter.unusedSimpArgs false

theorem drop_atD {l : List Int} {i : Nat} (h : i < l.length) : l.drop i = gi l i :: l.drop (i + 1) := by
  rw [gi_getD2 h]
  exact List.drop_eq_getElem_cons h
theorem own_ltD {w : World} {base : Nat} {e : TypeId} {s : Nat} {v : Value} {n : Nat} {xs : List Value} (h : w.ownsRow base e s v n xs) : ∀ k, v.ownBlock = some k → base ≤ k := fun k ek => (World.ownsRow.lt h k ek).1
theorem own_snocD {W w w2 : World} {v v' : Value} {k : Nat} {l : List Int} {x : Int} (o : Obj) (hb : Below W.heap.size W w) (hown : w.ownsRow W.heap.size 3 1 v k (l.map (Value.int .i64)))
    (h1 : w2.ownsRow W.heap.size 3 1 v' (k + 1) (l.map (Value.int .i64) ++ [.int .i64 x])) (h2 : (w.alloc o).grownBy w2 v.ownBlock) :
    w2.ownsRow W.heap.size 3 1 v' (k + 1) ((l ++ [x]).map (Value.int .i64)) ∧ Below W.heap.size W w2 :=
  ⟨by simpa using h1, (hb.alloc hb.size o).grown h2 (by have := hb.size; simp; omega) (own_ltD hown)⟩
theorem own_belowD {w w' : World} {base : Nat} {e : TypeId} {s : Nat} {v : Value} {n : Nat} {xs : List Value} (h : w.ownsRow base e s v n xs) (hb : Below w.heap.size w w') : w'.ownsRow base e s v n xs := by
  refine ⟨h.1, ?_⟩
  rcases h.2 with h0 | ⟨g, cap, cur, rfl, hbg, hg, r⟩
  · exact .inl h0
  · exact .inr ⟨g, cap, cur, rfl, hbg, by rw [hb.block g (by have := (Array.getElem?_eq_some_iff.1 hg).1; exact this)]; exact hg, r⟩


set_option maxRecDepth 100000 in
set_option maxHeartbeats 8000000 in
theorem rDue_any (p : Option Addr) (c : Nat) (D : List (Int × Int)) (w : World) (r : DmpR w p D) (ln : D.length ≤ 64) :
    Calls Try.prog 92 #[.slice p D.length c] w fun e w' => ∃ q d, e = .returned (.slice q D.length d) ∧ NumR w' q (dueO D D.length) ∧ Below w.heap.size w w' := by
  obtain ⟨i0, hi, hz0, hz1, hz2⟩ := info_parts intInfo
  have R := Lib.hid r
  obtain ⟨n, hn⟩ : ∃ n, n = D.length := ⟨_, rfl⟩
  rw [← hn] at ln ⊢
  have HN := Lib.hid hn
  clear hn r
  have n64 : n ≤ 64 := ln
  go_enter Try.func92, Try.ntmps92
  go_wp2_with fail
  go_loopw [3, 4] (fun ov nv wr => ∃ (i c : Nat) (q : Option Addr), i ≤ n ∧ nv = .int .i64 i ∧ ov = .slice q i c ∧ Hid (NumR wr q (dueO D i)) ∧ Hid (Below w.heap.size w wr)) (fun _ nv _ => n - (intOf nv).toNat)
  case atStart => exact ⟨0, 0, none, Nat.zero_le _, rfl, rfl, Lib.hid (fun i h => by simp [dueO] at h), Lib.hid (Below.refl _ _)⟩
  case round =>
    obtain ⟨i, cc, q, hi', rfl, rfl, NO, HB⟩ := hrel
    by_cases t1 : i < n
    · have i1 : (0 : Int) ≤ (i : Int) := by omega
      have i2 : (i : Int) < (n : Int) := by omega
      have T1 := Lib.hid t1
      have LO := Lib.hid (dueO_len D i)
      have VO := Lib.hid (show ∀ k, k < i → 0 ≤ gi (dueO D i) k ∧ gi (dueO D i) k < i from fun k hk => (dueO_ord D i).2.1 k hk)
      have SO := Lib.hid (show insD D (i : Int) (dueO D i) = dueO D (i + 1) from rfl)
      generalize dueO D i = O at *
      clear hi'
      rename World => wo
      go_wp2_with fail
      go_loopw [5, 6, 7] (fun xv bv kv wq => ∃ (k : Nat) (b : Bool) (N : List Int), k ≤ i ∧ kv = .int .i64 k ∧ bv = .bool b ∧ N.length ≤ k + b.toNat ∧ Hid (N ++ (if b then O.drop k else insD D i (O.drop k)) = insD D i O) ∧ wq.ownsRow wo.heap.size 3 1 xv N.length (N.map (Value.int .i64)) ∧ Below wo.heap.size wo wq) (fun _ _ kv _ => i - (intOf kv).toNat)
      case atStart => exact ⟨0, false, [], Nat.zero_le _, rfl, rfl, by simp, Lib.hid rfl, World.ownsRow_nil _ _ _ _, Below.refl _ _⟩
      case round =>
        obtain ⟨k, b, N, hk, rfl, rfl, hak, E, hown, hbel⟩ := hrel
        have hbs : ∀ (W : World) o, Below wo.heap.size wo W → wo.heap.size ≤ (W.alloc o).heap.size := fun W o B => by have := B.size; simp; omega
        by_cases t2 : k < i
        · have k1 : (0 : Int) ≤ (k : Int) := by omega
          have k2 : (k : Int) < (i : Int) := by omega
          have DA := Lib.hid (drop_atD (l := O) (i := k) (by have := LO.out; omega))
          obtain ⟨y, rfl, ky, cy⟩ := (NO.out.below hbel) k (by have := LO.out; omega)
          cases b with
          | true =>
            replace hak : N.length ≤ k + 1 := hak
            have E2 := Lib.hid (show (N ++ [gi O k]) ++ (if true = true then O.drop (k + 1) else insD D i (O.drop (k + 1))) = insD D i O from by
              rw [← E.out, if_pos rfl, if_pos rfl, DA.out]; simp)
            clear E DA
            generalize gi O k = z at *
            go_upto_region 10 with fail
            go_quiet (fail)
            have HO := Lib.hid (show (wr.drewN nq).ownsRow wo.heap.size 3 1 u5 N.length (N.map (Value.int .i64)) from hown)
            have HL := Lib.hid (below_drewN hbel nq)
            replace cy : (wr.drewN nq).cell? (y.add k) = some (.int .i64 z) := cy
            clear hown hbel
            generalize wr.drewN nq = wn at *
            go_wp2_with (first
              | (at_builtin; refine wpList_append_own _ rfl _ _ 39 rfl wo.heap.size 3 i0 (.int .i64 0) 1 8 Try.underlying39 hi hz0 hz1 hz2 rfl (by decide) _ _ _ rfl (HO.out.alloc _) ⟨wn.heap.size, 0, none⟩ 1 1 [.int .i64 z] rfl rfl (one_cell _) one_one (by unfold maxLen; omega) (by omega) (hbs _ _ HL.out) ?_))
            intro v' w1 hown' hgrow _
            obtain ⟨O1, B1⟩ := own_snocD _ HL.out HO.out hown' hgrow
            clear hown' hgrow HO HL hbs
            go_wp2_with fail
            go_roundw
            case rel => exact ⟨k + 1, true, N ++ [z], by omega, by go_num, rfl, by simp [Bool.toNat]; omega, E2, by simpa using O1, B1⟩
            case measure => simp [intOf]; omega
          | false =>
            replace hak : N.length ≤ k := hak
            obtain ⟨u, hu⟩ := Int.eq_ofNat_of_zero_le (VO.out k t2).1
            have ui : u < i := by have := (VO.out k t2).2; omega
            have un : u < n := by have := T1.out; omega
            obtain ⟨x, rfl, kx, c0, c1⟩ := (R.out.below (HB.out.trans (hbel.mono HB.out.size))) i (by have := HN.out; have := T1.out; omega)
            obtain ⟨x', ex, kx', d0, d1⟩ := (R.out.below (HB.out.trans (hbel.mono HB.out.size))) u (by have := HN.out; omega)
            cases ex
            have u1 : (0 : Int) ≤ (u : Int) := by omega
            have u2 : (u : Int) < (n : Int) := by omega
            have nn := HB.out.size
            have DE := Lib.hid (show dcD D (i : Int) (gi O k) = sd D i - sd D u from by rw [hu]; unfold dcD; rw [Int.toNat_natCast, Int.toNat_natCast])
            by_cases fr : dcD D (i : Int) (gi O k) < 0
            · have E2 := Lib.hid (show ((N ++ [(i : Int)]) ++ [gi O k]) ++ (if true = true then O.drop (k + 1) else insD D i (O.drop (k + 1))) = insD D i O from by
                rw [← E.out, DA.out, insD_cons, if_pos fr]; simp)
              rw [DE.out] at fr
              have f1 : decide (sd D i < sd D u) = true := decide_eq_true (by omega)
              clear E DA fr DE c0 d0 kx kx'
              have HU := Lib.hid hu
              rw [hu] at cy E2
              clear hu
              generalize sd D i = sa at *
              generalize sd D u = sb at *
              go_upto_region 10 with fail
              go_quiet (fail)
              have HO := Lib.hid (show (wr.drewN nq).ownsRow wo.heap.size 3 1 u5 N.length (N.map (Value.int .i64)) from hown)
              have HL := Lib.hid (below_drewN hbel nq)
              clear hown hbel cy c1 d1 f1
              generalize wr.drewN nq = wn at *
              have lN1 : (N ++ [(i : Int)]).length = N.length + 1 := by simp
              go_wp2_with (first
                | (at_builtin; refine wpList_append_own _ rfl _ _ 39 rfl wo.heap.size 3 i0 (.int .i64 0) 1 8 Try.underlying39 hi hz0 hz1 hz2 rfl (by decide) _ _ _ rfl (HO.out.alloc _) ⟨wn.heap.size, 0, none⟩ 1 1 [.int .i64 (i : Int)] rfl rfl (one_cell _) one_one (by unfold maxLen; omega) (by omega) (hbs _ _ HL.out) ?_))
              intro v' w1 hown' hgrow _
              obtain ⟨O1, B1⟩ := own_snocD _ HL.out HO.out hown' hgrow
              obtain ⟨y', ey, ky, cy⟩ := (NO.out.below B1) k (by have := LO.out; omega)
              cases ey
              rw [show gi O k = (u : Int) from HU.out] at cy
              clear hown' hgrow HO HL
              generalize hN1 : N ++ [(i : Int)] = N1 at *
              have HN1 := Lib.hid hN1
              clear hN1
              go_wp2_with (first
                | (at_builtin; refine wpList_append_own _ rfl _ _ 39 rfl wo.heap.size 3 i0 (.int .i64 0) 1 8 Try.underlying39 hi hz0 hz1 hz2 rfl (by decide) _ _ _ rfl (O1.alloc _) ⟨w1.heap.size, 0, none⟩ 1 1 [.int .i64 (u : Int)] rfl rfl (one_cell _) one_one (by unfold maxLen; omega) (by omega) (hbs _ _ B1) ?_))
              intro v'' w2 hown' hgrow _
              obtain ⟨O2, B2⟩ := own_snocD _ B1 O1 hown' hgrow
              clear hown' hgrow O1 B1 hbs
              go_wp2_with fail
              go_roundw
              case rel => exact ⟨k + 1, true, N1 ++ [(u : Int)], by omega, by go_num, rfl, by simp [Bool.toNat]; omega, E2, by rw [List.length_append, lN1]; exact O2, B2⟩
              case measure => simp [intOf]; omega
            · have E2 := Lib.hid (show (N ++ [gi O k]) ++ (if false = true then O.drop (k + 1) else insD D i (O.drop (k + 1))) = insD D i O from by
                rw [← E.out, DA.out, insD_cons, if_neg fr]; simp)
              rw [DE.out] at fr
              have f1 : decide (sd D i < sd D u) = false := decide_eq_false (by omega)
              clear E DA fr DE c0 d0 kx kx'
              have HU := Lib.hid hu
              rw [hu] at cy E2
              clear hu
              generalize sd D i = sa at *
              generalize sd D u = sb at *
              go_upto_region 10 with fail
              go_quiet (fail)
              have HO := Lib.hid (show (wr.drewN nq).ownsRow wo.heap.size 3 1 u5 N.length (N.map (Value.int .i64)) from hown)
              have HL := Lib.hid (below_drewN hbel nq)
              replace cy : (wr.drewN nq).cell? (y.add k) = some (.int .i64 (u : Int)) := cy
              clear hown hbel c1 d1 f1
              generalize wr.drewN nq = wn at *
              go_wp2_with (first
                | (at_builtin; refine wpList_append_own _ rfl _ _ 39 rfl wo.heap.size 3 i0 (.int .i64 0) 1 8 Try.underlying39 hi hz0 hz1 hz2 rfl (by decide) _ _ _ rfl (HO.out.alloc _) ⟨wn.heap.size, 0, none⟩ 1 1 [.int .i64 (u : Int)] rfl rfl (one_cell _) one_one (by unfold maxLen; omega) (by omega) (hbs _ _ HL.out) ?_))
              intro v' w1 hown' hgrow _
              obtain ⟨O1, B1⟩ := own_snocD _ HL.out HO.out hown' hgrow
              clear hown' hgrow HO HL hbs
              go_wp2_with fail
              go_roundw
              case rel => exact ⟨k + 1, false, N ++ [(u : Int)], by omega, by go_num, rfl, by simp [Bool.toNat]; omega, E2, by simpa using O1, B1⟩
              case measure => simp [intOf]; omega
        · obtain rfl : k = i := by omega
          rw [show O.drop k = [] from List.drop_of_length_le (by have := LO.out; omega)] at E
          cases b with
          | true =>
            replace hak : N.length ≤ k + 1 := hak
            have EN : N = insD D (k : Int) O := by have := E.out; simpa using this
            have LN := Lib.hid (show N.length = k + 1 from by rw [EN, insD_len]; have := LO.out; omega)
            rw [SO.out] at EN
            have HE := Lib.hid EN
            clear EN E hbs
            obtain ⟨q', d', rfl, nr⟩ := ownNums (M := N) hown
            rw [LN.out]
            have NR := Lib.hid nr
            have HB2 := Lib.hid (HB.out.trans (hbel.mono HB.out.size))
            clear nr hown hbel
            go_wp2_with fail
            go_roundw
            case rel => exact ⟨k + 1, d', q', by have := T1.out; omega, by go_num, by first | rfl | trivial, by rw [← HE.out]; exact NR, HB2⟩
            case measure => have := T1.out; simp [intOf]; omega
          | false =>
            replace hak : N.length ≤ k := hak
            have EN : N ++ [(k : Int)] = insD D (k : Int) O := by have := E.out; simpa [insD] using this
            have LN := Lib.hid (show (N ++ [(k : Int)]).length = k + 1 from by rw [EN, insD_len]; have := LO.out; omega)
            rw [SO.out] at EN
            have HE := Lib.hid EN
            clear EN E
            go_wp2_with (first
              | (at_builtin; refine wpList_append_own _ rfl _ _ 39 rfl wo.heap.size 3 i0 (.int .i64 0) 1 8 Try.underlying39 hi hz0 hz1 hz2 rfl (by decide) _ _ _ rfl (hown.alloc _) ⟨wr.heap.size, 0, none⟩ 1 1 [.int .i64 (k : Int)] rfl rfl (one_cell _) one_one (by unfold maxLen; omega) (by omega) (hbs _ _ hbel) ?_))
            intro v' w1 hown' hgrow _
            obtain ⟨O1, B1⟩ := own_snocD _ hbel hown hown' hgrow
            clear hown' hgrow hown hbel hbs
            obtain ⟨q', d', rfl, nr⟩ := ownNums (M := N ++ [(k : Int)]) (by simpa using O1)
            rw [LN.out]
            have NR := Lib.hid nr
            have HB2 := Lib.hid (HB.out.trans (B1.mono HB.out.size))
            clear nr O1 B1
            go_wp2_with fail
            go_roundw
            case rel => exact ⟨k + 1, d', q', by have := T1.out; omega, by go_num, by first | rfl | trivial, by rw [← HE.out]; exact NR, HB2⟩
            case measure => have := T1.out; simp [intOf]; omega
    · obtain rfl : i = n := by omega
      have NR := Lib.hid (show NumR wr q (dueO D D.length) from by rw [← HN.out]; exact NO.out)
      clear NO
      go_wp2_with fail
      go_ret
      exact ⟨q, cc, rfl, by rw [HN.out]; exact NR.out, HB.out⟩
end Go.Proofs.Ythbgeikdamajlaa

/- Press: the bound of Pack, by a function of the masses that no box bears more of than its room. Plain facts. -/
namespace Go.Proofs.Ythbgeikdamajlaa.Sea
open Go.Proofs.Ythbgeikdamajlaa.Prs
set_option linter.unusedVariables false
set_option linter.unusedSimpArgs false

def dff (mo a t : Int) : Int := if mo - a < t then mo else if a ≤ t then t else 0
def big (mo a t : Int) : Int := if mo - a < t ∨ mo < 2 * t then 1 else 0
def sums (f : Int → Int) : List Int → Int
  | [] => 0
  | t :: ts => f t + sums f ts
theorem sums_snoc (f : Int → Int) (t : Int) : ∀ ts : List Int, sums f (ts ++ [t]) = sums f ts + f t
  | [] => by simp [sums]
  | u :: ts => by
    show f u + sums f (ts ++ [t]) = f u + sums f ts + f t
    rw [sums_snoc f t ts]; omega
theorem sums_id (f : Int → Int) : ∀ ts : List Int, (∀ t ∈ ts, f t = t) → sums f ts = sums (fun t => t) ts
  | [], _ => rfl
  | u :: ts, h => by
    show f u + sums f ts = u + sums (fun t => t) ts
    rw [h u (by simp), sums_id f ts (fun t ht => h t (by simp [ht]))]
theorem sm_up (f : Nat → Int) (b : Nat) (y : Int) : ∀ M, sm (up f b y) M = sm f M + if b < M then y - f b else 0
  | 0 => by simp [sm]
  | M + 1 => by
    simp only [sm]
    rw [sm_up f b y M]
    by_cases e : M = b
    · subst e
      rw [up_same, if_neg (by omega), if_pos (by omega)]; omega
    · rw [up_ne f y e]
      by_cases l : b < M
      · rw [if_pos l, if_pos (by omega)]; omega
      · rw [if_neg l, if_neg (by omega)]; omega
/-- What a box bears. -/
def BxI (mo a : Int) (x : Int × Int) (C B : Int) : Prop := (x.2 = 0 → C = 0 ∧ B = 0) ∧ 0 ≤ x.2 ∧ 0 ≤ x.1 ∧ x.1 ≤ mo ∧ ((C = mo ∧ B = 1 ∧ mo - a < x.1) ∨ (0 ≤ C ∧ C ≤ x.1 ∧ (x.1 < a → C = 0) ∧ (B = 0 ∨ (B = 1 ∧ mo < 2 * x.1))))
theorem BxI.add {mo a each t C B : Int} {x y : Int × Int} (h : BxI mo a x C B) (t1 : 1 ≤ t) (a0 : 0 ≤ a) (a2 : 2 * a ≤ mo) (e : addP mo each x t = some y) : BxI mo a y (C + dff mo a t) (B + big mo a t) := by
  obtain ⟨h1, h2, h3, h4, h5⟩ := h
  unfold addP at e
  split at e
  · next g =>
    obtain ⟨g1, g2, g3⟩ := g
    simp at e
    subst e
    unfold BxI dff big
    dsimp only
    refine ⟨fun k => by omega, by omega, by omega, by omega, ?_⟩
    rcases h5 with ⟨c1, c2, c3⟩ | ⟨c1, c2, c3, c4⟩
    · left
      rw [if_neg (by omega), if_neg (by omega), if_neg (by omega)]
      omega
    · by_cases t2 : mo - a < t
      · left
        rw [if_pos t2, if_pos (.inl t2)]
        have := c3 (by omega)
        omega
      · right
        rw [if_neg t2]
        by_cases t3 : a ≤ t
        · rw [if_pos t3]
          refine ⟨by omega, by omega, fun k => by omega, ?_⟩
          by_cases t4 : mo < 2 * t
          · rw [if_pos (.inr t4)]; omega
          · rw [if_neg (by omega)]; omega
        · rw [if_neg t3, if_neg (by omega)]
          refine ⟨by omega, by omega, fun k => by have := c3 (by omega); omega, ?_⟩
          omega
  · cases e
theorem bound_sum {mo a each : Int} {M : Nat} (a0 : 0 ≤ a) (a2 : 2 * a ≤ mo) : ∀ (ts : List Int) (E : List Nat) (s s' : Nat → Int × Int) (C B : Nat → Int), fin (addP mo each) ts s E = some s' → Ok M E → (∀ b, b < M → BxI mo a (s b) (C b) (B b)) → (∀ t ∈ ts, 1 ≤ t) → ∃ C' B' : Nat → Int, (∀ b, b < M → BxI mo a (s' b) (C' b) (B' b)) ∧ sm C' M = sm C M + sums (dff mo a) ts ∧ sm B' M = sm B M + sums (big mo a) ts
  | [], [], s, s', C, B, h, ok, I, ht => by
    simp [fin] at h
    subst h
    exact ⟨C, B, I, by simp [sums], by simp [sums]⟩
  | [], b :: E, s, s', C, B, h, ok, I, ht => by have := fin_len h; simp at this
  | t :: ts, [], s, s', C, B, h, ok, I, ht => by have := fin_len h; simp at this
  | t :: ts, b :: E, s, s', C, B, h, ok, I, ht => by
    simp only [fin] at h
    cases y : addP mo each (s b) t with
    | none => rw [y] at h; cases h
    | some x =>
      rw [y] at h
      have hb : b < M := ok b (by simp)
      obtain ⟨C', B', i, e1, e2⟩ := bound_sum a0 a2 ts E _ s' (up C b (C b + dff mo a t)) (up B b (B b + big mo a t)) h (fun c hc => ok c (by simp [hc])) (fun c hc => by
        by_cases e : c = b
        · subst e
          rw [up_same, up_same, up_same]
          exact (I c hc).add (ht t (by simp)) a0 a2 y
        · rw [up_ne _ _ e, up_ne _ _ e, up_ne _ _ e]; exact I c hc) (fun u hu => ht u (by simp [hu]))
      refine ⟨C', B', i, ?_, ?_⟩
      · rw [e1, sm_up, if_pos hb]; simp only [sums]; omega
      · rw [e2, sm_up, if_pos hb]; simp only [sums]; omega
theorem dff_bound {ts : List Int} {E : List Nat} {M : Nat} {mo a each : Int} {s' : Nat → Int × Int} (h : fin (addP mo each) ts (fun _ => (0, 0)) E = some s') (ok : Ok M E) (ht : ∀ t ∈ ts, 1 ≤ t) (a0 : 0 ≤ a) (a2 : 2 * a ≤ mo) : sums (big mo a) ts ≤ cnt M s' ∧ sums (dff mo a) ts ≤ mo * cnt M s' := by
  have z : ∀ m, sm (fun _ => (0 : Int)) m = 0 := fun m => by induction m with
    | zero => rfl
    | succ m ih => rw [sm, ih]; rfl
  obtain ⟨C, B, I, e1, e2⟩ := bound_sum (each := each) (M := M) a0 a2 ts E _ s' (fun _ => 0) (fun _ => 0) h ok (fun b _ => ⟨fun _ => ⟨rfl, rfl⟩, Int.le_refl _, Int.le_refl _, by dsimp only; omega, .inr ⟨Int.le_refl _, Int.le_refl _, fun _ => rfl, .inl rfl⟩⟩) ht
  rw [z] at e1 e2
  rw [← (show sm B M = sums (big mo a) ts from by omega), ← (show sm C M = sums (dff mo a) ts from by omega)]
  have : ∀ m, m ≤ M → sm B m ≤ cnt m s' ∧ sm C m ≤ mo * cnt m s' := fun m => by
    induction m with
    | zero => intro _; exact ⟨Int.le_refl _, by show (0 : Int) ≤ mo * 0; omega⟩
    | succ m ih =>
      intro hm
      obtain ⟨i1, i2⟩ := ih (by omega)
      obtain ⟨h1, h2, h3, h4, h5⟩ := I m (by omega)
      have ec : cnt (m + 1) s' = cnt m s' + if (s' m).2 = 0 then 0 else 1 := rfl
      rw [ec]
      simp only [sm]
      by_cases k : (s' m).2 = 0
      · obtain ⟨k1, k2⟩ := h1 k
        rw [if_pos k, k1, k2]
        simp only [Int.add_zero]
        exact ⟨i1, i2⟩
      · rw [if_neg k, Int.mul_add]
        omega
  exact this M (Nat.le_refl _)
/-- The boxes that a bound asks for. -/
def bfor (mo a : Int) (ts : List Int) : Int := sums (big mo a) ts + (max 0 (sums (dff mo a) ts - mo * sums (big mo a) ts) + mo - 1) / mo
theorem bfor_le {N C D mo : Int} (m1 : 1 ≤ mo) (h1 : N ≤ C) (h2 : D ≤ mo * C) : N + (max 0 (D - mo * N) + mo - 1) / mo ≤ C := by
  have h3 : D - mo * N ≤ mo * (C - N) := by rw [Int.mul_sub]; omega
  have h4 : 0 ≤ mo * (C - N) := Int.mul_nonneg (by omega) (by omega)
  have h5 : (max 0 (D - mo * N) + mo - 1) / mo < C - N + 1 := Int.ediv_lt_of_lt_mul (by omega) (by rw [Int.mul_comm (C - N + 1) mo, Int.mul_add]; omega)
  omega
theorem bfor_ge {N D mo : Int} (m1 : 1 ≤ mo) : D ≤ mo * (N + (max 0 (D - mo * N) + mo - 1) / mo) := by
  have h1 := Int.emod_add_mul_ediv (max 0 (D - mo * N) + mo - 1) mo
  have h2 := Int.emod_lt_of_pos (max 0 (D - mo * N) + mo - 1) (show 0 < mo by omega)
  rw [Int.mul_add]
  omega
theorem BestP.bfor {mo each a L : Int} {M : Nat} {ts : List Int} {E : List Nat} (h : BestP mo each M ts L E) (ht : ∀ t ∈ ts, 1 ≤ t) (m1 : 1 ≤ mo) (a0 : 0 ≤ a) (a2 : 2 * a ≤ mo) : Sea.bfor mo a ts ≤ L := by
  obtain ⟨s', f, v, -⟩ := h.fin_
  obtain ⟨h1, h2⟩ := dff_bound f h.ok ht a0 a2
  have v : cnt M s' = L := v
  rw [v] at h1 h2
  exact bfor_le m1 h1 h2
theorem bfor_zero {mo : Int} {ts : List Int} (ht : ∀ t ∈ ts, 1 ≤ t ∧ t ≤ mo) (m1 : 1 ≤ mo) : sums (fun t => t) ts ≤ mo * Sea.bfor mo 0 ts := by
  have := bfor_ge (N := sums (big mo 0) ts) (D := sums (dff mo 0) ts) m1
  rw [sums_id (dff mo 0) ts (fun t h => by have := ht t h; unfold dff; rw [if_neg (by omega), if_pos (by omega)])] at this
  unfold Sea.bfor
  rw [sums_id (dff mo 0) ts (fun t h => by have := ht t h; unfold dff; rw [if_neg (by omega), if_pos (by omega)])]
  exact this
end Go.Proofs.Ythbgeikdamajlaa.Sea

/- Press: Moore and Hodgson's rule, plain: the kept ones. -/
namespace Go.Proofs.Ythbgeikdamajlaa
open Go.RowKit Go.Proofs.Ythbgeikdamajlaa.Prs Go.Proofs.Ythbgeikdamajlaa.Stb
set_option linter.unusedVariables false
set_option linter.unusedSimpArgs false

/-- The last of the longest among the first i. -/
def lgx (D : List (Int × Int)) (A : List Int) : Nat → Nat
  | 0 => 0
  | i + 1 => if pd D (gi A (lgx D A i)).toNat ≤ pd D (gi A i).toNat then i else lgx D A i
theorem lgx_lt (D : List (Int × Int)) (A : List Int) : ∀ i, lgx D A i = 0 ∨ lgx D A i < i
  | 0 => .inl rfl
  | i + 1 => by
    unfold lgx
    split
    · exact .inr (by omega)
    · rcases lgx_lt D A i with h | h
      · exact .inl h
      · exact .inr (by omega)
theorem lgx_Lg (D : List (Int × Int)) (A : List Int) : ∀ i, Lg D A i (lgx D A i)
  | 0 => .inl ⟨rfl, rfl⟩
  | i + 1 => by
    unfold lgx
    split
    · next g => exact (lgx_Lg D A i).ge g
    · next g => exact (lgx_Lg D A i).lt g
theorem Lg.uniq {D : List (Int × Int)} {A : List Int} {i j k : Nat} (h : Lg D A i j) (g : Lg D A i k) : j = k := by
  rcases h with ⟨h1, h2⟩ | ⟨h1, h2, h3⟩ <;> rcases g with ⟨g1, g2⟩ | ⟨g1, g2, g3⟩
  · omega
  · omega
  · omega
  · apply Classical.byContradiction; intro ne
    by_cases l : j < k
    · have := h3 k l g1
      have := g2 j h1; omega
    · have := g3 j (by omega) h1
      have := h2 k g1; omega
def tot (D : List (Int × Int)) (K : List Int) : Int := Sea.sums (fun x => pd D x.toNat) K
/-- One more, and the last of the longest out if it is too much. -/
def mhs (D : List (Int × Int)) (K : List Int) (x : Int) : List Int := if sd D x.toNat < tot D (K ++ [x]) then (K ++ [x]).eraseIdx (lgx D (K ++ [x]) (K ++ [x]).length) else K ++ [x]
def kept (D : List (Int × Int)) (O : List Int) (i : Nat) : List Int := (O.take i).foldl (mhs D) []
theorem kept_succ {D : List (Int × Int)} {O : List Int} {i : Nat} (h : i < O.length) : kept D O (i + 1) = mhs D (kept D O i) (gi O i) := by
  unfold kept
  rw [List.take_succ_eq_append_getElem h, List.foldl_append]
  simp [gi, h]
theorem kept_mem {D : List (Int × Int)} {O : List Int} : ∀ i, i ≤ O.length → ∀ z ∈ kept D O i, z ∈ O.take i
  | 0, _, z, hz => by simp [kept] at hz
  | i + 1, h, z, hz => by
    rw [kept_succ (by omega)] at hz
    have : z ∈ kept D O i ++ [gi O i] := by
      unfold mhs at hz
      split at hz
      · exact List.mem_of_mem_eraseIdx hz
      · exact hz
    rw [List.take_succ_eq_append_getElem (by omega)]
    rcases List.mem_append.1 this with g | g
    · exact List.mem_append.2 (.inl (kept_mem i (by omega) z g))
    · simp at g
      subst g
      exact List.mem_append.2 (.inr (by simp [gi, show i < O.length by omega]))
theorem kept_len {D : List (Int × Int)} {O : List Int} : ∀ i, i ≤ O.length → (kept D O i).length ≤ i
  | 0, _ => by simp [kept]
  | i + 1, h => by
    rw [kept_succ (by omega)]
    have := kept_len (D := D) (O := O) i (by omega)
    unfold mhs
    split
    · have := List.length_eraseIdx_le (kept D O i ++ [gi O i]) (lgx D (kept D O i ++ [gi O i]) (kept D O i ++ [gi O i]).length)
      simp at this ⊢; omega
    · simp; omega
theorem tot_bd {D : List (Int × Int)} (ok : TkOk D D.length) : ∀ K : List Int, (∀ z ∈ K, 0 ≤ z ∧ z < D.length) → 0 ≤ tot D K ∧ tot D K ≤ K.length * 1073741824
  | [], _ => by simp [tot, Sea.sums]
  | z :: K, h => by
    have ih := tot_bd ok K (fun y hy => h y (by simp [hy]))
    have hz := h z (by simp)
    have := (ok z.toNat (by omega)).1
    unfold tot at ih ⊢
    simp only [Sea.sums, List.length_cons]
    omega
/-- What is left out, in the order of the numbers. -/
def left (K : List Int) (n : Nat) : List Int := ((List.range n).filter fun (j : Nat) => !K.contains (j : Int)).map fun (j : Nat) => (j : Int)
theorem left_succ (K : List Int) (n : Nat) : left K (n + 1) = if K.contains (n : Int) then left K n else left K n ++ [(n : Int)] := by
  unfold left
  rw [List.range_succ, List.filter_append, List.map_append]
  have e : ([n].filter fun (j : Nat) => !K.contains (j : Int)) = if K.contains (n : Int) then [] else [n] := by
    rw [List.filter_cons]
    cases K.contains (n : Int) <;> rfl
  rw [e]
  cases K.contains (n : Int) <;> simp
theorem contains_step {K : List Int} {m : Nat} (h : m < K.length) (z : Int) : (K.take (m + 1)).contains z = ((K.take m).contains z || gi K m == z) := by
  have e := List.take_succ_eq_append_getElem h
  have g : gi K m = K[m] := by simp [gi, h]
  rw [e, g]
  generalize K.take m = A
  generalize K[m] = y
  rw [Bool.eq_iff_iff, Bool.or_eq_true, beq_iff_eq, List.contains_iff_mem, List.contains_iff_mem, List.mem_append, List.mem_singleton]
  exact ⟨fun h => h.imp id Eq.symm, fun h => h.imp id Eq.symm⟩
theorem erase_step {K : List Int} {j k : Nat} (h : k < K.length) : (K.take (k + 1)).eraseIdx j = if k = j then (K.take k).eraseIdx j else (K.take k).eraseIdx j ++ [gi K k] := by
  have e : K.take (k + 1) = K.take k ++ [gi K k] := by
    rw [List.take_succ_eq_append_getElem h]
    simp [gi, h]
  have l : (K.take k).length = k := by simp; omega
  rw [e]
  split
  · next c =>
    subst c
    rw [List.eraseIdx_append_of_length_le (by omega), l, List.eraseIdx_of_length_le (l := K.take k) (by omega)]
    simp
  · next c =>
    by_cases g : j < k
    · rw [List.eraseIdx_append_of_lt_length (by omega)]
    · rw [List.eraseIdx_of_length_le (l := K.take k ++ [gi K k]) (by simp; omega), List.eraseIdx_of_length_le (l := K.take k) (by omega)]
end Go.Proofs.Ythbgeikdamajlaa

/- Press: a sorted list of those that are left is the list of those that are left. Plain facts. -/
namespace Go.Proofs.Ythbgeikdamajlaa
open Go.RowKit Go.Proofs.Ythbgeikdamajlaa.Prs Go.Proofs.Ythbgeikdamajlaa.Stb

theorem srt_uniq : ∀ A B : List Int, A.Pairwise (· < ·) → B.Pairwise (· < ·) → (∀ z, z ∈ A ↔ z ∈ B) → A = B
  | [], [], _, _, _ => rfl
  | [], b :: B, _, _, h => by have := (h b).2 (by simp); cases this
  | a :: A, [], _, _, h => by have := (h a).1 (by simp); cases this
  | a :: A, b :: B, hA, hB, h => by
    rw [List.pairwise_cons] at hA hB
    have e : a = b := by
      have h1 := (h a).1 (by simp)
      have h2 := (h b).2 (by simp)
      rcases List.mem_cons.1 h1 with g | g
      · exact g
      · rcases List.mem_cons.1 h2 with k | k
        · exact k.symm
        · have := hB.1 a g; have := hA.1 b k; omega
    subst e
    rw [srt_uniq A B hA.2 hB.2 fun z => ?_]
    constructor
    · intro hz
      rcases List.mem_cons.1 ((h z).1 (List.mem_cons_of_mem _ hz)) with g | g
      · have := hA.1 z hz; omega
      · exact g
    · intro hz
      rcases List.mem_cons.1 ((h z).2 (List.mem_cons_of_mem _ hz)) with g | g
      · have := hB.1 z hz; omega
      · exact g
theorem left_mem (K : List Int) (z : Int) : ∀ n : Nat, z ∈ left K n ↔ (0 ≤ z ∧ z < n) ∧ z ∉ K
  | 0 => by simp [left]; omega
  | n + 1 => by
    rw [left_succ]
    have ih := left_mem K z n
    by_cases c : (n : Int) ∈ K
    · rw [if_pos (by simpa using c), ih]
      constructor
      · rintro ⟨⟨a, b⟩, d⟩; exact ⟨⟨a, by omega⟩, d⟩
      · rintro ⟨⟨a, b⟩, d⟩
        refine ⟨⟨a, ?_⟩, d⟩
        by_cases e : z = n
        · subst e; exact absurd c d
        · omega
    · rw [if_neg (by simpa using c), List.mem_append, ih, List.mem_singleton]
      constructor
      · rintro (⟨⟨a, b⟩, d⟩ | rfl)
        · exact ⟨⟨a, by omega⟩, d⟩
        · exact ⟨⟨by omega, by omega⟩, c⟩
      · rintro ⟨⟨a, b⟩, d⟩
        by_cases e : z = n
        · exact .inr e
        · exact .inl ⟨⟨a, by omega⟩, d⟩
theorem left_srt (K : List Int) : ∀ n : Nat, (left K n).Pairwise (· < ·)
  | 0 => by simp [left]
  | n + 1 => by
    rw [left_succ]
    split
    · exact left_srt K n
    · rw [List.pairwise_append]
      refine ⟨left_srt K n, by simp, fun a ha b hb => ?_⟩
      have := (left_mem K a n).1 ha
      simp at hb
      omega
/-- What has fallen out, sorted, is what is left. -/
theorem sort_left {K L : List Int} {n : Nat} (nd : L.Nodup) (mem : ∀ z, z ∈ L ↔ (0 ≤ z ∧ z < n) ∧ z ∉ K) : (L.mergeSort fun x y => decide (x ≤ y)) = left K n := by
  have p := List.mergeSort_perm L (fun x y => decide (x ≤ y))
  have s : (L.mergeSort fun x y => decide (x ≤ y)).Pairwise (fun x y => decide (x ≤ y) = true) := List.pairwise_mergeSort (fun a b c h1 h2 => by simp at *; omega) (fun a b => by simp; omega) L
  have n2 : (L.mergeSort fun x y => decide (x ≤ y)).Nodup := p.nodup_iff.2 nd
  refine srt_uniq _ _ ?_ (left_srt K n) fun z => by rw [p.mem_iff, mem, left_mem]
  have := s.and n2
  exact this.imp fun {a b} h => by
    have h1 : a ≤ b := by simpa using h.1
    have h2 : a ≠ b := h.2
    omega
theorem erase_take {K : List Int} {j : Nat} : K.take j ++ K.drop (j + 1) = K.eraseIdx j := (List.eraseIdx_eq_take_drop_succ K j).symm
end Go.Proofs.Ythbgeikdamajlaa

/- Press: the kept ones and those that fell out are all. Plain facts. -/
namespace Go.Proofs.Ythbgeikdamajlaa
open Go.RowKit Go.Proofs.Ythbgeikdamajlaa.Prs Go.Proofs.Ythbgeikdamajlaa.Stb

/-- Those that fell out, in the order in which they did. -/
def fell (D : List (Int × Int)) (O : List Int) : Nat → List Int
  | 0 => []
  | i + 1 => if sd D (gi O i).toNat < tot D (kept D O i ++ [gi O i]) then fell D O i ++ [gi (kept D O i ++ [gi O i]) (lgx D (kept D O i ++ [gi O i]) (kept D O i ++ [gi O i]).length)] else fell D O i
theorem kept_fell {D : List (Int × Int)} {O : List Int} : ∀ i, i ≤ O.length → (kept D O i ++ fell D O i).Perm (O.take i)
  | 0, _ => by simp [kept, fell]
  | i + 1, h => by
    have ih := kept_fell (D := D) (O := O) i (by omega)
    have e : O.take (i + 1) = O.take i ++ [gi O i] := by
      rw [List.take_succ_eq_append_getElem (by omega)]
      simp [gi, show i < O.length by omega]
    rw [e, kept_succ (by omega)]
    have step : (kept D O i ++ [gi O i] ++ fell D O i).Perm (O.take i ++ [gi O i]) := by
      have h1 : (kept D O i ++ [gi O i] ++ fell D O i).Perm (kept D O i ++ fell D O i ++ [gi O i]) := by
        rw [List.append_assoc, List.append_assoc]
        exact List.Perm.append_left _ List.perm_append_comm
      exact h1.trans (ih.append_right _)
    unfold mhs fell
    by_cases c : sd D (gi O i).toNat < tot D (kept D O i ++ [gi O i])
    · rw [if_pos c, if_pos c]
      have hl : lgx D (kept D O i ++ [gi O i]) (kept D O i ++ [gi O i]).length < (kept D O i ++ [gi O i]).length := by
        have := lgx_lt D (kept D O i ++ [gi O i]) (kept D O i ++ [gi O i]).length
        simp at this ⊢; omega
      refine List.Perm.trans ?_ step
      generalize kept D O i ++ [gi O i] = K at *
      generalize lgx D K K.length = j at *
      have g : gi K j = K[j] := by simp [gi, hl]
      rw [g]
      have p : (K[j] :: K.eraseIdx j).Perm K := by
        have h1 : (K[j] :: (K.take j ++ K.drop (j + 1))).Perm (K.take j ++ K[j] :: K.drop (j + 1)) := List.perm_middle.symm
        rw [← List.drop_eq_getElem_cons hl, List.take_append_drop] at h1
        rw [List.eraseIdx_eq_take_drop_succ]
        exact h1
      refine List.Perm.trans ?_ (p.append_right (fell D O i))
      rw [← List.append_assoc]
      exact (List.perm_append_comm (l₁ := K.eraseIdx j ++ fell D O i) (l₂ := [K[j]]))
    · rw [if_neg c, if_neg c]
      exact step
/-- Those that fell out, sorted, are those that are left. -/
theorem fell_left (D : List (Int × Int)) : ((fell D (dueO D D.length) D.length).mergeSort fun x y => decide (x ≤ y)) = left (kept D (dueO D D.length) D.length) D.length := by
  have p := kept_fell (D := D) (O := dueO D D.length) D.length (by rw [dueO_len]; exact Nat.le_refl _)
  rw [List.take_of_length_le (by rw [dueO_len]; exact Nat.le_refl _)] at p
  have nd : (dueO D D.length).Nodup := by
    have s := dueO_srt D D.length
    exact s.imp fun {a b} h e => by subst e; exact rd_irr h
  have nd2 := p.nodup_iff.2 nd
  rw [List.nodup_append] at nd2
  refine sort_left nd2.2.1 fun z => ?_
  have m : z ∈ kept D (dueO D D.length) D.length ++ fell D (dueO D D.length) D.length ↔ z ∈ dueO D D.length := p.mem_iff
  rw [List.mem_append, dueO_mem] at m
  constructor
  · intro h
    refine ⟨m.1 (.inr h), fun k => ?_⟩
    exact nd2.2.2 z k z h rfl
  · rintro ⟨h, k⟩
    rcases m.2 h with g | g
    · exact absurd g k
    · exact g
end Go.Proofs.Ythbgeikdamajlaa

/- Press: slices.Sort and slices.Delete on a row of the call's own. It stands on the shelf's text, laid at the seat. -/
namespace Go.Proofs.Ythbgeikdamajlaa
open Go.RowKit Go.Sort Go.Proofs.Ythbgeikdamajlaa.Prs Go.Proofs.Ythbgeikdamajlaa.Stb

theorem sort_own {W : World} {base : Nat} {v : Value} {zs : List Int} (h : W.ownsRow base 3 1 v zs.length (zs.map (Value.int .i64))) (hs : zs.length ≤ 1000000) :
    Calls Try.prog 91 #[v] W fun e w' => e = .returned (.tuple #[]) ∧ w'.ownsRow base 3 1 v zs.length ((zs.mergeSort fun x y => decide (x ≤ y)).map (Value.int .i64)) ∧ W.grownBy w' v.ownBlock := by
  rcases h.2 with ⟨rfl, h0⟩ | ⟨g, cap, cur, rfl, hb, hg, h1, h2, h3, ht⟩
  · have z : zs = [] := List.eq_nil_of_length_eq_zero h0
    subst z
    refine (Go.Proofs.Try.slices_Sort_int_none none 0 W).mono ?_
    rintro e w' ⟨rfl, rfl⟩
    exact ⟨rfl, by simpa using h, ⟨rfl, rfl, rfl, Nat.le_refl _, fun _ _ _ => rfl⟩⟩
  · have H := holds_of_blockI (w := W) (g := g) (ss := zs) hg (by simpa using ht)
    have lt : g < W.heap.size := (Array.getElem?_eq_some_iff.1 hg).1
    refine (Go.Proofs.Try.slices_Sort_int g 0 cap zs W H lt (by omega)).mono ?_
    rintro e w' ⟨rfl, n, os, rfl⟩
    exact ⟨rfl, ownsRow_sortedI (by simp) hb hg h1 h2 h3, grownBy_sortedI _⟩
theorem delete_own {W : World} {base : Nat} {v : Value} {zs : List Int} {j : Nat} (h : W.ownsRow base 3 1 v zs.length (zs.map (Value.int .i64))) (hs : zs.length ≤ 1000000) (hj : j < zs.length) :
    Calls Try.prog 90 #[v, .int .i64 j, .int .i64 ((j + 1 : Nat) : Int)] W fun e w' => ∃ v', e = .returned v' ∧ w'.ownsRow base 3 1 v' (zs.eraseIdx j).length ((zs.eraseIdx j).map (Value.int .i64)) ∧ W.grownBy w' v.ownBlock ∧ v'.ownBlock = v.ownBlock := by
  rcases h.2 with ⟨rfl, h0⟩ | ⟨g, cap, cur, rfl, hb, hg, h1, h2, h3, ht⟩
  · omega
  · have H := holds_of_blockI (w := W) (g := g) (ss := zs) hg (by simpa using ht)
    have lt : g < W.heap.size := (Array.getElem?_eq_some_iff.1 hg).1
    have cm : cap ≤ 9223372036854775807 := by unfold maxLen at h2; omega
    refine (Go.Proofs.Try.slices_Delete_int g 0 cap j (j + 1) zs W H h1 cm (by omega) (by omega)).mono ?_
    rintro e w' ⟨rfl, n, rfl⟩
    obtain ⟨ts, hts⟩ : ∃ ts, ts = zs.take j ++ zs.drop (j + 1) ++ List.replicate (j + 1 - j) (0 : Int) := ⟨_, rfl⟩
    have el : (zs.eraseIdx j).length = zs.length - 1 := by rw [List.length_eraseIdx]; simp [hj]
    have te : ts = zs.eraseIdx j ++ [0] := by
      rw [hts, erase_take, show j + 1 - j = 1 by omega]; rfl
    have tl : ts.length = zs.length := by rw [te]; simp [el]; omega
    rw [← hts]
    have ge : ∀ X : World, X = Go.Sort.grow X #[] := fun X => by cases X; simp [Go.Sort.grow]
    rw [ge (putRow (Value.int .i64) (Sort.ahead W n) g 0 ts.toArray)]
    have ow := ownsRow_sortedI (n := n) (os := #[]) (base := base) (e := 3) (ts := ts) (ss := zs) tl hb hg h1 h2 h3
    have bl : W.grownBy (Go.Sort.grow (putRow (Value.int .i64) (Sort.ahead W n) g 0 ts.toArray) #[]) (some g) := grownBy_sortedI _
    generalize Go.Sort.grow (putRow (Value.int .i64) (Sort.ahead W n) g 0 ts.toArray) #[] = w' at *
    refine ⟨_, rfl, ?_, bl, rfl⟩
    rw [show zs.length - (j + 1 - j) = (zs.eraseIdx j).length by rw [el]; omega]
    rcases ow.2 with ⟨e, _⟩ | ⟨g', cap', cur', e, hb', hg', a1, a2, a3, at_⟩
    · cases e
    · cases e
      refine ⟨by simp, .inr ⟨g, cap, cur', rfl, hb, hg', by rw [el]; omega, a2, a3, ?_⟩⟩
      have : (cur'.toList.take (zs.length * 1)).take ((zs.eraseIdx j).length * 1) = (ts.map (Value.int .i64)).take ((zs.eraseIdx j).length * 1) := by rw [at_]
      rw [List.take_take, te, List.map_append, Nat.min_eq_left (by rw [el]; omega)] at this
      rw [this, Nat.mul_one]
      rw [List.take_append_of_le_length (by simp), List.take_of_length_le (by simp)]
end Go.Proofs.Ythbgeikdamajlaa

/- Press: two rows of one's own side by side. -/
namespace Go.Proofs.Ythbgeikdamajlaa
open Go.RowKit Go.Sort Go.Proofs.Ythbgeikdamajlaa.Prs Go.Proofs.Ythbgeikdamajlaa.Stb

/-- A row of numbers of one's own. -/
abbrev OI (w : World) (base : Nat) (v : Value) (L : List Int) : Prop := w.ownsRow base 3 1 v L.length (L.map (Value.int .i64))
/-- Two values do not lie in one block. -/
def Apt (v u : Value) : Prop := ∀ b, v.ownBlock = some b → u.ownBlock = some b → False
theorem OI.lt {w : World} {base : Nat} {v : Value} {L : List Int} (h : OI w base v L) : ∀ k, v.ownBlock = some k → base ≤ k ∧ k < w.heap.size := fun k e => World.ownsRow.lt h k e
theorem OI.keep {w w' : World} {base : Nat} {v : Value} {L : List Int} {row : Option Nat} (h : OI w base v L) (g : w.grownBy w' row) (ne : ∀ b, v.ownBlock = some b → row = some b → False) : OI w' base v L := by
  refine ⟨h.1, ?_⟩
  rcases h.2 with h0 | ⟨g', cap, cur, rfl, hbg, hg, r⟩
  · exact .inl h0
  · exact .inr ⟨g', cap, cur, rfl, hbg, by rw [g.block g' (Array.getElem?_eq_some_iff.1 hg).1 (fun e => ne g' rfl e.symm)]; exact hg, r⟩
theorem OI.below {w w' : World} {base : Nat} {v : Value} {L : List Int} (h : OI w base v L) (b : Below w.heap.size w w') : OI w' base v L := own_belowD h b
/-- One more at the end of the first row. -/
theorem OI.snoc {w w2 : World} {base : Nat} {v v' u : Value} {L M : List Int} {x : Int} {o : Obj} (h : OI w base v L) (k : OI w base u M) (ap : Apt v u)
    (h1 : w2.ownsRow base 3 1 v' (L.length + 1) (L.map (Value.int .i64) ++ [.int .i64 x])) (h2 : (w.alloc o).grownBy w2 v.ownBlock) (h3 : v'.ownBlock = v.ownBlock ∨ v'.ownBlock = some (w.alloc o).heap.size) :
    OI w2 base v' (L ++ [x]) ∧ OI w2 base u M ∧ Apt v' u := by
  refine ⟨by unfold OI; simpa using h1, OI.keep (w := w.alloc o) (World.ownsRow.alloc k o) h2 (fun b e f => ap b f e), fun b e f => ?_⟩
  rcases h3 with h3 | h3
  · exact ap b (by rw [← h3]; exact e) f
  · rw [h3] at e
    cases e
    have := (k.lt _ f).2
    simp at this
    omega
theorem addr0k (g i : Nat) : (Addr.mk g 0 none).add i = ⟨g, i, none⟩ := by
  unfold Addr.add
  split
  · next h => subst h; rfl
  · simp
theorem Apt.symm {v u : Value} (h : Apt v u) : Apt u v := fun b e f => h b f e
theorem tot_erase (D : List (Int × Int)) : ∀ (K : List Int) (j : Nat), j < K.length → tot D (K.eraseIdx j) = tot D K - pd D (gi K j).toNat
  | [], _, h => by simp at h
  | z :: K, 0, _ => by simp [tot, Sea.sums, gi]; omega
  | z :: K, j + 1, h => by
    have := tot_erase D K j (by simpa using h)
    simp [tot, Sea.sums, gi] at this ⊢
    omega
theorem fell_len (D : List (Int × Int)) (O : List Int) : ∀ i, (fell D O i).length ≤ i
  | 0 => Nat.le_refl _
  | i + 1 => by
    have := fell_len D O i
    unfold fell
    split
    · simp; omega
    · omega
end Go.Proofs.Ythbgeikdamajlaa
