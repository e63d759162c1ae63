/- Press: the bound, plain; the program's Bound; the reference's search (SP0 SP1 SQ0 in one). -/
import Derived.Test.YthfnaegfjacjbaaSH3
import Derived.Test.YthfnaegfjacjbaaSK0
import Derived.Test.YthfnaegfjacjbaaSK2
/- Press: the bound of Pack, by a function of the masses that no box bears more of than its room. Plain facts. -/
namespace Go.Proofs.Ythfnaegfjacjbaa.Sea
open Go.Proofs.Ythfnaegfjacjbaa.Prs
set_option linter.unusedVariables false
set_option linter.unusedSimpArgs false

def dff (mo a t : Int) : Int := if mo - a < t then mo else if a ≤ t then t else 0
def big (mo a t : Int) : Int := if mo - a < t ∨ mo < 2 * t then 1 else 0
def sums (f : Int → Int) : List Int → Int
  | [] => 0
  | t :: ts => f t + sums f ts
theorem sums_snoc (f : Int → Int) (t : Int) : ∀ ts : List Int, sums f (ts ++ [t]) = sums f ts + f t
  | [] => by simp [sums]
  | u :: ts => by
    show f u + sums f (ts ++ [t]) = f u + sums f ts + f t
    rw [sums_snoc f t ts]; omega
theorem sums_id (f : Int → Int) : ∀ ts : List Int, (∀ t ∈ ts, f t = t) → sums f ts = sums (fun t => t) ts
  | [], _ => rfl
  | u :: ts, h => by
    show f u + sums f ts = u + sums (fun t => t) ts
    rw [h u (by simp), sums_id f ts (fun t ht => h t (by simp [ht]))]
theorem sm_up (f : Nat → Int) (b : Nat) (y : Int) : ∀ M, sm (up f b y) M = sm f M + if b < M then y - f b else 0
  | 0 => by simp [sm]
  | M + 1 => by
    simp only [sm]
    rw [sm_up f b y M]
    by_cases e : M = b
    · subst e
      rw [up_same, if_neg (by omega), if_pos (by omega)]; omega
    · rw [up_ne f y e]
      by_cases l : b < M
      · rw [if_pos l, if_pos (by omega)]; omega
      · rw [if_neg l, if_neg (by omega)]; omega
/-- What a box bears. -/
def BxI (mo a : Int) (x : Int × Int) (C B : Int) : Prop := (x.2 = 0 → C = 0 ∧ B = 0) ∧ 0 ≤ x.2 ∧ 0 ≤ x.1 ∧ x.1 ≤ mo ∧ ((C = mo ∧ B = 1 ∧ mo - a < x.1) ∨ (0 ≤ C ∧ C ≤ x.1 ∧ (x.1 < a → C = 0) ∧ (B = 0 ∨ (B = 1 ∧ mo < 2 * x.1))))
theorem BxI.add {mo a each t C B : Int} {x y : Int × Int} (h : BxI mo a x C B) (t1 : 1 ≤ t) (a0 : 0 ≤ a) (a2 : 2 * a ≤ mo) (e : addP mo each x t = some y) : BxI mo a y (C + dff mo a t) (B + big mo a t) := by
  obtain ⟨h1, h2, h3, h4, h5⟩ := h
  unfold addP at e
  split at e
  · next g =>
    obtain ⟨g1, g2, g3⟩ := g
    simp at e
    subst e
    unfold BxI dff big
    dsimp only
    refine ⟨fun k => by omega, by omega, by omega, by omega, ?_⟩
    rcases h5 with ⟨c1, c2, c3⟩ | ⟨c1, c2, c3, c4⟩
    · left
      rw [if_neg (by omega), if_neg (by omega), if_neg (by omega)]
      omega
    · by_cases t2 : mo - a < t
      · left
        rw [if_pos t2, if_pos (.inl t2)]
        have := c3 (by omega)
        omega
      · right
        rw [if_neg t2]
        by_cases t3 : a ≤ t
        · rw [if_pos t3]
          refine ⟨by omega, by omega, fun k => by omega, ?_⟩
          by_cases t4 : mo < 2 * t
          · rw [if_pos (.inr t4)]; omega
          · rw [if_neg (by omega)]; omega
        · rw [if_neg t3, if_neg (by omega)]
          refine ⟨by omega, by omega, fun k => by have := c3 (by omega); omega, ?_⟩
          omega
  · cases e
theorem bound_sum {mo a each : Int} {M : Nat} (a0 : 0 ≤ a) (a2 : 2 * a ≤ mo) : ∀ (ts : List Int) (E : List Nat) (s s' : Nat → Int × Int) (C B : Nat → Int), fin (addP mo each) ts s E = some s' → Ok M E → (∀ b, b < M → BxI mo a (s b) (C b) (B b)) → (∀ t ∈ ts, 1 ≤ t) → ∃ C' B' : Nat → Int, (∀ b, b < M → BxI mo a (s' b) (C' b) (B' b)) ∧ sm C' M = sm C M + sums (dff mo a) ts ∧ sm B' M = sm B M + sums (big mo a) ts
  | [], [], s, s', C, B, h, ok, I, ht => by
    simp [fin] at h
    subst h
    exact ⟨C, B, I, by simp [sums], by simp [sums]⟩
  | [], b :: E, s, s', C, B, h, ok, I, ht => by have := fin_len h; simp at this
  | t :: ts, [], s, s', C, B, h, ok, I, ht => by have := fin_len h; simp at this
  | t :: ts, b :: E, s, s', C, B, h, ok, I, ht => by
    simp only [fin] at h
    cases y : addP mo each (s b) t with
    | none => rw [y] at h; cases h
    | some x =>
      rw [y] at h
      have hb : b < M := ok b (by simp)
      obtain ⟨C', B', i, e1, e2⟩ := bound_sum a0 a2 ts E _ s' (up C b (C b + dff mo a t)) (up B b (B b + big mo a t)) h (fun c hc => ok c (by simp [hc])) (fun c hc => by
        by_cases e : c = b
        · subst e
          rw [up_same, up_same, up_same]
          exact (I c hc).add (ht t (by simp)) a0 a2 y
        · rw [up_ne _ _ e, up_ne _ _ e, up_ne _ _ e]; exact I c hc) (fun u hu => ht u (by simp [hu]))
      refine ⟨C', B', i, ?_, ?_⟩
      · rw [e1, sm_up, if_pos hb]; simp only [sums]; omega
      · rw [e2, sm_up, if_pos hb]; simp only [sums]; omega
theorem dff_bound {ts : List Int} {E : List Nat} {M : Nat} {mo a each : Int} {s' : Nat → Int × Int} (h : fin (addP mo each) ts (fun _ => (0, 0)) E = some s') (ok : Ok M E) (ht : ∀ t ∈ ts, 1 ≤ t) (a0 : 0 ≤ a) (a2 : 2 * a ≤ mo) : sums (big mo a) ts ≤ cnt M s' ∧ sums (dff mo a) ts ≤ mo * cnt M s' := by
  have z : ∀ m, sm (fun _ => (0 : Int)) m = 0 := fun m => by induction m with
    | zero => rfl
    | succ m ih => rw [sm, ih]; rfl
  obtain ⟨C, B, I, e1, e2⟩ := bound_sum (each := each) (M := M) a0 a2 ts E _ s' (fun _ => 0) (fun _ => 0) h ok (fun b _ => ⟨fun _ => ⟨rfl, rfl⟩, Int.le_refl _, Int.le_refl _, by dsimp only; omega, .inr ⟨Int.le_refl _, Int.le_refl _, fun _ => rfl, .inl rfl⟩⟩) ht
  rw [z] at e1 e2
  rw [← (show sm B M = sums (big mo a) ts from by omega), ← (show sm C M = sums (dff mo a) ts from by omega)]
  have : ∀ m, m ≤ M → sm B m ≤ cnt m s' ∧ sm C m ≤ mo * cnt m s' := fun m => by
    induction m with
    | zero => intro _; exact ⟨Int.le_refl _, by show (0 : Int) ≤ mo * 0; omega⟩
    | succ m ih =>
      intro hm
      obtain ⟨i1, i2⟩ := ih (by omega)
      obtain ⟨h1, h2, h3, h4, h5⟩ := I m (by omega)
      have ec : cnt (m + 1) s' = cnt m s' + if (s' m).2 = 0 then 0 else 1 := rfl
      rw [ec]
      simp only [sm]
      by_cases k : (s' m).2 = 0
      · obtain ⟨k1, k2⟩ := h1 k
        rw [if_pos k, k1, k2]
        simp only [Int.add_zero]
        exact ⟨i1, i2⟩
      · rw [if_neg k, Int.mul_add]
        omega
  exact this M (Nat.le_refl _)
/-- The boxes that a bound asks for. -/
def bfor (mo a : Int) (ts : List Int) : Int := sums (big mo a) ts + (max 0 (sums (dff mo a) ts - mo * sums (big mo a) ts) + mo - 1) / mo
theorem bfor_le {N C D mo : Int} (m1 : 1 ≤ mo) (h1 : N ≤ C) (h2 : D ≤ mo * C) : N + (max 0 (D - mo * N) + mo - 1) / mo ≤ C := by
  have h3 : D - mo * N ≤ mo * (C - N) := by rw [Int.mul_sub]; omega
  have h4 : 0 ≤ mo * (C - N) := Int.mul_nonneg (by omega) (by omega)
  have h5 : (max 0 (D - mo * N) + mo - 1) / mo < C - N + 1 := Int.ediv_lt_of_lt_mul (by omega) (by rw [Int.mul_comm (C - N + 1) mo, Int.mul_add]; omega)
  omega
theorem bfor_ge {N D mo : Int} (m1 : 1 ≤ mo) : D ≤ mo * (N + (max 0 (D - mo * N) + mo - 1) / mo) := by
  have h1 := Int.emod_add_mul_ediv (max 0 (D - mo * N) + mo - 1) mo
  have h2 := Int.emod_lt_of_pos (max 0 (D - mo * N) + mo - 1) (show 0 < mo by omega)
  rw [Int.mul_add]
  omega
theorem BestP.bfor {mo each a L : Int} {M : Nat} {ts : List Int} {E : List Nat} (h : BestP mo each M ts L E) (ht : ∀ t ∈ ts, 1 ≤ t) (m1 : 1 ≤ mo) (a0 : 0 ≤ a) (a2 : 2 * a ≤ mo) : Sea.bfor mo a ts ≤ L := by
  obtain ⟨s', f, v, -⟩ := h.fin_
  obtain ⟨h1, h2⟩ := dff_bound f h.ok ht a0 a2
  have v : cnt M s' = L := v
  rw [v] at h1 h2
  exact bfor_le m1 h1 h2
theorem bfor_zero {mo : Int} {ts : List Int} (ht : ∀ t ∈ ts, 1 ≤ t ∧ t ≤ mo) (m1 : 1 ≤ mo) : sums (fun t => t) ts ≤ mo * Sea.bfor mo 0 ts := by
  have := bfor_ge (N := sums (big mo 0) ts) (D := sums (dff mo 0) ts) m1
  rw [sums_id (dff mo 0) ts (fun t h => by have := ht t h; unfold dff; rw [if_neg (by omega), if_pos (by omega)])] at this
  unfold Sea.bfor
  rw [sums_id (dff mo 0) ts (fun t h => by have := ht t h; unfold dff; rw [if_neg (by omega), if_pos (by omega)])]
  exact this
end Go.Proofs.Ythfnaegfjacjbaa.Sea

/- Press: Bound and what it asks for. -/
namespace Go.Proofs.Ythfnaegfjacjbaa
open Go.RowKit Go.Proofs.Ythfnaegfjacjbaa.Prs Go.Proofs.Ythfnaegfjacjbaa.Stb
set_option linter.unusedVariables false
set_option linter.unusedSimpArgs false

theorem take_gi {T : List Int} {i : Nat} (h : i < T.length) : T.take (i + 1) = T.take i ++ [gi T i] := by
  rw [List.take_succ_eq_append_getElem h]
  simp [gi, h]

set_option maxRecDepth 100000 in
set_option maxHeartbeats 8000000 in
theorem boxesFor_any (p : Option Addr) (c : Nat) (T : List Int) (mo a : Int) (w : World) (r : NumR w p T) (n12 : T.length ≤ 12) (ok : ThOk T T.length) (m1 : 1 ≤ mo ∧ mo ≤ 1073741824) (a0 : 0 ≤ a) (a2 : 2 * a ≤ mo) :
    Calls Try.prog 69 #[.slice p T.length c, .int .i64 mo, .int .i64 a] w fun e w' => e = .returned (.int .i64 (Sea.bfor mo a T)) ∧ Below w.heap.size w w' := by
  have R := Lib.hid r
  have OK := Lib.hid ok
  obtain ⟨n, hn⟩ : ∃ n, n = T.length := ⟨_, rfl⟩
  have QE := Lib.hid (show ∀ N S : Int, N = Sea.sums (Sea.big mo a) (T.take n) → S = Sea.sums (Sea.dff mo a) (T.take n) - mo * Sea.sums (Sea.big mo a) (T.take n) → N + (max 0 S + mo - 1) / mo = Sea.bfor mo a T from fun N S h1 h2 => by
    unfold Sea.bfor
    rw [hn, List.take_length] at h1 h2
    rw [h1, h2])
  rw [← hn] at n12 OK ⊢
  have HN := Lib.hid hn
  clear hn r ok
  have wa : IntKind.i64.wrap (mo - a) = mo - a := wI rfl (by omega) (by omega)
  go_enter Try.func69, Try.ntmps69
  go_wp2_with fail
  go_loopw [7, 8, 13] (fun nv sv kv wr => ∃ (i : Nat) (N S : Int), i ≤ n ∧ kv = .int .i64 i ∧ nv = .int .i64 N ∧ sv = .int .i64 S ∧ (0 ≤ N ∧ N ≤ i) ∧ (-(i : Int) * 1073741824 ≤ S ∧ S ≤ i * 1073741824) ∧ Hid (N = Sea.sums (Sea.big mo a) (T.take i)) ∧ Hid (S = Sea.sums (Sea.dff mo a) (T.take i) - mo * Sea.sums (Sea.big mo a) (T.take i)) ∧ Hid (Below w.heap.size w wr)) (fun _ _ kv _ => n - (intOf kv).toNat)
  case atStart => exact ⟨0, 0, 0, Nat.zero_le _, rfl, rfl, rfl, by omega, by omega, Lib.hid rfl, Lib.hid (by simp [Sea.sums]), Lib.hid (Below.refl _ _)⟩
  case round =>
    obtain ⟨i, N, S, hi', rfl, rfl, rfl, nb, sb, NE, SE, HB⟩ := hrel
    by_cases t1 : i < n
    · have i1 : (0 : Int) ≤ (i : Int) := by omega
      have i2 : (i : Int) < (n : Int) := by omega
      obtain ⟨x, rfl, kx, cx⟩ := (R.out.below HB.out) i (by have := HN.out; omega)
      obtain ⟨t, ht⟩ : ∃ t, t = gi T i := ⟨_, rfl⟩
      have tb := OK.out i t1
      rw [← ht] at cx tb
      have ST := Lib.hid (show ∀ D B : Int, Sea.dff mo a t = D → Sea.big mo a t = B → N + B = Sea.sums (Sea.big mo a) (T.take (i + 1)) ∧ S + D - mo * B = Sea.sums (Sea.dff mo a) (T.take (i + 1)) - mo * Sea.sums (Sea.big mo a) (T.take (i + 1)) from fun D B e1 e2 => by
        rw [take_gi (by have := HN.out; omega), Sea.sums_snoc, Sea.sums_snoc, ← ht, e1, e2, ← NE.out, Int.mul_add]
        refine ⟨rfl, ?_⟩
        have := SE.out
        rw [← NE.out] at this
        omega)
      clear ht NE SE kx
      have w1 : IntKind.i64.wrap (N + 1) = N + 1 := wI rfl (by omega) (by omega)
      have w2 : IntKind.i64.wrap (2 * t) = 2 * t := wI rfl (by omega) (by omega)
      have w3 : IntKind.i64.wrap (mo - t) = mo - t := wI rfl (by omega) (by omega)
      have w4 : IntKind.i64.wrap (S - (mo - t)) = S - (mo - t) := wI rfl (by omega) (by omega)
      have w5 : IntKind.i64.wrap (S + t) = S + t := wI rfl (by omega) (by omega)
      by_cases c1 : mo - a < t
      · have d1 : decide (mo - a < t) = true := decide_eq_true c1
        obtain ⟨F1, F2⟩ := ST.out mo 1 (if_pos c1) (if_pos (.inl c1))
        rw [Int.mul_one, show S + mo - mo = S from by omega] at F2
        have E1 := Lib.hid F1
        have E2 := Lib.hid F2
        clear F1 F2 ST c1 w2 w3 w4 w5
        go_wp2_with fail
        go_roundw
        case rel => exact ⟨i + 1, N + 1, S, by omega, by go_num, rfl, rfl, by omega, by omega, E1, E2, HB⟩
        case measure => simp [intOf]; omega
      have d1 : decide (mo - a < t) = false := decide_eq_false c1
      by_cases c2 : mo < 2 * t
      · have d2 : decide (mo < 2 * t) = true := decide_eq_true c2
        obtain ⟨F1, F2⟩ := ST.out t 1 (by unfold Sea.dff; rw [if_neg c1, if_pos (by omega)]) (if_pos (.inr c2))
        rw [Int.mul_one, show S + t - mo = S - (mo - t) from by omega] at F2
        have E1 := Lib.hid F1
        have E2 := Lib.hid F2
        clear F1 F2 ST c1 c2 w5
        go_wp2_with fail
        go_roundw
        case rel => exact ⟨i + 1, N + 1, S - (mo - t), by omega, by go_num, rfl, rfl, by omega, by omega, E1, E2, HB⟩
        case measure => simp [intOf]; omega
      have d2 : decide (mo < 2 * t) = false := decide_eq_false c2
      by_cases c3 : a ≤ t
      · have d3 : decide (a ≤ t) = true := decide_eq_true c3
        obtain ⟨F1, F2⟩ := ST.out t 0 (by unfold Sea.dff; rw [if_neg c1, if_pos c3]) (if_neg (by omega))
        rw [Int.mul_zero, show S + t - 0 = S + t from by omega] at F2
        rw [Int.add_zero] at F1
        have E1 := Lib.hid F1
        have E2 := Lib.hid F2
        clear F1 F2 ST c1 c2 c3 w4
        go_wp2_with fail
        go_roundw
        case rel => exact ⟨i + 1, N, S + t, by omega, by go_num, rfl, rfl, by omega, by omega, E1, E2, HB⟩
        case measure => simp [intOf]; omega
      · have d3 : decide (a ≤ t) = false := decide_eq_false c3
        obtain ⟨F1, F2⟩ := ST.out 0 0 (by unfold Sea.dff; rw [if_neg c1, if_neg c3]) (if_neg (by omega))
        rw [Int.mul_zero, show S + 0 - 0 = S from by omega] at F2
        rw [Int.add_zero] at F1
        have E1 := Lib.hid F1
        have E2 := Lib.hid F2
        clear F1 F2 ST c1 c2 c3 w4 w5
        go_wp2_with fail
        go_roundw
        case rel => exact ⟨i + 1, N, S, by omega, by go_num, rfl, rfl, by omega, by omega, E1, E2, HB⟩
        case measure => simp [intOf]; omega
    · obtain rfl : i = n := by omega
      have FF := Lib.hid (QE.out N S NE.out SE.out)
      have QB := Lib.hid (show ∀ y, 0 ≤ y → y ≤ 12 * 1073741824 → y = max 0 S → wrap64 (N + (y + mo - 1) / mo) = Sea.bfor mo a T from fun y y0 y1 e => by
        rw [← FF.out, ← e]
        have h1 := Int.ediv_nonneg (a := y + mo - 1) (b := mo) (by omega) (by omega)
        have h2 := Int.ediv_le_self (a := y + mo - 1) mo (by omega)
        exact IntWalk.wrap64_in _ (by omega))
      have R1 := Lib.hid (show S ≤ 0 → wrap64 (N + (mo - 1) / mo) = Sea.bfor mo a T from fun h => by
        have := QB.out 0 (Int.le_refl _) (by omega) (by omega)
        rwa [Int.zero_add] at this)
      have R2 := Lib.hid (show 0 ≤ S → wrap64 (N + (S + mo - 1) / mo) = Sea.bfor mo a T from fun h => QB.out S h (by omega) (by omega))
      have mz : (mo == 0) = false := by simp; omega
      have mz2 : mo ≠ 0 := by omega
      have v1 : 0 ≤ S → IntKind.i64.wrap (S + mo) = S + mo := fun h => wI rfl (by omega) (by omega)
      have v2 : 0 ≤ S → IntKind.i64.wrap (S + mo - 1) = S + mo - 1 := fun h => wI rfl (by omega) (by omega)
      clear QE NE SE FF QB
      go_wp2_with fail
      all_goals
        go_ret
        refine ⟨?_, HB.out⟩
        first | (rw [R1.out (by omega)]; rfl) | (rw [R2.out (by omega)]; rfl)

/-- What Bound answers of good things. -/
def BoQ (T : List Int) (mo : Int) (w : World) (e : Ending) (w' : World) : Prop := ∃ B a, e = .returned (.tuple #[.int .i64 B, .int .i64 0]) ∧ (0 ≤ a ∧ 2 * a ≤ mo) ∧ B = Sea.bfor mo a T ∧ Sea.bfor mo 0 T ≤ B ∧ Below w.heap.size w w'

set_option maxRecDepth 100000 in
set_option maxHeartbeats 8000000 in
theorem Bound_any (p : Option Addr) (c : Nat) (T : List Int) (mo : Int) (w : World) (r : NumR w p T) (pe : PErr T mo 1 0) :
    Calls Try.prog 32 #[.slice p T.length c, .int .i64 mo] w (BoQ T mo w) := by
  have R := Lib.hid r
  obtain ⟨n12, ⟨m1, m2, -, -, ok⟩, fit⟩ := pe.good
  have OK := Lib.hid ok
  have PE := Lib.hid pe
  have CT := Lib.hid (checkThings_any p c T mo 1 w r (by omega))
  have CB := Lib.hid (fun a W (st : Below w.heap.size w W) (a0 : 0 ≤ a) (a2 : 2 * a ≤ mo) => boxesFor_any p c T mo a W (r.below st) n12 ok ⟨m1, m2⟩ a0 a2)
  obtain ⟨n, hn⟩ : ∃ n, n = T.length := ⟨_, rfl⟩
  rw [← hn] at n12 OK CT CB ⊢
  have HN := Lib.hid hn
  clear hn r ok fit pe
  go_enter Try.func32, Try.ntmps32
  go_wp2_with fail
  refine CT.out.mono ?_
  rintro e w1 ⟨x, rfl, te, st⟩
  obtain rfl : x = 0 := PErr.fn te PE.out
  have KB := Lib.hid st
  clear te st CT
  go_wp2_with fail
  refine (CB.out 0 _ KB.out (Int.le_refl _) (by omega)).mono ?_
  rintro e w2 ⟨rfl, st⟩
  replace KB := Lib.hid (KB.out.trans (st.mono KB.out.size))
  clear st
  obtain ⟨B0, hB0⟩ : ∃ B, B = Sea.bfor mo 0 T := ⟨_, rfl⟩
  rw [← hB0]
  have HB0 := Lib.hid hB0
  clear hB0
  go_wp2_with fail
  go_loopw [7, 21] (fun bv kv wr => ∃ (i : Nat) (B a : Int), i ≤ n ∧ kv = .int .i64 i ∧ bv = .int .i64 B ∧ Hid ((0 ≤ a ∧ 2 * a ≤ mo) ∧ B = Sea.bfor mo a T ∧ B0 ≤ B) ∧ Hid (Below w.heap.size w wr)) (fun _ kv _ => n - (intOf kv).toNat)
  case atStart => exact ⟨0, B0, 0, Nat.zero_le _, rfl, rfl, Lib.hid ⟨by omega, HB0.out, Int.le_refl _⟩, KB⟩
  case round =>
    obtain ⟨i, B, a, hi', rfl, rfl, BE, HB⟩ := hrel
    clear KB
    by_cases t1 : i < n
    · have i1 : (0 : Int) ≤ (i : Int) := by omega
      have i2 : (i : Int) < (n : Int) := by omega
      obtain ⟨x, rfl, kx, cx⟩ := (R.out.below HB.out) i (by have := HN.out; omega)
      obtain ⟨t, ht⟩ : ∃ t, t = gi T i := ⟨_, rfl⟩
      have tb := OK.out i t1
      rw [← ht] at cx tb
      clear ht kx
      by_cases c1 : t ≤ mo / 2
      · have d1 : decide (t ≤ mo / 2) = true := decide_eq_true c1
        have t2 : 2 * t ≤ mo := by omega
        go_wp2_with fail
        refine (CB.out t _ HB.out (by omega) t2).mono ?_
        rintro e w3 ⟨rfl, st⟩
        replace HB := Lib.hid (HB.out.trans (st.mono HB.out.size))
        obtain ⟨V, hV⟩ : ∃ V, V = Sea.bfor mo t T := ⟨_, rfl⟩
        rw [← hV]
        have HV := Lib.hid hV
        clear hV st
        have BV := Lib.hid (show ∀ X, (X = B ∨ (X = V ∧ B ≤ V)) → ∃ a, (0 ≤ a ∧ 2 * a ≤ mo) ∧ X = Sea.bfor mo a T ∧ B0 ≤ X from fun X h => by
          rcases h with rfl | ⟨rfl, h⟩
          · exact ⟨a, BE.out⟩
          · exact ⟨t, ⟨by omega, t2⟩, HV.out, by have := BE.out.2.2; omega⟩)
        clear BE HV t2 tb
        go_wp2_with fail
        all_goals
          obtain ⟨a', ha'⟩ := BV.out (if B < V then V else B) (by split <;> first | exact .inl rfl | exact .inr ⟨rfl, by omega⟩)
          have HA := Lib.hid ha'
          clear ha' BV
          go_roundw
          case rel => exact ⟨i + 1, _, a', by omega, by go_num, rfl, HA, HB⟩
          case measure => simp [intOf]; omega
      · have d1 : decide (t ≤ mo / 2) = false := decide_eq_false c1
        go_wp2_with fail
        go_roundw
        case rel => exact ⟨i + 1, B, a, by omega, by go_num, rfl, BE, HB⟩
        case measure => simp [intOf]; omega
    · obtain rfl : i = n := by omega
      have FF := Lib.hid (show ∃ a, (0 ≤ a ∧ 2 * a ≤ mo) ∧ B = Sea.bfor mo a T ∧ Sea.bfor mo 0 T ≤ B from ⟨a, BE.out.1, BE.out.2.1, by rw [← HB0.out]; exact BE.out.2.2⟩)
      clear BE HB0
      go_wp2_with fail
      go_ret2
      obtain ⟨a, h1, h2, h3⟩ := FF.out
      exact ⟨B, a, rfl, h1, h2, h3, HB.out⟩
end Go.Proofs.Ythfnaegfjacjbaa

/- Press: the reference's search, plain; its memory. -/
namespace Go.Proofs.Ythfnaegfjacjbaa.Sea
set_option linter.unusedVariables false
set_option linter.unusedSimpArgs false
section
variable {mo ea : Int} {M : Nat} {ts : List Int} {s : Nat → Int × Int} {t : Int}
def NoF (mo ea : Int) (M : Nat) (ts : List Int) (s : Nat → Int × Int) : Prop := ∀ E s', Ok M E → fin (addP mo ea) ts s E ≠ some s'
def Fst (mo ea : Int) (M : Nat) (ts : List Int) (s : Nat → Int × Int) (E : List Nat) : Prop := Ok M E ∧ (∃ s', fin (addP mo ea) ts s E = some s') ∧ ∀ E2 s2, Ok M E2 → fin (addP mo ea) ts s E2 = some s2 → lexle E E2
def NoL (mo ea : Int) (M : Nat) (ts : List Int) (s : Nat → Int × Int) (t : Int) (p : Nat) : Prop := ∀ b, b < p → ∀ y, addP mo ea (s b) t = some y → NoF mo ea M ts (up s b y)
theorem NoL.zero : NoL mo ea M ts s t 0 := fun b h => by omega
theorem NoL.bad {p : Nat} (h : NoL mo ea M ts s t p) (e : addP mo ea (s p) t = none) : NoL mo ea M ts s t (p + 1) := fun b hb y hy => by
  by_cases c : b = p
  · subst c; rw [e] at hy; cases hy
  · exact h b (by omega) y hy
theorem NoL.call {p : Nat} {x : Int × Int} (h : NoL mo ea M ts s t p) (e : addP mo ea (s p) t = some x) (g : NoF mo ea M ts (up s p x)) : NoL mo ea M ts s t (p + 1) := fun b hb y hy => by
  by_cases c : b = p
  · subst c; rw [e] at hy; cases hy; exact g
  · exact h b (by omega) y hy
theorem fin_cons {b : Nat} {E : List Nat} {s' : Nat → Int × Int} (h : fin (addP mo ea) (t :: ts) s (b :: E) = some s') : ∃ y, addP mo ea (s b) t = some y ∧ fin (addP mo ea) ts (up s b y) E = some s' := by
  simp only [fin] at h
  cases y : addP mo ea (s b) t with
  | none => rw [y] at h; cases h
  | some x => rw [y] at h; exact ⟨x, rfl, h⟩
theorem NoL.end_ {p u : Nat} (h : NoL mo ea M ts s t p) (cn : Cn s u) (hp : M ≤ p ∨ u < p) : NoF mo ea M (t :: ts) s := fun E s' ok f => by
  cases E with
  | nil => simp [fin] at f
  | cons b E =>
    obtain ⟨y, hy, f⟩ := fin_cons f
    have bM : b < M := ok b (by simp)
    by_cases c : b < p
    · exact h b c y hy E s' (fun d hd => ok d (by simp [hd])) f
    · have up1 : u < p := by omega
      have e : s b = s u := by rw [cn.hi b (by omega), cn.hi u (Nat.le_refl u)]
      rw [e] at hy
      refine h u up1 y hy (E.map (tr u b)) (fun j => s' (tr u b j)) (Ok.tr (fun d hd => ok d (by simp [hd])) (by omega) bM) ?_
      have := up_swap s (p := u) (q := b) y e
      rw [this] at f
      have g := fin_tr (add := addP mo ea) u b ts (up s u y) (E.map (tr u b))
      rw [List.map_map] at g
      have ii : ((tr u b) ∘ (tr u b)) = id := by funext j; exact tr_tr u b j
      rw [ii, List.map_id, f] at g
      cases hq : fin (addP mo ea) ts (up s u y) (E.map (tr u b)) with
      | none => rw [hq] at g; cases g
      | some z =>
        rw [hq] at g
        simp at g
        rw [g]
        congr 1
        funext j
        show z j = z (tr u b (tr u b j))
        rw [tr_tr]
theorem Fst.nil : Fst mo ea M [] s [] := ⟨fun b h => (by cases h), ⟨s, rfl⟩, fun E2 _ _ _ => by cases E2 <;> trivial⟩
theorem Fst.cons {p : Nat} {x : Int × Int} {E : List Nat} (h : NoL mo ea M ts s t p) (hp : p < M) (e : addP mo ea (s p) t = some x) (g : Fst mo ea M ts (up s p x) E) : Fst mo ea M (t :: ts) s (p :: E) := by
  obtain ⟨ok, ⟨s', f⟩, l⟩ := g
  refine ⟨fun b hb => ?_, ⟨s', by simp only [fin]; rw [e]; exact f⟩, fun E2 s2 ok2 f2 => ?_⟩
  · rcases List.mem_cons.1 hb with rfl | hb
    · exact hp
    · exact ok b hb
  · cases E2 with
    | nil => simp [fin] at f2
    | cons c E2 =>
      obtain ⟨y, hy, f2⟩ := fin_cons f2
      have ok3 : Ok M E2 := fun d hd => ok2 d (by simp [hd])
      by_cases c1 : c < p
      · exact absurd f2 (h c c1 y hy E2 s2 ok3)
      · by_cases c2 : c = p
        · subst c2
          rw [e] at hy; cases hy
          exact .inr ⟨rfl, l E2 s2 ok3 f2⟩
        · exact .inl (by omega)
end
end Go.Proofs.Ythfnaegfjacjbaa.Sea
namespace Go.Proofs.Ythfnaegfjacjbaa
open Go.RowKit Go.Proofs.Ythfnaegfjacjbaa.Prs Go.Proofs.Ythfnaegfjacjbaa.Stb

structure RL (base bs ra rs rk : Nat) : Prop where
  ne : (bs ≠ ra ∧ bs ≠ rs ∧ bs ≠ rk) ∧ (ra ≠ rs ∧ ra ≠ rk) ∧ rs ≠ rk
  lo : base ≤ ra ∧ base ≤ rs ∧ base ≤ rk
def RMod (ra rs rk : Nat) (k : Nat) : Prop := k = ra ∨ k = rs ∨ k = rk
theorem RL.mod {base bs ra rs rk q : Nat} (g : RL base bs ra rs rk) (h : q < base) : ¬ RMod ra rs rk q := by
  have := g.lo
  unfold RMod
  omega
/-- The memory of the reference's search. -/
structure RM (bs ra rs rk : Nat) (p : Option Addr) (n c M : Nat) (mo ea sl : Int) (W : World) (O : Nat → Int) (s : Nat → Int × Int) : Prop where
  x0 : W.heap[bs]? = some (.cells #[.slice p n c, .int .i64 M, .int .i64 ea, .int .i64 mo, .slice (some ⟨ra, 0, none⟩) n n, .slice (some ⟨rs, 0, none⟩) M M, .slice (some ⟨rk, 0, none⟩) M M, .int .i64 sl] 92 (0, 0))
  xa : IR W ra 3 n O
  xs : IR W rs 3 M (fun b => (s b).1)
  xk : IR W rk 3 M (fun b => (s b).2)
section
variable {base bs ra rs rk : Nat} {p : Option Addr} {n c M : Nat} {mo ea sl : Int} {W W' : World} {O : Nat → Int} {s : Nat → Int × Int}
theorem RM.lt (h : RM bs ra rs rk p n c M mo ea sl W O s) : bs < W.heap.size := (Array.getElem?_eq_some_iff.1 h.x0).1
theorem RM.cells (h : RM bs ra rs rk p n c M mo ea sl W O s) : W.cell? ⟨bs, 0, none⟩ = some (.slice p n c) ∧ W.cell? ⟨bs, 1, none⟩ = some (.int .i64 M) ∧ W.cell? ⟨bs, 2, none⟩ = some (.int .i64 ea) ∧ W.cell? ⟨bs, 3, none⟩ = some (.int .i64 mo) ∧ W.cell? ⟨bs, 4, none⟩ = some (.slice (some ⟨ra, 0, none⟩) n n) ∧ W.cell? ⟨bs, 5, none⟩ = some (.slice (some ⟨rs, 0, none⟩) M M) ∧ W.cell? ⟨bs, 6, none⟩ = some (.slice (some ⟨rk, 0, none⟩) M M) ∧ W.cell? ⟨bs, 7, none⟩ = some (.int .i64 sl) := by
  have := h.x0
  refine ⟨?_, ?_, ?_, ?_, ?_, ?_, ?_, ?_⟩ <;> simp [World.cell?, this]
theorem RM.setA (h : RM bs ra rs rk p n c M mo ea sl W O s) (g : RL base bs ra rs rk) (j : Nat) (x : Int) : RM bs ra rs rk p n c M mo ea sl (W.setCell ⟨ra, j, none⟩ (.int .i64 x)) (upd O j x) s := by
  have k : ∀ q, q ≠ ra → (W.setCell ⟨ra, j, none⟩ (.int .i64 x)).heap[q]? = W.heap[q]? := fun q hq => Below.heap_setCell _ _ _ _ hq
  exact ⟨(k _ g.ne.1.1).trans h.x0, h.xa.set _ _, h.xs.keep (k _ (Ne.symm g.ne.2.1.1)), h.xk.keep (k _ (Ne.symm g.ne.2.1.2))⟩
/-- The sum of a box alone. -/
theorem RM.setS (h : RM bs ra rs rk p n c M mo ea sl W O s) (g : RL base bs ra rs rk) (j : Nat) (x : Int) : RM bs ra rs rk p n c M mo ea sl (W.setCell ⟨rs, j, none⟩ (.int .i64 x)) O (Sea.up s j (x, (s j).2)) := by
  have k : ∀ q, q ≠ rs → (W.setCell ⟨rs, j, none⟩ (.int .i64 x)).heap[q]? = W.heap[q]? := fun q hq => Below.heap_setCell _ _ _ _ hq
  refine ⟨(k _ g.ne.1.2.1).trans h.x0, h.xa.keep (k _ g.ne.2.1.1), (h.xs.set j x).ext fun b _ => ?_, (h.xk.keep (k _ (Ne.symm g.ne.2.2))).ext fun b _ => ?_⟩
  · unfold upd Sea.up; split <;> rfl
  · unfold Sea.up; split
    · next e => rw [e]
    · rfl
/-- The count of a box alone. -/
theorem RM.setK (h : RM bs ra rs rk p n c M mo ea sl W O s) (g : RL base bs ra rs rk) (j : Nat) (x : Int) : RM bs ra rs rk p n c M mo ea sl (W.setCell ⟨rk, j, none⟩ (.int .i64 x)) O (Sea.up s j ((s j).1, x)) := by
  have k : ∀ q, q ≠ rk → (W.setCell ⟨rk, j, none⟩ (.int .i64 x)).heap[q]? = W.heap[q]? := fun q hq => Below.heap_setCell _ _ _ _ hq
  refine ⟨(k _ g.ne.1.2.2).trans h.x0, h.xa.keep (k _ g.ne.2.1.2), (h.xs.keep (k _ g.ne.2.2)).ext fun b _ => ?_, (h.xk.set j x).ext fun b _ => ?_⟩
  · unfold Sea.up; split
    · next e => rw [e]
    · rfl
  · unfold upd Sea.up; split <;> rfl
theorem RM.call (h : RM bs ra rs rk p n c M mo ea sl W O s) (f : Below W.heap.size W W') : RM bs ra rs rk p n c M mo ea sl W' O s :=
  ⟨(f.block _ h.lt).trans h.x0, h.xa.keep (f.block _ h.xa.lt), h.xs.keep (f.block _ h.xs.lt), h.xk.keep (f.block _ h.xk.lt)⟩
theorem RM.ext {O' : Nat → Int} {s' : Nat → Int × Int} (h : RM bs ra rs rk p n c M mo ea sl W O s) (e1 : ∀ k, k < n → O k = O' k) (e2 : ∀ k, s k = s' k) : RM bs ra rs rk p n c M mo ea sl W O' s' :=
  ⟨h.x0, h.xa.ext e1, h.xs.ext (fun k _ => by rw [e2 k]), h.xk.ext (fun k _ => by rw [e2 k])⟩
end
/-- What the search leaves. -/
def RQ (bs ra rs rk : Nat) (p : Option Addr) (n c M k : Nat) (mo ea sl : Int) (ts : List Int) (O : Nat → Int) (s : Nat → Int × Int) (W : World) (e : Ending) (W' : World) : Prop :=
  ∃ (f : Bool) (O' : Nat → Int) (s' : Nat → Int × Int), e = .returned (.bool f) ∧ RM bs ra rs rk p n c M mo ea sl W' O' s' ∧ Fm (RMod ra rs rk) W W' ∧ (∀ j, j < k → O' j = O j) ∧ (f = false → s' = s ∧ Sea.NoF mo ea M ts s) ∧ (f = true → ∃ E, Sea.Fst mo ea M ts s E ∧ ∀ j, k + j < n → O' (k + j) = nv E j)

set_option maxRecDepth 100000 in
set_option maxHeartbeats 8000000 in
theorem rput_leaf {base bs ra rs rk : Nat} {p : Option Addr} {n c M u : Nat} {mo ea sl : Int} {O : Nat → Int} {s : Nat → Int × Int} {W : World} (h : RM bs ra rs rk p n c M mo ea sl W O s) :
    Calls Try.prog 76 #[.pointer (some ⟨bs, 0, none⟩), .int .i64 n, .int .i64 u] W (RQ bs ra rs rk p n c M n mo ea sl [] O s W) := by
  obtain ⟨c0, -⟩ := h.cells
  have Q := Lib.hid (show RQ bs ra rs rk p n c M n mo ea sl [] O s W (.returned (.bool true)) W from ⟨true, O, s, rfl, h, Fm.refl _ _, fun _ _ => rfl, fun e => (by cases e), fun _ => ⟨[], Sea.Fst.nil, fun j hj => by omega⟩⟩)
  have d2 : ((n : Int) == (n : Int)) = true := by simp
  clear h
  go_enter Try.func76, Try.ntmps76
  go_wp2_with fail
  go_ret
  exact Q.out
end Go.Proofs.Ythfnaegfjacjbaa
