/- The law PressPacked: the bound, packed, the walk (SP0 SP1 SP2 SP3 in one). -/
import Derived.Test.YthfnaegfjacjbaaSH3
import Derived.Test.YthfnaegfjacjbaaSK0
import Derived.Test.YthfnaegfjacjbaaSK3
import Derived.Test.YthfnaegfjacjbaaSJ6
import Derived.Test.YthfnaegfjacjbaaPBA
/- Press: the bound of Pack, by a function of the masses that no box bears more of than its room. Plain facts. -/
namespace Go.Proofs.Ythfnaegfjacjbaa.Sea
open Go.Proofs.Ythfnaegfjacjbaa.Prs
set_option linter.unusedVariables false
set_option linter.unusedSimpArgs false

def dff (mo a t : Int) : Int := if mo - a < t then mo else if a ≤ t then t else 0
def big (mo a t : Int) : Int := if mo - a < t ∨ mo < 2 * t then 1 else 0
def sums (f : Int → Int) : List Int → Int
  | [] => 0
  | t :: ts => f t + sums f ts
theorem sums_snoc (f : Int → Int) (t : Int) : ∀ ts : List Int, sums f (ts ++ [t]) = sums f ts + f t
  | [] => by simp [sums]
  | u :: ts => by
    show f u + sums f (ts ++ [t]) = f u + sums f ts + f t
    rw [sums_snoc f t ts]; omega
theorem sums_id (f : Int → Int) : ∀ ts : List Int, (∀ t ∈ ts, f t = t) → sums f ts = sums (fun t => t) ts
  | [], _ => rfl
  | u :: ts, h => by
    show f u + sums f ts = u + sums (fun t => t) ts
    rw [h u (by simp), sums_id f ts (fun t ht => h t (by simp [ht]))]
theorem sm_up (f : Nat → Int) (b : Nat) (y : Int) : ∀ M, sm (up f b y) M = sm f M + if b < M then y - f b else 0
  | 0 => by simp [sm]
  | M + 1 => by
    simp only [sm]
    rw [sm_up f b y M]
    by_cases e : M = b
    · subst e
      rw [up_same, if_neg (by omega), if_pos (by omega)]; omega
    · rw [up_ne f y e]
      by_cases l : b < M
      · rw [if_pos l, if_pos (by omega)]; omega
      · rw [if_neg l, if_neg (by omega)]; omega
/-- What a box bears. -/
def BxI (mo a : Int) (x : Int × Int) (C B : Int) : Prop := (x.2 = 0 → C = 0 ∧ B = 0) ∧ 0 ≤ x.2 ∧ 0 ≤ x.1 ∧ x.1 ≤ mo ∧ ((C = mo ∧ B = 1 ∧ mo - a < x.1) ∨ (0 ≤ C ∧ C ≤ x.1 ∧ (x.1 < a → C = 0) ∧ (B = 0 ∨ (B = 1 ∧ mo < 2 * x.1))))
theorem BxI.add {mo a each t C B : Int} {x y : Int × Int} (h : BxI mo a x C B) (t1 : 1 ≤ t) (a0 : 0 ≤ a) (a2 : 2 * a ≤ mo) (e : addP mo each x t = some y) : BxI mo a y (C + dff mo a t) (B + big mo a t) := by
  obtain ⟨h1, h2, h3, h4, h5⟩ := h
  unfold addP at e
  split at e
  · next g =>
    obtain ⟨g1, g2, g3⟩ := g
    simp at e
    subst e
    unfold BxI dff big
    dsimp only
    refine ⟨fun k => by omega, by omega, by omega, by omega, ?_⟩
    rcases h5 with ⟨c1, c2, c3⟩ | ⟨c1, c2, c3, c4⟩
    · left
      rw [if_neg (by omega), if_neg (by omega), if_neg (by omega)]
      omega
    · by_cases t2 : mo - a < t
      · left
        rw [if_pos t2, if_pos (.inl t2)]
        have := c3 (by omega)
        omega
      · right
        rw [if_neg t2]
        by_cases t3 : a ≤ t
        · rw [if_pos t3]
          refine ⟨by omega, by omega, fun k => by omega, ?_⟩
          by_cases t4 : mo < 2 * t
          · rw [if_pos (.inr t4)]; omega
          · rw [if_neg (by omega)]; omega
        · rw [if_neg t3, if_neg (by omega)]
          refine ⟨by omega, by omega, fun k => by have := c3 (by omega); omega, ?_⟩
          omega
  · cases e
theorem bound_sum {mo a each : Int} {M : Nat} (a0 : 0 ≤ a) (a2 : 2 * a ≤ mo) : ∀ (ts : List Int) (E : List Nat) (s s' : Nat → Int × Int) (C B : Nat → Int), fin (addP mo each) ts s E = some s' → Ok M E → (∀ b, b < M → BxI mo a (s b) (C b) (B b)) → (∀ t ∈ ts, 1 ≤ t) → ∃ C' B' : Nat → Int, (∀ b, b < M → BxI mo a (s' b) (C' b) (B' b)) ∧ sm C' M = sm C M + sums (dff mo a) ts ∧ sm B' M = sm B M + sums (big mo a) ts
  | [], [], s, s', C, B, h, ok, I, ht => by
    simp [fin] at h
    subst h
    exact ⟨C, B, I, by simp [sums], by simp [sums]⟩
  | [], b :: E, s, s', C, B, h, ok, I, ht => by have := fin_len h; simp at this
  | t :: ts, [], s, s', C, B, h, ok, I, ht => by have := fin_len h; simp at this
  | t :: ts, b :: E, s, s', C, B, h, ok, I, ht => by
    simp only [fin] at h
    cases y : addP mo each (s b) t with
    | none => rw [y] at h; cases h
    | some x =>
      rw [y] at h
      have hb : b < M := ok b (by simp)
      obtain ⟨C', B', i, e1, e2⟩ := bound_sum a0 a2 ts E _ s' (up C b (C b + dff mo a t)) (up B b (B b + big mo a t)) h (fun c hc => ok c (by simp [hc])) (fun c hc => by
        by_cases e : c = b
        · subst e
          rw [up_same, up_same, up_same]
          exact (I c hc).add (ht t (by simp)) a0 a2 y
        · rw [up_ne _ _ e, up_ne _ _ e, up_ne _ _ e]; exact I c hc) (fun u hu => ht u (by simp [hu]))
      refine ⟨C', B', i, ?_, ?_⟩
      · rw [e1, sm_up, if_pos hb]; simp only [sums]; omega
      · rw [e2, sm_up, if_pos hb]; simp only [sums]; omega
theorem dff_bound {ts : List Int} {E : List Nat} {M : Nat} {mo a each : Int} {s' : Nat → Int × Int} (h : fin (addP mo each) ts (fun _ => (0, 0)) E = some s') (ok : Ok M E) (ht : ∀ t ∈ ts, 1 ≤ t) (a0 : 0 ≤ a) (a2 : 2 * a ≤ mo) : sums (big mo a) ts ≤ cnt M s' ∧ sums (dff mo a) ts ≤ mo * cnt M s' := by
  have z : ∀ m, sm (fun _ => (0 : Int)) m = 0 := fun m => by induction m with
    | zero => rfl
    | succ m ih => rw [sm, ih]; rfl
  obtain ⟨C, B, I, e1, e2⟩ := bound_sum (each := each) (M := M) a0 a2 ts E _ s' (fun _ => 0) (fun _ => 0) h ok (fun b _ => ⟨fun _ => ⟨rfl, rfl⟩, Int.le_refl _, Int.le_refl _, by dsimp only; omega, .inr ⟨Int.le_refl _, Int.le_refl _, fun _ => rfl, .inl rfl⟩⟩) ht
  rw [z] at e1 e2
  rw [← (show sm B M = sums (big mo a) ts from by omega), ← (show sm C M = sums (dff mo a) ts from by omega)]
  have : ∀ m, m ≤ M → sm B m ≤ cnt m s' ∧ sm C m ≤ mo * cnt m s' := fun m => by
    induction m with
    | zero => intro _; exact ⟨Int.le_refl _, by show (0 : Int) ≤ mo * 0; omega⟩
    | succ m ih =>
      intro hm
      obtain ⟨i1, i2⟩ := ih (by omega)
      obtain ⟨h1, h2, h3, h4, h5⟩ := I m (by omega)
      have ec : cnt (m + 1) s' = cnt m s' + if (s' m).2 = 0 then 0 else 1 := rfl
      rw [ec]
      simp only [sm]
      by_cases k : (s' m).2 = 0
      · obtain ⟨k1, k2⟩ := h1 k
        rw [if_pos k, k1, k2]
        simp only [Int.add_zero]
        exact ⟨i1, i2⟩
      · rw [if_neg k, Int.mul_add]
        omega
  exact this M (Nat.le_refl _)
/-- The boxes that a bound asks for. -/
def bfor (mo a : Int) (ts : List Int) : Int := sums (big mo a) ts + (max 0 (sums (dff mo a) ts - mo * sums (big mo a) ts) + mo - 1) / mo
theorem bfor_le {N C D mo : Int} (m1 : 1 ≤ mo) (h1 : N ≤ C) (h2 : D ≤ mo * C) : N + (max 0 (D - mo * N) + mo - 1) / mo ≤ C := by
  have h3 : D - mo * N ≤ mo * (C - N) := by rw [Int.mul_sub]; omega
  have h4 : 0 ≤ mo * (C - N) := Int.mul_nonneg (by omega) (by omega)
  have h5 : (max 0 (D - mo * N) + mo - 1) / mo < C - N + 1 := Int.ediv_lt_of_lt_mul (by omega) (by rw [Int.mul_comm (C - N + 1) mo, Int.mul_add]; omega)
  omega
theorem bfor_ge {N D mo : Int} (m1 : 1 ≤ mo) : D ≤ mo * (N + (max 0 (D - mo * N) + mo - 1) / mo) := by
  have h1 := Int.emod_add_mul_ediv (max 0 (D - mo * N) + mo - 1) mo
  have h2 := Int.emod_lt_of_pos (max 0 (D - mo * N) + mo - 1) (show 0 < mo by omega)
  rw [Int.mul_add]
  omega
theorem BestP.bfor {mo each a L : Int} {M : Nat} {ts : List Int} {E : List Nat} (h : BestP mo each M ts L E) (ht : ∀ t ∈ ts, 1 ≤ t) (m1 : 1 ≤ mo) (a0 : 0 ≤ a) (a2 : 2 * a ≤ mo) : Sea.bfor mo a ts ≤ L := by
  obtain ⟨s', f, v, -⟩ := h.fin_
  obtain ⟨h1, h2⟩ := dff_bound f h.ok ht a0 a2
  have v : cnt M s' = L := v
  rw [v] at h1 h2
  exact bfor_le m1 h1 h2
theorem bfor_zero {mo : Int} {ts : List Int} (ht : ∀ t ∈ ts, 1 ≤ t ∧ t ≤ mo) (m1 : 1 ≤ mo) : sums (fun t => t) ts ≤ mo * Sea.bfor mo 0 ts := by
  have := bfor_ge (N := sums (big mo 0) ts) (D := sums (dff mo 0) ts) m1
  rw [sums_id (dff mo 0) ts (fun t h => by have := ht t h; unfold dff; rw [if_neg (by omega), if_pos (by omega)])] at this
  unfold Sea.bfor
  rw [sums_id (dff mo 0) ts (fun t h => by have := ht t h; unfold dff; rw [if_neg (by omega), if_pos (by omega)])]
  exact this
end Go.Proofs.Ythfnaegfjacjbaa.Sea

/- Press: Bound and what it asks for. -/
namespace Go.Proofs.Ythfnaegfjacjbaa
open Go.RowKit Go.Proofs.Ythfnaegfjacjbaa.Prs Go.Proofs.Ythfnaegfjacjbaa.Stb
set_option linter.unusedVariables false
set_option linter.unusedSimpArgs false

theorem take_gi {T : List Int} {i : Nat} (h : i < T.length) : T.take (i + 1) = T.take i ++ [gi T i] := by
  rw [List.take_succ_eq_append_getElem h]
  simp [gi, h]

set_option maxRecDepth 100000 in
set_option maxHeartbeats 8000000 in
theorem boxesFor_any (p : Option Addr) (c : Nat) (T : List Int) (mo a : Int) (w : World) (r : NumR w p T) (n12 : T.length ≤ 12) (ok : ThOk T T.length) (m1 : 1 ≤ mo ∧ mo ≤ 1073741824) (a0 : 0 ≤ a) (a2 : 2 * a ≤ mo) :
    Calls Try.prog 69 #[.slice p T.length c, .int .i64 mo, .int .i64 a] w fun e w' => e = .returned (.int .i64 (Sea.bfor mo a T)) ∧ Below w.heap.size w w' := by
  have R := Lib.hid r
  have OK := Lib.hid ok
  obtain ⟨n, hn⟩ : ∃ n, n = T.length := ⟨_, rfl⟩
  have QE := Lib.hid (show ∀ N S : Int, N = Sea.sums (Sea.big mo a) (T.take n) → S = Sea.sums (Sea.dff mo a) (T.take n) - mo * Sea.sums (Sea.big mo a) (T.take n) → N + (max 0 S + mo - 1) / mo = Sea.bfor mo a T from fun N S h1 h2 => by
    unfold Sea.bfor
    rw [hn, List.take_length] at h1 h2
    rw [h1, h2])
  rw [← hn] at n12 OK ⊢
  have HN := Lib.hid hn
  clear hn r ok
  have wa : IntKind.i64.wrap (mo - a) = mo - a := wI rfl (by omega) (by omega)
  go_enter Try.func69, Try.ntmps69
  go_wp2_with fail
  go_loopw [7, 8, 13] (fun nv sv kv wr => ∃ (i : Nat) (N S : Int), i ≤ n ∧ kv = .int .i64 i ∧ nv = .int .i64 N ∧ sv = .int .i64 S ∧ (0 ≤ N ∧ N ≤ i) ∧ (-(i : Int) * 1073741824 ≤ S ∧ S ≤ i * 1073741824) ∧ Hid (N = Sea.sums (Sea.big mo a) (T.take i)) ∧ Hid (S = Sea.sums (Sea.dff mo a) (T.take i) - mo * Sea.sums (Sea.big mo a) (T.take i)) ∧ Hid (Below w.heap.size w wr)) (fun _ _ kv _ => n - (intOf kv).toNat)
  case atStart => exact ⟨0, 0, 0, Nat.zero_le _, rfl, rfl, rfl, by omega, by omega, Lib.hid rfl, Lib.hid (by simp [Sea.sums]), Lib.hid (Below.refl _ _)⟩
  case round =>
    obtain ⟨i, N, S, hi', rfl, rfl, rfl, nb, sb, NE, SE, HB⟩ := hrel
    by_cases t1 : i < n
    · have i1 : (0 : Int) ≤ (i : Int) := by omega
      have i2 : (i : Int) < (n : Int) := by omega
      obtain ⟨x, rfl, kx, cx⟩ := (R.out.below HB.out) i (by have := HN.out; omega)
      obtain ⟨t, ht⟩ : ∃ t, t = gi T i := ⟨_, rfl⟩
      have tb := OK.out i t1
      rw [← ht] at cx tb
      have ST := Lib.hid (show ∀ D B : Int, Sea.dff mo a t = D → Sea.big mo a t = B → N + B = Sea.sums (Sea.big mo a) (T.take (i + 1)) ∧ S + D - mo * B = Sea.sums (Sea.dff mo a) (T.take (i + 1)) - mo * Sea.sums (Sea.big mo a) (T.take (i + 1)) from fun D B e1 e2 => by
        rw [take_gi (by have := HN.out; omega), Sea.sums_snoc, Sea.sums_snoc, ← ht, e1, e2, ← NE.out, Int.mul_add]
        refine ⟨rfl, ?_⟩
        have := SE.out
        rw [← NE.out] at this
        omega)
      clear ht NE SE kx
      have w1 : IntKind.i64.wrap (N + 1) = N + 1 := wI rfl (by omega) (by omega)
      have w2 : IntKind.i64.wrap (2 * t) = 2 * t := wI rfl (by omega) (by omega)
      have w3 : IntKind.i64.wrap (mo - t) = mo - t := wI rfl (by omega) (by omega)
      have w4 : IntKind.i64.wrap (S - (mo - t)) = S - (mo - t) := wI rfl (by omega) (by omega)
      have w5 : IntKind.i64.wrap (S + t) = S + t := wI rfl (by omega) (by omega)
      by_cases c1 : mo - a < t
      · have d1 : decide (mo - a < t) = true := decide_eq_true c1
        obtain ⟨F1, F2⟩ := ST.out mo 1 (if_pos c1) (if_pos (.inl c1))
        rw [Int.mul_one, show S + mo - mo = S from by omega] at F2
        have E1 := Lib.hid F1
        have E2 := Lib.hid F2
        clear F1 F2 ST c1 w2 w3 w4 w5
        go_wp2_with fail
        go_roundw
        case rel => exact ⟨i + 1, N + 1, S, by omega, by go_num, rfl, rfl, by omega, by omega, E1, E2, HB⟩
        case measure => simp [intOf]; omega
      have d1 : decide (mo - a < t) = false := decide_eq_false c1
      by_cases c2 : mo < 2 * t
      · have d2 : decide (mo < 2 * t) = true := decide_eq_true c2
        obtain ⟨F1, F2⟩ := ST.out t 1 (by unfold Sea.dff; rw [if_neg c1, if_pos (by omega)]) (if_pos (.inr c2))
        rw [Int.mul_one, show S + t - mo = S - (mo - t) from by omega] at F2
        have E1 := Lib.hid F1
        have E2 := Lib.hid F2
        clear F1 F2 ST c1 c2 w5
        go_wp2_with fail
        go_roundw
        case rel => exact ⟨i + 1, N + 1, S - (mo - t), by omega, by go_num, rfl, rfl, by omega, by omega, E1, E2, HB⟩
        case measure => simp [intOf]; omega
      have d2 : decide (mo < 2 * t) = false := decide_eq_false c2
      by_cases c3 : a ≤ t
      · have d3 : decide (a ≤ t) = true := decide_eq_true c3
        obtain ⟨F1, F2⟩ := ST.out t 0 (by unfold Sea.dff; rw [if_neg c1, if_pos c3]) (if_neg (by omega))
        rw [Int.mul_zero, show S + t - 0 = S + t from by omega] at F2
        rw [Int.add_zero] at F1
        have E1 := Lib.hid F1
        have E2 := Lib.hid F2
        clear F1 F2 ST c1 c2 c3 w4
        go_wp2_with fail
        go_roundw
        case rel => exact ⟨i + 1, N, S + t, by omega, by go_num, rfl, rfl, by omega, by omega, E1, E2, HB⟩
        case measure => simp [intOf]; omega
      · have d3 : decide (a ≤ t) = false := decide_eq_false c3
        obtain ⟨F1, F2⟩ := ST.out 0 0 (by unfold Sea.dff; rw [if_neg c1, if_neg c3]) (if_neg (by omega))
        rw [Int.mul_zero, show S + 0 - 0 = S from by omega] at F2
        rw [Int.add_zero] at F1
        have E1 := Lib.hid F1
        have E2 := Lib.hid F2
        clear F1 F2 ST c1 c2 c3 w4 w5
        go_wp2_with fail
        go_roundw
        case rel => exact ⟨i + 1, N, S, by omega, by go_num, rfl, rfl, by omega, by omega, E1, E2, HB⟩
        case measure => simp [intOf]; omega
    · obtain rfl : i = n := by omega
      have FF := Lib.hid (QE.out N S NE.out SE.out)
      have QB := Lib.hid (show ∀ y, 0 ≤ y → y ≤ 12 * 1073741824 → y = max 0 S → wrap64 (N + (y + mo - 1) / mo) = Sea.bfor mo a T from fun y y0 y1 e => by
        rw [← FF.out, ← e]
        have h1 := Int.ediv_nonneg (a := y + mo - 1) (b := mo) (by omega) (by omega)
        have h2 := Int.ediv_le_self (a := y + mo - 1) mo (by omega)
        exact IntWalk.wrap64_in _ (by omega))
      have R1 := Lib.hid (show S ≤ 0 → wrap64 (N + (mo - 1) / mo) = Sea.bfor mo a T from fun h => by
        have := QB.out 0 (Int.le_refl _) (by omega) (by omega)
        rwa [Int.zero_add] at this)
      have R2 := Lib.hid (show 0 ≤ S → wrap64 (N + (S + mo - 1) / mo) = Sea.bfor mo a T from fun h => QB.out S h (by omega) (by omega))
      have mz : (mo == 0) = false := by simp; omega
      have mz2 : mo ≠ 0 := by omega
      have v1 : 0 ≤ S → IntKind.i64.wrap (S + mo) = S + mo := fun h => wI rfl (by omega) (by omega)
      have v2 : 0 ≤ S → IntKind.i64.wrap (S + mo - 1) = S + mo - 1 := fun h => wI rfl (by omega) (by omega)
      clear QE NE SE FF QB
      go_wp2_with fail
      all_goals
        go_ret
        refine ⟨?_, HB.out⟩
        first | (rw [R1.out (by omega)]; rfl) | (rw [R2.out (by omega)]; rfl)

/-- What Bound answers of good things. -/
def BoQ (T : List Int) (mo : Int) (w : World) (e : Ending) (w' : World) : Prop := ∃ B a, e = .returned (.tuple #[.int .i64 B, .int .i64 0]) ∧ (0 ≤ a ∧ 2 * a ≤ mo) ∧ B = Sea.bfor mo a T ∧ Sea.bfor mo 0 T ≤ B ∧ Below w.heap.size w w'

set_option maxRecDepth 100000 in
set_option maxHeartbeats 8000000 in
theorem Bound_any (p : Option Addr) (c : Nat) (T : List Int) (mo : Int) (w : World) (r : NumR w p T) (pe : PErr T mo 1 0) :
    Calls Try.prog 32 #[.slice p T.length c, .int .i64 mo] w (BoQ T mo w) := by
  have R := Lib.hid r
  obtain ⟨n12, ⟨m1, m2, -, -, ok⟩, fit⟩ := pe.good
  have OK := Lib.hid ok
  have PE := Lib.hid pe
  have CT := Lib.hid (checkThings_any p c T mo 1 w r (by omega))
  have CB := Lib.hid (fun a W (st : Below w.heap.size w W) (a0 : 0 ≤ a) (a2 : 2 * a ≤ mo) => boxesFor_any p c T mo a W (r.below st) n12 ok ⟨m1, m2⟩ a0 a2)
  obtain ⟨n, hn⟩ : ∃ n, n = T.length := ⟨_, rfl⟩
  rw [← hn] at n12 OK CT CB ⊢
  have HN := Lib.hid hn
  clear hn r ok fit pe
  go_enter Try.func32, Try.ntmps32
  go_wp2_with fail
  refine CT.out.mono ?_
  rintro e w1 ⟨x, rfl, te, st⟩
  obtain rfl : x = 0 := PErr.fn te PE.out
  have KB := Lib.hid st
  clear te st CT
  go_wp2_with fail
  refine (CB.out 0 _ KB.out (Int.le_refl _) (by omega)).mono ?_
  rintro e w2 ⟨rfl, st⟩
  replace KB := Lib.hid (KB.out.trans (st.mono KB.out.size))
  clear st
  obtain ⟨B0, hB0⟩ : ∃ B, B = Sea.bfor mo 0 T := ⟨_, rfl⟩
  rw [← hB0]
  have HB0 := Lib.hid hB0
  clear hB0
  go_wp2_with fail
  go_loopw [7, 21] (fun bv kv wr => ∃ (i : Nat) (B a : Int), i ≤ n ∧ kv = .int .i64 i ∧ bv = .int .i64 B ∧ Hid ((0 ≤ a ∧ 2 * a ≤ mo) ∧ B = Sea.bfor mo a T ∧ B0 ≤ B) ∧ Hid (Below w.heap.size w wr)) (fun _ kv _ => n - (intOf kv).toNat)
  case atStart => exact ⟨0, B0, 0, Nat.zero_le _, rfl, rfl, Lib.hid ⟨by omega, HB0.out, Int.le_refl _⟩, KB⟩
  case round =>
    obtain ⟨i, B, a, hi', rfl, rfl, BE, HB⟩ := hrel
    clear KB
    by_cases t1 : i < n
    · have i1 : (0 : Int) ≤ (i : Int) := by omega
      have i2 : (i : Int) < (n : Int) := by omega
      obtain ⟨x, rfl, kx, cx⟩ := (R.out.below HB.out) i (by have := HN.out; omega)
      obtain ⟨t, ht⟩ : ∃ t, t = gi T i := ⟨_, rfl⟩
      have tb := OK.out i t1
      rw [← ht] at cx tb
      clear ht kx
      by_cases c1 : t ≤ mo / 2
      · have d1 : decide (t ≤ mo / 2) = true := decide_eq_true c1
        have t2 : 2 * t ≤ mo := by omega
        go_wp2_with fail
        refine (CB.out t _ HB.out (by omega) t2).mono ?_
        rintro e w3 ⟨rfl, st⟩
        replace HB := Lib.hid (HB.out.trans (st.mono HB.out.size))
        obtain ⟨V, hV⟩ : ∃ V, V = Sea.bfor mo t T := ⟨_, rfl⟩
        rw [← hV]
        have HV := Lib.hid hV
        clear hV st
        have BV := Lib.hid (show ∀ X, (X = B ∨ (X = V ∧ B ≤ V)) → ∃ a, (0 ≤ a ∧ 2 * a ≤ mo) ∧ X = Sea.bfor mo a T ∧ B0 ≤ X from fun X h => by
          rcases h with rfl | ⟨rfl, h⟩
          · exact ⟨a, BE.out⟩
          · exact ⟨t, ⟨by omega, t2⟩, HV.out, by have := BE.out.2.2; omega⟩)
        clear BE HV t2 tb
        go_wp2_with fail
        all_goals
          obtain ⟨a', ha'⟩ := BV.out (if B < V then V else B) (by split <;> first | exact .inl rfl | exact .inr ⟨rfl, by omega⟩)
          have HA := Lib.hid ha'
          clear ha' BV
          go_roundw
          case rel => exact ⟨i + 1, _, a', by omega, by go_num, rfl, HA, HB⟩
          case measure => simp [intOf]; omega
      · have d1 : decide (t ≤ mo / 2) = false := decide_eq_false c1
        go_wp2_with fail
        go_roundw
        case rel => exact ⟨i + 1, B, a, by omega, by go_num, rfl, BE, HB⟩
        case measure => simp [intOf]; omega
    · obtain rfl : i = n := by omega
      have FF := Lib.hid (show ∃ a, (0 ≤ a ∧ 2 * a ≤ mo) ∧ B = Sea.bfor mo a T ∧ Sea.bfor mo 0 T ≤ B from ⟨a, BE.out.1, BE.out.2.1, by rw [← HB0.out]; exact BE.out.2.2⟩)
      clear BE HB0
      go_wp2_with fail
      go_ret2
      obtain ⟨a, h1, h2, h3⟩ := FF.out
      exact ⟨B, a, rfl, h1, h2, h3, HB.out⟩
end Go.Proofs.Ythfnaegfjacjbaa

/- Press: the laws' packed. -/
namespace Go.Proofs.Ythfnaegfjacjbaa
open Go.RowKit Go.Proofs.Ythfnaegfjacjbaa.Prs Go.Proofs.Ythfnaegfjacjbaa.Stb
set_option linter.unusedVariables false
set_option linter.unusedSimpArgs false

def PkG (T A : List Int) (mo ea : Int) : Prop := ∃ E s' u, IsAt T A T.length E ∧ Sea.fin (Sea.addP mo ea) T (fun _ => (0, 0)) E = some s' ∧ Sea.Cn s' u
/-- What packed answers. -/
def PkQ (T A : List Int) (mo ea : Int) (z : Int) (ok : Bool) : Prop := (ok = false ∧ z = 0 ∧ ¬ PkG T A mo ea) ∨ (ok = true ∧ ∃ E s' u, IsAt T A T.length E ∧ Sea.fin (Sea.addP mo ea) T (fun _ => (0, 0)) E = some s' ∧ Sea.Cn s' u ∧ u ≤ T.length ∧ z = (u : Nat))
def PkR (T A : List Int) (mo ea : Int) (w : World) (e : Ending) (w' : World) : Prop := ∃ z ok, e = .returned (.tuple #[.int .i64 z, .bool ok]) ∧ PkQ T A mo ea z ok ∧ Below w.heap.size w w'
theorem nvU {E F : List Nat} {n : Nat} (h1 : E.length = n) (h2 : F.length = n) (h : ∀ i, i < n → nv E i = nv F i) : E = F := by
  apply List.ext_getElem (by omega)
  intro i a b
  have := h i (by omega)
  unfold nv at this
  simp [a, b] at this
  omega
/-- As far as i things. -/
structure PkS (T : List Int) (E : List Nat) (mo ea : Int) (i z : Nat) (S : Nat → Int × Int) : Prop where
  fin_ : Sea.fin (Sea.addP mo ea) (T.take i) (fun _ => (0, 0)) (E.take i) = some S
  bd : PB mo ea S
  hi : ∀ b, z ≤ b → S b = (0, 0)
  top : z = 0 ∨ 0 < (S (z - 1)).2
  le : z ≤ T.length
theorem PkS.zero (T : List Int) (E : List Nat) {mo ea : Int} (h1 : 0 ≤ mo) (h2 : 0 ≤ ea) : PkS T E mo ea 0 0 (fun _ => (0, 0)) :=
  ⟨by simp [Sea.fin], fun b _ => ⟨⟨Int.le_refl _, h1⟩, Int.le_refl _, h2⟩, fun _ _ => rfl, .inl rfl, Nat.zero_le _⟩
theorem PkS.step {T : List Int} {E : List Nat} {mo ea : Int} {i z u : Nat} {S : Nat → Int × Int} (h : PkS T E mo ea i z S) (hl : E.length = T.length) (n12 : T.length ≤ 12) (hi : i < T.length) (hu : E.getD i 0 = u) (un : u < T.length) (h1 : (S u).1 + gi T i ≤ mo) (h2 : (S u).2 + 1 ≤ ea) (t0 : 0 ≤ gi T i) : PkS T E mo ea (i + 1) (max z (u + 1)) (Sea.up S u ((S u).1 + gi T i, (S u).2 + 1)) := by
  have b := h.bd u (by omega)
  have e : T.getD i 0 = gi T i := List.getD_eq_getElem?_getD
  refine ⟨?_, h.bd.put u ⟨by omega, h1⟩ ⟨by omega, h2⟩, fun c hc => ?_, .inr ?_, ?_⟩
  · rw [Sea.fin_take hi (by omega) h.fin_, hu, e]
    unfold Sea.addP
    rw [if_pos ⟨b.2.1, by omega, h1⟩]
    rfl
  · rw [Sea.up_ne _ _ (by omega)]; exact h.hi c (by omega)
  · by_cases c : z ≤ u + 1
    · rw [show max z (u + 1) - 1 = u from by omega, Sea.up_same]; show 0 < (S u).2 + 1; omega
    · rw [show max z (u + 1) - 1 = z - 1 from by omega]
      by_cases d : z - 1 = u
      · rw [d, Sea.up_same]; show 0 < (S u).2 + 1; omega
      · rw [Sea.up_ne _ _ d]
        rcases h.top with g | g
        · omega
        · exact g
  · have := h.le; omega
theorem PkS.fail {T A : List Int} {E : List Nat} {mo ea : Int} {i z u : Nat} {S : Nat → Int × Int} (h : PkS T E mo ea i z S) (hl : E.length = T.length) (hi : i < T.length) (hu : E.getD i 0 = u) (hE : ∀ j, j < T.length → 0 ≤ gi A j → nv E j = gi A j) (bad : mo < (S u).1 + gi T i ∨ ea < (S u).2 + 1) : ¬ PkG T A mo ea := by
  rintro ⟨F, s', v, ia, f, cn⟩
  have : F = E := nvU ia.lenE hl (fun j hj => by rw [hE j hj (by rw [ia.at_ j hj]; unfold nv; omega), ia.at_ j hj])
  subst this
  have e : T.getD i 0 = gi T i := List.getD_eq_getElem?_getD
  have := Sea.fin_take hi (by omega) h.fin_
  rw [hu, e, show Sea.addP mo ea (S u) (gi T i) = none from by unfold Sea.addP; rw [if_neg (by omega)]] at this
  have := Sea.fin_none (E := F) this hl
  rw [f] at this; cases this
theorem PkS.end_ {T A : List Int} {E : List Nat} {mo ea : Int} {z : Nat} {S : Nat → Int × Int} (h : PkS T E mo ea T.length z S) (hl : E.length = T.length) (ia : IsAt T A T.length E) : ((∀ b, b < z → 0 < (S b).2) → PkQ T A mo ea z true) ∧ (∀ b, b < z → (S b).2 = 0 → PkQ T A mo ea 0 false) := by
  have f := h.fin_
  rw [List.take_length, ← hl, List.take_length] at f
  refine ⟨fun g => .inr ⟨rfl, E, S, z, ia, f, ⟨g, h.hi⟩, h.le, rfl⟩, fun b hb e => .inl ⟨rfl, rfl, ?_⟩⟩
  rintro ⟨F, s', v, ib, f', cn⟩
  have : F = E := nvU ib.lenE ia.lenE (fun j hj => by rw [← ib.at_ j hj, ia.at_ j hj])
  subst this
  rw [f] at f'
  cases f'
  have vb : v ≤ b := by
    apply Classical.byContradiction; intro c
    have := cn.lo b (by omega); omega
  rcases h.top with g | g
  · omega
  · rw [cn.hi (z - 1) (by omega)] at g
    exact absurd g (by decide)
/-- Two rows made in any order. -/
structure Mk2 (w wx : World) (n rs rc : Nat) : Prop where
  i1 : IR wx rs 3 n (fun _ => 0)
  i2 : IR wx rc 3 n (fun _ => 0)
  st : Below w.heap.size w wx
  lo : w.heap.size ≤ rs ∧ w.heap.size ≤ rc
  ne : rs ≠ rc
theorem Mk2.of {w wx : World} {n rs rc : Nat} (i1 : wx.heap[rs]? = some (.cells (madeCells #[Value.int .i64 0] n) 3)) (i2 : wx.heap[rc]? = some (.cells (madeCells #[Value.int .i64 0] n) 3)) (st : Below w.heap.size w wx) (lo : w.heap.size ≤ rs ∧ w.heap.size ≤ rc) (ne : rs ≠ rc) : Mk2 w wx n rs rc := by
  have := made_ints n
  rw [Nat.mul_one, show (Value.int .i64 0).cells = #[.int .i64 0] from rfl] at this
  exact ⟨by unfold IR; rw [i1, ← this], by unfold IR; rw [i2, ← this], st, lo, ne⟩
theorem two_made (w : World) (o1 o2 : Obj) : ((w.alloc o1).alloc o2).heap[w.heap.size]? = some o1 ∧ ((w.alloc o1).alloc o2).heap[w.heap.size + 1]? = some o2 ∧ Below w.heap.size w ((w.alloc o1).alloc o2) :=
  ⟨heap_alloc2_old w _ _, heap_alloc2_new w _ _, ((Below.refl _ w).alloc (Nat.le_refl _) _).alloc (by simp) _⟩

set_option maxRecDepth 100000 in
set_option maxHeartbeats 8000000 in
theorem packed_any (p : Option Addr) (c : Nat) (T : List Int) (q : Option Addr) (d : Nat) (A : List Int) (mo ea : Int) (w : World) (r : NumR w p T) (ra : NumR w q A) (n12 : T.length ≤ 12) (tok : ThOk T T.length) (hmo : 1 ≤ mo ∧ mo ≤ 1073741824) (hea : 1 ≤ ea ∧ ea ≤ 12) (la : A.length ≤ 9223372036854775807) :
    Calls Try.prog 39 #[.slice p T.length c, .slice q A.length d, .int .i64 mo, .int .i64 ea] w (PkR T A mo ea w) := by
  obtain ⟨i0, hi, hz0, hz1, hz2⟩ := info_parts intInfo
  have R := Lib.hid r
  have RA := Lib.hid ra
  have TOK := Lib.hid tok
  obtain ⟨E, hE⟩ : ∃ E : List Nat, E = (List.range T.length).map fun i => (gi A i).toNat := ⟨_, rfl⟩
  have EL := Lib.hid (show E.length = T.length from by rw [hE]; simp)
  have EA := Lib.hid (show ∀ j, j < T.length → 0 ≤ gi A j → nv E j = gi A j from fun j hj h0 => by
    rw [hE]; unfold nv; simp [hj]; omega)
  have ED := Lib.hid (show ∀ j, j < T.length → E.getD j 0 = (gi A j).toNat from fun j hj => by
    rw [hE]; simp [hj])
  have IA := Lib.hid (show A.length = T.length → (∀ j, j < T.length → 0 ≤ gi A j ∧ gi A j < T.length) → IsAt T A T.length E from fun h1 h2 => ⟨h1, EL.out, fun j hj => (EA.out j hj (h2 j hj).1).symm, fun b hb => by
    rw [hE] at hb
    obtain ⟨j, hj, rfl⟩ := List.mem_map.1 hb
    have := h2 j (List.mem_range.1 hj); omega⟩)
  have QL := Lib.hid (show A.length ≠ T.length → PkQ T A mo ea 0 false from fun h => .inl ⟨rfl, rfl, fun ⟨E, s', u, ia, _⟩ => h ia.lenA⟩)
  have QB := Lib.hid (show ∀ j, j < T.length → ¬ (0 ≤ gi A j ∧ gi A j < T.length) → PkQ T A mo ea 0 false from fun j hj h => .inl ⟨rfl, rfl, fun ⟨E, s', u, ia, _⟩ => h (by
    rw [ia.at_ j hj]
    have := ia.ok (E.getD j 0) (by have : j < E.length := by rw [ia.lenE]; exact hj
                                   simp [this])
    unfold nv; omega)⟩)
  clear hE
  obtain ⟨n, hn⟩ : ∃ n, n = T.length := ⟨_, rfl⟩
  obtain ⟨m, hm⟩ : ∃ m, m = A.length := ⟨_, rfl⟩
  rw [← hn] at n12 TOK EL EA ED QB IA QL ⊢
  rw [← hm] at la QL IA ⊢
  have HN := Lib.hid (show n = T.length ∧ m = A.length from ⟨hn, hm⟩)
  clear hn hm r ra tok
  by_cases mn : m = n
  case neg =>
    have m1 : ((m : Int) == (n : Int)) = false := by simp; omega
    have m2 : ((m : Int) != (n : Int)) = true := by simp; omega
    have FF := Lib.hid (QL.out mn)
    clear mn QL QB IA EL EA ED
    go_enter Try.func39, Try.ntmps39
    go_wp2_with fail
    go_ret2
    exact ⟨0, false, rfl, FF.out, Below.refl _ _⟩
  subst mn
  have m1 : ((m : Int) != (m : Int)) = false := by simp
  clear QL
  replace IA := Lib.hid (IA.out rfl)
  go_enter Try.func39, Try.ntmps39
  go_upto_region 3 with fail
  clear m1
  go_cut [10, 11] from 20 to 25 (fun v1 v2 wx => ∃ rs rc, v1 = .slice (some ⟨rs, 0, none⟩) m m ∧ v2 = .slice (some ⟨rc, 0, none⟩) m m ∧ Hid (Mk2 w wx m rs rc))
  case first =>
    have MK : ∀ W : World, (Instr.makeSlice 23 (.int .i64 (m : Int)) (.int .i64 (m : Int))).run Try.prog W = .ok (.slice (some ⟨W.heap.size, 0, none⟩) m m) (W.alloc (.cells (madeCells (Value.int .i64 0).cells (m * 1)) 3)) := fun W => by
      have := run_make (P := Try.prog) W 23 3 i0 (.int .i64 0) Try.underlying23 hi hz0 .i64 .i64 m m (by omega) (Int.le_refl _) (by rw [hz2]; omega) (by omega)
      rw [hz1] at this
      simpa using this
    go_region_law (fail)
    all_goals
      go_wp2_with fail
      go_meet
      refine' ⟨_, _, rfl, rfl, Lib.hid (Mk2.of ?i1 ?i2 ?st ?lo ?ne)⟩
      case i1 => first | exact (two_made _ _ _).1 | exact (two_made _ _ _).2.1
      case i2 => first | exact (two_made _ _ _).1 | exact (two_made _ _ _).2.1
      case st => first | exact (two_made _ _ _).2.2 | exact (two_made _ _ _).2.2.drew | exact below_drewN (two_made _ _ _).2.2 _
      case lo => omega
      case ne => omega
  case rest =>
  obtain ⟨rs, rc, rfl, rfl, M2⟩ := hcut
  have NE := Lib.hid (show rs ≠ rc ∧ w.heap.size ≤ rs ∧ w.heap.size ≤ rc from ⟨M2.out.ne, M2.out.lo⟩)
  have END := Lib.hid (show ∀ z S, PkS T E mo ea m z S → (∀ j, j < m → 0 ≤ gi A j ∧ gi A j < m) → ((∀ b, b < z → 0 < (S b).2) → PkQ T A mo ea z true) ∧ (∀ b, b < z → (S b).2 = 0 → PkQ T A mo ea 0 false) from fun z S h g => by
    have h0 := HN.out.1
    rw [h0] at h
    exact h.end_ (by rw [← h0]; exact EL.out) (by rw [← h0]; exact IA.out g))
  have STEP := Lib.hid (show ∀ (i z u : Nat) S, PkS T E mo ea i z S → i < m → gi A i = u → u < m → (S u).1 + gi T i ≤ mo → (S u).2 + 1 ≤ ea → PkS T E mo ea (i + 1) (max z (u + 1)) (Sea.up S u ((S u).1 + gi T i, (S u).2 + 1)) from fun i z u S h h1 h2 h3 h4 h5 =>
    h.step (by rw [EL.out]; exact HN.out.1) (by rw [← HN.out.1]; exact n12) (by rw [← HN.out.1]; exact h1) (by rw [ED.out i h1, h2]; rfl) (by rw [← HN.out.1]; exact h3) h4 h5 (by have := TOK.out i h1; omega))
  have FAIL := Lib.hid (show ∀ (i z u : Nat) S, PkS T E mo ea i z S → i < m → gi A i = u → (mo < (S u).1 + gi T i ∨ ea < (S u).2 + 1) → PkQ T A mo ea 0 false from fun i z u S h h1 h2 h4 => .inl ⟨rfl, rfl,
    h.fail (A := A) (by rw [EL.out]; exact HN.out.1) (by rw [← HN.out.1]; exact h1) (by rw [ED.out i h1, h2]; rfl) (fun j hj => EA.out j (by rw [HN.out.1]; exact hj)) h4⟩)
  clear IA EL EA ED
  go_wp2_with fail
  go_loopw [12, 13] (fun zv kv wr => ∃ (i z : Nat) (S : Nat → Int × Int), i ≤ m ∧ kv = .int .i64 i ∧ zv = .int .i64 z ∧ Hid (PkS T E mo ea i z S) ∧ Hid (∀ j, j < i → 0 ≤ gi A j ∧ gi A j < m) ∧ Hid (IR wr rs 3 m (fun b => (S b).1)) ∧ Hid (IR wr rc 3 m (fun b => (S b).2)) ∧ Hid (Below w.heap.size w wr)) (fun _ kv _ => m - (intOf kv).toNat)
  case atStart => exact ⟨0, 0, fun _ => (0, 0), Nat.zero_le _, rfl, rfl, Lib.hid (PkS.zero _ _ (by omega) (by omega)), Lib.hid fun j h => by omega, Lib.hid M2.out.i1, Lib.hid M2.out.i2, Lib.hid M2.out.st⟩
  case round =>
    obtain ⟨i, z, S, hi', rfl, rfl, PS, OK, IS, IC, HB⟩ := hrel
    clear M2
    by_cases t1 : i < m
    · have i1 : (0 : Int) ≤ (i : Int) := by omega
      have i2 : (i : Int) < (m : Int) := by omega
      obtain ⟨y, rfl, ky, cy⟩ := (RA.out.below HB.out) i (by have := HN.out; omega)
      by_cases g0 : gi A i < 0
      · have FF := Lib.hid (QB.out i t1 (by omega))
        have g2 : decide (gi A i < 0) = true := decide_eq_true g0
        clear QB END STEP FAIL OK IS IC PS
        generalize gi A i = x at *
        go_wp2_with fail
        go_ret2
        exact ⟨0, false, rfl, FF.out, HB.out⟩
      have g2 : decide (gi A i < 0) = false := decide_eq_false g0
      by_cases g1 : gi A i < m
      case neg =>
        have FF := Lib.hid (QB.out i t1 (by omega))
        have g3 : decide ((m : Int) ≤ gi A i) = true := decide_eq_true (by omega)
        have g4 : (m : Int) ≤ gi A i := by omega
        clear QB END STEP FAIL OK IS IC PS
        generalize gi A i = x at *
        go_wp2_with fail
        go_ret2
        exact ⟨0, false, rfl, FF.out, HB.out⟩
      obtain ⟨u, hu⟩ := Int.eq_ofNat_of_zero_le (show 0 ≤ gi A i by omega)
      have um : u < m := by omega
      have u1 : (0 : Int) ≤ (u : Int) := by omega
      have u2 : (u : Int) < (m : Int) := by omega
      have u3 : ¬ m ≤ u := by omega
      have u4 : decide (m ≤ u) = false := decide_eq_false u3
      obtain ⟨x, rfl, kx, cx⟩ := (R.out.below HB.out) i (by have := HN.out; omega)
      have KC := Lib.hid (show ∀ W, Below w.heap.size w W → W.cell? (y.add i) = some (.int .i64 (u : Int)) from fun W B => by
        obtain ⟨y', e, _, c'⟩ := (RA.out.below B) i (by have := HN.out; omega)
        cases e
        rw [← hu]; exact c')
      rw [hu] at cy
      have OK2 := Lib.hid (show ∀ j, j < i + 1 → 0 ≤ gi A j ∧ gi A j < m from fun j hj => by
        by_cases e : j = i
        · subst e; omega
        · exact OK.out j (by omega))
      have cs := IS.out.cell um
      have fs := IS.out.frozen u
      obtain ⟨t, ht⟩ : ∃ t, t = gi T i := ⟨_, rfl⟩
      rw [← ht] at cx
      have tb := TOK.out i t1
      rw [← ht] at tb
      have bd := PS.out.bd u (by omega)
      obtain ⟨x1, hx1⟩ : ∃ x1, x1 = (S u).1 := ⟨_, rfl⟩
      obtain ⟨x2, hx2⟩ : ∃ x2, x2 = (S u).2 := ⟨_, rfl⟩
      have NXT := Lib.hid (STEP.out i z u S PS.out t1 hu um)
      have BAD := Lib.hid (FAIL.out i z u S PS.out t1 hu)
      rw [← ht, ← hx1, ← hx2] at NXT BAD
      rw [← hx1] at cs
      rw [← hx1, ← hx2] at bd
      have IS2 := Lib.hid (show IR (wr.setCell ⟨rs, u, none⟩ (.int .i64 (x1 + t))) rs 3 m (fun b => (Sea.up S u (x1 + t, x2 + 1) b).1) from (IS.out.set u _).ext fun b _ => by
        unfold upd Sea.up
        split <;> rfl)
      have IC2 := Lib.hid (show IR (wr.setCell ⟨rs, u, none⟩ (.int .i64 (x1 + t))) rc 3 m (fun b => (S b).2) from IC.out.keep (Below.heap_setCell _ _ _ _ (Ne.symm NE.out.1)))
      have wy : IntKind.i64.wrap (x1 + t) = x1 + t := wI rfl (by omega) (by omega)
      have HB2 := Lib.hid (show Below w.heap.size w (wr.setCell ⟨rs, u, none⟩ (.int .i64 (x1 + t))) from HB.out.setCell NE.out.2.1 _)
      have X2 := Lib.hid hx2
      clear QB END STEP FAIL ht g0 g1 g2 hu OK IS IC PS HB hx1 hx2 kx ky
      go_upto_region 10 with fail
      go_cut [] from 46 to 58 (fun wx => Hid (IR wx rs 3 m (fun b => (Sea.up S u (x1 + t, x2 + 1) b).1)) ∧ Hid (IR wx rc 3 m (fun b => (S b).2)) ∧ Hid (Below w.heap.size w wx))
      case first =>
        go_region_law (fail)
        all_goals
          go_wp2_with fail
          go_meet
          exact ⟨(by first | exact IS2 | exact Lib.hid (IS2.out.keep rfl)), (by first | exact IC2 | exact Lib.hid (IC2.out.keep rfl)), (by first | exact HB2 | exact Lib.hid HB2.out.drew | exact Lib.hid (below_drewN HB2.out _))⟩
      case rest =>
      obtain ⟨IS3, IC3, HB3⟩ := hcut
      clear IS2 IC2 HB2 cs fs cx wy cy
      have cy := KC.out _ HB3.out
      have cc := IC3.out.cell um
      rw [← X2.out] at cc
      have fc := IC3.out.frozen u
      have wc1 : IntKind.i64.wrap (x2 + 1) = x2 + 1 := wI rfl (by omega) (by omega)
      have IS4 := Lib.hid (show IR (wc.setCell ⟨rc, u, none⟩ (.int .i64 (x2 + 1))) rs 3 m (fun b => (Sea.up S u (x1 + t, x2 + 1) b).1) from IS3.out.keep (Below.heap_setCell _ _ _ _ NE.out.1))
      have IC4 := Lib.hid (show IR (wc.setCell ⟨rc, u, none⟩ (.int .i64 (x2 + 1))) rc 3 m (fun b => (Sea.up S u (x1 + t, x2 + 1) b).2) from (IC3.out.set u _).ext fun b _ => by
        unfold upd Sea.up
        split <;> rfl)
      have HB4 := Lib.hid (show Below w.heap.size w (wc.setCell ⟨rc, u, none⟩ (.int .i64 (x2 + 1))) from HB3.out.setCell NE.out.2.2 _)
      clear IS3 IC3 HB3
      go_upto_region 12 with fail
      generalize wc.setCell ⟨rc, u, none⟩ (.int .i64 (x2 + 1)) = wd at *
      clear cy cc fc wc1
      have cy := KC.out _ HB4.out
      have cs := IS4.out.cell um
      rw [Sea.up_same] at cs
      have cc := IC4.out.cell um
      rw [Sea.up_same] at cc
      simp only [] at cs cc
      have wu : IntKind.i64.wrap ((u : Int) + 1) = (u : Int) + 1 := wI rfl (by omega) (by omega)
      go_cut [12] from 68 to 74 (fun zv wx => zv = .int .i64 (max z (u + 1) : Nat) ∧ wx = wd)
      case first =>
        by_cases g : (z : Int) < (u : Int) + 1
        · have d3 : decide ((z : Int) < (u : Int) + 1) = true := decide_eq_true g
          have e3 : ((max z (u + 1) : Nat) : Int) = (u : Int) + 1 := by omega
          go_wp2_with fail
          go_meet
          exact ⟨by rw [e3], rfl⟩
        · have d3 : decide ((z : Int) < (u : Int) + 1) = false := decide_eq_false g
          have e3 : ((max z (u + 1) : Nat) : Int) = (z : Int) := by omega
          go_wp2_with fail
          go_meet
          exact ⟨by rw [e3], rfl⟩
      case rest =>
      obtain ⟨rfl, rfl⟩ := hcut
      clear wu
      by_cases b1 : mo < x1 + t
      · have d3 : decide (mo < x1 + t) = true := decide_eq_true b1
        have FF := Lib.hid (BAD.out (.inl b1))
        clear BAD NXT b1 IS4 IC4
        generalize max z (u + 1) = z2 at *
        go_wp2_with fail
        go_ret2
        exact ⟨0, false, rfl, FF.out, HB4.out⟩
      have d3 : decide (mo < x1 + t) = false := decide_eq_false b1
      by_cases b2 : ea < x2 + 1
      · have d4 : decide (ea < x2 + 1) = true := decide_eq_true b2
        have FF := Lib.hid (BAD.out (.inr b2))
        clear BAD NXT b1 b2 IS4 IC4
        generalize max z (u + 1) = z2 at *
        go_wp2_with fail
        go_ret2
        exact ⟨0, false, rfl, FF.out, HB4.out⟩
      have d4 : decide (ea < x2 + 1) = false := decide_eq_false b2
      have PS2 := Lib.hid (NXT.out (by omega) (by omega))
      clear BAD NXT b1 b2 X2
      generalize max z (u + 1) = z2 at *
      generalize Sea.up S u (x1 + t, x2 + 1) = S2 at *
      go_wp2_with fail
      go_roundw
      case rel => exact ⟨i + 1, z2, S2, by omega, by go_num, rfl, PS2, OK2, IS4, IC4, HB4⟩
      case measure => simp [intOf]; omega
    · obtain rfl : i = m := by omega
      obtain ⟨fin1, fin2⟩ := END.out z S PS.out OK.out
      have F1 := Lib.hid fin1
      have F2 := Lib.hid fin2
      have zm : z ≤ i := by have := PS.out.le; have := HN.out.1; omega
      have POS := Lib.hid (show ∀ b, b < z → 0 ≤ (S b).2 from fun b hb => (PS.out.bd b (by omega)).2.1)
      clear fin1 fin2 END STEP FAIL QB PS OK IS
      go_wp2_with fail
      go_loopw [14] (fun kv wx => ∃ j : Nat, j ≤ z ∧ kv = .int .i64 j ∧ Hid (∀ b, b < j → 0 < (S b).2) ∧ wx = wr) (fun kv _ => z - (intOf kv).toNat)
      case atStart => exact ⟨0, Nat.zero_le _, rfl, Lib.hid fun b h => by omega, rfl⟩
      case round =>
        obtain ⟨j, hj, rfl, PO, rfl⟩ := hrel
        by_cases t2 : j < z
        · have j1 : (0 : Int) ≤ (j : Int) := by omega
          have j2 : (j : Int) < (z : Int) := by omega
          have j3 : (j : Int) < (i : Int) := by omega
          have cc := IC.out.cell (k := j) (by omega)
          have pj := POS.out j t2
          have PO2 := Lib.hid (show (S j).2 ≠ 0 → ∀ b, b < j + 1 → 0 < (S b).2 from fun h b hb => by
            by_cases e : b = j
            · subst e; omega
            · exact PO.out b (by omega))
          have FF := Lib.hid (F2.out j t2)
          clear PO
          generalize (S j).2 = x at *
          by_cases x0 : x = 0
          · have e1 : (x == 0) = true := by simpa using x0
            have FG := Lib.hid (FF.out x0)
            clear PO2 pj FF
            subst x0
            go_wp2_with fail
            go_ret2
            exact ⟨0, false, rfl, FG.out, HB.out⟩
          · have e1 : (x == 0) = false := by simpa using x0
            have PO3 := Lib.hid (PO2.out x0)
            clear PO2 FF pj
            go_wp2_with fail
            go_roundw
            case rel => exact ⟨j + 1, by omega, by go_num, PO3, by first | rfl | trivial⟩
            case measure => simp [intOf]; omega
        · obtain rfl : j = z := by omega
          have FF := Lib.hid (F1.out PO.out)
          clear F1 F2 PO POS
          go_wp2_with fail
          go_ret2
          exact ⟨_, true, rfl, FF.out, HB.out⟩
end Go.Proofs.Ythfnaegfjacjbaa

/- The law PressPacked: its walk. -/
namespace Go.Proofs.Ythfnaegfjacjbaa.Sea
theorem fin_grow {mo ea : Int} : ∀ (ts : List Int) (E : List Nat) (s s' : Nat → Int × Int), fin (addP mo ea) ts s E = some s' → ∀ b, (s b).2 ≤ (s' b).2 ∧ (b ∈ E → (s b).2 < (s' b).2)
  | [], [], s, s', h, b => by
    simp [fin] at h
    subst h
    exact ⟨Int.le_refl _, fun h => by cases h⟩
  | [], c :: E, s, s', h, b => by have := fin_len h; simp at this
  | t :: ts, [], s, s', h, b => by have := fin_len h; simp at this
  | t :: ts, c :: E, s, s', h, b => by
    simp only [fin] at h
    cases y : addP mo ea (s c) t with
    | none => rw [y] at h; cases h
    | some x =>
      rw [y] at h
      have x2 : x.2 = (s c).2 + 1 := by
        unfold addP at y
        split at y
        · simp at y; rw [← y]
        · cases y
      obtain ⟨h1, h2⟩ := fin_grow ts E _ s' h b
      by_cases e : b = c
      · subst e
        rw [up_same] at h1
        exact ⟨by omega, fun _ => by omega⟩
      · rw [up_ne _ _ e] at h1 h2
        exact ⟨h1, fun g => by
          rcases List.mem_cons.1 g with g | g
          · exact absurd g e
          · exact h2 g⟩
end Go.Proofs.Ythfnaegfjacjbaa.Sea
namespace Go.Proofs.Ythfnaegfjacjbaa
open Go.RowKit Go.Proofs.Ythfnaegfjacjbaa.Prs Go.Proofs.Ythfnaegfjacjbaa.Stb
set_option linter.unusedVariables false
set_option linter.unusedSimpArgs false

theorem PErr.good_of {T : List Int} {m e : Int} (n : T.length ≤ 12) (h : 1 ≤ m ∧ m ≤ 1073741824 ∧ 1 ≤ e ∧ e ≤ 12 ∧ ThOk T T.length) (f : ThFit T m T.length) : PErr T m e 0 := .inr (.inr (.inr ⟨n, h, f, rfl⟩))
theorem BestP.isAt {T : List Int} {E : List Nat} {mo ea L : Int} (n12 : T.length ≤ 12) (b : Sea.BestP mo ea 12 T L E) : ∃ s' u, IsAt T ((List.range T.length).map (nv E)) T.length E ∧ Sea.fin (Sea.addP mo ea) T (fun _ => (0, 0)) E = some s' ∧ Sea.Cn s' u ∧ L = (u : Nat) ∧ u ≤ T.length := by
  obtain ⟨s', f, v, u, hu, cn⟩ := b.fin_
  have v : Sea.cnt 12 s' = L := v
  rw [cn.cnt hu] at v
  have lE := Sea.fin_len f
  have cl := Sea.cnt_len b.ok f
  rw [Sea.cnt_zero, cn.cnt hu] at cl
  refine ⟨s', u, ⟨by simp, lE, fun i hi => by rw [gi_map hi], fun c hc => ?_⟩, f, cn, v.symm, by omega⟩
  have := (Sea.fin_grow _ _ _ _ f c).2 hc
  have : c < u := by
    apply Classical.byContradiction; intro g
    rw [cn.hi c (by omega)] at this
    exact absurd this (by decide)
  omega
theorem PkQ.good {T : List Int} {E : List Nat} {mo ea z L : Int} {ok : Bool} (n12 : T.length ≤ 12) (h : PkQ T ((List.range T.length).map (nv E)) mo ea z ok) (b : Sea.BestP mo ea 12 T L E) : ok = true ∧ z = L := by
  obtain ⟨s', u, ia, f, cn, e, hu⟩ := BestP.isAt n12 b
  rcases h with ⟨_, _, g⟩ | ⟨h, F, s2, v, ib, f2, cn2, hv, e2⟩
  · exact absurd ⟨E, s', u, ia, f, cn⟩ g
  · have : F = E := nvU ib.lenE ia.lenE (fun j hj => by rw [← ib.at_ j hj, ia.at_ j hj])
    subst this
    rw [f] at f2; cases f2
    have h1 := cn.cnt (M := 12) (by omega)
    have h2 := cn2.cnt (M := 12) (by omega)
    exact ⟨h, by omega⟩
/-- Another packing that needs no more boxes is not before it. -/
theorem PkQ.other {T O : List Int} {E : List Nat} {mo ea z L : Int} (n12 : T.length ≤ 12) (h : PkQ T O mo ea z true) (b : Sea.BestP mo ea 12 T L E) (le : ¬ L < z) : z = L ∧ O.length = T.length ∧ ∃ E2, IsAt T O T.length E2 ∧ Sea.lexle E E2 := by
  rcases h with ⟨h, _⟩ | ⟨_, F, s2, v, ib, f2, cn2, hv, e2⟩
  · cases h
  · have ok : Sea.Ok 12 F := fun c hc => Nat.lt_of_lt_of_le (ib.ok c hc) n12
    have lo := b.low F s2 ok f2
    have lo : L ≤ Sea.cnt 12 s2 := lo
    rw [cn2.cnt (by omega)] at lo
    have e : z = L := by omega
    exact ⟨e, ib.lenA, F, ib, b.first F s2 ok f2 (by show Sea.cnt 12 s2 = L; rw [cn2.cnt (by omega)]; omega)⟩

set_option maxRecDepth 100000 in
set_option maxHeartbeats 16000000 in
theorem pressPacked_walk (p : Option Addr) (c : Nat) (T : List Int) (w : World) (r : NumR w p T) (ln : T.length ≤ 9223372036854775807) (mo : Int) (g1 : -9223372036854775808 ≤ mo ∧ mo ≤ 9223372036854775807) (ea : Int) (g2 : -9223372036854775808 ≤ ea ∧ ea ≤ 9223372036854775807) (q : Option Addr) (d : Nat) (O : List Int) (ro : NumR w q O) (lo : O.length ≤ 9223372036854775807) :
    Calls Try.prog 13 #[.slice p T.length c, .int .i64 mo, .int .i64 ea, .slice q O.length d] w fun e w' => e = .returned (.bool true) ∧ Below w.heap.size w w' := by
  have AL := Lib.hid alive_any
  have R := Lib.hid r
  have RO := Lib.hid ro
  have C1 := Lib.hid (Pack_any p c T mo ea w r ln)
  have C2 := Lib.hid (fun W E b (st : Below w.heap.size w W) (h : NumR W (some ⟨b, 0, none⟩) ((List.range T.length).map (nv E))) (n12 : T.length ≤ 12) (tok : ThOk T T.length) (h1 : 1 ≤ mo ∧ mo ≤ 1073741824) (h2 : 1 ≤ ea ∧ ea ≤ 12) => packed_any p c T (some ⟨b, 0, none⟩) T.length ((List.range T.length).map (nv E)) mo ea W (r.below st) h n12 tok h1 h2 (by simp; omega))
  have C3 := Lib.hid (fun W (st : Below w.heap.size w W) (pe : PErr T mo 1 0) => Bound_any p c T mo W (r.below st) pe)
  have C4 := Lib.hid (fun W (st : Below w.heap.size w W) (n12 : T.length ≤ 12) (tok : ThOk T T.length) (h1 : 1 ≤ mo ∧ mo ≤ 1073741824) (h2 : 1 ≤ ea ∧ ea ≤ 12) => packed_any p c T q d O mo ea W (r.below st) (ro.below st) n12 tok h1 h2 lo)
  obtain ⟨n, hn⟩ : ∃ n, n = T.length := ⟨_, rfl⟩
  obtain ⟨l, hl⟩ : ∃ l, l = O.length := ⟨_, rfl⟩
  simp only [List.length_map, List.length_range] at C2
  have C2 := Lib.hid (show ∀ W E b, Below w.heap.size w W → NumR W (some ⟨b, 0, none⟩) ((List.range T.length).map (nv E)) → T.length ≤ 12 → ThOk T T.length → (1 ≤ mo ∧ mo ≤ 1073741824) → (1 ≤ ea ∧ ea ≤ 12) → Calls Try.prog 39 #[.slice p n c, .slice (some ⟨b, 0, none⟩) n n, .int .i64 mo, .int .i64 ea] W (PkR T ((List.range T.length).map (nv E)) mo ea W) from by rw [hn]; exact C2.out)
  have C4 := Lib.hid (show ∀ W, Below w.heap.size w W → T.length ≤ 12 → ThOk T T.length → (1 ≤ mo ∧ mo ≤ 1073741824) → (1 ≤ ea ∧ ea ≤ 12) → Calls Try.prog 39 #[.slice p n c, .slice q l d, .int .i64 mo, .int .i64 ea] W (PkR T O mo ea W) from by rw [hn, hl]; exact C4.out)
  have C3 := Lib.hid (show ∀ W, Below w.heap.size w W → PErr T mo 1 0 → Calls Try.prog 32 #[.slice p n c, .int .i64 mo] W (BoQ T mo W) from by rw [hn]; exact C3.out)
  rw [← hn] at ln C1 ⊢
  rw [← hl] at lo ⊢
  have HN := Lib.hid (show n = T.length ∧ l = O.length from ⟨hn, hl⟩)
  clear hn hl r ro
  go_enter Try.func13, Try.ntmps13
  go_wp2_with fail
  refine C1.out.mono ?_
  rintro e w1 ⟨x, v1, L, rfl, pe, st, k1, k2⟩
  have KB := Lib.hid st
  by_cases x0 : x = 0
  case neg =>
    obtain ⟨rfl, rfl⟩ := k1 x0
    have y1 : (x != 0) = true := by simpa using x0
    have y3 : decide (x = 0) = false := decide_eq_false x0
    clear pe st k1 k2 C1 C2 C3 C4 x0
    go_wp2_with fail
    refine (AL.out _).mono ?_
    rintro e w3 ⟨rfl, st⟩
    go_wp2_with fail
    go_ret
    exact ⟨rfl, KB.out.trans (st.mono KB.out.size)⟩
  subst x0
  obtain ⟨n12, ⟨mo1, mo2, ea1, ea2, tok⟩, fit⟩ := pe.good
  obtain ⟨b1, E, rfl, -, nr1, lE, best⟩ := k2 rfl
  have TOK := Lib.hid (show (∀ t ∈ T, 1 ≤ t ∧ t ≤ mo) ∧ T.length ≤ 12 ∧ ThOk T T.length from ⟨fun t ht => by obtain ⟨i, hi, e⟩ := mem_gi ht; rw [← e]; exact ⟨(tok i hi).1, fit i hi⟩, n12, tok⟩)
  have BE := Lib.hid best
  have LE := Lib.hid lE
  have NR1 := Lib.hid nr1
  have D2 := Lib.hid (fun W st h => C2.out W E b1 st h n12 tok ⟨mo1, mo2⟩ ⟨ea1, ea2⟩)
  have D4 := Lib.hid (fun W st => C4.out W st n12 tok ⟨mo1, mo2⟩ ⟨ea1, ea2⟩)
  have D3 := Lib.hid (fun W st => C3.out W st (PErr.good_of n12 ⟨mo1, mo2, Int.le_refl 1, by omega, tok⟩ fit))
  have lb : 0 ≤ L ∧ L ≤ 12 := by
    obtain ⟨s', u, _, _, _, e, h⟩ := BestP.isAt n12 best
    omega
  rw [← HN.out.1] at n12 ⊢
  clear pe st k1 k2 C1 C2 C3 C4 tok fit best lE nr1 g1 g2
  go_wp2_with fail
  refine (D2.out _ KB.out NR1.out).mono ?_
  rintro e w2 ⟨z, ok, rfl, fq, st⟩
  obtain ⟨rfl, rfl⟩ := fq.good TOK.out.2.1 BE.out
  replace NR1 := Lib.hid (NR1.out.below st)
  replace KB := Lib.hid (KB.out.trans (st.mono KB.out.size))
  clear fq st D2
  go_wp2_with fail
  refine (D3.out _ KB.out).mono ?_
  rintro e w3 ⟨B, a, rfl, ha, hB, hB0, st⟩
  have bz : B ≤ z := by rw [hB]; exact BE.out.bfor (fun t ht => (TOK.out.1 t ht).1) mo1 ha.1 ha.2
  have bs := Sea.bfor_zero TOK.out.1 mo1
  have bs : Sea.sums (fun t => t) T ≤ mo * B := Int.le_trans bs (Int.mul_le_mul_of_nonneg_left hB0 (by omega))
  have BS := Lib.hid bs
  have B0 := Lib.hid (show 0 ≤ B from by
    have : 0 ≤ Sea.bfor mo 0 T := by
      unfold Sea.bfor
      have h1 := Int.ediv_nonneg (a := max 0 (Sea.sums (Sea.dff mo 0) T - mo * Sea.sums (Sea.big mo 0) T) + mo - 1) (b := mo) (by omega) (by omega)
      have h2 : ∀ ts : List Int, 0 ≤ Sea.sums (Sea.big mo 0) ts := fun ts => by
        induction ts with
        | nil => exact Int.le_refl _
        | cons t ts ih =>
          simp only [Sea.sums]
          have : 0 ≤ Sea.big mo 0 t := by unfold Sea.big; split <;> omega
          omega
      have := h2 T
      omega
    omega)
  replace NR1 := Lib.hid (NR1.out.below st)
  replace KB := Lib.hid (KB.out.trans (st.mono KB.out.size))
  clear st D3 ha hB hB0 bs
  go_wp2_with fail
  go_loopw [16, 17] (fun sv kv wr => ∃ (i : Nat) (x : Int), i ≤ n ∧ kv = .int .i64 i ∧ sv = .int .i64 x ∧ (0 ≤ x ∧ x ≤ i * 1073741824) ∧ Hid (x = Sea.sums (fun t => t) (T.take i)) ∧ wr = w3) (fun _ kv _ => n - (intOf kv).toNat)
  case atStart => exact ⟨0, 0, Nat.zero_le _, rfl, rfl, by omega, Lib.hid (by simp [Sea.sums]), rfl⟩
  case round =>
    obtain ⟨i, x, hi', rfl, rfl, xb, XE, rfl⟩ := hrel
    by_cases t1 : i < n
    · have i1 : (0 : Int) ≤ (i : Int) := by omega
      have i2 : (i : Int) < (n : Int) := by omega
      obtain ⟨y, rfl, ky, cy⟩ := (R.out.below KB.out) i (by have := HN.out; omega)
      have XE2 := Lib.hid (show x + gi T i = Sea.sums (fun t => t) (T.take (i + 1)) from by
        rw [take_gi (by have := HN.out; omega), Sea.sums_snoc, ← XE.out])
      have tb := TOK.out.2.2 i (by have := HN.out; omega)
      clear XE ky
      generalize gi T i = t at *
      have wx : IntKind.i64.wrap (x + t) = x + t := wI rfl (by omega) (by omega)
      go_wp2_with fail
      go_roundw
      case rel => exact ⟨i + 1, x + t, by omega, by go_num, by first | rfl | trivial, by omega, XE2, by first | rfl | trivial⟩
      case measure => simp [intOf]; omega
    obtain rfl : i = n := by omega
    have xs : x ≤ mo * B := by
      rw [XE.out, HN.out.1, List.take_length]; exact BS.out
    rw [Int.mul_comm] at xs
    have b0 := B0.out
    have e1 : (z != z) = false := by simp
    have e2 : decide (z < B) = false := decide_eq_false (by omega)
    obtain ⟨p5, hp5⟩ : ∃ p5, p5 = B * mo := ⟨_, rfl⟩
    rw [← hp5] at xs
    have pb : 0 ≤ p5 ∧ p5 ≤ 12 * 1073741824 := by
      rw [hp5]
      exact ⟨Int.mul_nonneg (by omega) (by omega), Int.le_trans (Int.mul_le_mul_of_nonneg_left mo2 (by omega)) (by omega)⟩
    have a5 : IntKind.i64.wrap (B * mo) = p5 := wI hp5.symm (by omega) (by omega)
    have a6 : wrap64 (B * mo) = p5 := by rw [← hp5]; exact IntWalk.wrap64_in _ (by omega)
    have e3 : decide (p5 < x) = false := decide_eq_false (by omega)
    clear XE BS B0 hp5 xs pb b0 bz
    go_upto_region 13 with fail
    clear a5 a6 e1 e2 e3 xb
    go_wp2_with fail
    refine (D4.out _ KB.out).mono ?_
    rintro e w5 ⟨z3, ok, rfl, fq, st⟩
    have FQ := Lib.hid fq
    replace NR1 := Lib.hid (NR1.out.below st)
    replace KB := Lib.hid (KB.out.trans (st.mono KB.out.size))
    clear fq st D4
    cases ok with
    | false =>
      go_wp2_with fail
      refine (AL.out _).mono ?_
      rintro e w6 ⟨rfl, st⟩
      go_wp2_with fail
      go_ret
      exact ⟨rfl, KB.out.trans (st.mono KB.out.size)⟩
    | true =>
      by_cases zz : z < z3
      · have d1 : decide (z < z3) = true := decide_eq_true zz
        go_wp2_with fail
        refine (AL.out _).mono ?_
        rintro e w6 ⟨rfl, st⟩
        go_wp2_with fail
        go_ret
        exact ⟨rfl, KB.out.trans (st.mono KB.out.size)⟩
      have d1 : decide (z < z3) = false := decide_eq_false zz
      obtain ⟨e9, eO, E2, ia, lx⟩ := FQ.out.other TOK.out.2.1 BE.out zz
      obtain rfl : z3 = z := e9
      have LX := Lib.hid lx
      have IA := Lib.hid ia
      have HL := Lib.hid (show l = i from by rw [HN.out.1, HN.out.2]; exact eO)
      have z1 : (z3 == z3) = true := by simp
      clear zz lx ia eO FQ
      obtain rfl := HL.out
      go_wp2_with fail
      go_loopw [20] (fun kv wr => ∃ i : Nat, i ≤ l ∧ kv = .int .i64 i ∧ Hid (∀ j, j < i → nv E j = nv E2 j) ∧ Hid (Below w5.heap.size w5 wr)) (fun kv _ => l - (intOf kv).toNat)
      case atStart => exact ⟨0, Nat.zero_le _, rfl, Lib.hid fun j h => by omega, Lib.hid (Below.refl _ _)⟩
      case round =>
        obtain ⟨i, hi', rfl, EQ, HB⟩ := hrel
        clear d1
        by_cases t1 : i < l
        · have i1 : (0 : Int) ≤ (i : Int) := by omega
          have i2 : (i : Int) < (l : Int) := by omega
          obtain ⟨y, rfl, ky, cy⟩ := (RO.out.below (KB.out.trans (HB.out.mono KB.out.size))) i (by have := HN.out; omega)
          obtain ⟨x, ex, kx, cx⟩ := (NR1.out.below HB.out) i (by simp; have := HN.out; omega)
          cases ex
          rw [add0q, gi_map (by have := HN.out; omega)] at cx
          rw [IA.out.at_ i (by have := HN.out; omega)] at cy
          clear kx ky
          by_cases ne : nv E i = nv E2 i
          · have EQ2 := Lib.hid (show ∀ j, j < i + 1 → nv E j = nv E2 j from fun j hj => by
              by_cases e : j = i
              · rw [e]; exact ne
              · exact EQ.out j (by omega))
            rw [← ne] at cy
            have n1 : (nv E i != nv E i) = false := by simp
            clear ne EQ
            generalize nv E i = u at *
            go_upto_region 19 with fail
            go_quiet (fail)
            go_wp2_with fail
            go_roundw
            case rel => exact ⟨i + 1, by omega, by go_num, EQ2, Lib.hid (below_drewN HB.out _)⟩
            case measure => simp [intOf]; omega
          · have LT := Lib.hid (show nv E i < nv E2 i from by
              have lE2 := IA.out.lenE
              have lE := LE.out
              have hN := HN.out.1
              have conv : ∀ j, j < l → (E[j]? = E2[j]? ↔ nv E j = nv E2 j) := fun j hj => by
                have a : j < E.length := by omega
                have b : j < E2.length := by omega
                unfold nv
                simp [a, b]
                omega
              have := Sea.lexle_part LX.out (k := i) (by omega) (by omega) (fun j hj => (conv j (by omega)).2 (EQ.out j hj)) (fun h => ne ((conv i t1).1 h))
              unfold nv; omega)
            have n1 : (nv E i != nv E2 i) = true := by simpa using ne
            have n2 : decide (nv E i < nv E2 i) = true := decide_eq_true LT.out
            clear ne EQ LT
            generalize nv E i = u at *
            generalize nv E2 i = v at *
            go_upto_region 19 with fail
            go_quiet (fail)
            have HB2 := Lib.hid (below_drewN HB.out nq)
            replace cx : (wr.drewN nq).cell? ⟨b1, i, none⟩ = some (.int .i64 u) := cx
            replace cy : (wr.drewN nq).cell? (y.add i) = some (.int .i64 v) := cy
            generalize wr.drewN nq = wx at *
            go_upto_region 20 with fail
            go_region_held3 (fun w' => w'.cell? ⟨b1, i, none⟩ = some (.int .i64 u) ∧ w'.cell? (y.add i) = some (.int .i64 v))
              (first | exact ⟨cx, cy⟩ | exact ⟨cellDr cx, cellDr cy⟩)
              (first | (go_at_call 15; (with_reducible refine (AL.out _).mono ?_); rintro e v1 ⟨rfl, st⟩; have st : Below wx.heap.size wx v1 := (by first | exact st | exact ((Below.refl _ _).drew).trans st | exact (below_drewN (Below.refl _ _) _).trans st); replace cx := cellGr st cx; replace cy := cellGr st cy; replace HB2 := Lib.hid (HB2.out.trans (st.mono HB2.out.size)); clear st))
            go_wp2_with fail
            go_ret
            exact ⟨rfl, KB.out.trans (HB2.out.mono KB.out.size)⟩
        · obtain rfl : i = l := by omega
          go_wp2_with fail
          refine (AL.out _).mono ?_
          rintro e w6 ⟨rfl, st⟩
          go_wp2_with fail
          go_ret
          exact ⟨rfl, KB.out.trans ((HB.out.trans (st.mono HB.out.size)).mono KB.out.size)⟩
end Go.Proofs.Ythfnaegfjacjbaa
