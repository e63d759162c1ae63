/- The law PressPacks: the reference's Pack and Bound, copies, the walk (SQ4 to SQ9 in one). -/
import Derived.Test.YthfnaegfjacjbaaSQB
import Derived.Test.YthfnaegfjacjbaaSQA
import Derived.Test.YthfnaegfjacjbaaSK3
import Derived.Test.YthfnaegfjacjbaaPBA
/- Press: the reference's check of things; what its search says of Pack. -/
namespace Go.Proofs.Ythfnaegfjacjbaa.Sea
theorem fin_out {mo ea : Int} {M : Nat} : ∀ (ts : List Int) (E : List Nat) (s s' : Nat → Int × Int), Ok M E → fin (addP mo ea) ts s E = some s' → ∀ b, M ≤ b → s' b = s b
  | [], [], s, s', _, h, b, _ => by
    simp [fin] at h
    rw [h]
  | [], c :: E, s, s', _, h, b, _ => by have := fin_len h; simp at this
  | t :: ts, [], s, s', _, h, b, _ => by have := fin_len h; simp at this
  | t :: ts, c :: E, s, s', ok, h, b, hb => by
    obtain ⟨y, _, h⟩ := fin_cons h
    rw [fin_out ts E _ s' (fun d hd => ok d (by simp [hd])) h b hb, up_ne _ _ (by have := ok c (by simp); omega)]
theorem cnt_cut {s : Nat → Int × Int} {M : Nat} (h : ∀ b, M ≤ b → (s b).2 = 0) : ∀ m, M ≤ m → cnt m s = cnt M s
  | 0, h0 => by rw [show M = 0 by omega]
  | m + 1, h0 => by
    by_cases e : M = m + 1
    · rw [e]
    · have : cnt (m + 1) s = cnt m s + if (s m).2 = 0 then 0 else 1 := rfl
      rw [this, if_pos (h m (by omega)), Int.add_zero, cnt_cut h m (by omega)]
theorem fits_all {mo ea : Int} {T : List Int} (ht : ∀ t ∈ T, t ≤ mo) (he : 1 ≤ ea) : ¬ NoF mo ea T.length T (fun _ => (0, 0)) := fun h => by
  obtain ⟨s', f⟩ := fin_fresh (most := mo) (each := ea) he (ts := T) (s := fun _ => (0, 0)) (E := List.range T.length) (by simp) List.nodup_range (fun _ _ => rfl) ht
  exact h _ s' (fun b hb => by have := List.mem_range.1 hb; omega) f
/-- The first packing into the fewest boxes is the best one. -/
theorem BestP.is {mo ea L : Int} {T : List Int} {E E1 : List Nat} {M : Nat} (b : BestP mo ea 12 T L E) (u : Nat) (eL : L = (u : Nat)) (okE : Ok u E) (u12 : u ≤ 12) (g : Fst mo ea M T (fun _ => (0, 0)) E1) (no : ∀ k, k < M → NoF mo ea k T (fun _ => (0, 0))) : L = (M : Nat) ∧ E = E1 := by
  obtain ⟨s0, f0, v0, -⟩ := b.fin_
  obtain ⟨ok1, ⟨s1, f1⟩, l1⟩ := g
  have le : M ≤ u := by
    apply Classical.byContradiction; intro c
    exact no u (by omega) E s0 okE f0
  have ok12 : Ok 12 E1 := fun c hc => Nat.lt_of_lt_of_le (ok1 c hc) (by omega)
  have lo : L ≤ cnt 12 s1 := b.low E1 s1 ok12 f1
  have c1 : cnt 12 s1 = cnt M s1 := cnt_cut (fun d hd => by rw [fin_out _ _ _ _ ok1 f1 d hd]) 12 (by omega)
  have c2 := cnt_top M s1
  have e : u = M := by omega
  subst e
  refine ⟨eL, lexle_anti (by rw [fin_len f0, fin_len f1]) (b.first E1 s1 ok12 f1 (by show cnt 12 s1 = L; omega)) (l1 E s0 okE f0)⟩
end Go.Proofs.Ythfnaegfjacjbaa.Sea
namespace Go.Proofs.Ythfnaegfjacjbaa
open Go.RowKit Go.Proofs.Ythfnaegfjacjbaa.Prs Go.Proofs.Ythfnaegfjacjbaa.Stb
set_option linter.unusedVariables false
set_option linter.unusedSimpArgs false

set_option maxRecDepth 100000 in
set_option maxHeartbeats 8000000 in
theorem rcheck_any (p : Option Addr) (c : Nat) (T : List Int) (mo ea : Int) (w : World) (r : NumR w p T) (ln : T.length ≤ 9223372036854775807) :
    Calls Try.prog 68 #[.slice p T.length c, .int .i64 mo, .int .i64 ea] w fun e w' => ∃ x, e = .returned (.int .i64 x) ∧ PErr T mo ea x ∧ Below w.heap.size w w' := by
  have R := Lib.hid r
  obtain ⟨n, hn⟩ : ∃ n, n = T.length := ⟨_, rfl⟩
  have E3 := Lib.hid (show 12 < n → PErr T mo ea 3 from fun h => .inl ⟨by omega, rfl⟩)
  have E2 := Lib.hid (show n ≤ 12 → ¬ (1 ≤ mo ∧ mo ≤ 1073741824 ∧ 1 ≤ ea ∧ ea ≤ 12 ∧ ThOk T T.length) → PErr T mo ea 2 from fun h g => .inr (.inl ⟨by omega, g, rfl⟩))
  have E4 := Lib.hid (show n ≤ 12 → (1 ≤ mo ∧ mo ≤ 1073741824 ∧ 1 ≤ ea ∧ ea ≤ 12 ∧ ThOk T T.length) → ¬ ThFit T mo T.length → PErr T mo ea 13 from fun h g f => .inr (.inr (.inl ⟨by omega, g, f, rfl⟩)))
  have E0 := Lib.hid (show n ≤ 12 → (1 ≤ mo ∧ mo ≤ 1073741824 ∧ 1 ≤ ea ∧ ea ≤ 12 ∧ ThOk T T.length) → ThFit T mo T.length → PErr T mo ea 0 from fun h g f => .inr (.inr (.inr ⟨by omega, g, f, rfl⟩)))
  rw [← hn] at ln E2 E4 E0 ⊢
  have HN := Lib.hid hn
  clear hn r
  go_enter Try.func68, Try.ntmps68
  by_cases n12 : (12 : Int) < n
  · have d1 : decide ((12 : Int) < n) = true := decide_eq_true n12
    have FF := Lib.hid (E3.out (by omega))
    clear E3 E2 E4 E0
    go_wp2_with fail
    go_ret
    exact ⟨3, rfl, FF.out, Below.refl _ _⟩
  have d1 : decide ((12 : Int) < n) = false := decide_eq_false n12
  have n12' : n ≤ 12 := by omega
  by_cases b1 : mo < 1
  · have e1 : decide (mo < 1) = true := decide_eq_true b1
    have FF := Lib.hid (E2.out n12' (fun h => by omega))
    clear E3 E2 E4 E0
    go_wp2_with fail
    go_ret
    exact ⟨2, rfl, FF.out, Below.refl _ _⟩
  have e1 : decide (mo < 1) = false := decide_eq_false b1
  by_cases b2 : 1073741824 < mo
  · have e2 : decide (1073741824 < mo) = true := decide_eq_true b2
    have FF := Lib.hid (E2.out n12' (fun h => by omega))
    clear E3 E2 E4 E0
    go_wp2_with fail
    go_ret
    exact ⟨2, rfl, FF.out, Below.refl _ _⟩
  have e2 : decide (1073741824 < mo) = false := decide_eq_false b2
  by_cases b3 : ea < 1
  · have e3 : decide (ea < 1) = true := decide_eq_true b3
    have FF := Lib.hid (E2.out n12' (fun h => by omega))
    clear E3 E2 E4 E0
    go_wp2_with fail
    go_ret
    exact ⟨2, rfl, FF.out, Below.refl _ _⟩
  have e3 : decide (ea < 1) = false := decide_eq_false b3
  by_cases b4 : 12 < ea
  · have e4 : decide (12 < ea) = true := decide_eq_true b4
    have FF := Lib.hid (E2.out n12' (fun h => by omega))
    clear E3 E2 E4 E0
    go_wp2_with fail
    go_ret
    exact ⟨2, rfl, FF.out, Below.refl _ _⟩
  have e4 : decide (12 < ea) = false := decide_eq_false b4
  clear E3
  go_wp2_with fail
  clear d1 e1 e2 e3 e4
  go_loopw [7] (fun kv wr => ∃ i : Nat, i ≤ n ∧ kv = .int .i64 i ∧ Hid (ThOk T i) ∧ wr = w) (fun kv _ => n - (intOf kv).toNat)
  case atStart => exact ⟨0, Nat.zero_le _, rfl, Lib.hid fun j h => by omega, rfl⟩
  case round =>
    obtain ⟨i, hi', rfl, OK, rfl⟩ := hrel
    by_cases t1 : i < n
    · have i1 : (0 : Int) ≤ (i : Int) := by omega
      have i2 : (i : Int) < (n : Int) := by omega
      obtain ⟨x, rfl, kx, cx⟩ := R.out i (by have := HN.out; omega)
      have NO := Lib.hid (show ¬ (1 ≤ gi T i ∧ gi T i ≤ 1073741824) → PErr T mo ea 2 from fun h => E2.out n12' (fun g => h (g.2.2.2.2 i (by have := HN.out; omega))))
      have OK2 := Lib.hid (show (1 ≤ gi T i ∧ gi T i ≤ 1073741824) → ThOk T (i + 1) from fun h j hj => by
        by_cases e : j = i
        · subst e; exact h
        · exact OK.out j (by omega))
      clear OK kx E2 E4 E0
      generalize gi T i = t at *
      by_cases c1 : t < 1
      · have e1 : decide (t < 1) = true := decide_eq_true c1
        have FF := Lib.hid (NO.out (by omega))
        clear NO OK2
        go_wp2_with fail
        go_ret
        exact ⟨2, rfl, FF.out, Below.refl _ _⟩
      have e1 : decide (t < 1) = false := decide_eq_false c1
      by_cases c2 : 1073741824 < t
      · have e2 : decide (1073741824 < t) = true := decide_eq_true c2
        have FF := Lib.hid (NO.out (by omega))
        clear NO OK2
        go_wp2_with fail
        go_ret
        exact ⟨2, rfl, FF.out, Below.refl _ _⟩
      have e2 : decide (1073741824 < t) = false := decide_eq_false c2
      have OK3 := Lib.hid (OK2.out (by omega))
      clear NO OK2
      go_wp2_with fail
      go_roundw
      case rel => exact ⟨i + 1, by omega, by go_num, OK3, by first | rfl | trivial⟩
      case measure => simp [intOf]; omega
    obtain rfl : i = n := by omega
    have TOK := Lib.hid (show 1 ≤ mo ∧ mo ≤ 1073741824 ∧ 1 ≤ ea ∧ ea ≤ 12 ∧ ThOk T i from ⟨by omega, by omega, by omega, by omega, OK.out⟩)
    have E4 := Lib.hid (E4.out n12' TOK.out)
    have E0 := Lib.hid (E0.out n12' TOK.out)
    clear E2 OK b1 b2 b3 b4
    go_wp2_with fail
    go_loopw [8] (fun kv wx => ∃ j : Nat, j ≤ i ∧ kv = .int .i64 j ∧ Hid (ThFit T mo j) ∧ wx = wr) (fun kv _ => i - (intOf kv).toNat)
    case atStart => exact ⟨0, Nat.zero_le _, rfl, Lib.hid fun j h => by omega, rfl⟩
    case round =>
      obtain ⟨j, hj, rfl, FT, rfl⟩ := hrel
      by_cases t2 : j < i
      · have j1 : (0 : Int) ≤ (j : Int) := by omega
        have j2 : (j : Int) < (i : Int) := by omega
        obtain ⟨x, rfl, kx, cx⟩ := R.out j (by have := HN.out; omega)
        have NO := Lib.hid (show mo < gi T j → PErr T mo ea 13 from fun h => E4.out (fun g => by have := g j (by have := HN.out; omega); omega))
        have FT2 := Lib.hid (show gi T j ≤ mo → ThFit T mo (j + 1) from fun h l hl => by
          by_cases e : l = j
          · subst e; exact h
          · exact FT.out l (by omega))
        clear FT kx E4 E0
        generalize gi T j = t at *
        by_cases c1 : mo < t
        · have e1 : decide (mo < t) = true := decide_eq_true c1
          have FF := Lib.hid (NO.out c1)
          clear NO FT2
          go_wp2_with fail
          go_ret
          exact ⟨13, rfl, FF.out, Below.refl _ _⟩
        have e1 : decide (mo < t) = false := decide_eq_false c1
        have FT3 := Lib.hid (FT2.out (by omega))
        clear NO FT2
        go_wp2_with fail
        go_roundw
        case rel => exact ⟨j + 1, by omega, by go_num, FT3, by first | rfl | trivial⟩
        case measure => simp [intOf]; omega
      · obtain rfl : j = i := by omega
        have FF := Lib.hid (E0.out FT.out)
        clear E4 E0 FT
        go_wp2_with fail
        go_ret
        exact ⟨0, rfl, FF.out, Below.refl _ _⟩
end Go.Proofs.Ythfnaegfjacjbaa

/- Press: the reference's Pack. -/
namespace Go.Proofs.Ythfnaegfjacjbaa
open Go.RowKit Go.Proofs.Ythfnaegfjacjbaa.Prs Go.Proofs.Ythfnaegfjacjbaa.Stb
set_option linter.unusedVariables false
set_option linter.unusedSimpArgs false

/-- What the reference's Pack answers. -/
def RPaQ (T : List Int) (mo ea : Int) (w : World) (e : Ending) (w' : World) : Prop := ∃ x v L, e = .returned (.tuple #[v, .int .i64 L, .int .i64 x]) ∧ PErr T mo ea x ∧ Below w.heap.size w w' ∧ (x ≠ 0 → v = .slice none 0 0 ∧ L = 0) ∧
  (x = 0 → ∃ b E, ∃ M : Nat, v = .slice (some ⟨b, 0, none⟩) T.length T.length ∧ L = M ∧ NumR w' (some ⟨b, 0, none⟩) ((List.range T.length).map (nv E)) ∧ Sea.Fst mo ea M T (fun _ => (0, 0)) E ∧ ∀ k, k < M → Sea.NoF mo ea k T (fun _ => (0, 0)))

set_option maxRecDepth 100000 in
set_option maxHeartbeats 8000000 in
theorem rPack_any (p : Option Addr) (c : Nat) (T : List Int) (mo ea : Int) (w : World) (r : NumR w p T) (ln : T.length ≤ 9223372036854775807) :
    Calls Try.prog 31 #[.slice p T.length c, .int .i64 mo, .int .i64 ea] w (RPaQ T mo ea w) := by
  have C0 := Lib.hid (rcheck_any p c T mo ea w r ln)
  have C1 := Lib.hid (fun M W (st : Below w.heap.size w W) (n12 : T.length ≤ 12) (g : 1 ≤ mo ∧ mo ≤ 1073741824 ∧ 1 ≤ ea ∧ ea ≤ 12 ∧ ThOk T T.length) (fit : ThFit T mo T.length) (hM : M ≤ 12) => assign_any p c T M mo ea W (r.below st) n12 g.2.2.2.2 fit hM ⟨by omega, by omega⟩ ⟨by omega, by omega⟩)
  have QE := Lib.hid (show ∀ x w', PErr T mo ea x → x ≠ 0 → Below w.heap.size w w' → RPaQ T mo ea w (.returned (.tuple #[.slice none 0 0, .int .i64 0, .int .i64 x])) w' from fun x w' h g B => ⟨x, _, 0, rfl, h, B, fun _ => ⟨rfl, rfl⟩, fun e => absurd e g⟩)
  have QG := Lib.hid (show ∀ b E (M : Nat) w', PErr T mo ea 0 → Below w.heap.size w w' → NumR w' (some ⟨b, 0, none⟩) ((List.range T.length).map (nv E)) → Sea.Fst mo ea M T (fun _ => (0, 0)) E → (∀ k, k < M → Sea.NoF mo ea k T (fun _ => (0, 0))) → RPaQ T mo ea w (.returned (.tuple #[.slice (some ⟨b, 0, none⟩) T.length T.length, .int .i64 M, .int .i64 0])) w' from fun b E M w' h B nr f no => ⟨0, _, M, rfl, h, B, fun g => absurd rfl g, fun _ => ⟨b, E, M, rfl, rfl, nr, f, no⟩⟩)
  obtain ⟨n, hn⟩ : ∃ n, n = T.length := ⟨_, rfl⟩
  have HN := Lib.hid hn
  rw [← hn] at C0 QG ln ⊢
  have C1 := Lib.hid (show ∀ (M : Nat) W, Below w.heap.size w W → T.length ≤ 12 → (1 ≤ mo ∧ mo ≤ 1073741824 ∧ 1 ≤ ea ∧ ea ≤ 12 ∧ ThOk T T.length) → ThFit T mo T.length → M ≤ 12 → Calls Try.prog 60 #[.slice p n c, .int .i64 M, .int .i64 mo, .int .i64 ea] W (AsQ T M mo ea W) from by rw [hn]; exact C1.out)
  clear hn r
  go_enter Try.func31, Try.ntmps31
  go_wp2_with fail
  refine C0.out.mono ?_
  rintro e w1 ⟨x, rfl, te, st⟩
  have KB := Lib.hid st
  by_cases x0 : x = 0
  case neg =>
    have x1 : (x != 0) = true := by simpa using x0
    have FF := Lib.hid (QE.out x w1 te x0 st)
    clear x0 QE QG te st C0 C1
    go_wp2_with fail
    go_returns
    exact FF.out
  subst x0
  obtain ⟨n12, good, fit⟩ := te.good
  have PE := Lib.hid te
  have ALL := Lib.hid (Sea.fits_all (mo := mo) (ea := ea) (T := T) (fun t ht => by obtain ⟨i, hi, e⟩ := mem_gi ht; rw [← e]; exact fit i hi) good.2.2.1)
  have D1 := Lib.hid (fun M W st hM => C1.out M W st n12 good fit hM)
  rw [← HN.out] at n12
  clear te st C0 C1 QE good fit
  go_wp2_with fail
  go_loopw [10] (fun kv wr => ∃ M : Nat, M ≤ n + 1 ∧ kv = .int .i64 M ∧ Hid (∀ k, k < M → Sea.NoF mo ea k T (fun _ => (0, 0))) ∧ Hid (Below w.heap.size w wr)) (fun kv _ => n + 1 - (intOf kv).toNat)
  case atStart => exact ⟨0, Nat.zero_le _, rfl, Lib.hid fun j h => by omega, KB⟩
  case round =>
    obtain ⟨M, hM, rfl, NO, HB⟩ := hrel
    clear KB
    by_cases t1 : M ≤ n
    case neg => exact absurd (NO.out n (by omega)) (by rw [HN.out]; exact ALL.out)
    have d1 : decide ((M : Int) ≤ (n : Int)) = true := decide_eq_true (by omega)
    go_wp2_with fail
    refine (D1.out M _ HB.out (by omega)).mono ?_
    rintro e w2 ⟨f, b, rfl, st, lo, no, yes⟩
    have HB2 := Lib.hid (HB.out.trans (st.mono HB.out.size))
    rw [← HN.out]
    cases f with
    | true =>
      obtain ⟨E, fst, nr⟩ := yes rfl
      rw [← HN.out] at nr
      have FF := Lib.hid (QG.out b E M w2 PE.out HB2.out nr fst NO.out)
      clear QG fst nr no yes st lo HB D1
      go_wp2_with fail
      go_returns
      exact FF.out
    | false =>
      have NO2 := Lib.hid (show ∀ k, k < M + 1 → Sea.NoF mo ea k T (fun _ => (0, 0)) from fun k hk => by
        by_cases e : k = M
        · rw [e]; exact no rfl
        · exact NO.out k (by omega))
      clear no yes st lo HB NO
      go_wp2_with fail
      go_roundw
      case rel => exact ⟨M + 1, by omega, by go_num, NO2, HB2⟩
      case measure => simp [intOf]; omega
end Go.Proofs.Ythfnaegfjacjbaa

/- Press: the reference's Bound. -/
namespace Go.Proofs.Ythfnaegfjacjbaa.Sea
theorem sums_le {f g : Int → Int} : ∀ ts : List Int, (∀ t ∈ ts, f t ≤ g t) → sums f ts ≤ sums g ts
  | [], _ => Int.le_refl _
  | t :: ts, h => by
    have := sums_le ts (fun u hu => h u (by simp [hu]))
    have := h t (by simp)
    simp only [sums]; omega
theorem sums_mul (m : Int) (f : Int → Int) : ∀ ts : List Int, sums (fun t => m * f t) ts = m * sums f ts
  | [] => by simp [sums]
  | t :: ts => by
    simp only [sums]
    rw [sums_mul m f ts, Int.mul_add]
theorem big_nonneg (mo a : Int) (ts : List Int) : 0 ≤ sums (big mo a) ts := by
  induction ts with
  | nil => exact Int.le_refl _
  | cons t ts ih =>
    simp only [sums]
    have : 0 ≤ big mo a t := by unfold big; split <;> omega
    omega
theorem bfor_nonneg {mo a : Int} {ts : List Int} (m1 : 1 ≤ mo) : 0 ≤ bfor mo a ts := by
  unfold bfor
  have h1 := Int.ediv_nonneg (a := max 0 (sums (dff mo a) ts - mo * sums (big mo a) ts) + mo - 1) (b := mo) (by omega) (by omega)
  have := big_nonneg mo a ts
  omega
theorem bfor_mono {mo a b : Int} {ts : List Int} (m1 : 1 ≤ mo) (e : sums (big mo a) ts = sums (big mo b) ts) (h : sums (dff mo a) ts ≤ sums (dff mo b) ts ∨ sums (dff mo a) ts ≤ mo * sums (big mo a) ts) : bfor mo a ts ≤ bfor mo b ts := by
  unfold bfor
  rw [← e]
  have : (max 0 (sums (dff mo a) ts - mo * sums (big mo a) ts) + mo - 1) / mo ≤ (max 0 (sums (dff mo b) ts - mo * sums (big mo a) ts) + mo - 1) / mo := Int.ediv_le_ediv (by omega) (by omega)
  omega
/-- The least of those from a on that are at most half. -/
theorem least_from (mo a : Int) : ∀ ts : List Int, (∃ u ∈ ts, a ≤ u ∧ 2 * u ≤ mo ∧ ∀ t ∈ ts, a ≤ t → 2 * t ≤ mo → u ≤ t) ∨ ∀ t ∈ ts, ¬ (a ≤ t ∧ 2 * t ≤ mo)
  | [] => .inr fun t h => by cases h
  | x :: ts => by
    by_cases c : a ≤ x ∧ 2 * x ≤ mo
    · rcases least_from mo a ts with ⟨u, hu, u1, u2, l⟩ | h
      · by_cases d : x ≤ u
        · exact .inl ⟨x, by simp, c.1, c.2, fun t ht h1 h2 => by
            rcases List.mem_cons.1 ht with rfl | ht
            · exact Int.le_refl _
            · exact Int.le_trans d (l t ht h1 h2)⟩
        · exact .inl ⟨u, by simp [hu], u1, u2, fun t ht h1 h2 => by
            rcases List.mem_cons.1 ht with rfl | ht
            · omega
            · exact l t ht h1 h2⟩
      · exact .inl ⟨x, by simp, c.1, c.2, fun t ht h1 h2 => by
          rcases List.mem_cons.1 ht with rfl | ht
          · exact Int.le_refl _
          · exact absurd ⟨h1, h2⟩ (h t ht)⟩
    · rcases least_from mo a ts with ⟨u, hu, u1, u2, l⟩ | h
      · exact .inl ⟨u, by simp [hu], u1, u2, fun t ht h1 h2 => by
          rcases List.mem_cons.1 ht with rfl | ht
          · exact absurd ⟨h1, h2⟩ c
          · exact l t ht h1 h2⟩
      · exact .inr fun t ht => by
          rcases List.mem_cons.1 ht with rfl | ht
          · exact c
          · exact h t ht
theorem big_same {mo a b : Int} {ts : List Int} (ha : 2 * a ≤ mo) (hb : 2 * b ≤ mo) : sums (big mo a) ts = sums (big mo b) ts := by
  induction ts with
  | nil => rfl
  | cons t ts ih =>
    simp only [sums]
    rw [ih]
    have : big mo a t = big mo b t := by
      unfold big
      by_cases c : mo < 2 * t
      · rw [if_pos (.inr c), if_pos (.inr c)]
      · rw [if_neg (by omega), if_neg (by omega)]
    omega
/-- No other threshold asks for more boxes than 0 and the masses up to half do. -/
theorem bfor_dom {mo a B : Int} {ts : List Int} (m1 : 1 ≤ mo) (ht : ∀ t ∈ ts, 1 ≤ t ∧ t ≤ mo) (a0 : 0 ≤ a) (a2 : 2 * a ≤ mo) (h0 : bfor mo 0 ts ≤ B) (h : ∀ t ∈ ts, 2 * t ≤ mo → bfor mo t ts ≤ B) : bfor mo a ts ≤ B := by
  rcases least_from mo a ts with ⟨u, hu, u1, u2, l⟩ | no
  · refine Int.le_trans (bfor_mono m1 (big_same a2 u2) (.inl (sums_le ts fun t k => ?_))) (h u hu u2)
    have := ht t k
    unfold dff
    by_cases c1 : mo - a < t
    · rw [if_pos c1, if_pos (by omega)]; exact Int.le_refl _
    · rw [if_neg c1]
      by_cases c2 : mo - u < t
      · rw [if_pos c2]; split <;> omega
      · rw [if_neg c2]
        by_cases c3 : a ≤ t
        · rw [if_pos c3]
          by_cases c4 : u ≤ t
          · rw [if_pos c4]; exact Int.le_refl _
          · exact absurd (l t k c3 (by omega)) c4
        · rw [if_neg c3]; split <;> omega
  · refine Int.le_trans (bfor_mono m1 (big_same a2 (by omega)) (.inr ?_)) h0
    rw [← sums_mul]
    refine sums_le ts fun t k => ?_
    have := ht t k
    have := no t k
    unfold dff big
    by_cases c1 : mo < 2 * t
    · rw [if_pos (show mo - a < t ∨ mo < 2 * t from .inr c1)]
      split
      · omega
      · split <;> omega
    · rw [if_neg (by omega), if_neg (by omega), if_neg (by omega)]; omega
/-- Two bounds that are each a threshold's own, and no less than those of 0 and of the masses up to half, are one. -/
theorem bfor_one {mo B B' : Int} {ts : List Int} (m1 : 1 ≤ mo) (ht : ∀ t ∈ ts, 1 ≤ t ∧ t ≤ mo) (h1 : ∃ a, (0 ≤ a ∧ 2 * a ≤ mo) ∧ B = bfor mo a ts) (h2 : bfor mo 0 ts ≤ B) (h3 : ∀ t ∈ ts, 2 * t ≤ mo → bfor mo t ts ≤ B) (g1 : ∃ a, (0 ≤ a ∧ 2 * a ≤ mo) ∧ B' = bfor mo a ts) (g2 : bfor mo 0 ts ≤ B') (g3 : ∀ t ∈ ts, 2 * t ≤ mo → bfor mo t ts ≤ B') : B = B' := by
  obtain ⟨a, ⟨a0, a2⟩, e⟩ := h1
  obtain ⟨b, ⟨b0, b2⟩, f⟩ := g1
  have := bfor_dom m1 ht a0 a2 g2 g3
  have := bfor_dom m1 ht b0 b2 h2 h3
  omega
end Go.Proofs.Ythfnaegfjacjbaa.Sea
namespace Go.Proofs.Ythfnaegfjacjbaa
open Go.RowKit Go.Proofs.Ythfnaegfjacjbaa.Prs Go.Proofs.Ythfnaegfjacjbaa.Stb
set_option linter.unusedVariables false
set_option linter.unusedSimpArgs false

set_option maxRecDepth 100000 in
set_option maxHeartbeats 8000000 in
theorem rbound_any (p : Option Addr) (c : Nat) (T : List Int) (mo a : Int) (w : World) (r : NumR w p T) (n12 : T.length ≤ 12) (ok : ThOk T T.length) (m1 : 1 ≤ mo ∧ mo ≤ 1073741824) (ab : -2147483648 ≤ a ∧ a ≤ 2147483648) :
    Calls Try.prog 70 #[.slice p T.length c, .int .i64 mo, .int .i64 a] w fun e w' => ∃ V, e = .returned (.int .i64 V) ∧ ((V = 0 ∧ ¬ (0 ≤ a ∧ 2 * a ≤ mo)) ∨ ((0 ≤ a ∧ 2 * a ≤ mo) ∧ V = Sea.bfor mo a T)) ∧ Below w.heap.size w w' := by
  have R := Lib.hid r
  have OK := Lib.hid ok
  go_enter Try.func70, Try.ntmps70
  by_cases a0 : a < 0
  · have d1 : decide (a < 0) = true := decide_eq_true a0
    have NG := Lib.hid (show ¬ (0 ≤ a ∧ 2 * a ≤ mo) by omega)
    go_wp2_with fail
    go_ret
    exact ⟨0, rfl, .inl ⟨rfl, by first | exact NG.out | (have := NG.out; omega)⟩, Below.refl _ _⟩
  have d1 : decide (a < 0) = false := decide_eq_false a0
  by_cases a2 : mo / 2 < a
  · have d2 : decide (mo / 2 < a) = true := decide_eq_true a2
    have NG := Lib.hid (show ¬ (0 ≤ a ∧ 2 * a ≤ mo) by omega)
    go_wp2_with fail
    go_ret
    exact ⟨0, rfl, .inl ⟨rfl, by first | exact NG.out | (have := NG.out; omega)⟩, Below.refl _ _⟩
  have d2 : decide (mo / 2 < a) = false := decide_eq_false a2
  have GD := Lib.hid (show 0 ≤ a ∧ 2 * a ≤ mo by omega)
  have a2' : 2 * a ≤ mo := by omega
  obtain ⟨n, hn⟩ : ∃ n, n = T.length := ⟨_, rfl⟩
  have QE := Lib.hid (show ∀ N D : Int, N = Sea.sums (Sea.big mo a) (T.take n) → D = Sea.sums (Sea.dff mo a) (T.take n) → N + (max 0 (D - mo * N) + mo - 1) / mo = Sea.bfor mo a T from fun N D h1 h2 => by
    unfold Sea.bfor
    rw [hn, List.take_length] at h1 h2
    rw [h1, h2])
  rw [← hn] at n12 OK ⊢
  have HN := Lib.hid hn
  clear hn r ok
  have wa : IntKind.i64.wrap (mo - a) = mo - a := wI rfl (by omega) (by omega)
  go_wp2_with fail
  clear d1 d2 a2
  go_loopw [7, 8, 9, 10, 11] (fun v7 v8 v9 v10 kv wr => ∃ (i : Nat) (N1 N2 S2 S3 : Int), i ≤ n ∧ kv = .int .i64 i ∧ v7 = .int .i64 N1 ∧ v8 = .int .i64 N2 ∧ v9 = .int .i64 S2 ∧ v10 = .int .i64 S3 ∧ ((0 ≤ N1 ∧ N1 ≤ i) ∧ (0 ≤ N2 ∧ N2 ≤ i) ∧ (0 ≤ S2 ∧ S2 ≤ i * 1073741824) ∧ (0 ≤ S3 ∧ S3 ≤ i * 1073741824)) ∧ Hid (N1 + N2 = Sea.sums (Sea.big mo a) (T.take i)) ∧ Hid (mo * N1 + S2 + S3 = Sea.sums (Sea.dff mo a) (T.take i)) ∧ wr = w) (fun _ _ _ _ kv _ => n - (intOf kv).toNat)
  case atStart => exact ⟨0, 0, 0, 0, 0, Nat.zero_le _, rfl, rfl, rfl, rfl, rfl, by omega, Lib.hid rfl, Lib.hid (by simp [Sea.sums]), rfl⟩
  case round =>
    obtain ⟨i, N1, N2, S2, S3, hi', rfl, rfl, rfl, rfl, rfl, ⟨nb1, nb2, sb2, sb3⟩, NE, DE, rfl⟩ := hrel
    by_cases t1 : i < n
    · have i1 : (0 : Int) ≤ (i : Int) := by omega
      have i2 : (i : Int) < (n : Int) := by omega
      obtain ⟨x, rfl, kx, cx⟩ := R.out i (by have := HN.out; omega)
      obtain ⟨t, ht⟩ : ∃ t, t = gi T i := ⟨_, rfl⟩
      have tb := OK.out i t1
      rw [← ht] at cx tb
      have ST := Lib.hid (show ∀ D B : Int, Sea.dff mo a t = D → Sea.big mo a t = B → N1 + N2 + B = Sea.sums (Sea.big mo a) (T.take (i + 1)) ∧ mo * N1 + S2 + S3 + D = Sea.sums (Sea.dff mo a) (T.take (i + 1)) from fun D B e1 e2 => by
        rw [take_gi (by have := HN.out; omega), Sea.sums_snoc, Sea.sums_snoc, ← ht, e1, e2, ← NE.out, ← DE.out]
        exact ⟨rfl, rfl⟩)
      clear ht NE DE kx
      have w1 : IntKind.i64.wrap (N1 + 1) = N1 + 1 := wI rfl (by omega) (by omega)
      have w2 : IntKind.i64.wrap (2 * t) = 2 * t := wI rfl (by omega) (by omega)
      have w3 : IntKind.i64.wrap (N2 + 1) = N2 + 1 := wI rfl (by omega) (by omega)
      have w4 : IntKind.i64.wrap (S2 + t) = S2 + t := wI rfl (by omega) (by omega)
      have w5 : IntKind.i64.wrap (S3 + t) = S3 + t := wI rfl (by omega) (by omega)
      by_cases c1 : mo - a < t
      · have d1 : decide (mo - a < t) = true := decide_eq_true c1
        obtain ⟨F1, F2⟩ := ST.out mo 1 (if_pos c1) (if_pos (.inl c1))
        have E1 := Lib.hid (show N1 + 1 + N2 = Sea.sums (Sea.big mo a) (T.take (i + 1)) by omega)
        have E2 := Lib.hid (show mo * (N1 + 1) + S2 + S3 = Sea.sums (Sea.dff mo a) (T.take (i + 1)) by rw [Int.mul_add]; omega)
        clear ST c1 w2 w3 w4 w5 F1 F2
        go_wp2_with fail
        go_roundw
        case rel => exact ⟨i + 1, N1 + 1, N2, S2, S3, by omega, by go_num, by first | rfl | trivial, by first | rfl | trivial, by first | rfl | trivial, by first | rfl | trivial, by omega, E1, E2, by first | rfl | trivial⟩
        case measure => simp [intOf]; omega
      have d1 : decide (mo - a < t) = false := decide_eq_false c1
      by_cases c2 : mo < 2 * t
      · have d2 : decide (mo < 2 * t) = true := decide_eq_true c2
        obtain ⟨F1, F2⟩ := ST.out t 1 (by unfold Sea.dff; rw [if_neg c1, if_pos (by omega)]) (if_pos (.inr c2))
        have E1 := Lib.hid (show N1 + (N2 + 1) = Sea.sums (Sea.big mo a) (T.take (i + 1)) by omega)
        have E2 := Lib.hid (show mo * N1 + (S2 + t) + S3 = Sea.sums (Sea.dff mo a) (T.take (i + 1)) by omega)
        clear ST c1 c2 w5 F1 F2
        go_wp2_with fail
        go_roundw
        case rel => exact ⟨i + 1, N1, N2 + 1, S2 + t, S3, by omega, by go_num, by first | rfl | trivial, by first | rfl | trivial, by first | rfl | trivial, by first | rfl | trivial, by omega, E1, E2, by first | rfl | trivial⟩
        case measure => simp [intOf]; omega
      have d2 : decide (mo < 2 * t) = false := decide_eq_false c2
      by_cases c3 : a ≤ t
      · have d3 : decide (a ≤ t) = true := decide_eq_true c3
        obtain ⟨F1, F2⟩ := ST.out t 0 (by unfold Sea.dff; rw [if_neg c1, if_pos c3]) (if_neg (by omega))
        have E1 := Lib.hid (show N1 + N2 = Sea.sums (Sea.big mo a) (T.take (i + 1)) by omega)
        have E2 := Lib.hid (show mo * N1 + S2 + (S3 + t) = Sea.sums (Sea.dff mo a) (T.take (i + 1)) by omega)
        clear ST c1 c2 c3 w4 F1 F2
        go_wp2_with fail
        go_roundw
        case rel => exact ⟨i + 1, N1, N2, S2, S3 + t, by omega, by go_num, by first | rfl | trivial, by first | rfl | trivial, by first | rfl | trivial, by first | rfl | trivial, by omega, E1, E2, by first | rfl | trivial⟩
        case measure => simp [intOf]; omega
      · have d3 : decide (a ≤ t) = false := decide_eq_false c3
        obtain ⟨F1, F2⟩ := ST.out 0 0 (by unfold Sea.dff; rw [if_neg c1, if_neg c3]) (if_neg (by omega))
        have E1 := Lib.hid (show N1 + N2 = Sea.sums (Sea.big mo a) (T.take (i + 1)) by omega)
        have E2 := Lib.hid (show mo * N1 + S2 + S3 = Sea.sums (Sea.dff mo a) (T.take (i + 1)) by omega)
        clear ST c1 c2 c3 w4 w5 F1 F2
        go_wp2_with fail
        go_roundw
        case rel => exact ⟨i + 1, N1, N2, S2, S3, by omega, by go_num, by first | rfl | trivial, by first | rfl | trivial, by first | rfl | trivial, by first | rfl | trivial, by omega, E1, E2, by first | rfl | trivial⟩
        case measure => simp [intOf]; omega
    · obtain rfl : i = n := by omega
      have FF := Lib.hid (QE.out (N1 + N2) (mo * N1 + S2 + S3) NE.out DE.out)
      obtain ⟨P, hP⟩ : ∃ P, P = N2 * mo := ⟨_, rfl⟩
      have Pb : 0 ≤ P ∧ P ≤ 12 * 1073741824 := by
        rw [hP]
        exact ⟨Int.mul_nonneg (by omega) (by omega), Int.le_trans (Int.mul_le_mul_of_nonneg_left m1.2 (by omega)) (by omega)⟩
      obtain ⟨X, hX⟩ : ∃ X, X = S3 - (P - S2) := ⟨_, rfl⟩
      have FF := Lib.hid (show N1 + N2 + (max 0 X + mo - 1) / mo = Sea.bfor mo a T from by
        rw [← FF.out, show mo * N1 + S2 + S3 - mo * (N1 + N2) = X from by
          have : mo * (N1 + N2) = mo * N1 + N2 * mo := by rw [Int.mul_add, Int.mul_comm mo N2]
          omega])
      have p1 : IntKind.i64.wrap (N2 * mo) = P := wI hP.symm (by omega) (by omega)
      have p2 : wrap64 (N2 * mo) = P := by rw [← hP]; exact IntWalk.wrap64_in _ (by omega)
      have p3 : IntKind.i64.wrap (P - S2) = P - S2 := wI rfl (by omega) (by omega)
      have p4 : IntKind.i64.wrap (S3 - (P - S2)) = X := wI hX.symm (by omega) (by omega)
      have p5 : IntKind.i64.wrap (N1 + N2) = N1 + N2 := wI rfl (by omega) (by omega)
      have xb : X ≤ 24 * 1073741824 := by omega
      clear hP hX QE NE DE
      by_cases x0 : X ≤ 0
      · have q1 : decide (X ≤ 0) = true := decide_eq_true x0
        have FG := Lib.hid (show N1 + N2 = Sea.bfor mo a T from by
          rw [← FF.out, show max 0 X = 0 from by omega, Int.ediv_eq_zero_of_lt (by omega) (by omega)]; omega)
        clear FF
        go_wp2_with fail
        go_ret
        exact ⟨_, rfl, .inr ⟨GD.out, FG.out⟩, Below.refl _ _⟩
      · have q1 : decide (X ≤ 0) = false := decide_eq_false x0
        have v1 : IntKind.i64.wrap (X + mo) = X + mo := wI rfl (by omega) (by omega)
        have v2 : IntKind.i64.wrap (X + mo - 1) = X + mo - 1 := wI rfl (by omega) (by omega)
        have mz : (mo == 0) = false := by simp; omega
        have mz2 : mo ≠ 0 := by omega
        have v3 : wrap64 ((X + mo - 1).tdiv mo) = (X + mo - 1) / mo := by
          rw [Int.tdiv_eq_ediv_of_nonneg (by omega)]
          have h1 := Int.ediv_nonneg (a := X + mo - 1) (b := mo) (by omega) (by omega)
          have h2 := Int.ediv_le_self (a := X + mo - 1) mo (by omega)
          exact IntWalk.wrap64_in _ (by omega)
        have FG := Lib.hid (show wrap64 (N1 + N2 + (X + mo - 1) / mo) = Sea.bfor mo a T from by
          rw [← FF.out, show max 0 X = X from by omega]
          have h1 := Int.ediv_nonneg (a := X + mo - 1) (b := mo) (by omega) (by omega)
          have h2 := Int.ediv_le_self (a := X + mo - 1) mo (by omega)
          exact IntWalk.wrap64_in _ (by omega))
        clear FF x0
        go_wp2_with fail
        go_ret
        exact ⟨_, rfl, .inr ⟨GD.out, by rw [← FG.out]⟩, Below.refl _ _⟩
end Go.Proofs.Ythfnaegfjacjbaa

/- Press: Bound and the reference's Bound are one; copies; rows that are the same. -/
namespace Go.Proofs.Ythfnaegfjacjbaa
open Go.RowKit Go.Proofs.Ythfnaegfjacjbaa.Prs Go.Proofs.Ythfnaegfjacjbaa.Stb
set_option linter.unusedVariables false
set_option linter.unusedSimpArgs false

/-- What a bound is. -/
def IsBo (T : List Int) (mo B : Int) : Prop := (∃ a, (0 ≤ a ∧ 2 * a ≤ mo) ∧ B = Sea.bfor mo a T) ∧ Sea.bfor mo 0 T ≤ B ∧ ∀ t ∈ T, 2 * t ≤ mo → Sea.bfor mo t T ≤ B
def Bo2 (T : List Int) (mo : Int) (w : World) (e : Ending) (w' : World) : Prop := ∃ B x, e = .returned (.tuple #[.int .i64 B, .int .i64 x]) ∧ PErr T mo 1 x ∧ (x ≠ 0 → B = 0) ∧ (x = 0 → IsBo T mo B) ∧ Below w.heap.size w w'
theorem IsBo.uniq {T : List Int} {mo B B' : Int} (pe : PErr T mo 1 0) (h : IsBo T mo B) (g : IsBo T mo B') : B = B' := by
  obtain ⟨_, ⟨m1, _, _, _, ok⟩, fit⟩ := pe.good
  exact Sea.bfor_one m1 (fun t ht => by obtain ⟨i, hi, e⟩ := mem_gi ht; rw [← e]; exact ⟨(ok i hi).1, fit i hi⟩) h.1 h.2.1 h.2.2 g.1 g.2.1 g.2.2

set_option maxRecDepth 100000 in
set_option maxHeartbeats 8000000 in
theorem Bound2_any (p : Option Addr) (c : Nat) (T : List Int) (mo : Int) (w : World) (r : NumR w p T) (ln : T.length ≤ 9223372036854775807) :
    Calls Try.prog 32 #[.slice p T.length c, .int .i64 mo] w (Bo2 T mo w) := by
  have R := Lib.hid r
  have CT := Lib.hid (checkThings_any p c T mo 1 w r (by omega))
  have CB := Lib.hid (fun a W (st : Below w.heap.size w W) (n12 : T.length ≤ 12) (ok : ThOk T T.length) (m1 : 1 ≤ mo ∧ mo ≤ 1073741824) (a0 : 0 ≤ a) (a2 : 2 * a ≤ mo) => boxesFor_any p c T mo a W (r.below st) n12 ok m1 a0 a2)
  obtain ⟨n, hn⟩ : ∃ n, n = T.length := ⟨_, rfl⟩
  have HN := Lib.hid hn
  have CB := Lib.hid (show ∀ a W, Below w.heap.size w W → T.length ≤ 12 → ThOk T T.length → (1 ≤ mo ∧ mo ≤ 1073741824) → 0 ≤ a → 2 * a ≤ mo → Calls Try.prog 69 #[.slice p n c, .int .i64 mo, .int .i64 a] W (fun e w' => e = .returned (.int .i64 (Sea.bfor mo a T)) ∧ Below W.heap.size W w') from by rw [hn]; exact CB.out)
  rw [← hn] at CT ln ⊢
  clear hn r
  go_enter Try.func32, Try.ntmps32
  go_wp2_with fail
  refine CT.out.mono ?_
  rintro e w1 ⟨x, rfl, te, st⟩
  have KB := Lib.hid st
  by_cases x0 : x = 0
  case neg =>
    have x1 : (x != 0) = true := by simpa using x0
    have FF := Lib.hid (show Bo2 T mo w (.returned (.tuple #[.int .i64 0, .int .i64 x])) w1 from ⟨0, x, rfl, te, fun _ => rfl, fun h => absurd h x0, st⟩)
    clear x0 te st CT CB
    go_wp2_with fail
    go_ret2
    exact FF.out
  subst x0
  have PE := Lib.hid te
  obtain ⟨n12, ⟨m1, m2, -, -, ok⟩, fit⟩ := te.good
  have OK := Lib.hid ok
  have D := Lib.hid (fun a W st a0 a2 => CB.out a W st n12 ok ⟨m1, m2⟩ a0 a2)
  rw [← HN.out] at n12
  clear te st ok fit CT CB
  go_wp2_with fail
  refine (D.out 0 _ KB.out (Int.le_refl _) (by omega)).mono ?_
  rintro e w2 ⟨rfl, st⟩
  replace KB := Lib.hid (KB.out.trans (st.mono KB.out.size))
  clear st
  obtain ⟨B0, hB0⟩ : ∃ B, B = Sea.bfor mo 0 T := ⟨_, rfl⟩
  rw [← hB0]
  have HB0 := Lib.hid hB0
  clear hB0
  go_wp2_with fail
  go_loopw [7, 21] (fun bv kv wr => ∃ (i : Nat) (B a : Int), i ≤ n ∧ kv = .int .i64 i ∧ bv = .int .i64 B ∧ Hid ((0 ≤ a ∧ 2 * a ≤ mo) ∧ B = Sea.bfor mo a T ∧ B0 ≤ B ∧ ∀ j, j < i → 2 * gi T j ≤ mo → Sea.bfor mo (gi T j) T ≤ B) ∧ Hid (Below w.heap.size w wr)) (fun _ kv _ => n - (intOf kv).toNat)
  case atStart => exact ⟨0, B0, 0, Nat.zero_le _, rfl, rfl, Lib.hid ⟨by omega, HB0.out, Int.le_refl _, fun j hj => by omega⟩, KB⟩
  case round =>
    obtain ⟨i, B, a, hi', rfl, rfl, BE, HB⟩ := hrel
    clear KB
    by_cases t1 : i < n
    · have i1 : (0 : Int) ≤ (i : Int) := by omega
      have i2 : (i : Int) < (n : Int) := by omega
      obtain ⟨x, rfl, kx, cx⟩ := (R.out.below HB.out) i (by have := HN.out; omega)
      obtain ⟨t, ht⟩ : ∃ t, t = gi T i := ⟨_, rfl⟩
      have tb := OK.out i (by have := HN.out; omega)
      rw [← ht] at cx tb
      have HT := Lib.hid ht
      clear ht kx
      by_cases c1 : t ≤ mo / 2
      · have d1 : decide (t ≤ mo / 2) = true := decide_eq_true c1
        have t2 : 2 * t ≤ mo := by omega
        go_wp2_with fail
        refine (D.out t _ HB.out (by omega) t2).mono ?_
        rintro e w3 ⟨rfl, st⟩
        replace HB := Lib.hid (HB.out.trans (st.mono HB.out.size))
        obtain ⟨V, hV⟩ : ∃ V, V = Sea.bfor mo t T := ⟨_, rfl⟩
        rw [← hV]
        have HV := Lib.hid hV
        clear hV st
        have BV := Lib.hid (show ∀ X, (X = B ∧ V ≤ B ∨ (X = V ∧ B ≤ V)) → ∃ a, (0 ≤ a ∧ 2 * a ≤ mo) ∧ X = Sea.bfor mo a T ∧ B0 ≤ X ∧ ∀ j, j < i + 1 → 2 * gi T j ≤ mo → Sea.bfor mo (gi T j) T ≤ X from fun X h => by
          obtain ⟨h1, h2, h3, h4⟩ := BE.out
          have all : V ≤ X → B ≤ X → ∀ j, j < i + 1 → 2 * gi T j ≤ mo → Sea.bfor mo (gi T j) T ≤ X := fun g1 g2 j hj hm => by
            by_cases e : j = i
            · subst e; rw [← HT.out, ← HV.out]; exact g1
            · exact Int.le_trans (h4 j (by omega) hm) g2
          rcases h with ⟨rfl, h⟩ | ⟨rfl, h⟩
          · exact ⟨a, h1, h2, h3, all h (Int.le_refl _)⟩
          · exact ⟨t, ⟨by omega, t2⟩, HV.out, by omega, all (Int.le_refl _) h⟩)
        clear BE HV HT t2 tb
        go_wp2_with fail
        all_goals
          obtain ⟨a', ha'⟩ := BV.out (if B < V then V else B) (by split <;> first | exact .inl ⟨rfl, by omega⟩ | exact .inr ⟨rfl, by omega⟩)
          have HA := Lib.hid ha'
          clear ha' BV
          go_roundw
          case rel => exact ⟨i + 1, _, a', by omega, by go_num, rfl, HA, HB⟩
          case measure => simp [intOf]; omega
      · have d1 : decide (t ≤ mo / 2) = false := decide_eq_false c1
        have BE2 := Lib.hid (show (0 ≤ a ∧ 2 * a ≤ mo) ∧ B = Sea.bfor mo a T ∧ B0 ≤ B ∧ ∀ j, j < i + 1 → 2 * gi T j ≤ mo → Sea.bfor mo (gi T j) T ≤ B from by
          obtain ⟨h1, h2, h3, h4⟩ := BE.out
          refine ⟨h1, h2, h3, fun j hj hm => ?_⟩
          by_cases e : j = i
          · subst e; rw [← HT.out] at hm; omega
          · exact h4 j (by omega) hm)
        clear BE
        go_wp2_with fail
        go_roundw
        case rel => exact ⟨i + 1, B, a, by omega, by go_num, rfl, BE2, HB⟩
        case measure => simp [intOf]; omega
    · obtain rfl : i = n := by omega
      have FF := Lib.hid (show Bo2 T mo w (.returned (.tuple #[.int .i64 B, .int .i64 0])) wr from ⟨B, 0, rfl, PE.out, fun h => absurd rfl h, fun _ => by
        obtain ⟨h1, h2, h3, h4⟩ := BE.out
        exact ⟨⟨a, h1, h2⟩, by rw [← HB0.out]; exact h3, fun t ht hm => by
          obtain ⟨j, hj, e⟩ := mem_gi ht
          rw [← e] at hm ⊢
          exact h4 j (by have := HN.out; omega) hm⟩, HB.out⟩)
      clear BE HB0
      go_wp2_with fail
      go_ret2
      exact FF.out
end Go.Proofs.Ythfnaegfjacjbaa

/- Press: the reference's Bound; copies; rows that are the same. -/
namespace Go.Proofs.Ythfnaegfjacjbaa
open Go.RowKit Go.Proofs.Ythfnaegfjacjbaa.Prs Go.Proofs.Ythfnaegfjacjbaa.Stb
set_option linter.unusedVariables false
set_option linter.unusedSimpArgs false

set_option maxRecDepth 100000 in
set_option maxHeartbeats 8000000 in
theorem copied_any (p : Option Addr) (c : Nat) (T : List Int) (w : World) (r : NumR w p T) (ln : T.length ≤ 64) :
    Calls Try.prog 16 #[.slice p T.length c] w fun e w' => ∃ b, e = .returned (.slice (some ⟨b, 0, none⟩) T.length T.length) ∧ w.heap.size ≤ b ∧ NumR w' (some ⟨b, 0, none⟩) T ∧ Below w.heap.size w w' := by
  obtain ⟨i0, hi, hz0, hz1, hz2⟩ := info_parts intInfo
  have R := Lib.hid r
  obtain ⟨n, hn⟩ : ∃ n, n = T.length := ⟨_, rfl⟩
  rw [← hn] at ln ⊢
  have HN := Lib.hid hn
  clear hn r
  go_enter Try.func16, Try.ntmps16
  go_upto_region 2 with (first
    | (at_make; refine wpList_make_full _ rfl _ _ 23 rfl w.heap.size 3 i0 (.int .i64 0) 1 Try.underlying23 hi hz0 hz1 .i64 .i64 _ _ n rfl rfl (by omega) (by omega) (by rw [hz2]; omega) (by unfold maxLen; omega) (Nat.le_refl _) ?_; intro w1 hown0 hgrow0))
  rw [made_ints] at hown0
  have I1 := Lib.hid (IR.of hown0)
  have B1 := Lib.hid (show Below w.heap.size w w1 from (Below.refl _ _).grown hgrow0 (Nat.le_refl _) (fun k e => by cases e))
  clear hown0 hgrow0
  obtain ⟨b, hb⟩ : ∃ b, b = w.heap.size := ⟨_, rfl⟩
  rw [← hb] at I1 ⊢
  have HBB := Lib.hid hb
  clear hb
  go_wp2_with fail
  go_loopw [4] (fun kv wr => ∃ i : Nat, i ≤ n ∧ kv = .int .i64 i ∧ Hid (IR wr b 3 n (fun j => if j < i then gi T j else 0)) ∧ Hid (Below w.heap.size w wr)) (fun kv _ => n - (intOf kv).toNat)
  case atStart => exact ⟨0, Nat.zero_le _, rfl, Lib.hid (I1.out.ext fun k _ => by rw [if_neg (by omega)]), B1⟩
  case round =>
    obtain ⟨i, hi', rfl, IS, HB⟩ := hrel
    clear I1 B1
    by_cases t1 : i < n
    · have i1 : (0 : Int) ≤ (i : Int) := by omega
      have i2 : (i : Int) < (n : Int) := by omega
      obtain ⟨x, rfl, kx, cx⟩ := (R.out.below HB.out) i (by have := HN.out; omega)
      have ci := IS.out.cell t1
      have fi := IS.out.frozen i
      have IS2 := Lib.hid (show IR (wr.setCell ⟨b, i, none⟩ (.int .i64 (gi T i))) b 3 n (fun j => if j < i + 1 then gi T j else 0) from (IS.out.set i _).ext fun k _ => by
        unfold upd
        by_cases e : k = i
        · subst e; rw [if_pos rfl, if_pos (by omega)]
        · rw [if_neg e]
          show (if k < i then gi T k else 0) = _
          by_cases l : k < i
          · rw [if_pos l, if_pos (by omega)]
          · rw [if_neg l, if_neg (by omega)])
      have HB2 := Lib.hid (show Below w.heap.size w (wr.setCell ⟨b, i, none⟩ (.int .i64 (gi T i))) from HB.out.setCell (by show w.heap.size ≤ b; rw [HBB.out]; exact Nat.le_refl _) _)
      clear IS HB kx
      generalize gi T i = t at cx IS2 HB2
      generalize (if i < i then t else (0 : Int)) = z at *
      go_wp2_with fail
      go_roundw
      case rel => exact ⟨i + 1, by omega, by go_num, IS2, HB2⟩
      case measure => simp [intOf]; omega
    · obtain rfl : i = n := by omega
      have NR := Lib.hid (show NumR wr (some ⟨b, 0, none⟩) T from by
        have := (IS.out.ext (f' := gi T) fun k hk => by rw [if_pos hk]).num (Nat.le_refl _)
        have e : (List.range i).map (gi T) = T := by
          rw [HN.out]
          apply List.ext_getElem
          · simp
          · intro j h1 h2; simp [gi, h2]
        rwa [e] at this)
      clear IS
      go_wp2_with fail
      go_ret
      exact ⟨b, rfl, Nat.le_of_eq HBB.out.symm, NR.out, HB.out⟩

set_option maxRecDepth 100000 in
set_option maxHeartbeats 8000000 in
theorem same_any (p : Option Addr) (c : Nat) (q : Option Addr) (d : Nat) (T : List Int) (n : Nat) (hn : n = T.length) (w : World) (r : NumR w p T) (r2 : NumR w q T) (ln : n ≤ 64) :
    Calls Try.prog 19 #[.slice p n c, .slice q n d] w fun e w' => e = .returned (.bool true) ∧ Below w.heap.size w w' := by
  have R := Lib.hid r
  have R2 := Lib.hid r2
  have HN := Lib.hid hn
  clear hn r r2
  have m1 : ((n : Int) != (n : Int)) = false := by simp
  go_enter Try.func19, Try.ntmps19
  go_wp2_with fail
  clear m1
  go_loopw [5] (fun kv wr => ∃ i : Nat, i ≤ n ∧ kv = .int .i64 i ∧ Hid (Below w.heap.size w wr)) (fun kv _ => n - (intOf kv).toNat)
  case atStart => exact ⟨0, Nat.zero_le _, rfl, Lib.hid (Below.refl _ _)⟩
  case round =>
    obtain ⟨i, hi', rfl, HB⟩ := hrel
    by_cases t1 : i < n
    · have i1 : (0 : Int) ≤ (i : Int) := by omega
      have i2 : (i : Int) < (n : Int) := by omega
      obtain ⟨x, rfl, kx, cx⟩ := (R.out.below HB.out) i (by have := HN.out; omega)
      obtain ⟨y, rfl, ky, cy⟩ := (R2.out.below HB.out) i (by have := HN.out; omega)
      clear kx ky
      generalize gi T i = t at *
      have e1 : (t != t) = false := by simp
      go_upto_region 6 with fail
      go_quiet (fail)
      go_wp2_with fail
      go_roundw
      case rel => exact ⟨i + 1, by omega, by go_num, Lib.hid (below_drewN HB.out _)⟩
      case measure => simp [intOf]; omega
    · obtain rfl : i = n := by omega
      go_wp2_with fail
      go_ret
      exact ⟨rfl, HB.out⟩

/-- A bound on its way. -/
def RB (T : List Int) (mo B : Int) (i d : Nat) : Prop := (∃ a, (0 ≤ a ∧ 2 * a ≤ mo) ∧ B = Sea.bfor mo a T) ∧ Sea.bfor mo 0 T ≤ B ∧ (∀ j, j < i → 2 * gi T j ≤ mo → Sea.bfor mo (gi T j) T ≤ B) ∧ (0 < d → 2 * gi T i ≤ mo → Sea.bfor mo (gi T i) T ≤ B)
theorem RB.max {T : List Int} {mo B a V : Int} {i d : Nat} (h : RB T mo B i d) (m1 : 1 ≤ mo) (v : (V = 0 ∧ ¬ (0 ≤ a ∧ 2 * a ≤ mo)) ∨ ((0 ≤ a ∧ 2 * a ≤ mo) ∧ V = Sea.bfor mo a T)) : RB T mo (if B < V then V else B) i d ∧ (0 ≤ a → 2 * a ≤ mo → Sea.bfor mo a T ≤ if B < V then V else B) := by
  obtain ⟨h1, h2, h3, h4⟩ := h
  have b0 := Sea.bfor_nonneg (a := 0) (ts := T) m1
  split
  · next c =>
    rcases v with ⟨rfl, _⟩ | ⟨g, e⟩
    · omega
    · exact ⟨⟨⟨a, g, e⟩, by omega, fun j hj hm => by have := h3 j hj hm; omega, fun hd hm => by have := h4 hd hm; omega⟩, fun _ _ => by omega⟩
  · next c =>
    refine ⟨⟨h1, h2, h3, h4⟩, fun g1 g2 => ?_⟩
    rcases v with ⟨_, g⟩ | ⟨g, e⟩
    · exact absurd ⟨g1, g2⟩ g
    · omega

set_option maxRecDepth 100000 in
set_option maxHeartbeats 8000000 in
theorem rBound_any (p : Option Addr) (c : Nat) (T : List Int) (mo : Int) (w : World) (r : NumR w p T) (ln : T.length ≤ 9223372036854775807) :
    Calls Try.prog 33 #[.slice p T.length c, .int .i64 mo] w (Bo2 T mo w) := by
  have R := Lib.hid r
  have CT := Lib.hid (rcheck_any p c T mo 1 w r ln)
  have CB := Lib.hid (fun a W (st : Below w.heap.size w W) (n12 : T.length ≤ 12) (ok : ThOk T T.length) (m1 : 1 ≤ mo ∧ mo ≤ 1073741824) (ab : -2147483648 ≤ a ∧ a ≤ 2147483648) => rbound_any p c T mo a W (r.below st) n12 ok m1 ab)
  obtain ⟨n, hn⟩ : ∃ n, n = T.length := ⟨_, rfl⟩
  have HN := Lib.hid hn
  have CB := Lib.hid (show ∀ a W, Below w.heap.size w W → T.length ≤ 12 → ThOk T T.length → (1 ≤ mo ∧ mo ≤ 1073741824) → (-2147483648 ≤ a ∧ a ≤ 2147483648) → Calls Try.prog 70 #[.slice p n c, .int .i64 mo, .int .i64 a] W (fun e w' => ∃ V, e = .returned (.int .i64 V) ∧ ((V = 0 ∧ ¬ (0 ≤ a ∧ 2 * a ≤ mo)) ∨ ((0 ≤ a ∧ 2 * a ≤ mo) ∧ V = Sea.bfor mo a T)) ∧ Below W.heap.size W w') from by rw [hn]; exact CB.out)
  rw [← hn] at CT ln ⊢
  clear hn r
  go_enter Try.func33, Try.ntmps33
  go_wp2_with fail
  refine CT.out.mono ?_
  rintro e w1 ⟨x, rfl, te, st⟩
  have KB := Lib.hid st
  by_cases x0 : x = 0
  case neg =>
    have x1 : (x != 0) = true := by simpa using x0
    have FF := Lib.hid (show Bo2 T mo w (.returned (.tuple #[.int .i64 0, .int .i64 x])) w1 from ⟨0, x, rfl, te, fun _ => rfl, fun h => absurd h x0, st⟩)
    clear x0 te st CT CB
    go_wp2_with fail
    go_ret2
    exact FF.out
  subst x0
  have PE := Lib.hid te
  obtain ⟨n12, ⟨m1, m2, -, -, ok⟩, fit⟩ := te.good
  have OK := Lib.hid ok
  have D := Lib.hid (fun a W st ab => CB.out a W st n12 ok ⟨m1, m2⟩ ab)
  rw [← HN.out] at n12
  clear te st ok fit CT CB
  go_wp2_with fail
  refine (D.out 0 _ KB.out (by omega)).mono ?_
  rintro e w2 ⟨V0, rfl, v0, st⟩
  replace KB := Lib.hid (KB.out.trans (st.mono KB.out.size))
  have RB0 := Lib.hid (show RB T mo V0 0 0 from by
    rcases v0 with ⟨_, g⟩ | ⟨g, e⟩
    · exact absurd ⟨Int.le_refl _, by omega⟩ g
    · exact ⟨⟨0, g, e⟩, by omega, fun j hj => by omega, fun h => by omega⟩)
  clear st v0
  go_wp2_with fail
  go_loopw [7, 8] (fun bv kv wr => ∃ (i : Nat) (B : Int), i ≤ n ∧ kv = .int .i64 i ∧ bv = .int .i64 B ∧ Hid (RB T mo B i 0) ∧ Hid (Below w.heap.size w wr)) (fun _ kv _ => n - (intOf kv).toNat)
  case atStart => exact ⟨0, V0, Nat.zero_le _, rfl, rfl, RB0, KB⟩
  case round =>
    obtain ⟨i, B, hi', rfl, rfl, BE, HB⟩ := hrel
    clear KB RB0
    by_cases t1 : i < n
    · have i1 : (0 : Int) ≤ (i : Int) := by omega
      have i2 : (i : Int) < (n : Int) := by omega
      go_wp2_with fail
      go_loopw [7, 9] (fun bv kv wx => ∃ (d : Nat) (B : Int), d ≤ 2 ∧ kv = .int .i64 d ∧ bv = .int .i64 B ∧ Hid (RB T mo B i d) ∧ Hid (Below w.heap.size w wx)) (fun _ kv _ => 2 - (intOf kv).toNat)
      case atStart => exact ⟨0, B, by omega, rfl, rfl, BE, HB⟩
      case round =>
        clear BE HB
        obtain ⟨d, B1, hd', rfl, rfl, BE, HB⟩ := hrel
        by_cases t2 : d < 2
        · have j1 : (0 : Int) ≤ (d : Int) := by omega
          have j2 : (d : Int) < 2 := by omega
          have tb := OK.out i (by have := HN.out; omega)
          obtain ⟨x, rfl, kx, cx⟩ := (R.out.below HB.out) i (by have := HN.out; omega)
          have CX := Lib.hid (show ∀ W, Below w.heap.size w W → W.cell? (x.add i) = some (.int .i64 (gi T i)) from fun W st => by
            obtain ⟨x', e, _, c'⟩ := (R.out.below st) i (by have := HN.out; omega)
            cases e; exact c')
          obtain ⟨t, ht⟩ : ∃ t, t = gi T i := ⟨_, rfl⟩
          have HT := Lib.hid ht
          rw [← ht] at cx tb CX
          clear ht kx
          have w1 : IntKind.i64.wrap (t + (d : Int)) = t + (d : Int) := wI rfl (by omega) (by omega)
          go_wp2_with fail
          refine (D.out (t + (d : Int)) _ HB.out (by omega)).mono ?_
          rintro e w3 ⟨V, rfl, v, st⟩
          replace HB := Lib.hid (HB.out.trans (st.mono HB.out.size))
          obtain ⟨r1, r2⟩ := BE.out.max m1 v
          have BE1 := Lib.hid (show RB T mo (if B1 < V then V else B1) i (d + 1) from ⟨r1.1, r1.2.1, r1.2.2.1, fun _ hm => by
            by_cases e : d = 0
            · subst e
              rw [← HT.out] at hm ⊢
              have := r2 (by omega) (by omega)
              rwa [show t + ((0 : Nat) : Int) = t from by omega] at this
            · exact r1.2.2.2 (by omega) hm⟩)
          clear st v BE r1 r2 w1 cx HT
          have cx := CX.out _ HB.out
          have w2 : IntKind.i64.wrap (mo - t) = mo - t := wI rfl (by omega) (by omega)
          have w3' : IntKind.i64.wrap (mo - t + (d : Int)) = mo - t + (d : Int) := wI rfl (by omega) (by omega)
          have WA := Lib.hid (show B1 < V → RB T mo V i (d + 1) from fun h => by have := BE1.out; rwa [if_pos h] at this)
          have WB := Lib.hid (show ¬ B1 < V → RB T mo B1 i (d + 1) from fun h => by have := BE1.out; rwa [if_neg h] at this)
          clear BE1
          go_wp2_with fail
          all_goals
            refine (D.out (mo - t + (d : Int)) _ HB.out (by omega)).mono ?_
            rintro e w4 ⟨V', rfl, v', st⟩
            replace HB := Lib.hid (HB.out.trans (st.mono HB.out.size))
            have VV := Lib.hid v'
            clear st v' cx w2 w3'
            go_wp2_with fail
            all_goals
              go_roundw
              case rel => exact ⟨d + 1, _, by omega, by go_num, rfl, (by first
                | exact Lib.hid ((WA.out (by omega)).max m1 VV.out).1
                | exact Lib.hid ((WB.out (by omega)).max m1 VV.out).1
                | (have z := ((WA.out (by omega)).max m1 VV.out).1; rw [if_pos (by omega)] at z; exact Lib.hid z)
                | (have z := ((WA.out (by omega)).max m1 VV.out).1; rw [if_neg (by omega)] at z; exact Lib.hid z)
                | (have z := ((WB.out (by omega)).max m1 VV.out).1; rw [if_pos (by omega)] at z; exact Lib.hid z)
                | (have z := ((WB.out (by omega)).max m1 VV.out).1; rw [if_neg (by omega)] at z; exact Lib.hid z)), HB⟩
              case measure => simp [intOf]; omega
        · obtain rfl : d = 2 := by omega
          have BE2 := Lib.hid (show RB T mo B1 (i + 1) 0 from ⟨BE.out.1, BE.out.2.1, fun j hj hm => by
            by_cases e : j = i
            · subst e; exact BE.out.2.2.2 (by omega) hm
            · exact BE.out.2.2.1 j (by omega) hm, fun h => by omega⟩)
          clear BE
          go_wp2_with fail
          go_roundw
          case rel => exact ⟨i + 1, B1, by omega, by go_num, by first | rfl | trivial, BE2, HB⟩
          case measure => simp [intOf]; omega
    · obtain rfl : i = n := by omega
      have FF := Lib.hid (show Bo2 T mo w (.returned (.tuple #[.int .i64 B, .int .i64 0])) wr from ⟨B, 0, rfl, PE.out, fun h => absurd rfl h, fun _ => by
        obtain ⟨h1, h2, h3, h4⟩ := BE.out
        exact ⟨h1, h2, fun t ht hm => by
          obtain ⟨j, hj, e⟩ := mem_gi ht
          rw [← e] at hm ⊢
          exact h3 j (by have := HN.out; omega) hm⟩, HB.out⟩)
      clear BE
      go_wp2_with fail
      go_ret2
      exact FF.out
end Go.Proofs.Ythfnaegfjacjbaa

/- The law PressPacks: its walk. -/
namespace Go.Proofs.Ythfnaegfjacjbaa.Sea
theorem fin_growQ {mo ea : Int} : ∀ (ts : List Int) (E : List Nat) (s s' : Nat → Int × Int), fin (addP mo ea) ts s E = some s' → ∀ b, (s b).2 ≤ (s' b).2 ∧ (b ∈ E → (s b).2 < (s' b).2)
  | [], [], s, s', h, b => by
    simp [fin] at h
    subst h
    exact ⟨Int.le_refl _, fun h => by cases h⟩
  | [], c :: E, s, s', h, b => by have := fin_len h; simp at this
  | t :: ts, [], s, s', h, b => by have := fin_len h; simp at this
  | t :: ts, c :: E, s, s', h, b => by
    obtain ⟨x, y, h⟩ := fin_cons h
    have x2 : x.2 = (s c).2 + 1 := by
      unfold addP at y
      split at y
      · simp at y; rw [← y]
      · cases y
    obtain ⟨h1, h2⟩ := fin_growQ ts E _ s' h b
    by_cases e : b = c
    · subst e
      rw [up_same] at h1
      exact ⟨by omega, fun _ => by omega⟩
    · rw [up_ne _ _ e] at h1 h2
      exact ⟨h1, fun g => by
        rcases List.mem_cons.1 g with g | g
        · exact absurd g e
        · exact h2 g⟩
theorem BestP.ok {mo ea L : Int} {T : List Int} {E : List Nat} (b : BestP mo ea 12 T L E) : ∃ u : Nat, L = u ∧ u ≤ 12 ∧ Ok u E := by
  obtain ⟨s', f, v, u, hu, cn⟩ := b.fin_
  have v : cnt 12 s' = L := v
  rw [cn.cnt hu] at v
  refine ⟨u, v.symm, hu, fun c hc => ?_⟩
  have := (fin_growQ _ _ _ _ f c).2 hc
  apply Classical.byContradiction; intro g
  rw [cn.hi c (by omega)] at this
  exact absurd this (by decide)
end Go.Proofs.Ythfnaegfjacjbaa.Sea
namespace Go.Proofs.Ythfnaegfjacjbaa
open Go.RowKit Go.Proofs.Ythfnaegfjacjbaa.Prs Go.Proofs.Ythfnaegfjacjbaa.Stb
set_option linter.unusedVariables false
set_option linter.unusedSimpArgs false

set_option maxRecDepth 100000 in
set_option maxHeartbeats 16000000 in
theorem pressPacks_walk (p : Option Addr) (c : Nat) (T : List Int) (w : World) (r : NumR w p T) (ln : T.length ≤ 9223372036854775807) (mo : Int) (g1 : -9223372036854775808 ≤ mo ∧ mo ≤ 9223372036854775807) (ea : Int) (g2 : -9223372036854775808 ≤ ea ∧ ea ≤ 9223372036854775807) :
    Calls Try.prog 6 #[.slice p T.length c, .int .i64 mo, .int .i64 ea] w fun e w' => e = .returned (.bool true) ∧ Below w.heap.size w w' := by
  have AL := Lib.hid alive_any
  have R := Lib.hid r
  have C0 := Lib.hid (fun (l : T.length ≤ 64) => copied_any p c T w r l)
  have C1 := Lib.hid (fun b W (h : NumR W (some ⟨b, 0, none⟩) T) => Pack_any (some ⟨b, 0, none⟩) T.length T mo ea W h ln)
  have C2 := Lib.hid (fun W (st : Below w.heap.size w W) => rPack_any p c T mo ea W (r.below st) ln)
  have C3 := Lib.hid (fun b W (h : NumR W (some ⟨b, 0, none⟩) T) => Bound2_any (some ⟨b, 0, none⟩) T.length T mo W h ln)
  have C4 := Lib.hid (fun W (st : Below w.heap.size w W) => rBound_any p c T mo W (r.below st) ln)
  obtain ⟨n, hn⟩ : ∃ n, n = T.length := ⟨_, rfl⟩
  have HN := Lib.hid hn
  have C1 := Lib.hid (show ∀ b W, NumR W (some ⟨b, 0, none⟩) T → Calls Try.prog 30 #[.slice (some ⟨b, 0, none⟩) n n, .int .i64 mo, .int .i64 ea] W (PaQ T mo ea W) from by rw [hn]; exact C1.out)
  have C2 := Lib.hid (show ∀ W, Below w.heap.size w W → Calls Try.prog 31 #[.slice p n c, .int .i64 mo, .int .i64 ea] W (RPaQ T mo ea W) from by rw [hn]; exact C2.out)
  have C3 := Lib.hid (show ∀ b W, NumR W (some ⟨b, 0, none⟩) T → Calls Try.prog 32 #[.slice (some ⟨b, 0, none⟩) n n, .int .i64 mo] W (Bo2 T mo W) from by rw [hn]; exact C3.out)
  have C4 := Lib.hid (show ∀ W, Below w.heap.size w W → Calls Try.prog 33 #[.slice p n c, .int .i64 mo] W (Bo2 T mo W) from by rw [hn]; exact C4.out)
  rw [← hn] at C0 ln ⊢
  clear hn r
  go_enter Try.func6, Try.ntmps6
  by_cases n30 : (30 : Int) < n
  · have d1 : decide ((30 : Int) < n) = true := decide_eq_true n30
    clear C0 C1 C2 C3 C4
    go_wp2_with fail
    refine (AL.out _).mono ?_
    rintro e w6 ⟨rfl, st⟩
    go_wp2_with fail
    go_ret
    exact ⟨rfl, st⟩
  have d1 : decide ((30 : Int) < n) = false := decide_eq_false n30
  have N30 := Lib.hid (show n ≤ 30 by omega)
  go_wp2_with fail
  refine (C0.out (by have := N30.out; have := HN.out; omega)).mono ?_
  rintro e w1 ⟨b0, rfl, lo, nr, st⟩
  have NR := Lib.hid nr
  have KB := Lib.hid st
  clear nr st lo C0 d1 n30
  go_wp2_with fail
  refine (C1.out b0 _ NR.out).mono ?_
  rintro e w2 ⟨x, v1, L, rfl, pe, st, k1, k2⟩
  have PE := Lib.hid pe
  have Q1 := Lib.hid (show (x ≠ 0 → v1 = .slice none 0 0 ∧ L = 0) ∧ (x = 0 → ∃ b E, v1 = .slice (some ⟨b, 0, none⟩) T.length T.length ∧ NumR w2 (some ⟨b, 0, none⟩) ((List.range T.length).map (nv E)) ∧ Sea.BestP mo ea 12 T L E) from ⟨k1, fun h => by obtain ⟨b, E, a1, a2, a3, a4, a5⟩ := k2 h; exact ⟨b, E, a1, a3, a5⟩⟩)
  replace NR := Lib.hid (NR.out.below st)
  replace KB := Lib.hid (KB.out.trans (st.mono KB.out.size))
  clear pe st k1 k2 C1
  go_wp2_with fail
  refine (C2.out _ KB.out).mono ?_
  rintro e w3 ⟨x', v2, L', rfl, pe', st, k1, k2⟩
  obtain rfl : x' = x := PErr.fn pe' PE.out
  have SM := Lib.hid (show L' = L ∧ (∀ W, Below w3.heap.size w3 W → Calls Try.prog 19 #[v1, v2] W fun e w' => e = .returned (.bool true) ∧ Below W.heap.size W w') from by
    by_cases x0 : x' = 0
    · obtain ⟨b1, E, rfl, nr1, best⟩ := Q1.out.2 x0
      obtain ⟨b2, E', M, rfl, rfl, nr2, fst, no⟩ := k2 x0
      obtain ⟨u, eu, u12, oku⟩ := best.ok
      obtain ⟨e1, rfl⟩ := best.is u eu oku u12 fst no
      refine ⟨e1.symm, fun W B => ?_⟩
      exact same_any _ _ _ _ ((List.range T.length).map (nv E)) T.length (by simp) W ((nr1.below st).below B) (nr2.below B) (by have := N30.out; have := HN.out; omega)
    · obtain ⟨rfl, rfl⟩ := Q1.out.1 x0
      obtain ⟨rfl, rfl⟩ := k1 x0
      exact ⟨rfl, fun W B => same_any none 0 none 0 [] 0 rfl W (fun i h => by simp at h) (fun i h => by simp at h) (by omega)⟩)
  obtain rfl : L' = L := SM.out.1
  have SAME := Lib.hid SM.out.2
  replace NR := Lib.hid (NR.out.below st)
  replace KB := Lib.hid (KB.out.trans (st.mono KB.out.size))
  clear pe' st k1 k2 C2 SM Q1 PE
  have e1 : (L' != L') = false := by simp
  have e2 : (x' != x') = false := by simp
  go_wp2_with fail
  refine (SAME.out _ (Below.refl _ _)).mono ?_
  rintro e w4 ⟨rfl, st⟩
  replace NR := Lib.hid (NR.out.below st)
  replace KB := Lib.hid (KB.out.trans (st.mono KB.out.size))
  clear st SAME
  go_wp2_with fail
  refine (C3.out b0 _ NR.out).mono ?_
  rintro e w5 ⟨B, y, rfl, pe, k1, k2, st⟩
  have PE := Lib.hid pe
  have Q1 := Lib.hid (show (y ≠ 0 → B = 0) ∧ (y = 0 → IsBo T mo B) from ⟨k1, k2⟩)
  replace NR := Lib.hid (NR.out.below st)
  replace KB := Lib.hid (KB.out.trans (st.mono KB.out.size))
  clear pe st k1 k2 C3 e1 e2
  go_wp2_with fail
  refine (C4.out _ KB.out).mono ?_
  rintro e w6 ⟨B', y', rfl, pe', k1, k2, st⟩
  obtain rfl : y' = y := PErr.fn pe' PE.out
  obtain rfl : B' = B := by
    by_cases y0 : y' = 0
    · subst y0
      exact IsBo.uniq PE.out (k2 rfl) (Q1.out.2 rfl)
    · rw [k1 y0, Q1.out.1 y0]
  replace NR := Lib.hid (NR.out.below st)
  replace KB := Lib.hid (KB.out.trans (st.mono KB.out.size))
  clear pe' st k1 k2 C4 Q1 PE
  have e1 : (B' == B') = true := by simp
  have e2 : (y' == y') = true := by simp
  have SAME := Lib.hid (same_any (some ⟨b0, 0, none⟩) n p c T n HN.out w6 NR.out (R.out.below KB.out) (by have := N30.out; omega))
  go_wp2_with fail
  refine SAME.out.mono ?_
  rintro e w7 ⟨rfl, st⟩
  replace KB := Lib.hid (KB.out.trans (st.mono KB.out.size))
  clear st SAME
  go_wp2_with fail
  refine (AL.out _).mono ?_
  rintro e w8 ⟨rfl, st⟩
  go_wp2_with fail
  go_ret
  exact ⟨rfl, KB.out.trans (st.mono KB.out.size)⟩
end Go.Proofs.Ythfnaegfjacjbaa
