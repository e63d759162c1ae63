/- The law TopDual: its walk. -/
import Derived.Test.YthbgeikdamajlabTD0
import Derived.Test.YthbgeikdamajlabSK3
import Derived.Test.YthbgeikdamajlabSJ5
import Derived.Test.YthbgeikdamajlabWKA
namespace Go.Proofs.Ythbgeikdamajlab
open Go.RowKit Go.Proofs.Ythbgeikdamajlab.Prs Go.Proofs.Ythbgeikdamajlab.Stb
set_option linter.unusedVariables false
set_option linter.unusedSimpArgs false

theorem gi_getD (T : List Int) (i : Nat) : T.getD i 0 = gi T i := List.getD_eq_getElem?_getD
/-- What Longest's assignment loads. -/
theorem LoA.load {T : List Int} {m : Nat} {A : List Nat} {g : Int} {o a : Nat → Nat} (h : LoA T m A g o a) (tok : TmOk T T.length) : ∃ s', Sea.fin Sea.addS T (fun _ => 0) A = some s' ∧ Sea.mx s' m = g ∧ Sea.Ok m A := by
  refine ⟨_, Sea.fin_ldf h.len (fun t ht => by obtain ⟨i, hi, e⟩ := mem_gi ht; have := tok i hi; omega), ?_, fun b hb => ?_⟩
  · rw [h.fin_]
    refine Sea.mx_congr fun b _ => ?_
    have e1 : Sea.ldf (fun i => A.getD i 0) (fun i => T.getD i 0) T.length b = Sea.ldf (fun i => A.getD i 0) (fun i => gi T i) T.length b := Sea.ldf_congr fun i _ _ => gi_getD T i
    rw [e1, ← Sea.ldf_ord h.ord (fun i => A.getD i 0) (fun i => gi T i) b, Int.zero_add]
    exact ldf_same fun i hi => h.at_ i hi
  · obtain ⟨j, hj, e⟩ := List.getElem_of_mem hb
    obtain ⟨k, k1, k2⟩ := h.ord.onto j (by rw [← h.len]; exact hj)
    have := h.at_ k k1
    rw [k2] at this
    simp [hj] at this
    rw [← e, this]
    exact h.lt k k1
theorem dual_says {T : List Int} {mo x n f g : Int} {k : Nat} {A : List Nat} {o a : Nat → Nat} (h : PErr T mo 12 x) (hx : x = 0 ∨ x = 13) (p : x = 0 → ∃ E, Sea.BestP mo 12 12 T n E) (k1 : 1 ≤ k) (k4 : k ≤ 4) (b : ∃ E, Sea.BestS k T f E) (l : LoA T k A g o a) : (f ≤ mo ↔ (x = 0 ∧ n ≤ k)) ∧ (g ≤ mo → x = 0 ∧ n ≤ k) := by
  obtain ⟨E, b⟩ := b
  have tok : T.length ≤ 12 ∧ 1 ≤ mo ∧ TmOk T T.length ∧ (x = 13 → ¬ ThFit T mo T.length) := by
    rcases h with ⟨u, v⟩ | ⟨u, v, c⟩ | ⟨u, v, c, d⟩ | ⟨u, v, c, d⟩
    · omega
    · omega
    · exact ⟨u, v.1, v.2.2.2.2, fun _ => c⟩
    · exact ⟨u, v.1, v.2.2.2.2, fun e => by omega⟩
  obtain ⟨n12, mo1, tok, nf⟩ := tok
  have pos : ∀ t ∈ T, 1 ≤ t := fun t ht => by
    obtain ⟨i, hi, e⟩ := mem_gi ht
    have := tok i hi; omega
  obtain ⟨s', fs, mx, okA⟩ := l.load tok
  have fg : f ≤ g := by
    have e := b.low A s' okA fs
    have e : f ≤ Sea.mx s' k := e
    omega
  have main : f ≤ mo ↔ (x = 0 ∧ n ≤ k) := by
    rcases hx with hx | hx
    · obtain ⟨F, q⟩ := p hx
      have := Sea.dual b q n12 pos (by omega) (by omega)
      exact ⟨fun h => ⟨hx, this.1 h⟩, fun h => this.2 h.2⟩
    · refine ⟨fun h => ?_, fun h => by omega⟩
      exact absurd (fun i hi => by
        apply Classical.byContradiction; intro g
        exact Sea.share_over (t := gi T i) b (gi_mem hi) (by omega) h) (nf hx)
  exact ⟨main, fun h => main.1 (by omega)⟩

set_option maxRecDepth 100000 in
set_option maxHeartbeats 8000000 in
theorem topDual_walk (p : Option Addr) (c : Nat) (T : List Int) (w : World) (r : NumR w p T) (ln : T.length ≤ 9223372036854775807) (mo : Int) (g1 : -9223372036854775808 ≤ mo ∧ mo ≤ 9223372036854775807) :
    Calls Try.prog 7 #[.slice p T.length c, .int .i64 mo] w fun e w' => e = .returned (.bool true) ∧ Below w.heap.size w w' := by
  have AL := Lib.hid worked_any
  have C1 := Lib.hid (Pack_any p c T mo 12 w r ln)
  have C2 := Lib.hid (fun W m (st : Below w.heap.size w W) => Share_any p c T m W (r.below st) ln)
  have C3 := Lib.hid (fun W m (st : Below w.heap.size w W) => Longest_any p c T m W (r.below st) ln)
  obtain ⟨n, hn⟩ : ∃ n, n = T.length := ⟨_, rfl⟩
  have HN := Lib.hid hn
  rw [← hn] at C1 C2 C3 ln ⊢
  clear hn r
  go_enter Try.func7, Try.ntmps7
  go_wp2_with fail
  refine C1.out.mono ?_
  rintro e w1 ⟨x, v, L, rfl, pe, st, k1, k2⟩
  have PE := Lib.hid pe
  have KB := Lib.hid st
  have BP := Lib.hid (show x = 0 → ∃ E, Sea.BestP mo 12 12 T L E from fun h => by obtain ⟨b, E, _, _, _, _, q⟩ := k2 h; exact ⟨E, q⟩)
  have VL := Lib.hid k1
  clear pe st k1 k2 C1
  by_cases hx : x = 0 ∨ x = 13
  case neg =>
    have x1 : (x == 0) = false := by simp; omega
    have x2 : (x != 0) = true := by simp; omega
    have x3 : (x == 13) = false := by simp; omega
    have x4 : (x != 13) = true := by simp; omega
    obtain ⟨rfl, rfl⟩ := VL.out (by omega)
    clear C2 C3 BP VL
    go_wp2_with fail
    refine (AL.out _).mono ?_
    rintro e w6 ⟨rfl, st⟩
    go_wp2_with fail
    go_ret
    exact ⟨rfl, KB.out.trans (st.mono KB.out.size)⟩
  have HX := Lib.hid hx
  have TE := Lib.hid (show ∀ k : Nat, 1 ≤ k → k ≤ 4 → ∀ y, TErr T k y → y = 0 from fun k a b y h => by
    have ok : T.length ≤ 12 ∧ TmOk T T.length := by
      rcases PE.out with ⟨u, v⟩ | ⟨u, v, c⟩ | ⟨u, v, c, d⟩ | ⟨u, v, c, d⟩
      · omega
      · omega
      · exact ⟨u, v.2.2.2.2⟩
      · exact ⟨u, v.2.2.2.2⟩
    exact h.fn (.inr (.inr ⟨ok.1, by omega, by omega, ok.2, rfl⟩)))
  have SAY := Lib.hid (fun k f g A o a k1 k4 b l => dual_says (f := f) (g := g) (k := k) (A := A) (o := o) (a := a) PE.out HX.out BP.out k1 k4 b l)
  have XC := Lib.hid (show (x = 0 ∧ (x == 0) = true ∧ (x != 0) = false) ∨ (x = 13 ∧ (x == 0) = false ∧ (x != 0) = true ∧ (x == 13) = true ∧ (x != 13) = false) from by rcases hx with rfl | rfl <;> decide)
  clear VL BP PE hx
  go_upto_region 2 with fail
  go_cut [27] from 22 to 27 (fun qv wx => qv = .bool false ∧ wx = w1)
  case first =>
    rcases XC.out with ⟨-, x1, x2⟩ | ⟨-, x1, x2, x3, x4⟩
    · clear C2 C3 SAY TE XC HX
      go_wp2_with fail
      go_meet
      exact ⟨rfl, rfl⟩
    · clear C2 C3 SAY TE XC HX
      go_wp2_with fail
      go_meet
      exact ⟨rfl, rfl⟩
  case rest =>
  obtain ⟨rfl, rfl⟩ := hcut
  go_wp2_with fail
  go_loopw [8] (fun mv wr => ∃ k : Nat, 1 ≤ k ∧ k ≤ 5 ∧ mv = .int .i64 k ∧ Hid (Below w.heap.size w wr)) (fun mv _ => 5 - (intOf mv).toNat)
  case atStart => exact ⟨1, by omega, by omega, rfl, KB⟩
  case round =>
    clear KB
    obtain ⟨k, k1, k5, rfl, KB⟩ := hrel
    by_cases k4 : k ≤ 4
    case neg =>
      have d1 : decide ((k : Int) ≤ 4) = false := decide_eq_false (by omega)
      have d2 : decide (k ≤ 4) = false := decide_eq_false k4
      clear C2 C3 SAY TE XC HX
      go_wp2_with fail
      refine (AL.out _).mono ?_
      rintro e w6 ⟨rfl, st⟩
      go_wp2_with fail
      go_ret
      exact ⟨rfl, KB.out.trans (st.mono KB.out.size)⟩
    have d1 : decide ((k : Int) ≤ 4) = true := decide_eq_true (by omega)
    have d2 : decide (k ≤ 4) = true := decide_eq_true k4
    have K4 := Lib.hid k4
    have TK := Lib.hid (TE.out k k1 k4)
    have C4 := Lib.hid (C2.out wr k KB.out)
    go_wp2_with fail
    refine C4.out.mono ?_
    rintro e w2 ⟨y, v1, f, rfl, te, st, -, b2⟩
    obtain rfl : y = 0 := TK.out y te
    obtain ⟨b, E, -, -, -, -, best⟩ := b2 rfl
    rw [Int.toNat_natCast] at best
    have BS := Lib.hid (show ∃ E, Sea.BestS k T f E from ⟨E, best⟩)
    have KB2 := Lib.hid (KB.out.trans (st.mono KB.out.size))
    have C5 := Lib.hid (C3.out w2 k KB2.out)
    clear te st b2 best C4 KB
    go_wp2_with fail
    refine C5.out.mono ?_
    rintro e w3 ⟨y, v2, G, rfl, te, st, -, b2⟩
    obtain rfl : y = 0 := TK.out y te
    obtain ⟨b, A, o, a, -, -, -, la⟩ := b2 rfl
    rw [Int.toNat_natCast] at la
    have SY := Lib.hid (SAY.out k f G A o a k1 K4.out BS.out la)
    have KB3 := Lib.hid (KB2.out.trans (st.mono KB2.out.size))
    clear te st b2 la C5 KB2 TK BS d1 d2 k4
    go_upto_region 9 with fail
    go_cut [88] from 56 to 88 (fun qv wx => qv = .bool false ∧ wx = w3)
    case first =>
      clear C2 C3 SAY TE HX AL
      obtain ⟨s1, s2⟩ := SY.out
      rcases XC.out with ⟨x0, x1, x2⟩ | ⟨x0, x1, x2, x3, x4⟩
      · by_cases f1 : f ≤ mo
        · have n1 := (s1.1 f1).2
          have e1 : decide (f ≤ mo) = true := decide_eq_true f1
          have e2 : decide (L ≤ (k : Int)) = true := decide_eq_true n1
          have e3 : decide ((k : Int) < L) = false := decide_eq_false (by omega)
          by_cases g2 : G ≤ mo
          · have e4 : decide (G ≤ mo) = true := decide_eq_true g2
            clear s1 s2 SY XC x0 f1 n1 g2
            go_wp2_with fail
            go_meet
            exact ⟨rfl, rfl⟩
          · have e4 : decide (G ≤ mo) = false := decide_eq_false g2
            clear s1 s2 SY XC x0 f1 n1 g2
            go_wp2_with fail
            go_meet
            exact ⟨rfl, rfl⟩
        · have n1 : ¬ L ≤ (k : Int) := fun h => f1 (s1.2 ⟨x0, h⟩)
          have g2 : ¬ G ≤ mo := fun h => n1 (s2 h).2
          have e1 : decide (f ≤ mo) = false := decide_eq_false f1
          have e2 : decide (L ≤ (k : Int)) = false := decide_eq_false n1
          have e4 : decide (G ≤ mo) = false := decide_eq_false g2
          clear s1 s2 SY XC x0 f1 n1 g2
          go_wp2_with fail
          go_meet
          exact ⟨rfl, rfl⟩
      · have f1 : ¬ f ≤ mo := fun h => by have := (s1.1 h).1; omega
        have g2 : ¬ G ≤ mo := fun h => by have := (s2 h).1; omega
        have e1 : decide (f ≤ mo) = false := decide_eq_false f1
        have e4 : decide (G ≤ mo) = false := decide_eq_false g2
        clear s1 s2 SY XC x0 f1 g2
        go_wp2_with fail
        go_meet
        exact ⟨rfl, rfl⟩
    case rest =>
    obtain ⟨rfl, rfl⟩ := hcut
    go_wp2_with fail
    go_roundw
    case rel => exact ⟨k + 1, by omega, by have := K4.out; omega, by go_num, KB3⟩
    case measure => have := K4.out; simp [intOf]; omega
end Go.Proofs.Ythbgeikdamajlab
