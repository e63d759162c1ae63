/- The stable sort, whole: a row that holds its own places comes out in order. -/
import Derived.Test.YtmdhmpfagekonaaST6
namespace Go.Proofs.Ytmdhmpfagekonaa
open Go.RowKit Go.Proofs.Ytmdhmpfagekonaa.Stb
set_option linter.unusedVariables false
set_option linter.unusedSimpArgs false

theorem own_id {a b : Nat} {g : Nat → Int} (h : ∀ k, a ≤ k → k < b → g k = k) : Own a b g := fun k k1 k2 => by rw [h k k1 k2]; omega
/-- What the runs of the sort keep. -/
structure Run (R : Int → Int → Prop) (V : Int → Prop) (N : Nat) (f g : Nat → Int) : Prop where
  pm : Pm 0 N f g
  ok : ∀ k, k < N → V (g k)
theorem Run.more {R : Int → Int → Prop} {V : Int → Prop} {N a b : Nat} {f g h : Nat → Int} (r : Run R V N f g) (p : Pm a b g h) (hb : b ≤ N) : Run R V N f h :=
  ⟨r.pm.trans (p.mono (by omega) hb), fun k hk => by
    by_cases c : a ≤ k ∧ k < b
    · obtain ⟨j, j1, j2, e⟩ := p.src c.1 c.2
      rw [e]; exact r.ok j (by omega)
    · rw [p.out (by omega)]; exact r.ok k hk⟩

set_option maxRecDepth 100000 in
set_option maxHeartbeats 4000000 in
theorem stable_any (B N C K : Nat) (e0 : Value) (V : Int → Prop) (R : Int → Int → Prop) (c : Int → Int → Int) (Kp : World → Prop) (H : Cmp K e0 B V R c Kp) (w0 : World) (h0 : Kp w0) (f : Nat → Int) (w : World)
    (s : SW B N C w0 w f) (hN : N ≤ 1152921504606846976) (hf : ∀ k, k < N → f k = k) (hv : ∀ k : Nat, k < N → V k) :
    Calls Try.prog 55 #[.slice (some ⟨B, 0, none⟩) N C, .int .i64 N, .func (.func K) #[] #[e0]] w fun e w' => e = .returned (.tuple #[]) ∧ ∃ g, SW B N C w0 w' g ∧ Pm 0 N f g ∧ Srt R 0 N g := by
  have S := Lib.hid s
  have HF := Lib.hid hf
  have HV := Lib.hid hv
  have RN := Lib.hid (show Run R V N f f from ⟨Pm.refl _ _ _, fun k hk => by rw [hf k hk]; exact hv k hk⟩)
  have INS := Lib.hid (fun a b g w => insertion_any B N C K e0 V R c Kp H w0 h0 a b g w)
  have SYM := Lib.hid (fun a m b g w => symMerge_any B N C K e0 V R c Kp H w0 h0 (by omega) (b - a) a m b g w (Nat.le_refl _))
  have HN := Lib.hid hN
  clear s hf hv H h0
  go_enter Try.func55, Try.ntmps55
  go_wp2_with fail
  go_loopw [7, 8] (fun av bv wr => ∃ (a b : Nat) (g : Nat → Int), b = a + 20 ∧ a ≤ N ∧ av = .int .i64 a ∧ bv = .int .i64 b ∧ Hid (SW B N C w0 wr g ∧ Run R V N f g ∧ Pre R 20 g a ∧ ∀ k, a ≤ k → k < N → g k = k)) (fun av _ _ => N - (intOf av).toNat)
  case atStart => exact ⟨0, 20, f, rfl, Nat.zero_le _, rfl, rfl, Lib.hid ⟨S.out, RN.out, .nil, fun k _ hk => HF.out k hk⟩⟩
  case round =>
    obtain ⟨a, b, g, hb, ha, rfl, rfl, G⟩ := hrel
    clear S RN
    by_cases t1 : b ≤ N
    · obtain ⟨b2, hb2⟩ : ∃ b2, b2 = b + 20 := ⟨_, rfl⟩
      have eb : IntKind.i64.wrap ((b : Int) + 20) = (b2 : Int) := w64 (by omega) (by omega)
      have CC := Lib.hid (INS.out a b g _ G.out.1 (by omega) t1 (by omega) (fun k k1 k2 => G.out.2.2.2 k k1 (by omega)) (fun k k1 k2 => HV.out k (by omega)))
      have HB := Lib.hid (show b = a + 20 ∧ b ≤ N ∧ b2 = b + 20 from ⟨hb, t1, hb2⟩)
      clear hb ha hb2
      go_wp2_with fail
      refine CC.out.mono ?_
      rintro e v ⟨rfl, h, S1, P1, R1⟩
      have G2 := Lib.hid (show SW B N C w0 v h ∧ Run R V N f h ∧ Pre R 20 h b ∧ ∀ k, b ≤ k → k < N → h k = k by
        obtain ⟨q1, q2, q3⟩ := HB.out
        refine ⟨S1, G.out.2.1.more P1 q2, ?_, fun k k1 k2 => by rw [P1.out (.inr k1)]; exact G.out.2.2.2 k (by omega) k2⟩
        rw [q1] at P1 R1 ⊢
        exact .snoc (G.out.2.2.1.congr fun k hk => P1.out (.inl hk)) R1 ((own_id (fun k k1 k2 => G.out.2.2.2 k k1 (by omega))).pm P1))
      clear CC S1 P1 R1 G
      go_wp2_with fail
      clear eb
      go_roundw
      case rel => exact ⟨b, b2, h, by have := HB.out; omega, by have := HB.out; omega, rfl, by first | rfl | go_num, G2⟩
      case measure => have := HB.out; simp [intOf]; omega
    · have CC := Lib.hid (INS.out a N g _ G.out.1 ha (Nat.le_refl _) (by omega) (fun k k1 k2 => G.out.2.2.2 k k1 k2) (fun k k1 k2 => HV.out k k2))
      have HB := Lib.hid (show a ≤ N ∧ N ≤ a + 20 by omega)
      clear hb ha
      go_wp2_with fail
      refine CC.out.mono ?_
      rintro e v ⟨rfl, h, S1, P1, R1⟩
      have G2 := Lib.hid (show SW B N C w0 v h ∧ Run R V N f h ∧ Chain R 20 N h 0 by
        obtain ⟨q1, q2⟩ := HB.out
        exact ⟨S1, G.out.2.1.more P1 (Nat.le_refl _), Pre.chain (G.out.2.2.1.congr fun k hk => P1.out (.inl hk)) q1 (by omega) (Chain.wide R1 ((own_id (fun k k1 k2 => G.out.2.2.2 k k1 k2)).pm P1) q2)⟩)
      clear CC S1 P1 R1 G INS HV HF HB t1
      go_wp2_with fail
      go_loopw [6] (fun sv wr => ∃ (bs : Nat) (g : Nat → Int), 0 < bs ∧ sv = .int .i64 bs ∧ Hid (SW B N C w0 wr g ∧ Run R V N f g ∧ Chain R bs N g 0)) (fun sv _ => N - (intOf sv).toNat)
      case atStart => exact ⟨20, h, by omega, rfl, G2⟩
      case round =>
        obtain ⟨bs, g2, bs0, rfl, G⟩ := hrel
        clear G2
        by_cases t2 : bs < N
        · obtain ⟨bb, hbb⟩ : ∃ bb, bb = 2 * bs := ⟨_, rfl⟩
          have e2 : IntKind.i64.wrap (2 * (bs : Int)) = (bb : Int) := w64 (by omega) (by omega)
          have e3 : IntKind.i64.wrap ((bs : Int) * 2) = (bb : Int) := w64 (by omega) (by omega)
          have HB := Lib.hid (show bb = 2 * bs ∧ 0 < bs ∧ bs < N ∧ N ≤ 1152921504606846976 from ⟨hbb, bs0, t2, hN⟩)
          have E2 := Lib.hid e2
          have E3 := Lib.hid e3
          clear hbb bs0 e3 hN
          go_wp2_with fail
          clear e2
          go_loopw [7, 8] (fun av bv wr => ∃ (a b : Nat) (g : Nat → Int), av = .int .i64 a ∧ bv = .int .i64 b ∧ Hid (b = a + bb ∧ a ≤ N) ∧ Hid (SW B N C w0 wr g ∧ Run R V N f g ∧ Pre R bb g a ∧ Chain R bs N g a)) (fun av _ _ => N - (intOf av).toNat)
          case atStart => exact ⟨0, bb, g2, rfl, rfl, Lib.hid ⟨by omega, by omega⟩, Lib.hid ⟨G.out.1, G.out.2.1, .nil, G.out.2.2⟩⟩
          case round =>
            obtain ⟨a, b, g, rfl, rfl, HA, GG⟩ := hrel
            clear G
            by_cases t3 : b ≤ N
            · obtain ⟨m, hm⟩ : ∃ m, m = a + bs := ⟨_, rfl⟩
              obtain ⟨b2, hb2⟩ : ∃ b2, b2 = b + bb := ⟨_, rfl⟩
              have em : IntKind.i64.wrap ((a : Int) + (bs : Int)) = (m : Int) := w64 (by omega) (by have := HA.out; have := HB.out; omega)
              have eb : IntKind.i64.wrap ((b : Int) + (bb : Int)) = (b2 : Int) := w64 (by omega) (by have := HA.out; have := HB.out; omega)
              have TW := Lib.hid (GG.out.2.2.2.two (by have := HA.out; have := HB.out; omega) HB.out.2.1)
              have MG := Lib.hid (show Mrg R V a m b g by
                obtain ⟨q1, q2, q3, q4, q5⟩ := TW.out
                obtain ⟨p1, p2⟩ := HA.out
                obtain ⟨o1, o2, o3, o4⟩ := HB.out
                rw [← o1, ← p1, ← hm] at q3 q4
                rw [← hm] at q1 q2
                exact Mrg.of q1 q2 q3 q4 (fun k k1 k2 => GG.out.2.1.ok k (by omega)))
              have CC := Lib.hid (SYM.out a m b g _ GG.out.1 (by have := HB.out; omega) (by have := HA.out; have := HB.out; omega) t3 MG.out)
              have HC := Lib.hid (show b2 = b + bb ∧ b ≤ N ∧ a < m ∧ m < b from ⟨hb2, t3, by have := HB.out; omega, by have := HA.out; have := HB.out; omega⟩)
              have e2 := E2.out
              clear hb2 hm
              go_wp2_with fail
              refine CC.out.mono ?_
              rintro e v ⟨rfl, h, S1, P1, R1⟩
              have G2 := Lib.hid (show SW B N C w0 v h ∧ Run R V N f h ∧ Pre R bb h b ∧ Chain R bs N h b by
                obtain ⟨q1, q2, q3, q4, q5⟩ := TW.out
                obtain ⟨p1, p2⟩ := HA.out
                obtain ⟨o1, o2, o3, o4⟩ := HB.out
                obtain ⟨n1, n2, n3, n4⟩ := HC.out
                rw [← o1, ← p1] at q3 q4 q5
                have ow := Own.pm (q2.join q4 (by omega) (by omega)) P1
                refine ⟨S1, GG.out.2.1.more P1 n2, ?_, q5.congr fun k hk => P1.out (.inr hk)⟩
                rw [p1] at P1 R1 ow ⊢
                exact .snoc (GG.out.2.2.1.congr fun k hk => P1.out (.inl hk)) R1 ow)
              clear CC S1 P1 R1 GG TW MG
              go_wp2_with fail
              clear e2 em eb
              go_roundw
              case rel => exact ⟨b, b2, h, rfl, by first | rfl | go_num, Lib.hid ⟨HC.out.1, HC.out.2.1⟩, G2⟩
              case measure => have := HC.out; simp [intOf]; omega
            · obtain ⟨m, hm⟩ : ∃ m, m = a + bs := ⟨_, rfl⟩
              have em : IntKind.i64.wrap ((a : Int) + (bs : Int)) = (m : Int) := w64 (by omega) (by have := HA.out; have := HB.out; omega)
              have e3 := E3.out
              by_cases t4 : m < N
              · have TW := Lib.hid (GG.out.2.2.2.last (by omega) (by have := HA.out; have := HB.out; omega))
                rw [← hm] at TW
                have MG := Lib.hid (show Mrg R V a m N g from Mrg.of TW.out.1 TW.out.2.1 TW.out.2.2.1 TW.out.2.2.2 (fun k k1 k2 => GG.out.2.1.ok k k2))
                have CC := Lib.hid (SYM.out a m N g _ GG.out.1 (by have := HB.out; omega) t4 (Nat.le_refl _) MG.out)
                have HC := Lib.hid (show a < m ∧ m < N ∧ N ≤ a + bb ∧ a ≤ N by have := HA.out; have := HB.out; omega)
                clear hm
                go_wp2_with fail
                refine CC.out.mono ?_
                rintro e v ⟨rfl, h, S1, P1, R1⟩
                have G2 := Lib.hid (show SW B N C w0 v h ∧ Run R V N f h ∧ Chain R bb N h 0 by
                  obtain ⟨n1, n2, n3, n4⟩ := HC.out
                  exact ⟨S1, GG.out.2.1.more P1 (Nat.le_refl _), Pre.chain (GG.out.2.2.1.congr fun k hk => P1.out (.inl hk)) n4 (by have := HB.out; omega) (Chain.wide R1 ((TW.out.2.1.join TW.out.2.2.2 (by omega) (by omega)).pm P1) n3)⟩)
                clear CC S1 P1 R1 GG TW MG
                go_wp2_with fail
                clear e3 em
                go_roundw
                case rel => exact ⟨bb, h, by have := HB.out; omega, by first | rfl | go_num, G2⟩
                case measure => have := HB.out; simp [intOf]; omega
              · have G2 := Lib.hid (show Run R V N f g ∧ Chain R bb N g 0 by
                  refine ⟨GG.out.2.1, Pre.chain GG.out.2.2.1 (by have := HA.out; omega) (by have := HB.out; omega) ?_⟩
                  by_cases c : a < N
                  · obtain ⟨q1, q2⟩ := GG.out.2.2.2.one c (by omega)
                    exact Chain.wide q1 q2 (by have := HA.out; have := HB.out; omega)
                  · exact .stop (by omega))
                have S1 := Lib.hid GG.out.1
                clear hm GG
                go_wp2_with fail
                clear e3 em
                go_roundw
                case rel => exact ⟨bb, g, by have := HB.out; omega, by first | rfl | go_num, Lib.hid ⟨S1.out, G2.out.1, G2.out.2⟩⟩
                case measure => have := HB.out; simp [intOf]; omega
        · go_wp2_with fail
          go_end0
          refine ⟨rfl, g2, G.out.1, G.out.2.1.pm, ?_⟩
          by_cases c : 0 < N
          · exact (G.out.2.2.one c (by omega)).1
          · exact fun p q h1 h2 h3 => by omega

set_option maxRecDepth 100000 in
theorem sortStable_any (B N C K : Nat) (e0 : Value) (V : Int → Prop) (R : Int → Int → Prop) (c : Int → Int → Int) (Kp : World → Prop) (H : Cmp K e0 B V R c Kp) (w0 : World) (h0 : Kp w0) (f : Nat → Int) (w : World)
    (s : SW B N C w0 w f) (hN : N ≤ 1152921504606846976) (hf : ∀ k, k < N → f k = k) (hv : ∀ k : Nat, k < N → V k) :
    Calls Try.prog 42 #[.slice (some ⟨B, 0, none⟩) N C, .func (.func K) #[] #[e0]] w fun e w' => e = .returned (.tuple #[]) ∧ ∃ g, SW B N C w0 w' g ∧ Pm 0 N f g ∧ Srt R 0 N g := by
  have CC := Lib.hid (stable_any B N C K e0 V R c Kp H w0 h0 f w s hN hf hv)
  clear s hf hv H h0
  go_enter Try.func42, Try.ntmps42
  go_wp2_with fail
  refine CC.out.mono ?_
  rintro e v ⟨rfl, Q⟩
  have Q := Lib.hid Q
  clear CC
  go_wp2_with fail
  go_end0
  exact ⟨rfl, Q.out⟩
end Go.Proofs.Ytmdhmpfagekonaa
