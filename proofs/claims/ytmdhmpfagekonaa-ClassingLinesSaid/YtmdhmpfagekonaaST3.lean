/- The stable sort's insertion, over any comparison that only looks. -/
import Derived.Test.YtmdhmpfagekonaaST2
namespace Go.Proofs.Ytmdhmpfagekonaa
open Go.RowKit Go.Proofs.Ytmdhmpfagekonaa.Stb
set_option linter.unusedVariables false
set_option linter.unusedSimpArgs false

/-- A comparison: function K with what it has captured answers c; of two numbers, the younger first, less than 0 says R. -/
structure Cmp (K : Nat) (e0 : Value) (B : Nat) (V : Int → Prop) (R : Int → Int → Prop) (c : Int → Int → Int) (Kp : World → Prop) : Prop where
  call : ∀ x y w, Kp w → V x → V y → Calls Try.prog K #[.int .i64 x, .int .i64 y, e0] w fun e w' => e = .returned (.int .i64 (c x y)) ∧ Below w.heap.size w w'
  neg : ∀ x y, V x → V y → x < y → (c y x < 0 ↔ R y x)
  keep : ∀ w w', w.heap.size ≤ w'.heap.size → (∀ k, k ≠ B → k < w.heap.size → w'.heap[k]? = w.heap[k]?) → Kp w → Kp w'
  tot : Tot R V
  ent : ∀ args w, (callFunc K args).run Try.prog w = .ok (.enter K args) w
theorem SW.kp {B N C K : Nat} {e0 : Value} {V : Int → Prop} {R : Int → Int → Prop} {c : Int → Int → Int} {Kp : World → Prop} {w0 w : World} {f : Nat → Int} (H : Cmp K e0 B V R c Kp) (h0 : Kp w0) (s : SW B N C w0 w f) : Kp w := H.keep w0 w s.sz s.bl h0
theorem cellGr {A B : World} {a : Addr} {x : Value} (st : Below A.heap.size A B) (h : A.cell? a = some x) : B.cell? a = some x := (st.cell (World.block_lt_of_cell? A _ h)).trans h
theorem cellDr {W : World} {a : Addr} {x : Value} (h : W.cell? a = some x) : W.drew.cell? a = some x := h

/-- While number i goes down, from its place to j. -/
structure InsI (R : Int → Int → Prop) (a i j : Nat) (f h : Nat → Int) : Prop where
  aj : a ≤ j
  ji : j ≤ i
  ins : Ins R a i j h
  me : h j = i
  oth : ∀ p, a ≤ p → p ≤ i → p ≠ j → (a : Int) ≤ h p ∧ h p < i
  pm : Pm a (i + 1) f h
theorem InsI.begin {R : Int → Int → Prop} {a b i : Nat} {f g : Nat → Int} (hi : a ≤ i) (ib : i < b) (hf : ∀ k, a ≤ k → k < b → f k = k) (hs : Srt R a i g) (hp : Pm a i f g) : InsI R a i i f g :=
  ⟨hi, Nat.le_refl _, Ins.begin hs, by rw [hp.out (.inr (Nat.le_refl _)), hf i hi ib], fun p p1 p2 p3 => by
    obtain ⟨k, k1, k2, e⟩ := hp.src p1 (by omega)
    rw [e, hf k k1 (by omega)]; omega, hp.mono (Nat.le_refl _) (by omega)⟩
theorem InsI.step {R : Int → Int → Prop} {a i j : Nat} {f h : Nat → Int} (H : InsI R a i j f h) (aj : a < j) (hr : R (h j) (h (j - 1))) : InsI R a i (j - 1) f (swp j (j - 1) h) :=
  ⟨by omega, by have := H.ji; omega, H.ins.step aj H.ji hr, by unfold swp; rw [if_neg (by omega), if_pos rfl]; exact H.me, fun p p1 p2 p3 => by
    unfold swp
    by_cases c : p = j
    · rw [if_pos c]; exact H.oth (j - 1) (by omega) (by have := H.ji; omega) (by omega)
    · rw [if_neg c, if_neg p3]; exact H.oth p p1 p2 c, H.pm.trans (Pm.swp _ (by omega) (by have := H.ji; omega) (by omega) (by have := H.ji; omega))⟩
theorem InsI.val {R : Int → Int → Prop} {V : Int → Prop} {a b i j : Nat} {f h : Nat → Int} (H : InsI R a i j f h) (ib : i < b) (hv : ∀ k : Nat, a ≤ k → k < b → V k) (p : Nat) (p1 : a ≤ p) (p2 : p ≤ i) : V (h p) := by
  by_cases c : p = j
  · rw [c, H.me]; exact hv i (by omega) ib
  · have := H.oth p p1 p2 c
    obtain ⟨n, e⟩ := Int.eq_ofNat_of_zero_le (show 0 ≤ h p by omega)
    rw [e]; exact hv n (by omega) (by omega)
theorem InsI.done {R : Int → Int → Prop} {V : Int → Prop} (T : Tot R V) {a b i j : Nat} {f h : Nat → Int} (H : InsI R a i j f h) (ib : i < b) (hv : ∀ k : Nat, a ≤ k → k < b → V k) (hr : j = a ∨ ¬ R (h j) (h (j - 1))) : Srt R a (i + 1) h := by
  refine H.ins.done T H.aj H.ji (fun k k1 k2 => H.val ib hv k k1 k2) ?_
  rcases hr with hr | hr
  · exact .inl hr
  · by_cases c : j = a
    · exact .inl c
    · have a1 := H.aj
      have a2 := H.ji
      have := H.oth (j - 1) (by omega) (by omega) (by omega)
      have me := H.me
      exact .inr (T.tot _ _ (H.val ib hv j a1 a2) (H.val ib hv (j - 1) (by omega) (by omega)) (by omega) hr)

set_option maxRecDepth 100000 in
set_option maxHeartbeats 4000000 in
theorem insertion_any (B N C K : Nat) (e0 : Value) (V : Int → Prop) (R : Int → Int → Prop) (c : Int → Int → Int) (Kp : World → Prop) (H : Cmp K e0 B V R c Kp) (w0 : World) (h0 : Kp w0) (a b : Nat) (f : Nat → Int) (w : World)
    (s : SW B N C w0 w f) (hab : a ≤ b) (hbn : b ≤ N) (hN : N ≤ 4611686018427387904) (hf : ∀ k, a ≤ k → k < b → f k = k) (hv : ∀ k : Nat, a ≤ k → k < b → V k) :
    Calls Try.prog 66 #[.slice (some ⟨B, 0, none⟩) N C, .int .i64 a, .int .i64 b, .func (.func K) #[] #[e0]] w fun e w' => e = .returned (.tuple #[]) ∧ ∃ g, SW B N C w0 w' g ∧ Pm a b f g ∧ Srt R a b g := by
  have S := Lib.hid s
  have HF := Lib.hid hf
  have HV := Lib.hid hv
  have HH := Lib.hid H
  have H0 := Lib.hid h0
  clear s hf hv H h0
  obtain ⟨a1, ha1⟩ : ∃ a1, a1 = a + 1 := ⟨_, rfl⟩
  have ea : IntKind.i64.wrap ((a : Int) + 1) = (a1 : Int) := w64 (by omega) (by omega)
  have HA := Lib.hid ha1
  clear ha1
  go_enter Try.func66, Try.ntmps66
  go_wp2_with fail
  clear ea
  -- i: the first so many are in order, the others where they were
  go_loopw [8] (fun kv wr => ∃ (i : Nat) (g : Nat → Int), a + 1 ≤ i ∧ kv = .int .i64 i ∧ (i ≤ b ∨ b ≤ a + 1) ∧ Hid (SW B N C w0 wr g ∧ Pm a b f g ∧ Srt R a i g ∧ Pm a i f g)) (fun kv _ => b - (intOf kv).toNat)
  case atStart => exact ⟨a1, f, by have := HA.out; omega, rfl, by have := HA.out; omega, Lib.hid ⟨S.out, Pm.refl _ _ _, fun p q h1 h2 h3 => by have := HA.out; omega, Pm.refl _ _ _⟩⟩
  case round =>
    obtain ⟨i, g, hi, rfl, hb, G⟩ := hrel
    clear S
    by_cases t1 : i < b
    · obtain ⟨i1, hi1⟩ : ∃ i1, i1 = i + 1 := ⟨_, rfl⟩
      have ei : IntKind.i64.wrap ((i : Int) + 1) = (i1 : Int) := w64 (by omega) (by omega)
      have HI := Lib.hid hi1
      have HI2 := Lib.hid hi
      have IB := Lib.hid (InsI.begin (by omega) t1 HF.out G.out.2.2.1 G.out.2.2.2)
      have G0 := Lib.hid G.out.1
      have IBN := Lib.hid (show i < b ∧ b ≤ N from ⟨t1, hbn⟩)
      clear G hi1 hi
      go_wp2_with fail
      clear ei
      go_loopw [9] (fun jv wr => ∃ (j : Nat) (h : Nat → Int), jv = .int .i64 j ∧ Hid (SW B N C w0 wr h) ∧ Hid (InsI R a i j f h)) (fun jv _ => (intOf jv).toNat)
      case atStart => exact ⟨i, g, rfl, G0, IB⟩
      case round =>
        obtain ⟨j, h, rfl, RS, RI⟩ := hrel
        clear G0 IB
        by_cases t2 : j = a
        · have DN := Lib.hid (RI.out.done HH.out.tot t1 HV.out (.inl t2))
          have PN := Lib.hid RI.out.pm
          have t3 : ¬ a < j := by omega
          have t4 : decide (a < j) = false := decide_eq_false t3
          clear RI t2
          go_wp2_with fail
          go_quiet (fail)
          clear t3 t4
          have RS := Lib.hid (RS.out.drewN nq)
          generalize wr.drewN nq = v at RS ⊢
          go_wp2_with fail
          go_roundw
          case rel =>
            have := IBN.out; have := HI.out; have := HI2.out
            exact ⟨i1, h, by omega, by go_num, .inl (by omega), Lib.hid ⟨RS.out, PN.out.mono (Nat.le_refl _) (by omega), by rw [HI.out]; exact DN.out, by rw [HI.out]; exact PN.out⟩⟩
          case measure => have := HI.out; simp [intOf]; omega
        · have aj : a < j := by have := RI.out.aj; omega
          have ji : j < N := by have := RI.out.ji; have := IBN.out; omega
          obtain ⟨x, hx⟩ : ∃ x, x = j - 1 := ⟨_, rfl⟩
          have ex : IntKind.i64.wrap ((j : Int) - 1) = (x : Int) := w64 (by omega) (by omega)
          have t3 : decide (a < j) = true := decide_eq_true aj
          have x0 : (0 : Int) ≤ (x : Int) := by omega
          have x1 : (x : Int) < (N : Int) := by omega
          have j0 : (0 : Int) ≤ (j : Int) := by omega
          have j1 : (j : Int) < (N : Int) := by omega
          have cj := RS.out.cell (show j < N by omega)
          have cx := RS.out.cell (show x < N by omega)
          have CN := Lib.hid (HH.out.neg (h x) (h j) (by have := RI.out.ji; exact RI.out.val IBN.out.1 HV.out x (by omega) (by omega)) (RI.out.val IBN.out.1 HV.out j RI.out.aj RI.out.ji) (by have := RI.out.me; have := RI.out.ji; have := RI.out.oth x (by omega) (by omega) (by omega); omega))
          have CL := Lib.hid (fun W (st : Below wr.heap.size wr W) => HH.out.call (h j) (h x) W ((RS.out.call st).kp HH.out H0.out) (RI.out.val IBN.out.1 HV.out j RI.out.aj RI.out.ji) (by have := RI.out.ji; exact RI.out.val IBN.out.1 HV.out x (by omega) (by omega)))
          have HX := Lib.hid hx
          clear hx
          by_cases cc : c (h j) (h x) < 0
          · have ST := Lib.hid (RI.out.step aj (by rw [← HX.out]; exact CN.out.1 cc))
            rw [← HX.out] at ST
            have XJ : ¬ x = j := by have := HX.out; omega
            have JX : ¬ j = x := fun e => XJ e.symm
            have AJ := Lib.hid aj
            have CE := HH.out.ent
            have RS0 := RS
            clear CN RI RS
            generalize c (h j) (h x) = r at *
            generalize hp : h j = p at *
            generalize hq : h x = q at *
            have hp := Lib.hid hp
            have hq := Lib.hid hq
            go_wp2_with fail
            go_region_held3 (fun w' => w'.cell? ⟨B, j, none⟩ = some (.int .i64 p) ∧ w'.cell? ⟨B, x, none⟩ = some (.int .i64 q)) (first | exact ⟨cj, cx⟩ | exact ⟨cellDr cj, cellDr cx⟩) (first | ((with_reducible refine (CL.out _ (Below.refl _ _).drew).mono ?_); rintro e w1 ⟨rfl, st⟩; have cj := cellGr st (cellDr cj); have cx := cellGr st (cellDr cx)))
            have RS1 := Lib.hid (RS0.out.drew.call st)
            clear CL CE cj cx st
            have fj := RS1.out.frozen j
            have fx := RS1.out.frozen x
            have SP := Lib.hid (RS1.out.swap j x)
            have cj := RS1.out.cell (show j < N by omega)
            have cx := RS1.out.cell (show x < N by have := HX.out; omega)
            rw [hp.out] at cj SP
            rw [hq.out] at cx SP
            clear RS0 RS1 hp hq
            generalize w1 = v at *
            go_wp2_with fail
            go_region
            have RS := Lib.hid SP.out.drew
            clear SP cj cx fj fx
            generalize ((v.setCell ⟨B, j, none⟩ (.int .i64 q)).setCell ⟨B, x, none⟩ (.int .i64 p)).drew = v2 at RS ⊢
            go_wp2_with fail
            go_roundw
            case rel => exact ⟨x, swp j x h, rfl, RS, ST⟩
            case measure => have := HX.out; have := AJ.out; simp [intOf]; omega
          · have DN := Lib.hid (RI.out.done HH.out.tot IBN.out.1 HV.out (.inr (by rw [← HX.out]; exact fun e => cc (CN.out.2 e))))
            have PN := Lib.hid RI.out.pm
            have CE := HH.out.ent
            clear CN RI HX
            have RS0 := RS
            clear RS
            generalize c (h j) (h x) = r at *
            generalize h j = p at *
            generalize h x = q at *
            go_wp2_with fail
            go_region_held3 (fun w' => w'.cell? ⟨B, j, none⟩ = some (.int .i64 p) ∧ w'.cell? ⟨B, x, none⟩ = some (.int .i64 q)) (first | exact ⟨cj, cx⟩ | exact ⟨cellDr cj, cellDr cx⟩) (first | ((with_reducible refine (CL.out _ (Below.refl _ _).drew).mono ?_); rintro e w1 ⟨rfl, st⟩; have cj := cellGr st (cellDr cj); have cx := cellGr st (cellDr cx)))
            have RS := Lib.hid (RS0.out.drew.call st)
            clear RS0 CE CL cj cx st
            generalize w1 = v at *
            go_wp2_with fail
            go_roundw
            case rel =>
              have := IBN.out; have := HI.out; have := HI2.out
              exact ⟨i1, h, by omega, by go_num, .inl (by omega), Lib.hid ⟨RS.out, PN.out.mono (Nat.le_refl _) (by omega), by rw [HI.out]; exact DN.out, by rw [HI.out]; exact PN.out⟩⟩
            case measure => have := HI.out; simp [intOf]; omega
    · go_wp2_with fail
      go_end0
      refine ⟨rfl, g, G.out.1, G.out.2.1, ?_⟩
      rcases hb with hb | hb
      · have : i = b := by omega
        rw [this] at G; exact G.out.2.2.1
      · exact fun p q h1 h2 h3 => by omega
end Go.Proofs.Ytmdhmpfagekonaa
