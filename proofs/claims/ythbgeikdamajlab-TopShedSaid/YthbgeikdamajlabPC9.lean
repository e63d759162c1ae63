/- Press: sorted, Sequence. -/
import Derived.Test.YthbgeikdamajlabPC8
namespace Go.Proofs.Ythbgeikdamajlab
open Go.RowKit Go.Proofs.Ythbgeikdamajlab.Prs Go.Proofs.Ythbgeikdamajlab.Stb
set_option linter.unusedVariables false
set_option linter.unusedSimpArgs false

theorem intInfo : (Try.prog.info? 3).map (fun i => (i.zero, i.size, i.bytes)) = some (some (.int .i64 0), 1, 8) := by kernel_rfl
theorem made_ints (n : Nat) : (madeCells (Value.int .i64 0).cells (n * 1)).toList = (List.range n).map fun k => Value.int .i64 ((fun _ => 0) k) := by
  rw [Nat.mul_one, show (Value.int .i64 0).cells = #[.int .i64 0] from rfl, toList_madeCells_one]
  apply List.ext_getElem <;> simp
theorem ownBase {W : World} {a b : Nat} {e : TypeId} {s : Nat} {v : Value} {n : Nat} {xs : List Value} (hab : a ≤ b) (h : W.ownsRow b e s v n xs) : W.ownsRow a e s v n xs := by
  refine ⟨h.1, ?_⟩
  rcases h.2 with h0 | ⟨g, cap, cur, e1, hb, r⟩
  · exact .inl h0
  · exact .inr ⟨g, cap, cur, e1, Nat.le_trans hab hb, r⟩
theorem SW.ext {B N C : Nat} {w0 w : World} {f g : Nat → Int} (s : SW B N C w0 w f) (h : ∀ k, k < N → f k = g k) : SW B N C w0 w g := by
  refine ⟨?_, s.sz, s.bl, s.os, s.tp, s.ou⟩
  have e : ((List.range N).map fun k => Value.int .i64 (f k)) = (List.range N).map fun k => Value.int .i64 (g k) := List.map_congr_left fun k hk => by rw [h k (List.mem_range.1 hk)]
  rw [← e]; exact s.row
/-- The row as a list. -/
theorem SW.num {B N C : Nat} {w0 w : World} {f : Nat → Int} (s : SW B N C w0 w f) : NumR w (some ⟨B, 0, none⟩) ((List.range N).map f) := fun i hi => by
  have hi : i < N := by simpa using hi
  have c := s.cell hi
  have e : (Addr.mk B 0 none).add i = ⟨B, i, none⟩ := by
    unfold Addr.add
    split
    · next h => subst h; rfl
    · simp
  refine ⟨⟨B, 0, none⟩, rfl, World.block_lt_of_cell? w ⟨B, i, none⟩ c, ?_⟩
  rw [e, c]
  simp [gi, hi]
/-- What sorted answers: the numbers below n in order. -/
def SortQ (R : Int → Int → Prop) (n : Nat) (w : World) (e : Ending) (w' : World) : Prop := ∃ (b : Nat) (g : Nat → Int), e = .returned (.slice (some ⟨b, 0, none⟩) n n) ∧ NumR w' (some ⟨b, 0, none⟩) ((List.range n).map g) ∧ Pm 0 n (fun k => (k : Int)) g ∧ Srt R 0 n g ∧ w.heap.size ≤ b ∧ Below w.heap.size w w'

set_option maxRecDepth 100000 in
set_option maxHeartbeats 4000000 in
theorem sorted_any (n K : Nat) (e0 : Value) (V : Int → Prop) (R : Int → Int → Prop) (c : Int → Int → Int) (Kp : World → Prop) (w : World) (H : Cmp K e0 w.heap.size V R c Kp) (h0 : Kp w) (hn : n ≤ 1000000) (hv : ∀ k : Nat, k < n → V k) :
    Calls Try.prog 25 #[.int .i64 n, .func (.func K) #[] #[e0]] w (SortQ R n w) := by
  obtain ⟨i0, hi, hz0, hz1, hz2⟩ := info_parts intInfo
  have HH := Lib.hid H
  have H0 := Lib.hid h0
  have HV := Lib.hid hv
  clear H h0 hv
  go_enter Try.func25, Try.ntmps25
  go_wp2_with (first
    | (at_make; refine wpList_make_full _ rfl _ _ 25 rfl w.heap.size 3 i0 (.int .i64 0) 1 Try.underlying25 hi hz0 hz1 .i64 .i64 _ _ n rfl rfl (by omega) (by omega) (by rw [hz2]; omega) (by unfold maxLen; omega) (Nat.le_refl _) ?_; intro w0 hown0 hgrow0))
  rw [made_ints] at hown0
  have S0 := Lib.hid (show SW w.heap.size n n w0 w0 (fun _ => 0) from ⟨ownBase (Nat.zero_le _) hown0, Nat.le_refl _, fun _ _ _ => rfl, rfl, rfl, rfl⟩)
  have B0 := Lib.hid (show Below w.heap.size w w0 from (Below.refl _ _).grown hgrow0 (Nat.le_refl _) (fun k e => by cases e))
  have K0 := Lib.hid (show Kp w0 from HH.out.keep w w0 B0.out.size (fun k _ hk => B0.out.block k hk) H0.out)
  clear hown0 hgrow0
  obtain ⟨b, hb⟩ : ∃ b, b = w.heap.size := ⟨_, rfl⟩
  have HB := Lib.hid hb
  rw [← hb] at S0 HH ⊢
  clear hb
  go_wp2_with fail
  go_loopw [11] (fun kv wr => ∃ i : Nat, i ≤ n ∧ kv = .int .i64 i ∧ Hid (SW b n n w0 wr (fun k => if k < i then (k : Int) else 0))) (fun kv _ => n - (intOf kv).toNat)
  case atStart => exact ⟨0, Nat.zero_le _, rfl, Lib.hid (S0.out.ext fun k _ => by simp)⟩
  case round =>
    obtain ⟨i, hi', rfl, HS⟩ := hrel
    clear S0
    by_cases t1 : i < n
    · have i1 : (0 : Int) ≤ (i : Int) := by omega
      have i2 : (i : Int) < (n : Int) := by omega
      have ci := HS.out.cell t1
      have fi := HS.out.frozen i
      have NX := Lib.hid ((HS.out.set i (i : Int)).ext (g := fun k => if k < i + 1 then (k : Int) else 0) fun k _ => by
        unfold upd
        by_cases e : k = i
        · subst e; simp
        · rw [if_neg e]
          dsimp only
          by_cases l : k < i
          · rw [if_pos l, if_pos (by omega)]
          · rw [if_neg l, if_neg (by omega)])
      clear HS
      generalize (if i < i then (i : Int) else 0) = z at ci
      go_wp2_with fail
      go_roundw
      case rel => exact ⟨i + 1, by omega, by go_num, NX⟩
      case measure => simp [intOf]; omega
    · obtain rfl : i = n := by omega
      have CC := Lib.hid (sortStable_any b i i K e0 V R c Kp HH.out w0 K0.out (fun k => (k : Int)) wr (HS.out.ext fun k hk => if_pos hk) (by omega) (fun _ _ => rfl) HV.out)
      clear HS
      go_wp2_with fail
      refine CC.out.mono ?_
      rintro e w4 ⟨rfl, g, S1, P1, R1⟩
      have Q := Lib.hid (show NumR w4 (some ⟨b, 0, none⟩) ((List.range i).map g) ∧ Pm 0 i (fun k => (k : Int)) g ∧ Srt R 0 i g ∧ w.heap.size ≤ b ∧ Below w.heap.size w w4 from
        ⟨S1.num, P1, R1, by rw [HB.out]; exact Nat.le_refl _, S1.os.trans B0.out.os, S1.tp.trans B0.out.tape, S1.ou.trans B0.out.output, Nat.le_trans B0.out.size S1.sz, fun k hk => (S1.bl k (by rw [HB.out]; omega) (Nat.lt_of_lt_of_le hk B0.out.size)).trans (B0.out.block k hk)⟩)
      clear CC S1 P1 R1
      go_wp2_with fail
      go_ret
      exact ⟨b, g, rfl, Q.out⟩

theorem gi_map {n : Nat} {g : Nat → Int} {k : Nat} (h : k < n) : gi ((List.range n).map g) k = g k := by simp [gi, h]
/-- What Sequence answers. -/
def SeqQ (D : List (Int × Int)) (w : World) (e : Ending) (w' : World) : Prop := ∃ x v m, e = .returned (.tuple #[v, .int .i64 m, .int .i64 x]) ∧ DErr D x ∧ Below w.heap.size w w' ∧ (x ≠ 0 → v = .slice none 0 0 ∧ m = 0) ∧
  (x = 0 → ∃ b O, v = .slice (some ⟨b, 0, none⟩) O.length O.length ∧ w.heap.size ≤ b ∧ NumR w' (some ⟨b, 0, none⟩) O ∧ IsOrd D.length O ∧ m = mks (pd D) (sd D) (od O) D.length ∧ ∀ i j, i < j → j < D.length → RJ D (gi O i) (gi O j))
theorem sort_ord {n : Nat} {g : Nat → Int} (h : Pm 0 n (fun k => (k : Int)) g) : IsOrd n ((List.range n).map g) := by
  refine ⟨by simp, fun k hk => ?_, fun i j ij jn => ?_⟩
  · rw [gi_map hk]
    obtain ⟨j, j1, j2, e⟩ := h.src (Nat.zero_le k) hk
    rw [e]; omega
  · rw [gi_map (by omega), gi_map jn]
    intro e
    have := h.inj (fun i j e => by omega) i j e
    omega

set_option maxRecDepth 100000 in
set_option maxHeartbeats 4000000 in
theorem Sequence_any (p : Option Addr) (c : Nat) (D : List (Int × Int)) (w : World) (r : DmpR w p D) (ln : D.length ≤ 1000000) :
    Calls Try.prog 21 #[.slice p D.length c] w (SeqQ D w) := by
  have R := Lib.hid r
  have HQ := Lib.hid (show ∀ w' x v m, DErr D x → Below w.heap.size w w' → (x ≠ 0 → v = .slice none 0 0 ∧ m = 0) →
      (x = 0 → ∃ b O, v = .slice (some ⟨b, 0, none⟩) O.length O.length ∧ w.heap.size ≤ b ∧ NumR w' (some ⟨b, 0, none⟩) O ∧ IsOrd D.length O ∧ m = mks (pd D) (sd D) (od O) D.length ∧ ∀ i j, i < j → j < D.length → RJ D (gi O i) (gi O j)) → SeqQ D w (.returned (.tuple #[v, .int .i64 m, .int .i64 x])) w' from fun w' x v m a b c d => ⟨x, v, m, rfl, a, b, c, d⟩)
  have X0 := Lib.hid (show ∀ t, (w.alloc (Obj.cells #[Value.slice p D.length c] t)).cell? ⟨w.heap.size, 0, none⟩ = some (.slice p D.length c) from fun t => by simp [go_sem])
  have CD := Lib.hid (fun W (st : Below w.heap.size w W) => checkDumps_any p c D W (r.below st) ln)
  have CS := Lib.hid (fun (W : World) (X : Nat) (st : Below w.heap.size w W) (cx : W.cell? ⟨X, 0, none⟩ = some (.slice p D.length c)) (n64 : D.length ≤ 64) => sorted_any D.length 43 (.pointer (some ⟨X, 0, none⟩)) (fun x => 0 ≤ x ∧ x < D.length) (RJ D) (jcD D) (KpD X p c D W.heap.size) W
    ⟨fun x y w' h hx hy => seqLess_any X p c D W.heap.size x y w' h hx hy ln, fun x y _ _ h => jc_neg D D.length x y h, fun A B sz bl h => h.keep sz bl, rj_tot D _, fun args W' => by rfl⟩ (KpD.begin cx (r.below st)) ln (fun k hk => ⟨by omega, by omega⟩))
  have CM := Lib.hid (fun (W : World) (b : Nat) (O : List Int) (st : Below w.heap.size w W) (n64 : D.length ≤ 64) (dk : DOk D D.length) (ho : NumR W (some ⟨b, 0, none⟩) O) (io : IsOrd D.length O) => makespan_any p c D (some ⟨b, 0, none⟩) O.length O W (r.below st) ho n64 dk io)
  obtain ⟨n, hn⟩ : ∃ n, n = D.length := ⟨_, rfl⟩
  rw [← hn] at HQ X0 CD CS CM ln ⊢
  have HN := Lib.hid hn
  clear hn r R
  have B1 := Lib.hid (show Below w.heap.size w (w.alloc (Obj.cells #[Value.slice p n c] 44)) from (Below.refl _ w).alloc (Nat.le_refl _) _)
  have cX := X0.out 44
  clear X0
  go_enter Try.func21, Try.ntmps21
  go_wp2_with fail
  generalize w.alloc (Obj.cells #[Value.slice p n c] 44) = w1 at *
  refine (CD.out w1 B1.out).mono ?_
  rintro e w2 ⟨x, rfl, DE, st2⟩
  have DE := Lib.hid DE
  have S2 := Lib.hid (B1.out.trans (st2.mono B1.out.size))
  replace cX := cellGr st2 cX
  clear CD st2 B1
  by_cases x0 : x = 0
  case neg =>
    have x1 : (x == 0) = false := by simpa using x0
    have x2 : decide (x = 0) = false := decide_eq_false x0
    have F := Lib.hid (HQ.out w2 x (.slice none 0 0) 0 DE.out S2.out (fun _ => ⟨rfl, rfl⟩) (fun h => absurd h x0))
    clear HQ CS CM
    go_wp2_with fail
    go_returns
    exact F.out
  subst x0
  obtain ⟨n64, dk⟩ := DE.out.good rfl
  rw [← HN.out] at n64
  have CS2 := Lib.hid (CS.out w2 w.heap.size S2.out cX n64)
  have DK := Lib.hid dk
  have N64 := Lib.hid n64
  clear CS n64 dk
  go_wp2_with fail
  refine CS2.out.mono ?_
  rintro e w3 ⟨b, g, rfl, hnum, hp, hs, hb, st3⟩
  have io := sort_ord hp
  have S3 := Lib.hid (S2.out.trans (st3.mono S2.out.size))
  have hl : ((List.range n).map g).length = n := by simp
  have MC := Lib.hid (CM.out w3 b ((List.range n).map g) S3.out N64.out (by rw [HN.out]; exact DK.out) hnum io)
  rw [hl] at MC
  have RR := Lib.hid (show ∀ i j, i < j → j < n → RJ D (gi ((List.range n).map g) i) (gi ((List.range n).map g) j) from fun i j ij jn => by
    rw [gi_map (by omega), gi_map jn]
    exact hs i j (Nat.zero_le _) ij jn)
  have F := Lib.hid (HQ.out w3 0 (.slice (some ⟨b, 0, none⟩) n n) (mks (pd D) (sd D) (od ((List.range n).map g)) n) DE.out S3.out (fun h => absurd rfl h) (fun _ => ⟨b, (List.range n).map g, by rw [hl], Nat.le_trans S2.out.size hb, hnum, io, rfl, RR.out⟩))
  replace cX := cellGr st3 cX
  clear CS2 hnum hp hs hb st3 io CM HQ RR hl
  generalize mks (pd D) (sd D) (od ((List.range n).map g)) n = M at *
  go_wp2_with fail
  refine MC.out.mono ?_
  rintro e w4 ⟨rfl, rfl⟩
  go_wp2_with fail
  go_returns
  exact F.out
end Go.Proofs.Ythbgeikdamajlab
